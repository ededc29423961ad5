/-
  Proved here: the document's Row tells whether a list is a hart's row, as rowL does; nothing that was there is changed. Condition: at most 1,000 events, lists of at most 100,000 numbers, pairs that are ints.
-/
import Derived.Test.YtgkiaeddlahngaaGreatDoorRf07Check
namespace Go.Proofs.YtgkiaeddlahngaaGreatDoor
set_option linter.unusedVariables false
set_option linter.unusedSimpArgs false
open Go.RowKit
attribute [local go_sem ↓] fold_E fold_SE
attribute [local irreducible] wpStill

theorem rcheck_any (e : Ev) (l : El) (w : World) (h : EReads w e l) (hn : l.n) (hu : 0 ≤ e.addr) (hp : PairFits e) :
    Calls Tryz.prog 51 #[e.V] w fun e' w' => ErrIs w (chkE e l) e' w' := rcheck_raw e l w h hn hu _ (rchk_eq e l hp hn)
theorem rrow_nil (hart : Int) (a : Option Addr) (c : Nat) (w : World) : Calls Tryz.prog 29 #[.int .i64 hart, .slice a 0 c] w fun e w' => RowIs w true e w' := by
  go_enter Tryz.func29, Tryz.ntmps29
  go_wp2
  refine wp_loop_rounds 1 ?_
  rw [rounds_succ]
  go_wp2
  go_ret
  exact ⟨rfl, Below.refl _ _⟩
set_option maxRecDepth 100000 in
set_option maxHeartbeats 8000000 in
theorem rrow_some (hart : Int) (n b off c : Nat) (ev : Nat → Ev) (el : Nat → El) (w : World) (hn : n ≤ 1000) (h : Evs n b off ev el w) (hpf : ∀ k, k < n → PairFits (ev k)) :
    Calls Tryz.prog 29 #[.int .i64 hart, .slice (some ⟨b, off, none⟩) n c] w fun e w' => RowIs w (rowL hart ev el n).isSome e w' := by
  have HV := Lib.hid h
  have HP := Lib.hid hpf
  clear h hpf
  go_enter Tryz.func29, Tryz.ntmps29
  go_wp2
  go_loopw [5] (fun vi wr => ∃ (k : Nat) (last : Int), k ≤ n ∧ vi = .int .i64 k ∧ Hid (rowL hart ev el k = some last) ∧ Hid (Below w.heap.size w wr)) (fun vi _ => n - (intOf vi).toNat)
  case atStart => exact ⟨0, -1, Nat.zero_le _, rfl, Lib.hid rfl, Lib.hid (Below.refl _ _)⟩
  case round =>
    obtain ⟨k, last, hk, rfl, hR, HL⟩ := hrel
    by_cases hlt : k < n
    · have HE := Lib.hid (HV.out.below HL.out)
      have cl := (HE.out.at_ k hlt).load
      obtain ⟨e, he⟩ : ∃ e, Hid (ev k = e) := ⟨_, Lib.hid rfl⟩
      rw [he.out] at cl
      have hfl : Hid e.flat := Lib.hid (by rw [← he.out]; exact (HE.out.reads k hlt).flat)
      have hstep : Hid (∀ r, rowStep hart ev el k last = r → rowL hart ev el (k + 1) = r) := Lib.hid (fun r h => by rw [rowL_step hR.out, h])
      have hbad : Hid (rowStep hart ev el k last = none → (rowL hart ev el n).isSome = false) := Lib.hid (rowL_bad hR.out hlt)
      have HLA := Lib.hid (last_at k last hR.out)
      obtain ⟨l, hl⟩ : ∃ l, Hid (el k = l) := ⟨_, Lib.hid rfl⟩
      have hS : Hid (rowStep hart ev el k last = if e.hart ≠ hart then none else if e.pos ≠ k then none else if chkE e l = false then none
          else if e.kind = 3 then some (k : Int)
          else if e.kind = 4 then (if e.pair ≠ last then none else if e.addr ≠ (ev last.toNat).addr then none else some (-1))
          else some last) := Lib.hid (by unfold rowStep; rw [he.out, hl.out])
      go_upto_region 5 with (refine store_ev (EvAt.new zeroEv wr) e hfl.out rfl (.tmp 6) (.tmp 17) rfl rfl rfl ?_; intro w1 D1 ho1 hb1 hz1; have K1 := Lib.hid D1; have B1 := Lib.hid ((box_below wr (.cells #[.int .i64 0, .int .i64 0, .int .i64 0, .int .u64 0, .int .u64 0, .int .u64 0, .bool false, .bool false, .int .i64 0, .int .i64 0, .int .i64 0, .slice none 0 0, .slice none 0 0, .slice none 0 0] 48)).trans hb1); have L1 := Lib.hid (HL.out.trans (B1.out.mono HL.out.size)); clear D1 ho1 hb1 hz1)
      clear cl
      obtain ⟨glt, g0, g1, g2, g3, g4, g5, g6, g7, g8, g9, g10, g11, g12, g13⟩ := K1.out.facts
      have cl := run_LoadE K1.out
      have KC := Lib.hid (rcheck_any e l w1 (by rw [← he.out, ← hl.out]; exact (HE.out.reads k hlt).below B1.out) (by rw [← hl.out]; exact HE.out.len k hlt) (by rw [← he.out]; exact HE.out.low k hlt) (by rw [← he.out]; exact HP.out k hlt))
      cases h3 : chkE e l with
      | false =>
        have hn' := Lib.hid (hbad.out (by rw [hS.out, h3]; split <;> (try rfl); split <;> rfl))
        rw [h3] at KC
        clear h3
        go_wp2_with (go_at_call 51; (with_reducible refine (KC.out).mono ?_); rintro e' w2 ⟨rfl, hb⟩; have L2 := Lib.hid (L1.out.trans (hb.mono L1.out.size)); clear hb)
        go_ret
        exact RowIs.no hn'.out L2.out
      | true =>
        rw [h3] at KC
        by_cases h1 : e.hart = hart
        rotate_left
        · have hn' := Lib.hid (hbad.out (by rw [hS.out, if_pos h1]))
          have h1' : (e.hart != hart) = true := by simpa using h1
          clear h1 h3
          go_wp2_with (go_at_call 51; (with_reducible refine (KC.out).mono ?_); rintro e' w2 ⟨rfl, hb⟩; have K2 := Lib.hid (K1.out.on hb); have L2 := Lib.hid (L1.out.trans (hb.mono L1.out.size)); clear hb; clear glt g0 g1 g2 g3 g4 g5 g6 g7 g8 g9 g10 g11 g12 g13 cl; obtain ⟨glt, g0, g1, g2, g3, g4, g5, g6, g7, g8, g9, g10, g11, g12, g13⟩ := K2.out.facts)
          go_ret
          exact RowIs.no hn'.out L2.out
        have h1' : (e.hart != hart) = false := by simpa using h1
        by_cases h2 : e.pos = k
        rotate_left
        · have hn' := Lib.hid (hbad.out (by rw [hS.out, if_neg (by simp [h1]), if_pos h2]))
          have h2' : (e.pos != (k : Int)) = true := by simpa using h2
          clear h1 h2 h3
          go_wp2_with (go_at_call 51; (with_reducible refine (KC.out).mono ?_); rintro e' w2 ⟨rfl, hb⟩; have K2 := Lib.hid (K1.out.on hb); have L2 := Lib.hid (L1.out.trans (hb.mono L1.out.size)); clear hb; clear glt g0 g1 g2 g3 g4 g5 g6 g7 g8 g9 g10 g11 g12 g13 cl; obtain ⟨glt, g0, g1, g2, g3, g4, g5, g6, g7, g8, g9, g10, g11, g12, g13⟩ := K2.out.facts)
          go_ret
          exact RowIs.no hn'.out L2.out
        have h2' : (e.pos != (k : Int)) = false := by simpa using h2
        have hS2 : Hid (rowStep hart ev el k last = if e.kind = 3 then some (k : Int)
          else if e.kind = 4 then (if e.pair ≠ last then none else if e.addr ≠ (ev last.toNat).addr then none else some (-1))
          else some last) := Lib.hid (by rw [hS.out, if_neg (by simp [h1]), if_neg (by simp [h2]), if_neg (by simp [h3])])
        have hpr := Lib.hid (fun hk => chk_pair h3 hk)
        have hpos := Lib.hid h2
        clear h1 h2 h3 hS
        go_upto_region 7 with (go_at_call 51; (with_reducible refine (KC.out).mono ?_); rintro e' w2 ⟨rfl, hb⟩; have K2 := Lib.hid (K1.out.on hb); have B2 := Lib.hid (B1.out.trans (hb.mono B1.out.size)); have L2 := Lib.hid (L1.out.trans (hb.mono L1.out.size)); clear hb; clear glt g0 g1 g2 g3 g4 g5 g6 g7 g8 g9 g10 g11 g12 g13 cl; obtain ⟨glt, g0, g1, g2, g3, g4, g5, g6, g7, g8, g9, g10, g11, g12, g13⟩ := K2.out.facts)
        by_cases h5 : e.kind = 4
        rotate_left
        · obtain ⟨last', hy⟩ : ∃ last', Hid (rowL hart ev el (k + 1) = some last') := by
            by_cases h4 : e.kind = 3
            · exact ⟨_, Lib.hid (hstep.out _ (by rw [hS2.out, if_pos h4]))⟩
            · exact ⟨_, Lib.hid (hstep.out _ (by rw [hS2.out, if_neg h4, if_neg h5]))⟩
          have h5' : (e.kind != 4) = true := by simpa using h5
          clear h5
          go_wp2
          go_roundw
          case rel => exact ⟨k + 1, last', by omega, by go_num, hy, L2⟩
          case measure => simp [intOf]; omega
        have hp := hpr.out h5
        rw [hpos.out] at hp
        have hS3 : Hid (rowStep hart ev el k last = if e.pair ≠ last then none else if e.addr ≠ (ev last.toNat).addr then none else some (-1)) := Lib.hid (by rw [hS2.out, if_neg (by omega), if_pos h5])
        have h5' : (e.kind != 4) = false := by simpa using h5
        obtain ⟨p, hpe⟩ : ∃ p : Nat, Hid (e.pair = (p : Int)) := ⟨e.pair.toNat, Lib.hid (by omega)⟩
        rw [hpe.out] at hp hS3 g10
        have hpk : p < k := by omega
        have hpn : p < n := by omega
        have HLp := Lib.hid (HLA.out.2.2 p hpk)
        have HE2 := Lib.hid (HE.out.below B2.out)
        have ck := HE2.out.at_ p hpn 2 _ rfl
        have ca := HE2.out.at_ p hpn 3 _ rfl
        obtain ⟨pk, hpk3⟩ : ∃ x, Hid ((ev p).kind = x) := ⟨_, Lib.hid rfl⟩
        obtain ⟨pa, hpa⟩ : ∃ x, Hid ((ev p).addr = x) := ⟨_, Lib.hid rfl⟩
        rw [hpk3.out] at ck HLp
        rw [hpa.out] at ca
        have p0 : (0 : Int) ≤ (p : Int) := by omega
        clear hp h5
        by_cases h6 : pk = 3
        rotate_left
        · have hne : ¬ (p : Int) = last := fun h => h6 (HLp.out.2 h).1
          have hn' := Lib.hid (hbad.out (by rw [hS3.out, if_pos hne]))
          have h6' : (pk != 3) = true := by simpa using h6
          clear h6 hne
          go_upto_region 8 with fail
          refine wp_region_still_tail 17 (by kernel_rfl) (by kernel_rfl) ?_
          simp only [List.take_succ_cons, List.take_zero, List.drop_succ_cons, List.drop_zero]
          iterate 17 (first | (refine wpStill_skip (by as_aux_lemma => kernel_rfl) ?_; simp only [Act.put, List.setIfInBounds_toArray, List.set_cons_succ, List.set_cons_zero]) | still_step)
          refine wpStill_nil ?_
          change wpList _ _ _ _ _ (World.drew _)
          go_wp2
          go_ret
          exact RowIs.no hn'.out L2.out.drew
        have h6' : (pk != 3) = false := by simpa using h6
        by_cases h7 : pa = e.addr
        rotate_left
        · have hn' := Lib.hid (hbad.out (by
            rw [hS3.out]
            by_cases hne : (p : Int) = last
            · rw [if_neg (by simpa using hne), if_pos]
              rw [← hne, Int.toNat_natCast, hpa.out]
              exact fun h => h7 h.symm
            · exact if_pos hne))
          have h7' : (pa != e.addr) = true := by simpa using h7
          clear h6 h7
          go_upto_region 8 with fail
          refine wp_region_still_tail 17 (by kernel_rfl) (by kernel_rfl) ?_
          simp only [List.take_succ_cons, List.take_zero, List.drop_succ_cons, List.drop_zero]
          iterate 17 (first | (refine wpStill_skip (by as_aux_lemma => kernel_rfl) ?_; simp only [Act.put, List.setIfInBounds_toArray, List.set_cons_succ, List.set_cons_zero]) | still_step)
          refine wpStill_nil ?_
          change wpList _ _ _ _ _ (World.drew _)
          go_wp2
          go_ret
          exact RowIs.no hn'.out L2.out.drew
        have h7' : (pa != e.addr) = false := by simpa using h7
        have H67 : Hid (pk = 3 ∧ pa = e.addr) := Lib.hid ⟨h6, h7⟩
        clear h6 h7
        have hwp : IntKind.i64.wrap ((p : Int) + 1) = (p : Int) + 1 := IntWalk.i64_in _ (by omega)
        go_upto_region 8 with fail
        refine wp_region_still_tail 17 (by kernel_rfl) (by kernel_rfl) ?_
        simp only [List.take_succ_cons, List.take_zero, List.drop_succ_cons, List.drop_zero]
        iterate 17 (first | (refine wpStill_skip (by as_aux_lemma => kernel_rfl) ?_; simp only [Act.put, List.setIfInBounds_toArray, List.set_cons_succ, List.set_cons_zero]) | still_step)
        refine wpStill_nil ?_
        change wpList _ _ _ _ _ (World.drew _)
        have L3 := Lib.hid L2.out.drew
        clear HE HE2 K1 B1 L1 K2 B2 L2 ck ca KC glt g0 g1 g2 g3 g4 g5 g6 g7 g8 g9 g11 g12 g13
        go_wp2
        go_loopw [7] (fun vj wj => ∃ j : Nat, p < j ∧ j ≤ k ∧ vj = .int .i64 j ∧ Hid (∀ i, p < i → i < j → (ev i).kind ≠ 3 ∧ (ev i).kind ≠ 4) ∧ Hid (Below w.heap.size w wj)) (fun vj _ => k - (intOf vj).toNat)
        case atStart => exact ⟨p + 1, by omega, by omega, by go_num, Lib.hid (fun i h1 h2 => absurd h1 (by omega)), L3⟩
        case round =>
          obtain ⟨j, hj1, hj2, rfl, HN, LJ⟩ := hrel
          by_cases hjk : j < k
          · have cj := (HV.out.below LJ.out).at_ j (by omega) 2 _ rfl
            have hjn : j < n := by omega
            have j0 : (0 : Int) ≤ (j : Int) := by omega
            obtain ⟨x, hx⟩ : ∃ x, Hid ((ev j).kind = x) := ⟨_, Lib.hid rfl⟩
            rw [hx.out] at cj
            have HB := Lib.hid (show x = 3 ∨ x = 4 → (rowL hart ev el n).isSome = false from fun hx34 => hbad.out (by
              rw [hS3.out, if_pos]
              intro hpl
              have := (HLp.out.2 hpl).2 j hj1 hjk
              rw [hx.out] at this
              rcases hx34 with h | h
              · exact this.1 h
              · exact this.2 h))
            by_cases hx3 : x = 3
            · have hn' := Lib.hid (HB.out (.inl hx3))
              have e3 : (x == 3) = true := by simpa using hx3
              clear hx3
              go_wp2
              go_ret
              exact RowIs.no hn'.out LJ.out
            · have e3 : (x == 3) = false := by simpa using hx3
              by_cases hx4 : x = 4
              · have hn' := Lib.hid (HB.out (.inr hx4))
                have e4 : (x == 4) = true := by simpa using hx4
                clear hx3 hx4
                go_wp2
                go_ret
                exact RowIs.no hn'.out LJ.out
              · have e4 : (x == 4) = false := by simpa using hx4
                have HN2 : Hid (∀ i, p < i → i < j + 1 → (ev i).kind ≠ 3 ∧ (ev i).kind ≠ 4) := Lib.hid (fun i h1 h2 => by
                  by_cases hij : i = j
                  · rw [hij, hx.out]; exact ⟨hx3, hx4⟩
                  · exact HN.out i h1 (by omega))
                clear hx3 hx4
                go_wp2
                go_roundw
                case rel => exact ⟨j + 1, by omega, by omega, by go_num, HN2, LJ⟩
                case measure => simp [intOf]; omega
          · obtain rfl : j = k := by omega
            have hpl := HLp.out.1 ⟨H67.out.1, HN.out⟩
            have hy := Lib.hid (hstep.out (some (-1)) (by rw [hS3.out, if_neg (by simpa using hpl), if_neg]; rw [← hpl, Int.toNat_natCast, hpa.out]; simpa using H67.out.2.symm))
            clear hpl
            go_wp2
            go_roundw
            case rel => exact ⟨j + 1, -1, by omega, by go_num, hy, LJ⟩
            case measure => simp [intOf]; omega
    · obtain rfl : k = n := by omega
      have hyes := Lib.hid (show (rowL hart ev el k).isSome = true from by rw [hR.out]; rfl)
      go_wp2
      go_ret
      exact RowIs.yes hyes.out HL.out
end Go.Proofs.YtgkiaeddlahngaaGreatDoor
