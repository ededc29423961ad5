/-
  Proved here: the document's All answers all events by number, their lists in new memory; nothing that was there is changed. Condition: a light candidate that may be, whose pairs are ints. (With it: Proved here: the document's Check tells whether a candidate may be; nothing that was there is changed. Condition: a light candidate whose pairs are ints.)
  (With it: Proved here: the document's Row tells whether a list is a hart's row, as rowL does; nothing that was there is changed. Condition: at most 1,000 events, lists of at most 100,000 numbers, pairs that are ints.)
-/
import Derived.Test.YtokhnjcbcpmmjaaGreatRf07Check
import Derived.Test.YtokhnjcbcpmmjaaGreatRf09Flat
import Derived.Test.YtokhnjcbcpmmjaaGreatRf09Pure
namespace Go.Proofs.YtokhnjcbcpmmjaaGreat
set_option linter.unusedVariables false
set_option linter.unusedSimpArgs false
open Go.RowKit
attribute [local go_sem ↓] fold_E fold_SE
attribute [local irreducible] wpStill

theorem rcheck_any (e : Ev) (l : El) (w : World) (h : EReads w e l) (hn : l.n) (hu : 0 ≤ e.addr) (hp : PairFits e) :
    Calls Tryz.prog 58 #[e.V] w fun e' w' => ErrIs w (chkE e l) e' w' := rcheck_raw e l w h hn hu _ (rchk_eq e l hp hn)
theorem rrow_nil (hart : Int) (a : Option Addr) (c : Nat) (w : World) : Calls Tryz.prog 30 #[.int .i64 hart, .slice a 0 c] w fun e w' => RowIs w true e w' := by
  go_enter Tryz.func30, Tryz.ntmps30
  go_wp2
  refine wp_loop_rounds 1 ?_
  rw [rounds_succ]
  go_wp2
  go_ret
  exact ⟨rfl, Below.refl _ _⟩
set_option maxRecDepth 100000 in
set_option maxHeartbeats 8000000 in
theorem rrow_some (hart : Int) (n b off c : Nat) (ev : Nat → Ev) (el : Nat → El) (w : World) (hn : n ≤ 1000) (h : Evs n b off ev el w) (hpf : ∀ k, k < n → PairFits (ev k)) :
    Calls Tryz.prog 30 #[.int .i64 hart, .slice (some ⟨b, off, none⟩) n c] w fun e w' => RowIs w (rowL hart ev el n).isSome e w' := by
  have HV := Lib.hid h
  have HP := Lib.hid hpf
  clear h hpf
  go_enter Tryz.func30, Tryz.ntmps30
  go_wp2
  go_loopw [5] (fun vi wr => ∃ (k : Nat) (last : Int), k ≤ n ∧ vi = .int .i64 k ∧ Hid (rowL hart ev el k = some last) ∧ Hid (Below w.heap.size w wr)) (fun vi _ => n - (intOf vi).toNat)
  case atStart => exact ⟨0, -1, Nat.zero_le _, rfl, Lib.hid rfl, Lib.hid (Below.refl _ _)⟩
  case round =>
    obtain ⟨k, last, hk, rfl, hR, HL⟩ := hrel
    by_cases hlt : k < n
    · have HE := Lib.hid (HV.out.below HL.out)
      have cl := (HE.out.at_ k hlt).load
      obtain ⟨e, he⟩ : ∃ e, Hid (ev k = e) := ⟨_, Lib.hid rfl⟩
      rw [he.out] at cl
      have hfl : Hid e.flat := Lib.hid (by rw [← he.out]; exact (HE.out.reads k hlt).flat)
      have hstep : Hid (∀ r, rowStep hart ev el k last = r → rowL hart ev el (k + 1) = r) := Lib.hid (fun r h => by rw [rowL_step hR.out, h])
      have hbad : Hid (rowStep hart ev el k last = none → (rowL hart ev el n).isSome = false) := Lib.hid (rowL_bad hR.out hlt)
      have HLA := Lib.hid (last_at k last hR.out)
      obtain ⟨l, hl⟩ : ∃ l, Hid (el k = l) := ⟨_, Lib.hid rfl⟩
      have hS : Hid (rowStep hart ev el k last = if e.hart ≠ hart then none else if e.pos ≠ k then none else if chkE e l = false then none
          else if e.kind = 3 then some (k : Int)
          else if e.kind = 4 then (if e.pair ≠ last then none else if e.addr ≠ (ev last.toNat).addr then none else some (-1))
          else some last) := Lib.hid (by unfold rowStep; rw [he.out, hl.out])
      go_upto_region 5 with (refine store_ev (EvAt.new zeroEv wr) e hfl.out rfl (.tmp 6) (.tmp 17) rfl rfl rfl ?_; intro w1 D1 ho1 hb1 hz1; have K1 := Lib.hid D1; have B1 := Lib.hid ((box_below wr (.cells #[.int .i64 0, .int .i64 0, .int .i64 0, .int .u64 0, .int .u64 0, .int .u64 0, .bool false, .bool false, .int .i64 0, .int .i64 0, .int .i64 0, .slice none 0 0, .slice none 0 0, .slice none 0 0] 60)).trans hb1); have L1 := Lib.hid (HL.out.trans (B1.out.mono HL.out.size)); clear D1 ho1 hb1 hz1)
      clear cl
      obtain ⟨glt, g0, g1, g2, g3, g4, g5, g6, g7, g8, g9, g10, g11, g12, g13⟩ := K1.out.facts
      have cl := run_LoadE K1.out
      have KC := Lib.hid (rcheck_any e l w1 (by rw [← he.out, ← hl.out]; exact (HE.out.reads k hlt).below B1.out) (by rw [← hl.out]; exact HE.out.len k hlt) (by rw [← he.out]; exact HE.out.low k hlt) (by rw [← he.out]; exact HP.out k hlt))
      cases h3 : chkE e l with
      | false =>
        have hn' := Lib.hid (hbad.out (by rw [hS.out, h3]; split <;> (try rfl); split <;> rfl))
        rw [h3] at KC
        clear h3
        go_wp2_with (go_at_call 58; (with_reducible refine (KC.out).mono ?_); rintro e' w2 ⟨rfl, hb⟩; have L2 := Lib.hid (L1.out.trans (hb.mono L1.out.size)); clear hb)
        go_ret
        exact RowIs.no hn'.out L2.out
      | true =>
        rw [h3] at KC
        by_cases h1 : e.hart = hart
        rotate_left
        · have hn' := Lib.hid (hbad.out (by rw [hS.out, if_pos h1]))
          have h1' : (e.hart != hart) = true := by simpa using h1
          clear h1 h3
          go_wp2_with (go_at_call 58; (with_reducible refine (KC.out).mono ?_); rintro e' w2 ⟨rfl, hb⟩; have K2 := Lib.hid (K1.out.on hb); have L2 := Lib.hid (L1.out.trans (hb.mono L1.out.size)); clear hb; clear glt g0 g1 g2 g3 g4 g5 g6 g7 g8 g9 g10 g11 g12 g13 cl; obtain ⟨glt, g0, g1, g2, g3, g4, g5, g6, g7, g8, g9, g10, g11, g12, g13⟩ := K2.out.facts)
          go_ret
          exact RowIs.no hn'.out L2.out
        have h1' : (e.hart != hart) = false := by simpa using h1
        by_cases h2 : e.pos = k
        rotate_left
        · have hn' := Lib.hid (hbad.out (by rw [hS.out, if_neg (by simp [h1]), if_pos h2]))
          have h2' : (e.pos != (k : Int)) = true := by simpa using h2
          clear h1 h2 h3
          go_wp2_with (go_at_call 58; (with_reducible refine (KC.out).mono ?_); rintro e' w2 ⟨rfl, hb⟩; have K2 := Lib.hid (K1.out.on hb); have L2 := Lib.hid (L1.out.trans (hb.mono L1.out.size)); clear hb; clear glt g0 g1 g2 g3 g4 g5 g6 g7 g8 g9 g10 g11 g12 g13 cl; obtain ⟨glt, g0, g1, g2, g3, g4, g5, g6, g7, g8, g9, g10, g11, g12, g13⟩ := K2.out.facts)
          go_ret
          exact RowIs.no hn'.out L2.out
        have h2' : (e.pos != (k : Int)) = false := by simpa using h2
        have hS2 : Hid (rowStep hart ev el k last = if e.kind = 3 then some (k : Int)
          else if e.kind = 4 then (if e.pair ≠ last then none else if e.addr ≠ (ev last.toNat).addr then none else some (-1))
          else some last) := Lib.hid (by rw [hS.out, if_neg (by simp [h1]), if_neg (by simp [h2]), if_neg (by simp [h3])])
        have hpr := Lib.hid (fun hk => chk_pair h3 hk)
        have hpos := Lib.hid h2
        clear h1 h2 h3 hS
        go_upto_region 7 with (go_at_call 58; (with_reducible refine (KC.out).mono ?_); rintro e' w2 ⟨rfl, hb⟩; have K2 := Lib.hid (K1.out.on hb); have B2 := Lib.hid (B1.out.trans (hb.mono B1.out.size)); have L2 := Lib.hid (L1.out.trans (hb.mono L1.out.size)); clear hb; clear glt g0 g1 g2 g3 g4 g5 g6 g7 g8 g9 g10 g11 g12 g13 cl; obtain ⟨glt, g0, g1, g2, g3, g4, g5, g6, g7, g8, g9, g10, g11, g12, g13⟩ := K2.out.facts)
        by_cases h5 : e.kind = 4
        rotate_left
        · obtain ⟨last', hy⟩ : ∃ last', Hid (rowL hart ev el (k + 1) = some last') := by
            by_cases h4 : e.kind = 3
            · exact ⟨_, Lib.hid (hstep.out _ (by rw [hS2.out, if_pos h4]))⟩
            · exact ⟨_, Lib.hid (hstep.out _ (by rw [hS2.out, if_neg h4, if_neg h5]))⟩
          have h5' : (e.kind != 4) = true := by simpa using h5
          clear h5
          go_wp2
          go_roundw
          case rel => exact ⟨k + 1, last', by omega, by go_num, hy, L2⟩
          case measure => simp [intOf]; omega
        have hp := hpr.out h5
        rw [hpos.out] at hp
        have hS3 : Hid (rowStep hart ev el k last = if e.pair ≠ last then none else if e.addr ≠ (ev last.toNat).addr then none else some (-1)) := Lib.hid (by rw [hS2.out, if_neg (by omega), if_pos h5])
        have h5' : (e.kind != 4) = false := by simpa using h5
        obtain ⟨p, hpe⟩ : ∃ p : Nat, Hid (e.pair = (p : Int)) := ⟨e.pair.toNat, Lib.hid (by omega)⟩
        rw [hpe.out] at hp hS3 g10
        have hpk : p < k := by omega
        have hpn : p < n := by omega
        have HLp := Lib.hid (HLA.out.2.2 p hpk)
        have HE2 := Lib.hid (HE.out.below B2.out)
        have ck := HE2.out.at_ p hpn 2 _ rfl
        have ca := HE2.out.at_ p hpn 3 _ rfl
        obtain ⟨pk, hpk3⟩ : ∃ x, Hid ((ev p).kind = x) := ⟨_, Lib.hid rfl⟩
        obtain ⟨pa, hpa⟩ : ∃ x, Hid ((ev p).addr = x) := ⟨_, Lib.hid rfl⟩
        rw [hpk3.out] at ck HLp
        rw [hpa.out] at ca
        have p0 : (0 : Int) ≤ (p : Int) := by omega
        clear hp h5
        by_cases h6 : pk = 3
        rotate_left
        · have hne : ¬ (p : Int) = last := fun h => h6 (HLp.out.2 h).1
          have hn' := Lib.hid (hbad.out (by rw [hS3.out, if_pos hne]))
          have h6' : (pk != 3) = true := by simpa using h6
          clear h6 hne
          go_upto_region 8 with fail
          refine wp_region_still_tail 17 (by kernel_rfl) (by kernel_rfl) ?_
          simp only [List.take_succ_cons, List.take_zero, List.drop_succ_cons, List.drop_zero]
          iterate 17 (first | (refine wpStill_skip (by as_aux_lemma => kernel_rfl) ?_; simp only [Act.put, List.setIfInBounds_toArray, List.set_cons_succ, List.set_cons_zero]) | still_step)
          refine wpStill_nil ?_
          change wpList _ _ _ _ _ (World.drew _)
          go_wp2
          go_ret
          exact RowIs.no hn'.out L2.out.drew
        have h6' : (pk != 3) = false := by simpa using h6
        by_cases h7 : pa = e.addr
        rotate_left
        · have hn' := Lib.hid (hbad.out (by
            rw [hS3.out]
            by_cases hne : (p : Int) = last
            · rw [if_neg (by simpa using hne), if_pos]
              rw [← hne, Int.toNat_natCast, hpa.out]
              exact fun h => h7 h.symm
            · exact if_pos hne))
          have h7' : (pa != e.addr) = true := by simpa using h7
          clear h6 h7
          go_upto_region 8 with fail
          refine wp_region_still_tail 17 (by kernel_rfl) (by kernel_rfl) ?_
          simp only [List.take_succ_cons, List.take_zero, List.drop_succ_cons, List.drop_zero]
          iterate 17 (first | (refine wpStill_skip (by as_aux_lemma => kernel_rfl) ?_; simp only [Act.put, List.setIfInBounds_toArray, List.set_cons_succ, List.set_cons_zero]) | still_step)
          refine wpStill_nil ?_
          change wpList _ _ _ _ _ (World.drew _)
          go_wp2
          go_ret
          exact RowIs.no hn'.out L2.out.drew
        have h7' : (pa != e.addr) = false := by simpa using h7
        have H67 : Hid (pk = 3 ∧ pa = e.addr) := Lib.hid ⟨h6, h7⟩
        clear h6 h7
        have hwp : IntKind.i64.wrap ((p : Int) + 1) = (p : Int) + 1 := IntWalk.i64_in _ (by omega)
        go_upto_region 8 with fail
        refine wp_region_still_tail 17 (by kernel_rfl) (by kernel_rfl) ?_
        simp only [List.take_succ_cons, List.take_zero, List.drop_succ_cons, List.drop_zero]
        iterate 17 (first | (refine wpStill_skip (by as_aux_lemma => kernel_rfl) ?_; simp only [Act.put, List.setIfInBounds_toArray, List.set_cons_succ, List.set_cons_zero]) | still_step)
        refine wpStill_nil ?_
        change wpList _ _ _ _ _ (World.drew _)
        have L3 := Lib.hid L2.out.drew
        clear HE HE2 K1 B1 L1 K2 B2 L2 ck ca KC glt g0 g1 g2 g3 g4 g5 g6 g7 g8 g9 g11 g12 g13
        go_wp2
        go_loopw [7] (fun vj wj => ∃ j : Nat, p < j ∧ j ≤ k ∧ vj = .int .i64 j ∧ Hid (∀ i, p < i → i < j → (ev i).kind ≠ 3 ∧ (ev i).kind ≠ 4) ∧ Hid (Below w.heap.size w wj)) (fun vj _ => k - (intOf vj).toNat)
        case atStart => exact ⟨p + 1, by omega, by omega, by go_num, Lib.hid (fun i h1 h2 => absurd h1 (by omega)), L3⟩
        case round =>
          obtain ⟨j, hj1, hj2, rfl, HN, LJ⟩ := hrel
          by_cases hjk : j < k
          · have cj := (HV.out.below LJ.out).at_ j (by omega) 2 _ rfl
            have hjn : j < n := by omega
            have j0 : (0 : Int) ≤ (j : Int) := by omega
            obtain ⟨x, hx⟩ : ∃ x, Hid ((ev j).kind = x) := ⟨_, Lib.hid rfl⟩
            rw [hx.out] at cj
            have HB := Lib.hid (show x = 3 ∨ x = 4 → (rowL hart ev el n).isSome = false from fun hx34 => hbad.out (by
              rw [hS3.out, if_pos]
              intro hpl
              have := (HLp.out.2 hpl).2 j hj1 hjk
              rw [hx.out] at this
              rcases hx34 with h | h
              · exact this.1 h
              · exact this.2 h))
            by_cases hx3 : x = 3
            · have hn' := Lib.hid (HB.out (.inl hx3))
              have e3 : (x == 3) = true := by simpa using hx3
              clear hx3
              go_wp2
              go_ret
              exact RowIs.no hn'.out LJ.out
            · have e3 : (x == 3) = false := by simpa using hx3
              by_cases hx4 : x = 4
              · have hn' := Lib.hid (HB.out (.inr hx4))
                have e4 : (x == 4) = true := by simpa using hx4
                clear hx3 hx4
                go_wp2
                go_ret
                exact RowIs.no hn'.out LJ.out
              · have e4 : (x == 4) = false := by simpa using hx4
                have HN2 : Hid (∀ i, p < i → i < j + 1 → (ev i).kind ≠ 3 ∧ (ev i).kind ≠ 4) := Lib.hid (fun i h1 h2 => by
                  by_cases hij : i = j
                  · rw [hij, hx.out]; exact ⟨hx3, hx4⟩
                  · exact HN.out i h1 (by omega))
                clear hx3 hx4
                go_wp2
                go_roundw
                case rel => exact ⟨j + 1, by omega, by omega, by go_num, HN2, LJ⟩
                case measure => simp [intOf]; omega
          · obtain rfl : j = k := by omega
            have hpl := HLp.out.1 ⟨H67.out.1, HN.out⟩
            have hy := Lib.hid (hstep.out (some (-1)) (by rw [hS3.out, if_neg (by simpa using hpl), if_neg]; rw [← hpl, Int.toNat_natCast, hpa.out]; simpa using H67.out.2.symm))
            clear hpl
            go_wp2
            go_roundw
            case rel => exact ⟨j + 1, -1, by omega, by go_num, hy, LJ⟩
            case measure => simp [intOf]; omega
    · obtain rfl : k = n := by omega
      have hyes := Lib.hid (show (rowL hart ev el k).isSome = true from by rw [hR.out]; rfl)
      go_wp2
      go_ret
      exact RowIs.yes hyes.out HL.out
end Go.Proofs.YtokhnjcbcpmmjaaGreat
namespace Go.Proofs.YtokhnjcbcpmmjaaGreat
set_option linter.unusedVariables false
set_option linter.unusedSimpArgs false
open Go.RowKit
attribute [local go_sem ↓] fold_E fold_SE

theorem rrow_v {w : World} {a : Option Addr} {n c : Nat} {ev : Nat → Ev} {el : Nat → El} (hart : Int) (h : RowV w (.slice a n c) n ev el) (hs : n ≤ 60 ∧ ∀ k, k < n → small (el k)) (hp : ∀ k, k < n → PairFits (ev k)) (r : Bool) (hr : (rowL hart ev el n).isSome = r) :
    Calls Tryz.prog 30 #[.int .i64 hart, .slice a n c] w fun e w' => RowIs w r e w' := by
  obtain ⟨a', c', e, _, h⟩ := h
  injection e with e1 e2 e3
  subst e1 e3
  subst hr
  rcases h with rfl | ⟨b, off, rfl, h⟩
  · exact rrow_nil hart a c w
  · exact rrow_some hart n b off c ev el w (by omega) (h.evs (fun k hk => (hs.2 k hk).n)) hp
/-- a row of all events, their lists in new memory -/
structure Ra (c : Cd) (es : List Ev) (v : Value) (base : Nat) (w : World) : Prop where
  own : w.ownsRow base 60 14 v c.N (flat es)
  cp : Cp (fun n => (c.at n).1) (fun n => (c.at n).2) es w
  len : es.length = c.N
theorem Ra.on {c : Cd} {es : List Ev} {v : Value} {base : Nat} {w w' : World} (h : Ra c es v base w) (hb : Below w.heap.size w w') : Ra c es v base w' := ⟨own_on h.own hb, h.cp.on hb, h.len⟩
def evAtN (es : List Ev) (k : Nat) : Ev := es.getD k zeroEv
theorem Ra.rall {c : Cd} {es : List Ev} {v : Value} {base : Nat} {w : World} (h : Ra c es v base w) (hpos : 0 < c.N) : ∃ g cap, v = .slice (some ⟨g, 0, none⟩) c.N cap ∧ c.N ≤ cap ∧ RAll c (evAtN es) g 0 w := by
  have hown := h.own
  rcases h.own.2 with ⟨_, h0⟩ | ⟨g, cap, cur, rfl, hb, hgg, hcap, _⟩
  · omega
  · refine ⟨g, cap, rfl, hcap, ⟨fun k hk j u hu => ?_, fun k hk => ?_, fun k hk => ?_, fun _ => (Array.getElem?_eq_some_iff.1 hgg).1⟩⟩
    · have he : es[k]? = some (evAtN es k) := by
        unfold evAtN
        rw [List.getD_eq_getElem?_getD, List.getElem?_eq_getElem (by rw [h.len]; exact hk)]; rfl
      have hf := flat_at es k j _ u he (by unfold Ev.row; simpa using hu)
      have hc := hown.cells (g := g) (by simp [Value.ownBlock]) (k * 14 + j) u hf
      have ha : (⟨g, 0, none⟩ : Addr).add (k * 14 + j) = ⟨g, 0 + k * 14 + j, none⟩ := by unfold Addr.add; split <;> simp_all
      rw [ha] at hc
      exact hc
    · refine h.cp.like k _ ?_
      unfold evAtN
      rw [List.getD_eq_getElem?_getD, List.getElem?_eq_getElem (by rw [h.len]; exact hk)]; rfl
    · refine (h.cp.reads k _ ?_).flat
      unfold evAtN
      rw [List.getD_eq_getElem?_getD, List.getElem?_eq_getElem (by rw [h.len]; exact hk)]; rfl
/-- the candidate's box and the row of all events -/
structure Rg (c : Cd) (q : Cv) (es : List Ev) (v : Value) (base : Nat) (w W : World) : Prop where
  lk : Lk c q w W
  ra : Ra c es v base W
theorem Rg.on {c : Cd} {q : Cv} {es : List Ev} {v : Value} {base : Nat} {w W W2 : World} (h : Rg c q es v base w W) (hb : Below W.heap.size W W2) : Rg c q es v base w W2 := ⟨h.lk.on hb, h.ra.on hb⟩
theorem mem_like {c : Cd} {es : List Ev} {g off : Nat} {w : World} (h : RAll c (evAtN es) g off w) (k : Nat) (hk : k < c.N) : memE (evAtN es k) = memE (c.at k).1 := by
  obtain ⟨a, d, y, e⟩ := h.like k hk
  rw [e]; rfl
theorem load0 {c : Cd} {E : Nat → Ev} {g : Nat} {w : World} (h : RAll c E g 0 w) (k : Nat) (hk : k < c.N) : (LoadE (.pointer (some ⟨g, k * 14, none⟩))).run Tryz.prog w = .ok (E k).V w := by
  have := h.load k hk
  rwa [Nat.zero_add] at this
theorem CheckIs.no {w w' : World} {r : Bool} (h : r = false) (hb : Below w.heap.size w w') : CheckIs w r (.returned (.int .i64 2)) w' := ⟨by rw [h]; rfl, hb⟩
theorem CheckIs.yes {w w' : World} {r : Bool} (h : r = true) (hb : Below w.heap.size w w') : CheckIs w r (.returned (.int .i64 0)) w' := ⟨by rw [h]; rfl, hb⟩
set_option maxRecDepth 100000 in
set_option maxHeartbeats 16000000 in
theorem rcheck9_any (c : Cd) (q : Cv) (w : World) (hL : Lt c) (hX : ∀ h, h < c.nh → ∀ k, k < c.len h → PairFits (c.ev h k)) (h : CAt c q w) : Calls Tryz.prog 9 #[cdV c q] w fun e w' => CheckIs w c.may e w' := by
  have S0 := Lib.hid (Lk.start h)
  have HL := Lib.hid hL
  have HX := Lib.hid hX
  have hN60 := hL.n
  have hnh9 := hL.nh
  have hod := hL.od
  obtain ⟨r, hr⟩ : ∃ r, Hid (riseL c.fs c.fs.length = r) := ⟨_, Lib.hid rfl⟩
  have KC : Hid (∀ w0, CAt c q w0 → Calls Tryz.prog 29 #[.slice q.aF c.fs.length q.cF] w0 fun e w' => SaysB w0 r e w') := Lib.hid (fun w0 h0 => by rw [← hr.out]; exact rcells_any _ c.fs w0 h0.first (by have := hL.fs; omega) (fun j hj => (hL.fw j hj).1.1))
  clear h hL hX
  obtain ⟨x0, x1, x2, x3⟩ := S0.out.box.facts
  go_enter Tryz.func9, Tryz.ntmps9
  cases r with
  | false =>
    go_wp2_with (go_at_call 29; (with_reducible refine (KC.out _ S0.out.at_).mono ?_); rintro e' w1 ⟨rfl, hb⟩; have S1 := Lib.hid (S0.out.on hb); clear hb x0 x1 x2 x3)
    go_ret
    exact CheckIs.no (may_no_rise hr.out) S1.out.below
  | true =>
    by_cases h1 : c.nh < 1
    · have d1 : decide ((c.nh : Int) < 1) = true := by simp; omega
      go_wp2_with (go_at_call 29; (with_reducible refine (KC.out _ S0.out.at_).mono ?_); rintro e' w1 ⟨rfl, hb⟩; have S1 := Lib.hid (S0.out.on hb); clear hb x0 x1 x2 x3; obtain ⟨x0, x1, x2, x3⟩ := S1.out.box.facts)
      go_ret
      exact CheckIs.no (may_no_few h1) S1.out.below
    have d1 : decide ((c.nh : Int) < 1) = false := by simp; omega
    by_cases h8 : 8 < c.nh
    · have d8 : decide ((8 : Int) < (c.nh : Int)) = true := by simp; omega
      go_wp2_with (go_at_call 29; (with_reducible refine (KC.out _ S0.out.at_).mono ?_); rintro e' w1 ⟨rfl, hb⟩; have S1 := Lib.hid (S0.out.on hb); clear hb x0 x1 x2 x3; obtain ⟨x0, x1, x2, x3⟩ := S1.out.box.facts)
      go_ret
      exact CheckIs.no (may_no_many h8) S1.out.below
    have d8 : decide ((8 : Int) < (c.nh : Int)) = false := by simp; omega
    go_wp2_with (go_at_call 29; (with_reducible refine (KC.out _ S0.out.at_).mono ?_); rintro e' w1 ⟨rfl, hb⟩; have S1 := Lib.hid (S0.out.on hb); clear hb x0 x1 x2 x3; obtain ⟨x0, x1, x2, x3⟩ := S1.out.box.facts)
    go_loopw [3, 4] (fun vn vi wr => ∃ (h : Nat), h ≤ c.nh ∧ vi = .int .i64 h ∧ vn = .int .i64 (baseL c.len h : Nat) ∧ Hid (rowsL c h = true) ∧ Hid (Lk c q w wr)) (fun _ vi _ => c.nh - (intOf vi).toNat)
    case atStart => exact ⟨0, Nat.zero_le _, rfl, rfl, Lib.hid rfl, S1⟩
    case round =>
      clear x0 x1 x2 x3 d1 d8
      obtain ⟨h, hh, rfl, rfl, hR, hK⟩ := hrel
      obtain ⟨x0, x1, x2, x3⟩ := hK.out.box.facts
      by_cases hlt : h < c.nh
      · obtain ⟨b, off, a2, c2, hq, hc, _, hrow⟩ := hK.out.at_.harts.row h hlt
        have KR := Lib.hid (fun r hr => rrow_v (w := wr) (h : Int) hrow (HL.out.small h hlt) (HX.out h hlt) r hr)
        have hbs : baseL c.len h + c.len h ≤ 60 := by have := baseL_lt c.len h c.nh hlt; have : baseL c.len c.nh ≤ 60 := hN60; omega
        obtain ⟨B, hB⟩ : ∃ B, baseL c.len h = B := ⟨_, rfl⟩
        have HB1 : Hid (baseL c.len (h + 1) = B + c.len h) := Lib.hid (by rw [← hB]; rfl)
        rw [hB] at hbs ⊢
        rw [hq] at x1
        have hh0 : (0 : Int) ≤ (h : Int) := by omega
        have hhi : (h : Int) < (c.nh : Int) := by omega
        have d4 : decide ((4096 : Int) < (B : Int) + (c.len h : Int)) = false := by simp; omega
        clear hrow hB hq
        cases hb : rowB c h with
        | true =>
          have HY := Lib.hid (all_next (rowB c) h hR.out hb)
          have KR2 := Lib.hid (KR.out true hb)
          clear hb KR
          go_wp2_with (go_at_call 30; (with_reducible refine (KR2.out).mono ?_); rintro e' w2 ⟨rfl, hb⟩; have K2 := Lib.hid (hK.out.on hb); clear hb)
          go_roundw
          case rel => exact ⟨h + 1, by omega, by go_num, by rw [HB1.out]; go_num, HY, K2⟩
          case measure => simp [intOf]; omega
        | false =>
          have HN := Lib.hid (may_no_row h hlt hb)
          have KR2 := Lib.hid (KR.out false hb)
          clear hb KR
          go_wp2_with (go_at_call 30; (with_reducible refine (KR2.out).mono ?_); rintro e' w2 ⟨rfl, hb⟩; have K2 := Lib.hid (hK.out.on hb); clear hb)
          go_ret
          exact CheckIs.no HN.out K2.out.below
      · obtain rfl : h = c.nh := by omega
        have HBN : Hid (baseL c.len c.nh = c.N) := Lib.hid rfl
        rw [HBN.out]
        have KF := Lib.hid (fun w0 h0 => flat_any c q w0 hnh9 hN60 (fun h hh j hj => ((HL.out.small h hh).2 j hj).n) h0)
        by_cases hl : c.fr.length = c.N
        rotate_left
        · have d2 : ((c.fr.length : Int) != (c.N : Int)) = true := by simpa using (show ¬ (c.fr.length : Int) = (c.N : Int) by omega)
          have HN := Lib.hid (may_no_len hl)
          clear hl
          go_wp2_with (go_at_call 31; (with_reducible refine (KF.out _ hK.out.at_).mono ?_); rintro e' w2 ⟨v, es, rfl, hlen, hown, hcp, hb⟩; have K2 := Lib.hid (hK.out.on hb); clear hb hlen hown hcp x0 x1 x2 x3; obtain ⟨x0, x1, x2, x3⟩ := K2.out.box.facts)
          go_ret
          exact CheckIs.no HN.out K2.out.below
        have d2 : ((c.fr.length : Int) != (c.N : Int)) = false := by simp [hl]
        have HFR := Lib.hid hl
        clear hl
        go_upto_region 13 with (go_at_call 31; (with_reducible refine (KF.out _ hK.out.at_).mono ?_); rintro e' w2 ⟨v, es, rfl, hlen, hown, hcp, hb⟩; have K2 : Hid (Rg c q es v (wr.heap.size + 1) w w2) := Lib.hid ⟨hK.out.on hb, hown, hcp, hlen⟩; clear hb hlen hown hcp x0 x1 x2 x3; obtain ⟨x0, x1, x2, x3⟩ := K2.out.lk.box.facts)
        have hNh : 0 < c.nh := by omega
        have hN8 : c.nh ≤ 8 := by omega
        have HYR := Lib.hid hR.out
        obtain ⟨base, hbase⟩ : ∃ base, Hid (wr.heap.size + 1 = base) := ⟨_, Lib.hid rfl⟩
        rw [hbase.out] at K2
        clear x0 x1 x2 x3 d2 KF
        go_wp2
        go_loopw [6, 7] (fun vm vi wr => ∃ (i : Nat), i ≤ c.N ∧ vi = .int .i64 i ∧ vm = .int .i64 (countW (fun n => memE (c.at n).1) i : Nat) ∧ Hid (foundL c i = true) ∧ Hid (Rg c q es v base w wr)) (fun _ vi _ => c.N - (intOf vi).toNat)
        case atStart => exact ⟨0, Nat.zero_le _, rfl, rfl, Lib.hid rfl, K2⟩
        case round =>
          obtain ⟨i, hi, rfl, rfl, hFd, hG⟩ := hrel
          obtain ⟨x0, x1, x2, x3⟩ := hG.out.lk.box.facts
          have hcw := countW_le (fun n => memE (c.at n).1) i
          by_cases hil : i < c.N
          · have hiN : i < c.N := hil
            obtain ⟨g, cap, rfl, hcap, hra⟩ := hG.out.ra.rall (by omega)
            have HA := Lib.hid hra
            have KR := Lib.hid (fun (r : Bool) (hr : findB c i = r) => (show Calls Tryz.prog 32 #[cdV c q, .slice (some ⟨g, 0, none⟩) c.N cap, .int .i64 (i : Int)] wr (fun e w' => SaysB wr r e w') by rw [← hr]; exact rfrom_any c q (evAtN es) g 0 cap i wr hG.out.lk.at_ hra hiN HFR.out (by have := HL.out.fs; omega)))
            obtain ⟨m, hm⟩ : ∃ m, Hid (memE (c.at i).1 = m) := ⟨_, Lib.hid rfl⟩
            have HC : Hid (countW (fun n => memE (c.at n).1) (i + 1) = countW (fun n => memE (c.at n).1) i + oneN m) := Lib.hid (by rw [← hm.out]; rfl)
            have KM := Lib.hid (fun w0 => rMemory_b (evAtN es i) m (by rw [mem_like hra i hiN]; exact hm.out) w0)
            obtain ⟨L, hLL⟩ : ∃ L, countW (fun n => memE (c.at n).1) i = L := ⟨_, rfl⟩
            rw [hLL] at hcw HC ⊢
            have hni : (i : Int) < (c.N : Int) := by omega
            have hn0 : (0 : Int) ≤ (i : Int) := by omega
            clear hra hcap hLL
            cases hf : findB c i with
            | false =>
              have HN := Lib.hid (may_no_from i hiN hf)
              have KR2 := Lib.hid (KR.out false hf)
              clear KR hf
              go_wp2_with (go_at_call 32; (with_reducible refine (KR2.out).mono ?_); rintro e' w3 ⟨rfl, hb⟩; have K3 := Lib.hid (hG.out.on hb); clear hb)
              go_ret
              exact CheckIs.no HN.out K3.out.lk.below
            | true =>
              have HY := Lib.hid (all_next (findB c) i hFd.out hf)
              have KR2 := Lib.hid (KR.out true hf)
              clear KR hf
              cases m with
              | true =>
                go_wp2_with (first | (go_at_call 32; (with_reducible refine (KR2.out).mono ?_); rintro e' w3 ⟨rfl, hb⟩; have K3 := Lib.hid (hG.out.on hb); have cl := load0 (HA.out.on hb) i hil; clear hb) | (go_at_call 33; (with_reducible refine (KM.out _).mono ?_); rintro e' w4 ⟨rfl, hb⟩; have K4 := Lib.hid (K3.out.on hb); clear hb cl))
                go_roundw
                case rel => exact ⟨i + 1, by omega, by go_num, by rw [HC.out]; simp [oneN], HY, K4⟩
                case measure => simp [intOf]; omega
              | false =>
                go_wp2_with (first | (go_at_call 32; (with_reducible refine (KR2.out).mono ?_); rintro e' w3 ⟨rfl, hb⟩; have K3 := Lib.hid (hG.out.on hb); have cl := load0 (HA.out.on hb) i hil; clear hb) | (go_at_call 33; (with_reducible refine (KM.out _).mono ?_); rintro e' w4 ⟨rfl, hb⟩; have K4 := Lib.hid (K3.out.on hb); clear hb cl))
                go_roundw
                case rel => exact ⟨i + 1, by omega, by go_num, by rw [HC.out]; rfl, HY, K4⟩
                case measure => simp [intOf]; omega
          · obtain rfl : i = c.N := by omega
            have hm0 : Hid (countW (fun n => memE (c.at n).1) c.N = countW (waitsL c 0) c.N) := Lib.hid rfl
            have hOI := Lib.hid (fun hO => ordered_is c hO)
            obtain ⟨L, hLL⟩ : ∃ L, countW (fun n => memE (c.at n).1) c.N = L := ⟨_, rfl⟩
            rw [← hm0.out, hLL] at hOI
            rw [hLL] at hcw ⊢
            have hmk := make_bools c.N hN60
            have HAll := Lib.hid (fun r (hr2 : orderedB c = r) => may_yes hNh hN8 hN60 hr.out HYR.out HFR.out hFd.out r hr2)
            clear hLL hm0
            obtain ⟨W0, rfl⟩ : ∃ W0 : World, W0 = wr := ⟨_, rfl⟩
            go_upto_region 22 with fail
            clear x0 x1 x2 x3 hmk
            go_wp2
            go_loopw [9] (fun vj wr => ∃ (j : Nat), j ≤ c.od.length ∧ vj = .int .i64 j ∧ Hid (ordL c j = true) ∧ Hid (BoolsAt (seenL c j) c.N W0.heap.size wr) ∧ Hid (Below W0.heap.size W0 wr)) (fun vj _ => c.od.length - (intOf vj).toNat)
            case atStart => exact ⟨0, Nat.zero_le _, rfl, Lib.hid rfl, Lib.hid (BoolsAt.ext (f := fun _ => false) (show _ = _ from Array.getElem?_push_size) (fun k _ => rfl)), Lib.hid (box_below _ _)⟩
            case round =>
              obtain ⟨j, hj, rfl, hR2, hW2, hBB⟩ := hrel
              have G2 := Lib.hid (hG.out.on hBB.out)
              obtain ⟨x0, x1, x2, x3⟩ := G2.out.lk.box.facts
              by_cases hjl : j < c.od.length
              · obtain ⟨b, off, cO, hq, ho⟩ : ∃ b off cO, Value.slice q.aO c.od.length q.cO = .slice (some ⟨b, off, none⟩) c.od.length cO ∧ ∀ j, j < c.od.length → wr.cell? ⟨b, off + j, none⟩ = some (.int .i64 (atI c.od j)) := by
                  rcases G2.out.lk.at_.order with ⟨_, h0⟩ | ⟨b, off, c2, e, _, _, _, h4⟩
                  · rw [h0] at hjl; simp at hjl
                  · exact ⟨b, off, c2, e, h4⟩
                have o9 := ho j hjl
                rw [hq] at x3
                obtain ⟨F, hF⟩ : ∃ F, Hid (atI c.od j = F) := ⟨_, Lib.hid rfl⟩
                have HST := Lib.hid (fun (h : ordAt c j = false) => may_no_ord (ordered_no c j hjl h))
                have HNX := Lib.hid (fun (h : ordAt c j = true) => all_next (ordAt c) j hR2.out h)
                have HOUT := Lib.hid (ord_out c j)
                rw [hF.out] at o9 HOUT
                clear hq ho
                have hj0 : (0 : Int) ≤ (j : Int) := by omega
                have hji : (j : Int) < (c.od.length : Int) := by omega
                by_cases f0 : F < 0
                · have HN := Lib.hid (HST.out (HOUT.out (.inl f0)))
                  go_wp2
                  go_ret
                  exact CheckIs.no HN.out G2.out.lk.below
                by_cases f1 : (c.N : Int) ≤ F
                · have HN := Lib.hid (HST.out (HOUT.out (.inr f1)))
                  have g0 : decide (F < 0) = false := by simpa using f0
                  clear f0
                  go_wp2
                  go_ret
                  exact CheckIs.no HN.out G2.out.lk.below
                obtain ⟨x, hx⟩ : ∃ x : Nat, F = x := ⟨F.toNat, by omega⟩
                subst hx
                have hxN : x < c.N := by omega
                have g0 : decide ((x : Int) < 0) = false := by simp
                have g1 : decide ((c.N : Int) ≤ (x : Int)) = false := by simp; omega
                have hx0 : (0 : Int) ≤ (x : Int) := by omega
                have hxi : (x : Int) < (c.N : Int) := by omega
                have HOS := Lib.hid (ord_seen c j x hF.out hxN)
                have HSET := Lib.hid (fun n => seen_set c j x n hF.out)
                obtain ⟨g, cap, rfl, hcap, hra⟩ := G2.out.ra.rall (by omega)
                have HA := Lib.hid hra
                have cx := hW2.out.cell x hxN
                obtain ⟨m, hm⟩ : ∃ m, Hid (memE (c.at x).1 = m) := ⟨_, Lib.hid rfl⟩
                have KM := Lib.hid (fun w0 => rMemory_b (evAtN es x) m (by rw [mem_like hra x hxN]; exact hm.out) w0)
                obtain ⟨s, hs⟩ : ∃ s, Hid (seenL c j x = s) := ⟨_, Lib.hid rfl⟩
                rw [hm.out, hs.out] at HOS
                rw [hs.out] at cx
                have cl := load0 hra x hxN
                clear hra f0 f1 HOUT hcap
                cases s with
                | true =>
                  have HN := Lib.hid (HST.out (by rw [HOS.out]; simp))
                  go_wp2
                  go_ret
                  exact CheckIs.no HN.out G2.out.lk.below
                | false =>
                  cases m with
                  | false =>
                    have HN := Lib.hid (HST.out (by rw [HOS.out]; rfl))
                    go_wp2_with (go_at_call 33; (with_reducible refine (KM.out _).mono ?_); rintro e' w4 ⟨rfl, hb⟩; have K4 := Lib.hid (G2.out.on hb); clear hb cl)
                    go_ret
                    exact CheckIs.no HN.out K4.out.lk.below
                  | true =>
                    have HY := Lib.hid (HNX.out (by rw [HOS.out]; rfl))
                    go_wp2_with (go_at_call 33; (with_reducible refine (KM.out _).mono ?_); rintro e' w4 ⟨rfl, hb⟩; have W4 := Lib.hid (hW2.out.on hb); have B4 := Lib.hid (hBB.out.trans (hb.mono hBB.out.size)); have c4 := W4.out.cell x hxN; have z4 := W4.out.free x; clear hb cl cx)
                    go_roundw
                    case rel => exact ⟨j + 1, by omega, by go_num, HY, Lib.hid (W4.out.set x true (fun n _ => HSET.out n)), Lib.hid (B4.out.setCell (p := ⟨W0.heap.size, x, none⟩) (Nat.le_refl _) _)⟩
                    case measure => simp [intOf]; omega
              · obtain rfl : j = c.od.length := by omega
                have HO := Lib.hid (hOI.out hR2.out)
                by_cases hL2 : c.od.length = L
                · have HY := Lib.hid (HAll.out true (by rw [HO.out]; simp; omega))
                  have d9 : ((c.od.length : Int) != (L : Int)) = false := by simp; omega
                  clear hL2
                  go_wp2
                  go_ret
                  exact CheckIs.yes HY.out G2.out.lk.below
                · have HN := Lib.hid (HAll.out false (by rw [HO.out]; simp; omega))
                  have d9 : ((c.od.length : Int) != (L : Int)) = true := by simp; omega
                  clear hL2
                  go_wp2
                  go_ret
                  exact CheckIs.no HN.out G2.out.lk.below
end Go.Proofs.YtokhnjcbcpmmjaaGreat
namespace Go.Proofs.YtokhnjcbcpmmjaaGreat
set_option linter.unusedVariables false
set_option linter.unusedSimpArgs false
open Go.RowKit
attribute [local go_sem ↓] fold_E fold_SE

theorem rcheck9_is (c : Cd) (q : Cv) (w : World) (hL : Lt c) (hX : ∀ h, h < c.nh → ∀ k, k < c.len h → PairFits (c.ev h k)) (h : CAt c q w) (r : Bool) (hr : c.may = r) : Calls Tryz.prog 9 #[cdV c q] w fun e w' => CheckIs w r e w' := by
  rw [← hr]; exact rcheck9_any c q w hL hX h
def AllR (c : Cd) (w : World) (e : Ending) (w' : World) : Prop := ∃ v es base, e = .returned v ∧ w.heap.size ≤ base ∧ Ra c es v base w' ∧ Below w.heap.size w w'
set_option maxRecDepth 100000 in
set_option maxHeartbeats 4000000 in
theorem rall9_yes (c : Cd) (q : Cv) (w : World) (hL : Lt c) (hX : ∀ h, h < c.nh → ∀ k, k < c.len h → PairFits (c.ev h k)) (h : CAt c q w) (hm : c.may = true) : Calls Tryz.prog 13 #[cdV c q] w fun e w' => AllR c w e w' := by
  have S0 := Lib.hid (Lk.start h)
  have KC := Lib.hid (fun w0 h0 => rcheck9_is c q w0 hL hX h0 true hm)
  have KF := Lib.hid (fun w0 h0 => flat_any c q w0 hL.nh hL.n (fun h hh j hj => ((hL.small h hh).2 j hj).n) h0)
  clear h hL hX hm
  obtain ⟨x0, x1, x2, x3⟩ := S0.out.box.facts
  go_enter Tryz.func13, Tryz.ntmps13
  go_wp2_with (first
    | (go_at_call 9; (with_reducible refine (KC.out _ S0.out.at_).mono ?_); rintro e' w1 ⟨rfl, hb⟩; have S1 := Lib.hid (S0.out.on hb); clear hb x0 x1 x2 x3; obtain ⟨x0, x1, x2, x3⟩ := S1.out.box.facts)
    | (go_at_call 31; (with_reducible refine (KF.out _ S1.out.at_).mono ?_); rintro e' w2 ⟨v, es, rfl, hlen, hown, hcp, hb⟩; have R2 : Hid (Ra c es v (w1.heap.size + 1) w2) := Lib.hid ⟨hown, hcp, hlen⟩; have S2 := Lib.hid (S1.out.on hb); have Z1 := Lib.hid S1.out.below.size; clear hb hlen hown hcp x0 x1 x2 x3))
  go_ret
  exact ⟨_, es, _, rfl, by have := Z1.out; omega, R2.out, S2.out.below⟩
end Go.Proofs.YtokhnjcbcpmmjaaGreat
