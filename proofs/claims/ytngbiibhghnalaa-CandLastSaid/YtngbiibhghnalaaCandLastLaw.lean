/-
  Proved here: the law CandLast answers true of every candidate; nothing that was there is changed. Condition: numbers of 64 bits.
-/
import Derived.Test.YtngbiibhghnalaaCdWant
namespace Go.Proofs.Ytngbiibhghnalaa
set_option linter.unusedVariables false
set_option linter.unusedSimpArgs false
open Go.RowKit Go.Maps
attribute [local go_sem ↓] fold_E fold_SE
attribute [local irreducible] wpStill

set_option maxRecDepth 100000 in
set_option maxHeartbeats 16000000 in
theorem candLast_any (c : Cd) (q : Cv) (w : World) (h : CAt c q w) (he : ∀ h, h < c.nh → ∀ k, k < c.len h → WordE (c.ev h k)) (hf : ∀ j, j < c.fs.length → (0 ≤ fA c.fs j ∧ fA c.fs j < 18446744073709551616) ∧ (0 ≤ fV c.fs j ∧ fV c.fs j < 18446744073709551616)) :
    Calls Try.prog 5 #[cdV c q] w fun e w' => SameOk w true e w' := by
  have S0 := Lib.hid (Lk.start h)
  have HE := Lib.hid he
  have HFW := Lib.hid hf
  have HFC : Hid (c.fs.length = 0 ∨ ∃ b off, q.aF = some ⟨b, off, none⟩ ∧ b < w.heap.size ∧ CellsIn w b off c.fs) := Lib.hid (by
    rcases h.first with ⟨_, h0⟩ | ⟨b, off, c2, e, _, _, h3, h4⟩
    · exact .inl (by rw [h0]; rfl)
    · injection e with e1 e2 e3
      exact .inr ⟨b, off, e1, h3, h4⟩)
  have HOC : Hid (c.od.length = 0 ∨ ∃ b off, q.aO = some ⟨b, off, none⟩ ∧ b < w.heap.size ∧ ∀ j, j < c.od.length → w.cell? ⟨b, off + j, none⟩ = some (.int .i64 (atI c.od j))) := Lib.hid (by
    rcases h.order with ⟨_, h0⟩ | ⟨b, off, c2, e, _, _, h3, h4⟩
    · exact .inl (by rw [h0]; rfl)
    · injection e with e1 e2 e3
      exact .inr ⟨b, off, e1, h3, h4⟩)
  clear h he hf
  go_enter Try.func5, Try.ntmps5
  go_upto_region 3 with (go_at_call 10; (with_reducible refine (lives_any _).mono ?_); rintro e' w1 ⟨rfl, hb⟩; have S1 := Lib.hid (S0.out.on hb); clear hb)
  obtain ⟨u0, u1, u2, u3⟩ := S1.out.box.facts
  obtain ⟨m, hm⟩ : ∃ m, Hid (c.may = m) := ⟨_, Lib.hid rfl⟩
  cases m with
  | false =>
    go_wp2_with (first | (go_at_call 18; (with_reducible refine (lightCand_any c q w1 S1.out.at_).mono ?_); rintro e' w2 ⟨r, rfl, hr, hb⟩; have S2 := Lib.hid (S1.out.on hb); have R2 := Lib.hid (fun (e : r = true) => (hr e).lt HE.out HFW.out); clear hb hr u0 u1 u2 u3; obtain ⟨u0, u1, u2, u3⟩ := S2.out.box.facts; cases r) | (go_at_call 13; (with_reducible refine (check_c c q w2 (R2.out (by first | rfl | trivial)) S2.out.at_ false hm.out).mono ?_); rintro e' w3 ⟨rfl, hb⟩; have S3 := Lib.hid (S2.out.on hb); have LT := Lib.hid (R2.out (by first | rfl | trivial)); clear hb u0 u1 u2 u3; obtain ⟨u0, u1, u2, u3⟩ := S3.out.box.facts))
    · go_ret
      exact ⟨rfl, S2.out.below⟩
    · go_ret
      exact ⟨rfl, S3.out.below⟩
  | true =>
    go_upto_region 5 with (first | (go_at_call 18; (with_reducible refine (lightCand_any c q w1 S1.out.at_).mono ?_); rintro e' w2 ⟨r, rfl, hr, hb⟩; have S2 := Lib.hid (S1.out.on hb); have R2 := Lib.hid (fun (e : r = true) => (hr e).lt HE.out HFW.out); clear hb hr u0 u1 u2 u3; obtain ⟨u0, u1, u2, u3⟩ := S2.out.box.facts; cases r) | (go_at_call 13; (with_reducible refine (check_c c q w2 (R2.out (by first | rfl | trivial)) S2.out.at_ true hm.out).mono ?_); rintro e' w3 ⟨rfl, hb⟩; have S3 := Lib.hid (S2.out.on hb); have LT := Lib.hid (R2.out (by first | rfl | trivial)); clear hb u0 u1 u2 u3; obtain ⟨u0, u1, u2, u3⟩ := S3.out.box.facts))
    · go_ret
      exact ⟨rfl, S2.out.below⟩
    have KA := Lib.hid (fun w0 h0 => All_yes c q w0 LT.out h0 hm.out)
    have KL := Lib.hid (fun w0 h0 => Last_yes c q w0 LT.out h0 hm.out)
    have KF := Lib.hid (fun w0 h0 x => First_yes c q w0 LT.out h0 hm.out x)
    have HR := Lib.hid (rise_lt (may_rise hm.out))
    have HIN := Lib.hid (may_in hm.out)
    have HW := Lib.hid (fun n hn => LT.out.word n hn)
    have hfs60 := LT.out.fs
    have ho120 := LT.out.od
    have hMlt := S3.out.box.lt
    have hmm := @run_makeMap Try.prog
    clear S0 S1 S2 R2 u0 u1 u2 u3 HE
    go_upto_region 6 with fail
    go_name_world W4 hW4
    obtain ⟨M, hM⟩ : ∃ M, w3.heap.size = M := ⟨_, rfl⟩
    have S4 : Hid (Lk c q w W4) := Lib.hid (by rw [← hW4]; exact S3.out.on (box_below _ _))
    have O4 : Hid (OMu w3.heap.size 0 (.map []) W4) := Lib.hid (by rw [← hW4]; exact World.ownsMap_made _ _ _ _)
    clear hmm hW4 S3
    rw [hM] at O4 hMlt ⊢
    clear hM
    go_wp2
    go_loopw [4] (fun vi wr => ∃ (k : Nat) (D : DataW Unit), k ≤ c.fs.length ∧ vi = .int .i64 k ∧ Hid (MetD (wF c.fs k) D) ∧ Hid (OMu M k D wr) ∧ Hid (Lk c q w wr)) (fun vi _ => c.fs.length - (intOf vi).toNat)
    case atStart => exact ⟨0, _, Nat.zero_le _, rfl, Lib.hid (MetD.start.ext (fun _ => rfl)), O4, S4⟩
    case round =>
      obtain ⟨k, D, hk, rfl, hD, hO, hS⟩ := hrel
      by_cases hlt : k < c.fs.length
      · rcases HFC.out with h0 | ⟨b, off, hq, hbl, hcell⟩
        · exact absurd h0 (by omega)
        have SIX := Lib.hid (fun W (h : Lk c q w W) => first_six h hq hbl hcell k hlt)
        have hwx : Hid ((Lit.int .u64 (fA c.fs k)).wf = true) := Lib.hid (WalkArith.wf_u64 (by have := (HFW.out k hlt).1; omega))
        have hwy : Hid ((Lit.int .u64 (fV c.fs k)).wf = true) := Lib.hid (WalkArith.wf_u64 (by have := (HFW.out k hlt).2; omega))
        have hval : Hid (valL c.fs (fA c.fs k) = fV c.fs k) := Lib.hid (valL_hit c.fs _ k hlt (fun i hi => by have := HR.out i k hi hlt; omega) rfl)
        have KF1 := Lib.hid (fun w0 h0 => KF.out w0 h0 (fA c.fs k))
        have HNX : Hid (∀ y, wF c.fs (k + 1) y = if fA c.fs k = y then some (fV c.fs k) else wF c.fs k y) := Lib.hid (fun y => rfl)
        unfold cdV at KF1
        rw [hval.out, hq] at KF1
        obtain ⟨x, hx⟩ : ∃ x, Hid (fA c.fs k = x) := ⟨_, Lib.hid rfl⟩
        obtain ⟨y, hy⟩ : ∃ y, Hid (fV c.fs k = y) := ⟨_, Lib.hid rfl⟩
        rw [hx.out] at SIX hwx KF1 HNX
        rw [hy.out] at SIX hwy KF1 HNX
        clear hcell hq hval
        obtain ⟨t0, t1, t2, t3, d0, d1⟩ := SIX.out wr hS.out
        have hki : (k : Int) < (c.fs.length : Int) := by omega
        have hk0 : (0 : Int) ≤ (k : Int) := by omega
        have hkm : k < maxLen := by unfold maxLen; omega
        have OD : Hid (OMu M k D wr.drew) := Lib.hid (hO.out.on (Below.refl _ _).drew)
        have SD : Hid (Lk c q w wr.drew) := Lib.hid (hS.out.on (Below.refl _ _).drew)
        go_upto_region 9 with fail
        refine wp_region_still_tail 13 (by kernel_rfl) (by kernel_rfl) ?_
        simp only [List.take_succ_cons, List.take_zero, List.drop_succ_cons, List.drop_zero]
        iterate 13 still_step
        refine wpStill_nil ?_
        change wpList _ _ _ _ _ (World.drew _)
        clear t0 t1 t2 t3 d0 d1
        go_upto_region 10 with (at_mapUpdate; refine wpList_mapUpdate_own _ rfl _ _ _ 51 rfl 31 31 law_u64 Try.underlying51 _ M k _ rfl OD.out hkm _ _ _ rfl rfl (keyOf_int_mk Try.underlying31 hwx.out) _ [] (plainElem_int Try.underlying31 hwy.out) ?_; intro w8 hown1 hgrow1; have O8 : Hid (OMu M (k + 1) (D.put (.int .u64 x) (.lit (.int .u64 y))) w8) := Lib.hid hown1; have S8 := Lib.hid (SD.out.put hgrow1 hMlt); clear hown1 hgrow1)
        have S9 := Lib.hid (S8.out.on (Below.refl _ _).drew)
        have O9 := Lib.hid (O8.out.on (Below.refl _ _).drew)
        obtain ⟨t0, t1, t2, t3, d0, d1⟩ := SIX.out _ S8.out
        go_region_held3 (fun w' => w'.cell? ⟨w.heap.size, 0, none⟩ = some (.slice (some ⟨b, off, none⟩) c.fs.length q.cF) ∧ w'.cell? ⟨w.heap.size, 1, none⟩ = some (.slice q.aH c.nh q.cH) ∧ w'.cell? ⟨w.heap.size, 2, none⟩ = some (.slice q.aR c.fr.length q.cR) ∧ w'.cell? ⟨w.heap.size, 3, none⟩ = some (.slice q.aO c.od.length q.cO) ∧ w'.cell? ⟨b, off + k * 2, none⟩ = some (.int .u64 x) ∧ w'.cell? ⟨b, off + k * 2 + 1, none⟩ = some (.int .u64 y))
          (first | exact SIX.out _ S9.out | exact SIX.out _ S8.out | exact SIX.out _ S10.out)
          ((go_at_call 11; (with_reducible refine (KF1.out _ S9.out.at_).mono ?_); rintro e' w10 ⟨rfl, hb⟩; have S10 := Lib.hid (S9.out.on hb); have O10 := Lib.hid (O9.out.on hb); clear hb))
        go_wp2
        go_roundw
        case rel => exact ⟨k + 1, _, by omega, by go_num, Lib.hid ((hD.out.put x y).ext (fun z => (HNX.out z).symm)), O10, S10⟩
        case measure => simp [intOf]; omega
      · obtain rfl : k = c.fs.length := by omega
        obtain ⟨u0, u1, u2, u3⟩ := hS.out.box.facts
        have hMr := (show M < wr.heap.size from by obtain ⟨es, clock, h1, _⟩ := hO.out; exact (Array.getElem?_eq_some_iff.1 h1).1)
        go_upto_region 13 with (go_at_call 14; (with_reducible refine (KA.out _ hS.out.at_).mono ?_); rintro e' w5 ⟨g1, es, rfl, hlen, hg, hblk, hcp, hb⟩; have N5 : Hid (Wn c q es g1 w w5) := Lib.hid (Wn.of (hS.out.on hb) hlen hblk hcp); have O5 : Hid (OMu M c.fs.length D w5) := Lib.hid (hO.out.on hb); have hMg : M < g1 := Nat.lt_of_lt_of_le hMr hg; clear hlen hg hblk hcp hb u0 u1 u2 u3)
        have D5 : Hid (MetD (wO c 0) D) := hD
        clear hS hO hD hMr
        go_wp2
        go_loopw [6] (fun vi wr => ∃ (k : Nat) (D : DataW Unit), k ≤ c.od.length ∧ vi = .int .i64 k ∧ Hid (MetD (wO c k) D) ∧ Hid (OMu M (c.fs.length + k) D wr) ∧ Hid (Wn c q es g1 w wr)) (fun vi _ => c.od.length - (intOf vi).toNat)
        case atStart => exact ⟨0, _, Nat.zero_le _, rfl, D5, O5, N5⟩
        case round =>
          obtain ⟨k, D, hk, rfl, hD, hO, hN⟩ := hrel
          obtain ⟨u0, u1, u2, u3⟩ := hN.out.lk.box.facts
          by_cases hlt : k < c.od.length
          · rcases HOC.out with h0 | ⟨b, off, hq, hbl, hcell⟩
            · exact absurd h0 (by omega)
            have d0 := (hN.out.lk.below.cell (p := ⟨b, off + k, none⟩) hbl).trans (hcell k hlt)
            obtain ⟨i0, i1⟩ := HIN.out k hlt
            obtain ⟨x, hx⟩ : ∃ x : Nat, atI c.od k = x := ⟨(atI c.od k).toNat, by omega⟩
            have HNX := Lib.hid (fun y => wO_next c k y)
            rw [hx] at d0 i1 HNX
            have hxN : x < c.N := by omega
            have HNX2 : Hid (∀ y, wO c (k + 1) y = if writesE (c.at x).1 = true ∧ (c.at x).1.addr = y then some (c.at x).1.store else wO c k y) := HNX
            have hwd := Lib.hid (HW.out x hxN)
            obtain ⟨va, vd, vy, hld, hfl0⟩ := hN.out.ev x hxN
            have hfl := Lib.hid hfl0
            rw [hq] at u3
            have hki : (k : Int) < (c.od.length : Int) := by omega
            have hk0 : (0 : Int) ≤ (k : Int) := by omega
            have hkm : c.fs.length + k < maxLen := by unfold maxLen; omega
            have HA : Hid ((c.at x).1.addr = ((c.at x).1.lists va vd vy).addr ∧ (c.at x).1.store = ((c.at x).1.lists va vd vy).store ∧ writesE (c.at x).1 = writesE ((c.at x).1.lists va vd vy)) := Lib.hid ⟨rfl, rfl, rfl⟩
            have hw1 := hwd.out.1
            have hw2 := hwd.out.2
            rw [HA.out.1] at hw1 HNX2
            rw [HA.out.2.1] at hw2 HNX2
            rw [HA.out.2.2] at HNX2
            obtain ⟨e, he⟩ : ∃ e, (c.at x).1.lists va vd vy = e := ⟨_, rfl⟩
            rw [he] at hld hfl hw1 hw2 HNX2
            obtain ⟨r, hr⟩ : ∃ r, Hid (writesE e = r) := ⟨_, Lib.hid rfl⟩
            have KM := Lib.hid (fun w0 => rWrites_b e r hr.out w0)
            rw [hr.out] at HNX2
            clear hcell i0 i1 hx HNX HA he hfl0 hwd u0 u1 u2 hq
            go_upto_region 17 with (refine store_ev (EvAt.new zeroEv _) e hfl.out rfl (.tmp 7) (.tmp 74) rfl rfl rfl ?_; intro w1 D1 ho1 hb1 hz1; have S1 := Lib.hid D1; have A1 := Lib.hid ((box_below wr (.cells #[.int .i64 0, .int .i64 0, .int .i64 0, .int .u64 0, .int .u64 0, .int .u64 0, .bool false, .bool false, .int .i64 0, .int .i64 0, .int .i64 0, .slice none 0 0, .slice none 0 0, .slice none 0 0] 48)).trans hb1); clear D1 ho1 hb1 hz1)
            have cl1 := run_LoadE S1.out
            clear hld d0 u3
            cases r with
            | false =>
              go_wp2_with (go_at_call 21; (with_reducible refine (KM.out _).mono ?_); rintro e' w2 ⟨rfl, hb⟩; have A2 := Lib.hid (A1.out.trans (hb.mono A1.out.size)); clear hb cl1)
              go_roundw
              case rel => exact ⟨k + 1, D, by omega, by go_num, Lib.hid (hD.out.ext (fun y => by rw [HNX2.out y, if_neg (by simp)])), Lib.hid (OMu.on hO.out A2.out).more, Lib.hid (hN.out.on A2.out)⟩
              case measure => simp [intOf]; omega
            | true =>
              go_wp2_with (first
                | (go_at_call 21; (with_reducible refine (KM.out _).mono ?_); rintro e' w2 ⟨rfl, hb⟩; have A2 := Lib.hid (A1.out.trans (hb.mono A1.out.size)); have O2 : Hid (OMu M (c.fs.length + k) D w2) := Lib.hid (hO.out.on A2.out); have N2 := Lib.hid (hN.out.on A2.out); have S2 := Lib.hid (S1.out.on hb); clear hb cl1; obtain ⟨_, _, _, _, x3, _, x5, _⟩ := S2.out.facts)
                | (at_mapUpdate; refine wpList_mapUpdate_own _ rfl _ _ _ 51 rfl 31 31 law_u64 Try.underlying51 _ M (c.fs.length + k) _ rfl O2.out hkm _ _ _ rfl rfl (keyOf_int_mk Try.underlying31 hw1) _ [] (plainElem_int Try.underlying31 hw2) ?_; intro w8 hown1 hgrow1; have O8 : Hid (OMu M (c.fs.length + k + 1) (D.put (.int .u64 e.addr) (.lit (.int .u64 e.store))) w8) := Lib.hid hown1; have N8 := Lib.hid (N2.out.put hgrow1 hMlt hMg); clear hown1 hgrow1))
              go_roundw
              case rel => exact ⟨k + 1, _, by omega, by go_num, Lib.hid ((hD.out.put e.addr e.store).ext (fun y => by rw [HNX2.out y]; simp)), O8, N8⟩
              case measure => simp [intOf]; omega
          · obtain rfl : k = c.od.length := by omega
            obtain ⟨u0, u1, u2, u3⟩ := hN.out.lk.box.facts
            go_upto_region 20 with (go_at_call 12; (with_reducible refine (KL.out _ hN.out.lk.at_).mono ?_); rintro e' w6 ⟨v, l, rfl, hrd, hsl, hml, hb, hlen⟩; have W6 : Hid (Wl M (c.fs.length + c.od.length) D v l w w6) := Lib.hid ⟨OMu.on hO.out hb, hrd, hN.out.lk.below.trans (hb.mono hN.out.lk.below.size), hMlt⟩; have WN := Lib.hid (fun k hk => wL_now HR.out hsl hml k hk); have WE := Lib.hid (fun x v h => wL_end (x := x) (v := v) hml h); have HSL := Lib.hid hsl; have HWF := Lib.hid (fun k hk => l_wf LT.out hm.out hml k hk); have D6 : Hid (MetD (wL c l 0) D) := hD; clear hsl hml hb u0 u1 u2 u3)
            obtain ⟨a, cp, rfl⟩ := hrd.len
            clear hrd hD hO hN
            go_wp2
            go_loopw [9] (fun vi wr => ∃ (k : Nat) (D : DataW Unit), k ≤ l.length ∧ vi = .int .i64 k ∧ Hid (MetD (wL c l k) D) ∧ Hid (Wl M (c.fs.length + c.od.length + k) D (.slice a l.length cp) l w wr)) (fun vi _ => l.length - (intOf vi).toNat)
            case atStart => exact ⟨0, _, Nat.zero_le _, rfl, D6, W6⟩
            case round =>
              obtain ⟨k, D, hk, rfl, hD, hWl⟩ := hrel
              by_cases hlt : k < l.length
              · rcases hWl.out.reads with ⟨_, h0⟩ | ⟨b, off, c2, e, _, _, hbl, hcell⟩
                · rw [h0] at hlt; simp at hlt
                injection e with e1 e2 e3
                subst e1
                obtain ⟨c0, c1⟩ := hcell k hlt
                obtain ⟨n1, n2⟩ := WN.out k hlt
                have hwx := Lib.hid (HWF.out k hlt)
                have hlk := look_still (hWl.out.on (Below.refl _ _).drew).map hD.out n1 hwx.out
                have HNX : Hid (∀ z, wL c l (k + 1) z = if fA l k = z then some 0 else wL c l k z) := Lib.hid (fun z => rfl)
                have HP := Lib.hid (fun m (hm : m + 1 = k) => (And.intro (hcell m (by omega)).1 (by have := HSL.out m k (by omega) hlt; omega) : _ ∧ ¬ fA l k ≤ fA l m))
                obtain ⟨x, hx⟩ : ∃ x, Hid (fA l k = x) := ⟨_, Lib.hid rfl⟩
                obtain ⟨y, hy⟩ : ∃ y, Hid (fV l k = y) := ⟨_, Lib.hid rfl⟩
                rw [hx.out] at c0 hwx hlk HNX HP
                rw [hy.out] at c1 hlk n2
                have hy1 : (y == 0) = false := by simpa using n2
                have hy2 : (y != 0) = true := by simpa using n2
                have hki : (k : Int) < (l.length : Int) := by omega
                have hk0 : (0 : Int) ≤ (k : Int) := by omega
                have hkm : c.fs.length + c.od.length + k < maxLen := by unfold maxLen; omega
                have hw0 : Hid ((Lit.int .u64 0).wf = true) := Lib.hid (by decide)
                have WD := Lib.hid (hWl.out.on (Below.refl _ _).drew)
                have OD : Hid (OMu M (c.fs.length + c.od.length + k) D wr.drew) := Lib.hid WD.out.map
                clear hcell n1 n2 e2 e3
                cases k with
                | zero =>
                  simp only [Nat.zero_mul, Nat.add_zero] at c0 c1
                  go_upto_region 23 with fail
                  refine wp_region_still_tail 38 (by kernel_rfl) (by kernel_rfl) ?_
                  simp only [List.take_succ_cons, List.take_zero, List.drop_succ_cons, List.drop_zero]
                  iterate 31 (first | (refine wpStill_skip (by as_aux_lemma => kernel_rfl) ?_; simp only [Act.put, List.setIfInBounds_toArray, List.set_cons_succ, List.set_cons_zero]) | still_step)
                  refine wpStill_lookup (.tmp 115) (.tmp 120) _ _ _ (by as_aux_lemma => kernel_rfl) rfl rfl rfl hlk ?_
                  simp only [Act.put, List.setIfInBounds_toArray, List.set_cons_succ, List.set_cons_zero]
                  iterate 6 still_step
                  refine wpStill_nil ?_
                  change wpList _ _ _ _ _ (World.drew _)
                  go_wp2_with (at_mapUpdate; refine wpList_mapUpdate_own _ rfl _ _ _ 51 rfl 31 31 law_u64 Try.underlying51 _ M _ _ rfl OD.out hkm _ _ _ rfl rfl (keyOf_int_mk Try.underlying31 hwx.out) _ [] (plainElem_int Try.underlying31 hw0.out) ?_; intro w8 hown1 hgrow1; have W8 := Lib.hid (WD.out.put hgrow1 hown1); clear hown1 hgrow1)
                  go_roundw
                  case rel => exact ⟨1, _, by omega, by go_num, Lib.hid ((hD.out.put x 0).ext (fun z => (HNX.out z).symm)), W8⟩
                  case measure => simp [intOf]; omega
                | succ m =>
                  obtain ⟨e0, hzx⟩ := HP.out m rfl
                  obtain ⟨z, hz⟩ : ∃ z, Hid (fA l m = z) := ⟨_, Lib.hid rfl⟩
                  rw [hz.out] at e0 hzx
                  have hm0 : (0 : Int) ≤ (m : Int) := by omega
                  have hmn : (m : Int) < (l.length : Int) := by omega
                  have hk0s : (0 : Int) ≤ (m : Int) + 1 := by omega
                  have hkis : (m : Int) + 1 < (l.length : Int) := by omega
                  have hwm : IntKind.i64.wrap (m : Int) = m := IntWalk.i64_in _ (by omega)
                  go_upto_region 23 with fail
                  refine wp_region_still_tail 38 (by kernel_rfl) (by kernel_rfl) ?_
                  simp only [List.take_succ_cons, List.take_zero, List.drop_succ_cons, List.drop_zero]
                  iterate 31 (first | (refine wpStill_skip (by as_aux_lemma => kernel_rfl) ?_; simp only [Act.put, List.setIfInBounds_toArray, List.set_cons_succ, List.set_cons_zero]) | still_step)
                  refine wpStill_lookup (.tmp 115) (.tmp 120) _ _ _ (by as_aux_lemma => kernel_rfl) rfl rfl rfl hlk ?_
                  simp only [Act.put, List.setIfInBounds_toArray, List.set_cons_succ, List.set_cons_zero]
                  iterate 6 still_step
                  refine wpStill_nil ?_
                  change wpList _ _ _ _ _ (World.drew _)
                  go_wp2_with (at_mapUpdate; refine wpList_mapUpdate_own _ rfl _ _ _ 51 rfl 31 31 law_u64 Try.underlying51 _ M _ _ rfl OD.out hkm _ _ _ rfl rfl (keyOf_int_mk Try.underlying31 hwx.out) _ [] (plainElem_int Try.underlying31 hw0.out) ?_; intro w8 hown1 hgrow1; have W8 := Lib.hid (WD.out.put hgrow1 hown1); clear hown1 hgrow1)
                  go_roundw
                  case rel => exact ⟨m + 1 + 1, _, by omega, by go_num, Lib.hid ((hD.out.put x 0).ext (fun z => (HNX.out z).symm)), W8⟩
                  case measure => simp [intOf]; omega
              · obtain rfl : k = l.length := by omega
                go_wp2_with (first
                  | (at_range; refine wpList_range_own _ rfl _ 51 rfl 31 31 law_u64 Try.underlying51 _ M (c.fs.length + c.od.length + l.length) D rfl hWl.out.map ?_; intro w5 hrg hg5 hs5)
                  | go_in)
                go_frame
                have B5 : Hid (Wr M wr.heap.size (c.fs.length + c.od.length + l.length) D (Maps.has D) (Maps.size D) w w5) := Lib.hid ⟨hrg, hWl.out.below.grown hg5 hWl.out.below.size (fun j hj => by cases hj), hWl.out.below.size⟩
                clear hrg hg5 hs5
                go_loopw [11] (fun v11 wr2 => ∃ (left : Lit → Bool) (cnt : Nat), Hid (Wr M wr.heap.size (c.fs.length + c.od.length + l.length) D left cnt w wr2)) (fun _ wr2 => wr2.rangeLeft M wr.heap.size)
                case atStart => exact ⟨_, _, B5⟩
                case round =>
                  obtain ⟨left, cnt, hLb⟩ := hrel
                  go_wp2_with (first
                    | (at_next; refine wpList_next_ranges_ii _ rfl _ rfl 31 31 .u64 .u64 law_u64 Try.underlying31 Try.underlying31 M _ (c.fs.length + c.od.length + l.length) _ _ _ rfl hLb.out.rng ?_ ?_)
                    | go_in)
                  · intro hc0 hl0
                    clear hc0 hl0
                    go_wp2
                    go_ret
                    exact ⟨rfl, hLb.out.below⟩
                  · intro x y w6 cnt1 hwx hwy hlx hat hrg1 hlt1 hg1 hs1 hen
                    have L6 := Lib.hid (hLb.out.next hrg1 hg1)
                    obtain rfl : y = 0 := WE.out x y (hD.out.of_at x y hat)
                    clear hat hlx hwx hwy hs1
                    go_wp2
                    go_roundw
                    case rel => exact ⟨_, cnt1, L6⟩
                    case measure => rw [L6.out.rng.left_eq, hLb.out.rng.left_eq]; exact hlt1
end Go.Proofs.Ytngbiibhghnalaa
