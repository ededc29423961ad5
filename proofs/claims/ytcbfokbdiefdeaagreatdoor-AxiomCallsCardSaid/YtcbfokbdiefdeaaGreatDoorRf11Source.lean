/-
  Proved here: the document's source of a number (chapter 11): the best of those that it may read; nothing that was there is changed. Condition: a light candidate that may be.
-/
import Derived.Test.YtcbfokbdiefdeaaGreatDoorRf11Pure
import Derived.Test.YtcbfokbdiefdeaaGreatDoorRf10Small
import Derived.Test.YtcbfokbdiefdeaaGreatDoorAxLaws
import Derived.Test.YtcbfokbdiefdeaaGreatDoorRf09All
namespace Go.Proofs.YtcbfokbdiefdeaaGreatDoor
set_option linter.unusedVariables false
set_option linter.unusedSimpArgs false
open Go.RowKit Go.Maps
attribute [local go_sem ↓] fold_E fold_SE
attribute [local irreducible] wpStill

set_option maxRecDepth 100000 in
set_option maxHeartbeats 16000000 in
theorem rsource_any (c : Cd) (q : Cv) (es : List Ev) (aA : Option Addr) (cA base gP : Nat) (w : World) (hL : Lt c) (hm : c.may = true) (h : Vh c q es aA cA base w) (hP : IntsAt (plcL c c.od.length) c.N gP w) (n : Nat) (hn : n < c.N) (r : Int) (hr : srcR c n c.N = r) :
    Calls Tryz.prog 46 #[vwV c q aA cA, .slice (some ⟨gP, 0, none⟩) c.N c.N, .int .i64 (n : Int)] w fun e w' => GivesI w r e w' := by
  have S0 := Lib.hid (Vr.start h)
  have P0 := Lib.hid (hP.on (box_below w (.cells #[.slice q.aF c.fs.length q.cF, .slice q.aH c.nh q.cH, .slice q.aR c.fr.length q.cR, .slice q.aO c.od.length q.cO, .slice aA c.N cA] 76)))
  have hN60 := hL.n
  have HM := Lib.hid hm
  obtain ⟨gE, cap, ev, _, hra⟩ := S0.out.vh.ra.rall (by omega)
  injection ev with ev1 ev2 ev3
  subst ev1
  clear ev2 ev3
  have HA0 := Lib.hid hra
  clear hra
  obtain ⟨W0, hW0⟩ : ∃ W, w.alloc (.cells #[.slice q.aF c.fs.length q.cF, .slice q.aH c.nh q.cH, .slice q.aR c.fr.length q.cR, .slice q.aO c.od.length q.cO, .slice (some ⟨gE, 0, none⟩) c.N cA] 76) = W := ⟨_, rfl⟩
  rw [hW0] at S0 P0 HA0
  have HW0 := Lib.hid hW0
  clear hW0
  obtain ⟨X, hX⟩ : ∃ X, Hid (evAtN es n = X) := ⟨_, Lib.hid rfl⟩
  have XF : Hid X.flat := Lib.hid (by rw [← hX.out]; exact HA0.out.flat_ n hn)
  have XL : Hid (∃ x y z, X = (c.at n).1.lists x y z) := Lib.hid (by rw [← hX.out]; exact HA0.out.like n hn)
  have clx : (LoadE (.pointer (some ⟨gE, n * 14, none⟩))).run Tryz.prog W0 = .ok X.V W0 := by rw [← hX.out]; exact load0 HA0.out n hn
  have z0 : EvAt zeroEv W0.heap.size (W0.alloc (.cells #[.int .i64 0, .int .i64 0, .int .i64 0, .int .u64 0, .int .u64 0, .int .u64 0, .bool false, .bool false, .int .i64 0, .int .i64 0, .int .i64 0, .slice none 0 0, .slice none 0 0, .slice none 0 0] 32)) := EvAt.new zeroEv W0
  obtain ⟨W1, cs, d1, hb3⟩ := store_made z0 XF.out
  have H2 := Lib.hid (S0.out.on ((box_below W0 _).trans hb3))
  have P2 := Lib.hid (P0.out.on ((box_below W0 _).trans hb3))
  have E2 := Lib.hid d1
  obtain ⟨y0, y1, y2, y3, y4⟩ := S0.out.facts
  have hni : (n : Int) < (c.N : Int) := by omega
  have hn0 : (0 : Int) ≤ (n : Int) := by omega
  have HR := Lib.hid hr
  clear z0 d1 hb3 h hP hL hm hr
  go_enter Tryz.func46, Tryz.ntmps46
  go_upto_region 1 with fail
  rw [HW0.out]
  go_upto_region 2 with fail
  obtain ⟨gX, hgX⟩ : ∃ g, W0.heap.size = g := ⟨_, rfl⟩
  rw [hgX] at E2 ⊢
  clear hgX clx cs S0 P0 HA0 y0 y1 y2 y3 y4 HW0
  go_wp2
  go_loopw [9, 8] (fun vi vb wr => ∃ k : Nat, k ≤ c.N ∧ vi = .int .i64 k ∧ vb = .int .i64 (srcR c n k) ∧ Hid (Vr c q es (some ⟨gE, 0, none⟩) cA base w.heap.size w wr) ∧ Hid (IntsAt (plcL c c.od.length) c.N gP wr) ∧ Hid (EvAt X gX wr)) (fun vi _ _ => c.N - (intOf vi).toNat)
  case atStart => exact ⟨0, Nat.zero_le _, rfl, rfl, H2, P2, E2⟩
  case round =>
    obtain ⟨k, hk, rfl, rfl, H5, P5, E5⟩ := hrel
    clear H2 P2 E2
    obtain ⟨y0, y1, y2, y3, y4⟩ := H5.out.facts
    by_cases hkp : k < c.N
    · obtain ⟨gE2, cap2, ev2, _, hra2⟩ := H5.out.vh.ra.rall (by omega)
      injection ev2 with ev1 ev2 ev3
      injection ev1 with ev1
      injection ev1 with ev1
      subst ev1
      clear ev2 ev3
      have HA5 := Lib.hid hra2
      clear hra2
      obtain ⟨Y, hY⟩ : ∃ Y, Hid (evAtN es k = Y) := ⟨_, Lib.hid rfl⟩
      have YF : Hid Y.flat := Lib.hid (by rw [← hY.out]; exact HA5.out.flat_ k hkp)
      have YL : Hid (∃ x y z, Y = (c.at k).1.lists x y z) := Lib.hid (by rw [← hY.out]; exact HA5.out.like k hkp)
      have cly : (LoadE (.pointer (some ⟨gE, k * 14, none⟩))).run Tryz.prog wr = .ok Y.V wr := by rw [← hY.out]; exact load0 HA5.out k hkp
      have z0 : EvAt zeroEv wr.heap.size (wr.alloc (.cells #[.int .i64 0, .int .i64 0, .int .i64 0, .int .u64 0, .int .u64 0, .int .u64 0, .bool false, .bool false, .int .i64 0, .int .i64 0, .int .i64 0, .slice none 0 0, .slice none 0 0, .slice none 0 0] 32)) := EvAt.new zeroEv wr
      obtain ⟨W2, cs2, d2, hb4⟩ := store_made z0 YF.out
      have H6 := Lib.hid (H5.out.on ((box_below wr _).trans hb4))
      have P6 := Lib.hid (P5.out.on ((box_below wr _).trans hb4))
      have EX6 := Lib.hid (E5.out.on ((box_below wr _).trans hb4))
      have EW6 := Lib.hid d2
      have hki : (k : Int) < (c.N : Int) := by omega
      have hki0 : (0 : Int) ≤ (k : Int) := by omega
      have e4 : IntKind.i64.wrap ((k : Int) + 1) = ((k + 1 : Nat) : Int) := by rw [IntWalk.i64_in _ (by omega)]; omega
      clear z0 d2 hb4
      obtain ⟨bst, hbst⟩ : ∃ v, Hid (srcR c n k = v) := ⟨_, Lib.hid rfl⟩
      rw [hbst.out]
      go_upto_region 6 with fail
      obtain ⟨gY, hgY⟩ : ∃ g, wr.heap.size = g := ⟨_, rfl⟩
      rw [hgY] at EW6 ⊢
      clear cly cs2 H5 P5 E5 hgY y0 y1 y2 y3 y4
      have clw := run_LoadE EW6.out
      obtain ⟨_, x0, x1, _, x3, _⟩ := EX6.out.facts
      obtain ⟨_, y0, y1, _, y3, _⟩ := EW6.out.facts
      have HYX : Hid (Y.addr = (c.at k).1.addr ∧ Y.hart = (c.at k).1.hart ∧ Y.pos = (c.at k).1.pos ∧ writesE Y = writesE (c.at k).1 ∧ X.addr = (c.at n).1.addr ∧ X.hart = (c.at n).1.hart ∧ X.pos = (c.at n).1.pos) := Lib.hid (by
        obtain ⟨_, _, _, ex⟩ := XL.out
        obtain ⟨_, _, _, ey⟩ := YL.out
        rw [ex, ey]; exact ⟨rfl, rfl, rfl, rfl, rfl, rfl, rfl⟩)
      obtain ⟨wY, hwY⟩ : ∃ r, Hid (writesE Y = r) := ⟨_, Lib.hid rfl⟩
      have KWW := Lib.hid (fun w0 => rWrites_b Y wY hwY.out w0)
      by_cases hkn : k = n
      · have HS : Hid (srcR c n (k + 1) = bst) := Lib.hid (by
          rw [← hbst.out]
          refine srcR_no ?_
          cases ho : okR c n k with
          | false => rfl
          | true => exact absurd hkn (okR_iff.1 ho).1)
        have q1 : ((k : Int) == (n : Int)) = true := by simp [hkn]
        have q2 : (k == n) = true := by simp [hkn]
        clear hkn
        go_wp2
        go_roundw
        case rel => exact ⟨k + 1, by omega, by go_num, by rw [HS.out], H6, P6, EX6⟩
        case measure => simp [intOf]; omega
      · have q1 : ((k : Int) == (n : Int)) = false := by simp; omega
        have q2 : (k == n) = false := by simp [hkn]
        cases wY with
        | false =>
          have HS : Hid (srcR c n (k + 1) = bst) := Lib.hid (by
            rw [← hbst.out]
            refine srcR_no ?_
            cases ho : okR c n k with
            | false => rfl
            | true => have := (okR_iff.1 ho).2.1; rw [← HYX.out.2.2.2.1, hwY.out] at this; cases this)
          go_wp2_with (go_at_call 29; (with_reducible refine (KWW.out _).mono ?_); rintro e' w9 ⟨rfl, hb⟩; replace H6 := Lib.hid (H6.out.on hb); replace EX6 := Lib.hid (EX6.out.on hb); replace EW6 := Lib.hid (EW6.out.on hb); replace P6 := Lib.hid (P6.out.on hb); clear hb clw x0 x1 x3 y0 y1 y3; have clw := run_LoadE EW6.out; obtain ⟨_, x0, x1, _, x3, _⟩ := EX6.out.facts; obtain ⟨_, y0, y1, _, y3, _⟩ := EW6.out.facts)
          go_roundw
          case rel => exact ⟨k + 1, by omega, by go_num, by rw [HS.out], H6, P6, EX6⟩
          case measure => simp [intOf]; omega
        | true =>
          obtain ⟨n2, h2⟩ : ∃ r, (Y.addr != X.addr) = r := ⟨_, rfl⟩
          have H2h := Lib.hid h2
          cases n2 with
          | true =>
            have HS : Hid (srcR c n (k + 1) = bst) := Lib.hid (by
              rw [← hbst.out]
              refine srcR_no ?_
              cases ho : okR c n k with
              | false => rfl
              | true =>
                have := (okR_iff.1 ho).2.2.1
                have t := H2h.out
                rw [HYX.out.1, HYX.out.2.2.2.2.1, this] at t
                simp at t)
            go_wp2_with (go_at_call 29; (with_reducible refine (KWW.out _).mono ?_); rintro e' w9 ⟨rfl, hb⟩; replace H6 := Lib.hid (H6.out.on hb); replace EX6 := Lib.hid (EX6.out.on hb); replace EW6 := Lib.hid (EW6.out.on hb); replace P6 := Lib.hid (P6.out.on hb); clear hb clw x0 x1 x3 y0 y1 y3; have clw := run_LoadE EW6.out; obtain ⟨_, x0, x1, _, x3, _⟩ := EX6.out.facts; obtain ⟨_, y0, y1, _, y3, _⟩ := EW6.out.facts)
            go_roundw
            case rel => exact ⟨k + 1, by omega, by go_num, by rw [HS.out], H6, P6, EX6⟩
            case measure => simp [intOf]; omega
          | false =>
            have HAD : Hid ((c.at k).1.addr = (c.at n).1.addr) := Lib.hid (by
              have t := H2h.out
              rw [HYX.out.1, HYX.out.2.2.2.2.1] at t
              simpa using t)
            obtain ⟨own, hown⟩ : ∃ o, Hid ((decide ((c.at k).1.hart = (c.at n).1.hart) && decide ((c.at k).1.pos < (c.at n).1.pos)) = o) := ⟨_, Lib.hid rfl⟩
            obtain ⟨lt, hlt⟩ : ∃ o, Hid (decide (plN c (k : Int) < plN c (n : Int)) = o) := ⟨_, Lib.hid rfl⟩
            have HOK : Hid (okR c n k = (own || lt)) := Lib.hid (by
              unfold okR
              rw [decide_eq_false hkn, ← HYX.out.2.2.2.1, hwY.out, decide_eq_true HAD.out, hown.out, hlt.out]; rfl)
            have HOWN : Hid (own = (Y.hart == X.hart && decide (Y.pos < X.pos))) := Lib.hid (by
              rw [← hown.out, HYX.out.2.1, HYX.out.2.2.1, HYX.out.2.2.2.2.2.1, HYX.out.2.2.2.2.2.2]; rfl)
            go_upto_region 7 with (go_at_call 29; (with_reducible refine (KWW.out _).mono ?_); rintro e' w9 ⟨rfl, hb⟩; replace H6 := Lib.hid (H6.out.on hb); replace EX6 := Lib.hid (EX6.out.on hb); replace EW6 := Lib.hid (EW6.out.on hb); replace P6 := Lib.hid (P6.out.on hb); clear hb clw x0 x1 x3 y0 y1 y3; have clw := run_LoadE EW6.out; obtain ⟨_, x0, x1, _, x3, _⟩ := EX6.out.facts; obtain ⟨_, y0, y1, _, y3, _⟩ := EW6.out.facts)
            go_cut [11] (fun t11 wx => t11 = .bool own ∧ Hid (Vr c q es (some ⟨gE, 0, none⟩) cA base w.heap.size w wx) ∧ Hid (IntsAt (plcL c c.od.length) c.N gP wx) ∧ Hid (EvAt X gX wx))
            case first => as_aux_lemma =>
              obtain ⟨n3, h3⟩ : ∃ r, (Y.hart == X.hart) = r := ⟨_, rfl⟩
              have H3h := Lib.hid h3
              cases n3 with
              | false =>
                have ho : own = false := by rw [HOWN.out, H3h.out]; rfl
                subst ho
                go_wp2_with fail
                go_meet
                exact ⟨rfl, H6, P6, EX6⟩
              | true =>
                obtain ⟨n4, h4⟩ : ∃ r, decide (Y.pos < X.pos) = r := ⟨_, rfl⟩
                have ho : own = n4 := by rw [HOWN.out, H3h.out, h4]; rfl
                subst ho
                go_wp2_with fail
                go_meet
                exact ⟨rfl, H6, P6, EX6⟩
            obtain ⟨rfl, H7, P7, E7⟩ := hcut
            clear H6 P6 EX6 EW6 x0 x1 x3 y0 y1 y3 clw h2
            have PD := Lib.hid (P7.out.on (Below.refl _ _).drew)
            have H8 := Lib.hid (H7.out.on (Below.refl _ _).drew)
            have E8 := Lib.hid (E7.out.on (Below.refl _ _).drew)
            obtain ⟨pk, hpk⟩ : ∃ v, plcL c c.od.length k = v := ⟨_, rfl⟩
            obtain ⟨pn, hpn⟩ : ∃ v, plcL c c.od.length n = v := ⟨_, rfl⟩
            have ck := PD.out.cell k hkp
            have cn := PD.out.cell n hn
            rw [hpk] at ck
            rw [hpn] at cn
            have dlt : decide (pk < pn) = lt := by rw [← hlt.out, plN_nat, plN_nat, hpk, hpn]
            have HPK := Lib.hid hpk
            clear hpk hpn
            have hbc : (bst = -1 ∧ srcR c n k = -1) ∨ ∃ m : Nat, bst = m ∧ srcR c n k = m ∧ m < k := by
              rcases srcR_in c n k with h | ⟨m, h1, h3⟩
              · exact .inl ⟨by rw [← hbst.out]; exact h, h⟩
              · exact .inr ⟨m, by rw [← hbst.out]; exact h1, h1, h3⟩
            clear H7 P7 E7
            cases own with
            | true =>
              rcases hbc with ⟨rfl, hb0⟩ | ⟨m, rfl, hb0, hb2⟩
              · have db : decide ((-1 : Int) < 0) = true := by decide
                have HS : Hid (srcR c n (k + 1) = (k : Int)) := Lib.hid (srcR_yes (by rw [HOK.out]; rfl) (by rw [hb0]; rfl))
                go_upto_region 8 with fail
                refine wp_region_still_tail 26 (by kernel_rfl) (by kernel_rfl) ?_
                simp only [List.take_succ_cons, List.take_zero, List.drop_succ_cons, List.drop_zero]
                iterate 26 (first | (refine wpStill_skip (by as_aux_lemma => kernel_rfl) ?_; simp only [Act.put, List.setIfInBounds_toArray, List.set_cons_succ, List.set_cons_zero]) | still_step)
                refine wpStill_nil ?_
                change wpList _ _ _ _ _ (World.drew _)
                go_wp2
                go_roundw
                case rel => exact ⟨k + 1, by omega, by go_num, by rw [HS.out], H8, PD, E8⟩
                case measure => simp [intOf]; omega
              · have db : decide ((m : Int) < 0) = false := by simp
                obtain ⟨pm, hpm⟩ : ∃ v, plcL c c.od.length m = v := ⟨_, rfl⟩
                have cm := PD.out.cell m (by omega)
                rw [hpm] at cm
                have hmi : (m : Int) < (c.N : Int) := by omega
                have hmi0 : (0 : Int) ≤ (m : Int) := by omega
                obtain ⟨lb, hlb⟩ : ∃ b, decide (pm < pk) = b := ⟨_, rfl⟩
                have HLB : Hid (decide (plN c (m : Int) < plN c (k : Int)) = lb) := Lib.hid (by rw [plN_nat, plN_nat, hpm, HPK.out]; exact hlb)
                clear hpm
                cases lb with
                | true =>
                  have HS : Hid (srcR c n (k + 1) = (k : Int)) := Lib.hid (srcR_yes (by rw [HOK.out]; rfl) (by rw [hb0, HLB.out]; simp))
                  go_upto_region 8 with fail
                  refine wp_region_still_tail 26 (by kernel_rfl) (by kernel_rfl) ?_
                  simp only [List.take_succ_cons, List.take_zero, List.drop_succ_cons, List.drop_zero]
                  iterate 26 (first | (refine wpStill_skip (by as_aux_lemma => kernel_rfl) ?_; simp only [Act.put, List.setIfInBounds_toArray, List.set_cons_succ, List.set_cons_zero]) | still_step)
                  refine wpStill_nil ?_
                  change wpList _ _ _ _ _ (World.drew _)
                  go_wp2
                  go_roundw
                  case rel => exact ⟨k + 1, by omega, by go_num, by rw [HS.out], H8, PD, E8⟩
                  case measure => simp [intOf]; omega
                | false =>
                  have HS : Hid (srcR c n (k + 1) = (m : Int)) := Lib.hid ((srcR_keep (by rw [hb0, HLB.out]; simp)).trans hb0)
                  go_upto_region 8 with fail
                  refine wp_region_still_tail 26 (by kernel_rfl) (by kernel_rfl) ?_
                  simp only [List.take_succ_cons, List.take_zero, List.drop_succ_cons, List.drop_zero]
                  iterate 26 (first | (refine wpStill_skip (by as_aux_lemma => kernel_rfl) ?_; simp only [Act.put, List.setIfInBounds_toArray, List.set_cons_succ, List.set_cons_zero]) | still_step)
                  refine wpStill_nil ?_
                  change wpList _ _ _ _ _ (World.drew _)
                  go_wp2
                  go_roundw
                  case rel => exact ⟨k + 1, by omega, by go_num, by rw [HS.out], H8, PD, E8⟩
                  case measure => simp [intOf]; omega
            | false =>
              cases lt with
              | true =>
                rcases hbc with ⟨rfl, hb0⟩ | ⟨m, rfl, hb0, hb2⟩
                · have db : decide ((-1 : Int) < 0) = true := by decide
                  have HS : Hid (srcR c n (k + 1) = (k : Int)) := Lib.hid (srcR_yes (by rw [HOK.out]; rfl) (by rw [hb0]; rfl))
                  go_upto_region 8 with fail
                  refine wp_region_still_tail 26 (by kernel_rfl) (by kernel_rfl) ?_
                  simp only [List.take_succ_cons, List.take_zero, List.drop_succ_cons, List.drop_zero]
                  iterate 26 (first | (refine wpStill_skip (by as_aux_lemma => kernel_rfl) ?_; simp only [Act.put, List.setIfInBounds_toArray, List.set_cons_succ, List.set_cons_zero]) | still_step)
                  refine wpStill_nil ?_
                  change wpList _ _ _ _ _ (World.drew _)
                  go_wp2
                  go_roundw
                  case rel => exact ⟨k + 1, by omega, by go_num, by rw [HS.out], H8, PD, E8⟩
                  case measure => simp [intOf]; omega
                · have db : decide ((m : Int) < 0) = false := by simp
                  obtain ⟨pm, hpm⟩ : ∃ v, plcL c c.od.length m = v := ⟨_, rfl⟩
                  have cm := PD.out.cell m (by omega)
                  rw [hpm] at cm
                  have hmi : (m : Int) < (c.N : Int) := by omega
                  have hmi0 : (0 : Int) ≤ (m : Int) := by omega
                  obtain ⟨lb, hlb⟩ : ∃ b, decide (pm < pk) = b := ⟨_, rfl⟩
                  have HLB : Hid (decide (plN c (m : Int) < plN c (k : Int)) = lb) := Lib.hid (by rw [plN_nat, plN_nat, hpm, HPK.out]; exact hlb)
                  clear hpm
                  cases lb with
                  | true =>
                    have HS : Hid (srcR c n (k + 1) = (k : Int)) := Lib.hid (srcR_yes (by rw [HOK.out]; rfl) (by rw [hb0, HLB.out]; simp))
                    go_upto_region 8 with fail
                    refine wp_region_still_tail 26 (by kernel_rfl) (by kernel_rfl) ?_
                    simp only [List.take_succ_cons, List.take_zero, List.drop_succ_cons, List.drop_zero]
                    iterate 26 (first | (refine wpStill_skip (by as_aux_lemma => kernel_rfl) ?_; simp only [Act.put, List.setIfInBounds_toArray, List.set_cons_succ, List.set_cons_zero]) | still_step)
                    refine wpStill_nil ?_
                    change wpList _ _ _ _ _ (World.drew _)
                    go_wp2
                    go_roundw
                    case rel => exact ⟨k + 1, by omega, by go_num, by rw [HS.out], H8, PD, E8⟩
                    case measure => simp [intOf]; omega
                  | false =>
                    have HS : Hid (srcR c n (k + 1) = (m : Int)) := Lib.hid ((srcR_keep (by rw [hb0, HLB.out]; simp)).trans hb0)
                    go_upto_region 8 with fail
                    refine wp_region_still_tail 26 (by kernel_rfl) (by kernel_rfl) ?_
                    simp only [List.take_succ_cons, List.take_zero, List.drop_succ_cons, List.drop_zero]
                    iterate 26 (first | (refine wpStill_skip (by as_aux_lemma => kernel_rfl) ?_; simp only [Act.put, List.setIfInBounds_toArray, List.set_cons_succ, List.set_cons_zero]) | still_step)
                    refine wpStill_nil ?_
                    change wpList _ _ _ _ _ (World.drew _)
                    go_wp2
                    go_roundw
                    case rel => exact ⟨k + 1, by omega, by go_num, by rw [HS.out], H8, PD, E8⟩
                    case measure => simp [intOf]; omega
              | false =>
                have HS : Hid (srcR c n (k + 1) = bst) := Lib.hid ((srcR_no (by rw [HOK.out]; rfl)).trans hbst.out)
                go_upto_region 8 with fail
                refine wp_region_still_tail 26 (by kernel_rfl) (by kernel_rfl) ?_
                simp only [List.take_succ_cons, List.take_zero, List.drop_succ_cons, List.drop_zero]
                iterate 26 (first | (refine wpStill_skip (by as_aux_lemma => kernel_rfl) ?_; simp only [Act.put, List.setIfInBounds_toArray, List.set_cons_succ, List.set_cons_zero]) | still_step)
                refine wpStill_nil ?_
                change wpList _ _ _ _ _ (World.drew _)
                go_wp2
                go_roundw
                case rel => exact ⟨k + 1, by omega, by go_num, by rw [HS.out], H8, PD, E8⟩
                case measure => simp [intOf]; omega
    · obtain rfl : k = c.N := by omega
      rw [HR.out]
      go_wp2
      go_ret
      exact ⟨rfl, H5.out.below⟩
end Go.Proofs.YtcbfokbdiefdeaaGreatDoor
