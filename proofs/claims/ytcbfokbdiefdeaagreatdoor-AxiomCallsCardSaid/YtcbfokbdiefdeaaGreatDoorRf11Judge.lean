/-
  Proved here: the document's Judge, Ok and Source of chapter 11: of any candidate, a number, what ours answer; nothing that was there is changed. Condition: a light candidate whose pairs fit.
-/
import Derived.Test.YtcbfokbdiefdeaaGreatDoorRf11Source
import Derived.Test.YtcbfokbdiefdeaaGreatDoorRf11Pair
import Derived.Test.YtcbfokbdiefdeaaGreatDoorRf10Full
import Derived.Test.YtcbfokbdiefdeaaGreatDoorRf09Places
import Derived.Test.YtcbfokbdiefdeaaGreatDoorAxLaws
import Derived.Test.YtcbfokbdiefdeaaGreatDoorAxNo
namespace Go.Proofs.YtcbfokbdiefdeaaGreatDoor
set_option linter.unusedVariables false
set_option linter.unusedSimpArgs false
open Go.RowKit Go.Maps
attribute [local go_sem ↓] fold_E fold_SE
attribute [local irreducible] wpStill

attribute [local go_sem ↓] fold_SJ

set_option maxRecDepth 100000 in
theorem rbad_a (why a b : Int) (w : World) : Calls Tryz.prog 45 #[.int .i64 why, .int .i64 a, .int .i64 b] w fun e w' => GivesJ w ⟨false, why, a, b⟩ e w' := by
  have J0 := JBox.new w
  have hs := run_StoreJ (k := ⟨false, why, a, b⟩) J0
  have J1 := Lib.hid (J0.set ⟨false, why, a, b⟩)
  have B1 := Lib.hid (below_setJ (box_below w (.cells #[.bool false, .int .i64 0, .int .i64 0, .int .i64 0] 37)) (Nat.le_refl _) #[.bool false, .int .i64 why, .int .i64 a, .int .i64 b])
  go_enter Tryz.func45, Tryz.ntmps45
  go_wp2
  refine bodyPost_ret (judged_end rfl rfl J1.out) rfl ?_
  exact ⟨rfl, B1.out⟩
theorem rbad_b (why a b : Int) (w : World) : Calls Tryz.prog 45 #[.int .i64 why, .int .i64 a, .int .i64 b] w fun e w' => e = .returned (.agg #[.bool false, .int .i64 why, .int .i64 a, .int .i64 b]) ∧ Below w.heap.size w w' := rbad_a why a b w
/-- Judge's world: the candidate, the answer -/
structure Jz (c : Cd) (q : Cv) (w W : World) : Prop where
  lk : Lk c q w W
  jb : JBox ⟨false, 0, 0, 0⟩ (w.heap.size + 1) W
theorem Jz.on {c : Cd} {q : Cv} {w W W2 : World} (h : Jz c q w W) (hb : Below W.heap.size W W2) : Jz c q w W2 := ⟨h.lk.on hb, h.jb.on hb⟩
theorem Jz.start {c : Cd} {q : Cv} {w : World} (h : CAt c q w) : Jz c q w ((w.alloc (.cells #[.slice q.aF c.fs.length q.cF, .slice q.aH c.nh q.cH, .slice q.aR c.fr.length q.cR, .slice q.aO c.od.length q.cO] 26)).alloc (.cells #[.bool false, .int .i64 0, .int .i64 0, .int .i64 0] 37)) := by
  refine ⟨(Lk.start h).on (box_below _ _), ?_⟩
  have hj := JBox.new (w.alloc (.cells #[.slice q.aF c.fs.length q.cF, .slice q.aH c.nh q.cH, .slice q.aR c.fr.length q.cR, .slice q.aO c.od.length q.cO] 26))
  rw [show (w.alloc (.cells #[.slice q.aF c.fs.length q.cF, .slice q.aH c.nh q.cH, .slice q.aR c.fr.length q.cR, .slice q.aO c.od.length q.cO] 26)).heap.size = w.heap.size + 1 by simp] at hj
  exact hj
/-- and all that it looks at -/
structure Rj (c : Cd) (q : Cv) (es : List Ev) (aA : Option Addr) (cA base gV gP : Nat) (L : List (Nat × Nat)) (aL : Option Addr) (cL bL : Nat) (w W : World) : Prop where
  lk : Lk c q w W
  jb : JBox ⟨false, 0, 0, 0⟩ (w.heap.size + 1) W
  vr : Vr c q es aA cA base gV w W
  pl : IntsAt (plcL c c.od.length) c.N gP W
  ow : W.ownsRow bL 53 2 (.slice aL L.length cL) L.length (rowP2 L)
theorem Rj.on {c : Cd} {q : Cv} {es : List Ev} {aA : Option Addr} {cA base gV gP : Nat} {L : List (Nat × Nat)} {aL : Option Addr} {cL bL : Nat} {w W W2 : World} (h : Rj c q es aA cA base gV gP L aL cL bL w W) (hb : Below W.heap.size W W2) : Rj c q es aA cA base gV gP L aL cL bL w W2 := ⟨h.lk.on hb, h.jb.on hb, h.vr.on hb, h.pl.on hb, own_on h.ow hb⟩
theorem pair_at2 {W : World} {bL : Nat} {a0 : Option Addr} {cap : Nat} {L : List (Nat × Nat)} (h : W.ownsRow bL 53 2 (.slice a0 L.length cap) L.length (rowP2 L)) {i a b : Nat} (hi : L[i]? = some (a, b)) : ∃ g, a0 = some ⟨g, 0, none⟩ ∧ W.cell? ⟨g, i * 2, none⟩ = some (.int .i64 (a : Int)) ∧ W.cell? ⟨g, i * 2 + 1, none⟩ = some (.int .i64 (b : Int)) := by
  have hlt : i < L.length := (List.getElem?_eq_some_iff.1 hi).1
  obtain ⟨h1, h2⟩ := pairs_at L i a b hi
  have hz := pairs_len L
  rcases h.2 with ⟨_, h0⟩ | ⟨g, cap', cur, e, _⟩
  · omega
  · injection e with e1 e2 e3
    subst e1
    exact ⟨g, rfl, (h.cellAt (i * 2) (by omega)).trans h1, (h.cellAt (i * 2 + 1) (by omega)).trans h2⟩
theorem fr_none {c : Cd} (hm : c.may = true) (n : Nat) (hn : n < c.N) (hr : readsE (c.at n).1 = false) : atI c.fr n = -1 := by
  rw [may_is] at hm
  simp only [Bool.and_eq_true] at hm
  have h1 := hm.2.2.2.2.2.1
  unfold foundB at h1
  rw [Bool.and_eq_true] at h1
  have h2 := all_at _ _ h1.2 n hn
  unfold findB at h2
  rw [if_pos hr] at h2
  simpa using h2
theorem amidF_low (c : Cd) (n : Nat) : ∀ (j k : Nat), (∀ i, k ≤ i → i < k + j → 0 ≤ atI c.od i) → -1 ≤ amidF c n k j
  | 0, k, _ => Int.le_refl _
  | j + 1, k, h => by
    unfold amidF
    split
    · have := h k (by omega) (by omega); omega
    · exact amidF_low c n j (k + 1) (fun i h1 h2 => h i (by omega) (by omega))
theorem partN_ge {c : Cd} (hm : c.may = true) {s : Int} (hs : InN c s) {n : Nat} (hn : n < c.N) (hmem : memE (c.at n).1 = true) : -1 ≤ partN c s n := by
  obtain ⟨p, hp1, hp2, _⟩ := place_of hm n hn hmem
  have hlow : -1 ≤ plN c s := by
    rcases hs with rfl | ⟨h1, h2⟩
    · exact Int.le_refl _
    · obtain ⟨z, rfl⟩ : ∃ z : Nat, s = z := ⟨s.toNat, by omega⟩
      exact plN_low hm z (by omega)
  unfold partN
  split
  · rcases hs with rfl | ⟨h1, _⟩ <;> omega
  · rename_i h
    exact amidF_low c n _ _ (fun i h1 h2 => (may_in hm i (by omega)).1)
set_option maxRecDepth 100000 in
set_option maxHeartbeats 8000000 in
theorem rjudge_no (c : Cd) (q : Cv) (w : World) (hL : Lt c) (hX : ∀ h, h < c.nh → ∀ k, k < c.len h → PairFits (c.ev h k)) (h : CAt c q w) (hm : c.may = false) : Calls Tryz.prog 17 #[cdV c q] w fun e w' => GivesJ w (judgeW c) e w' := by
  have KF := Lib.hid (fun w0 h0 => of_no c q w0 hL hX h0 hm)
  have HJ : Hid (judgeW c = ⟨false, 1, -1, -1⟩) := Lib.hid (by unfold judgeW; rw [hm]; simp)
  have S0 := Lib.hid (Jz.start h)
  obtain ⟨u0, u1, u2, u3⟩ := S0.out.lk.box.facts
  clear h hL hX hm
  go_enter Tryz.func17, Tryz.ntmps17
  go_wp2_with (first
    | (go_at_call 44; (with_reducible refine (KF.out _ S0.out.lk.at_).mono ?_); rintro e' w1 ⟨rfl, hb⟩; have S1 := Lib.hid ((S0.out.on hb).on (box_below _ (.cells #[.slice q.aF c.fs.length q.cF, .slice q.aH c.nh q.cH, .slice q.aR c.fr.length q.cR, .slice q.aO c.od.length q.cO, .slice none 0 0] 76))); clear hb u0 u1 u2 u3)
    | (go_at_call 45; (with_reducible refine (rbad_b _ _ _ _).mono ?_); rintro e8 x8 ⟨rfl, hb⟩; obtain ⟨W9, hs9, hj9, hB9⟩ := ans_store (w := w) (S1.out.jb.on hb) (by omega) (S1.out.on hb).lk.below false 1 (-1) (-1); have D9 := Lib.hid hj9; have B9 := Lib.hid hB9; clear hj9 hB9 hb))
  refine bodyPost_ret (judged_end rfl rfl D9.out) rfl ?_
  exact ⟨by rw [HJ.out], B9.out⟩
set_option maxRecDepth 100000 in
set_option maxHeartbeats 32000000 in
theorem rjudge_yes (c : Cd) (q : Cv) (w : World) (hL : Lt c) (hX : ∀ h, h < c.nh → ∀ k, k < c.len h → PairFits (c.ev h k)) (h : CAt c q w) (hm : c.may = true) : Calls Tryz.prog 17 #[cdV c q] w fun e w' => GivesJ w (judgeW c) e w' := by
  have KF := Lib.hid (fun w0 h0 => of_yes c q w0 hL hX h0 hm)
  have KL := Lib.hid (fun w0 h0 => rplaces_yes c q w0 hL hX h0 hm)
  obtain ⟨L, hLL⟩ : ∃ L, pairsW c = L := ⟨_, rfl⟩
  have HLL := Lib.hid hLL
  have HLen : Hid (L.length ≤ 3600) := Lib.hid (by rw [← hLL]; unfold pairsW; rw [hm, if_pos rfl]; have := pairsOut_len c hL.n c.N 0; have := hL.n; omega)
  have HLM : Hid (∀ a b, (a, b) ∈ L → a < c.N ∧ b < c.N ∧ ordB c (a, b) = decide (plN c (b : Int) < plN c (a : Int))) := Lib.hid (fun a b hab => by
    rw [← hLL] at hab
    have := aheadP_in (rule_ahead ((mem_pairsW hm a b).1 hab))
    exact ⟨by omega, by omega, ordB_gt hm hab⟩)
  have KQ := Lib.hid (fun w0 h0 => (show Calls Tryz.prog 25 #[cdV c q] w0 fun e w' => ∃ a cp base, e = .returned (.slice a L.length cp) ∧ w'.ownsRow base 53 2 (.slice a L.length cp) L.length (rowP2 L) ∧ Below w0.heap.size w0 w' from by
    have := rPairs_any c q w0 hL hX h0
    rw [hLL] at this
    exact this))
  have KS := Lib.hid (fun es aA cA base gP w0 h0 hp n hn => rsource_any c q es aA cA base gP w0 hL hm h0 hp n hn)
  have KP := Lib.hid (fun es aA cA base gP w0 h0 hp n hn h4 l hl v hv => rpair_any c q es aA cA base gP w0 hL hm h0 hp n hn h4 l hl v hv)
  have HJ : Hid (judgeW c = (ordJ c).getD ((valJ c).getD ((parJ c).getD keptJ))) := Lib.hid (by unfold judgeW; rw [hm, if_pos rfl])
  have HM := Lib.hid hm
  have HFR := Lib.hid (may_fr hm)
  have hN60 := hL.n
  have S0 := Lib.hid (Jz.start h)
  obtain ⟨u0, u1, u2, u3⟩ := S0.out.lk.box.facts
  clear h hL hX hm hLL
  go_enter Tryz.func17, Tryz.ntmps17
  go_upto_region 4 with (go_at_call 44; (with_reducible refine (KF.out _ S0.out.lk.at_).mono ?_); rintro e' w1 ⟨es, aA, cA, base, rfl, hvh, hb⟩; have S1 := Lib.hid (S0.out.on hb); have V1 := Lib.hid hvh; clear hb hvh u0 u1 u2 u3)
  have S2 := Lib.hid (S1.out.on (box_below w1 (.cells #[.slice q.aF c.fs.length q.cF, .slice q.aH c.nh q.cH, .slice q.aR c.fr.length q.cR, .slice q.aO c.od.length q.cO, .slice aA c.N cA] 76)))
  have V2 := Lib.hid (Vr.made V1.out S1.out.lk.below)
  go_name_world W2 hW2
  rw [hW2] at S2 V2
  obtain ⟨gV, hgV⟩ : ∃ g, w1.heap.size = g := ⟨_, rfl⟩
  rw [hgV] at V2 ⊢
  clear hW2 hgV S1 V1 KF S0
  obtain ⟨u0, u1, u2, u3⟩ := S2.out.lk.box.facts
  go_upto_region 6 with (first
    | (go_at_call 24; (with_reducible refine (KL.out _ S2.out.lk.at_).mono ?_); rintro e' w3 ⟨gP, rfl, hg, hI, hb⟩; have S3 := Lib.hid (S2.out.on hb); have V3 := Lib.hid (V2.out.on hb); have I3 := Lib.hid hI; clear hI hg hb u0 u1 u2 u3; obtain ⟨u0, u1, u2, u3⟩ := S3.out.lk.box.facts)
    | (go_at_call 25; (with_reducible refine (KQ.out _ S3.out.lk.at_).mono ?_); rintro e' w4 ⟨aL, cL, bL, rfl, hoL, hb⟩; have R4 : Hid (Rj c q es aA cA base gV gP L aL cL bL w w4) := Lib.hid ⟨(S3.out.on hb).lk, (S3.out.on hb).jb, V3.out.on hb, I3.out.on hb, hoL⟩; clear hoL hb u0 u1 u2 u3))
  clear S2 S3 V2 V3 I3 KL KQ
  go_wp2
  go_loopw [7] (fun vi wr => ∃ (i : Nat), i ≤ L.length ∧ vi = .int .i64 i ∧ Hid (∀ j x, j < i → L[j]? = some x → ordB c x = false) ∧ Hid (Rj c q es aA cA base gV gP L aL cL bL w wr)) (fun vi _ => L.length - (intOf vi).toNat)
  case atStart => exact ⟨0, Nat.zero_le _, rfl, Lib.hid (fun j x h => by omega), R4⟩
  case round =>
    obtain ⟨i, hi, rfl, HB, R5⟩ := hrel
    clear R4
    by_cases hlt : i < L.length
    · obtain ⟨⟨x, y⟩, hxy⟩ : ∃ p, L[i]? = some p := ⟨_, List.getElem?_eq_getElem hlt⟩
      have HXY := Lib.hid hxy
      have R6 := Lib.hid (R5.out.on (Below.refl wr.heap.size wr).drew)
      obtain ⟨gL, eL, c0, c1⟩ := pair_at2 R6.out.ow hxy
      subst eL
      obtain ⟨hxN, hyN, hob⟩ := HLM.out x y (List.mem_of_getElem? hxy)
      have px := R6.out.pl.cell x hxN
      have py := R6.out.pl.cell y hyN
      obtain ⟨vx, hvx⟩ : ∃ v, plcL c c.od.length x = v := ⟨_, rfl⟩
      obtain ⟨vy, hvy⟩ : ∃ v, plcL c c.od.length y = v := ⟨_, rfl⟩
      rw [plN_nat, plN_nat, hvx, hvy] at hob
      rw [hvx] at px
      rw [hvy] at py
      have hii : (i : Int) < (L.length : Int) := by omega
      have hi0 : (0 : Int) ≤ (i : Int) := by omega
      have hxx : (x : Int) < (c.N : Int) := by omega
      have hyy : (y : Int) < (c.N : Int) := by omega
      have hx0 : (0 : Int) ≤ (x : Int) := by omega
      have hy0 : (0 : Int) ≤ (y : Int) := by omega
      have hL3 := HLen.out
      clear hxy hvx hvy
      obtain ⟨bo, hbo⟩ : ∃ b, decide (vy < vx) = b := ⟨_, rfl⟩
      have HOB : Hid (ordB c (x, y) = bo) := Lib.hid (by rw [hob]; exact hbo)
      have hbo2 : decide (vx > vy) = bo := hbo
      clear hob
      cases bo with
      | true =>
        have HRES : Hid (judgeW c = ⟨false, 2, x, y⟩) := Lib.hid (by
          rw [HJ.out]
          unfold ordJ
          rw [HLL.out, find_at (ordB c) L i (x, y) HXY.out HOB.out HB.out]; rfl)
        go_upto_region 9 with fail
        refine wp_region_still_tail 16 (by kernel_rfl) (by kernel_rfl) ?_
        simp only [List.take_succ_cons, List.take_zero, List.drop_succ_cons, List.drop_zero]
        iterate 16 (first | (refine wpStill_skip (by as_aux_lemma => kernel_rfl) ?_; simp only [Act.put, List.setIfInBounds_toArray, List.set_cons_succ, List.set_cons_zero]) | still_step)
        refine wpStill_nil ?_
        change wpList _ _ _ _ _ (World.drew _)
        obtain ⟨WD, hWD⟩ : ∃ W, wr.drew = W := ⟨_, rfl⟩
        rw [hWD] at R6 c0 c1 px py ⊢
        clear hWD
        go_upto_region 10 with fail
        have R7 := Lib.hid (R6.out.on (Below.refl _ _).drew)
        obtain ⟨gL2, eL2, d0, d1⟩ := pair_at2 R7.out.ow HXY.out
        injection eL2 with eL2
        injection eL2 with eL2
        subst eL2
        refine wp_region_still_tail 10 (by kernel_rfl) (by kernel_rfl) ?_
        simp only [List.take_succ_cons, List.take_zero, List.drop_succ_cons, List.drop_zero]
        iterate 10 (first | (refine wpStill_skip (by as_aux_lemma => kernel_rfl) ?_; simp only [Act.put, List.setIfInBounds_toArray, List.set_cons_succ, List.set_cons_zero]) | still_step)
        refine wpStill_nil ?_
        change wpList _ _ _ _ _ (World.drew _)
        go_wp2_with (go_at_call 45; (with_reducible refine (rbad_b _ _ _ _).mono ?_); rintro e8 x8 ⟨rfl, hb⟩; obtain ⟨W9, hs9, hj9, hB9⟩ := ans_store (w := w) (R7.out.jb.on hb) (by omega) (R7.out.on hb).lk.below false 2 (x : Int) (y : Int); have D9 := Lib.hid hj9; have B9 := Lib.hid hB9; clear hj9 hB9 hb)
        refine bodyPost_ret (judged_end rfl rfl D9.out) rfl ?_
        exact ⟨by rw [HRES.out], B9.out⟩
      | false =>
        go_upto_region 9 with fail
        refine wp_region_still_tail 16 (by kernel_rfl) (by kernel_rfl) ?_
        simp only [List.take_succ_cons, List.take_zero, List.drop_succ_cons, List.drop_zero]
        iterate 16 (first | (refine wpStill_skip (by as_aux_lemma => kernel_rfl) ?_; simp only [Act.put, List.setIfInBounds_toArray, List.set_cons_succ, List.set_cons_zero]) | still_step)
        refine wpStill_nil ?_
        change wpList _ _ _ _ _ (World.drew _)
        go_wp2
        go_roundw
        case rel => exact ⟨i + 1, by omega, by go_num, Lib.hid (fun j z h1 h2 => by
          by_cases e : j = i
          · subst e; rw [HXY.out] at h2; obtain rfl := Option.some.inj h2; exact HOB.out
          · exact HB.out j z (by omega) h2), R6⟩
        case measure => simp [intOf]; omega
    · obtain rfl : i = L.length := by omega
      have HO : Hid (judgeW c = (valJ c).getD ((parJ c).getD keptJ)) := Lib.hid (by
        rw [HJ.out]
        unfold ordJ
        rw [HLL.out, find_none_at (ordB c) L HB.out]; rfl)
      clear HB
      go_wp2
      go_loopw [8] (fun vi wr => ∃ (n : Nat), n ≤ c.N ∧ vi = .int .i64 n ∧ Hid (∀ j, j < n → valB c j = false) ∧ Hid (Rj c q es aA cA base gV gP L aL cL bL w wr)) (fun vi _ => c.N - (intOf vi).toNat)
      case atStart => exact ⟨0, Nat.zero_le _, rfl, Lib.hid (fun j h => by omega), R5⟩
      case round =>
        obtain ⟨n, hn, rfl, HBV, R6⟩ := hrel
        clear R5
        obtain ⟨y0, y1, y2, y3, y4⟩ := R6.out.vr.facts
        by_cases hlt : n < c.N
        · obtain ⟨gE, cap, ev, _, hra⟩ := R6.out.vr.vh.ra.rall (by omega)
          injection ev with ev1 ev2 ev3
          subst ev1
          clear ev2 ev3
          have HA := Lib.hid hra
          clear hra
          have hni : (n : Int) < (c.N : Int) := by omega
          have hn0 : (0 : Int) ≤ (n : Int) := by omega
          have e4 : IntKind.i64.wrap ((n : Int) + 1) = ((n + 1 : Nat) : Int) := by rw [IntWalk.i64_in _ (by omega)]; omega
          obtain ⟨X, hX⟩ : ∃ X, Hid (evAtN es n = X) := ⟨_, Lib.hid rfl⟩
          have XL : Hid (∃ x y z, X = (c.at n).1.lists x y z) := Lib.hid (by rw [← hX.out]; exact HA.out.like n hlt)
          obtain ⟨rX, hrX⟩ : ∃ r, Hid (readsE X = r) := ⟨_, Lib.hid rfl⟩
          have HRX : Hid (readsE (c.at n).1 = rX) := Lib.hid (by obtain ⟨_, _, _, ex⟩ := XL.out; rw [← hrX.out, ex]; rfl)
          have KRX := Lib.hid (fun w0 => rReads_b X rX hrX.out w0)
          have clx : (LoadE (.pointer (some ⟨gE, n * 14, none⟩))).run Tryz.prog wr = .ok X.V wr := by rw [← hX.out]; exact load0 HA.out n hlt
          cases rX with
          | false =>
            have HNX : Hid (∀ j, j < n + 1 → valB c j = false) := Lib.hid (fun j hj => by
              by_cases e : j = n
              · rw [e]; unfold valB; rw [fr_none HM.out n hlt HRX.out, src_none HM.out n hlt HRX.out]; simp
              · exact HBV.out j (by omega))
            go_wp2_with (go_at_call 28; (with_reducible refine (KRX.out _).mono ?_); rintro e' w9 ⟨rfl, hb⟩; have R7 := Lib.hid (R6.out.on hb); clear hb clx y0 y1 y2 y3 y4)
            go_roundw
            case rel => exact ⟨n + 1, by omega, by go_num, HNX, R7⟩
            case measure => simp [intOf]; omega
          | true =>
            obtain ⟨bR, oR, hq, hbl, hcell⟩ : ∃ b off, q.aR = some ⟨b, off, none⟩ ∧ b < w.heap.size ∧ ∀ j, j < c.fr.length → w.cell? ⟨b, off + j, none⟩ = some (.int .i64 (atI c.fr j)) := by
              rcases R6.out.lk.here.from_ with ⟨_, h1⟩ | ⟨b, off, c2, e, _, _, h3, h4⟩
              · have := HFR.out; rw [h1] at this; simp at this; omega
              · injection e with e1 e2 e3
                exact ⟨b, off, e1, h3, h4⟩
            obtain ⟨f, hf⟩ : ∃ f, Hid (atI c.fr n = f) := ⟨_, Lib.hid rfl⟩
            obtain ⟨r, hr⟩ : ∃ r, Hid (srcW c n = r) := ⟨_, Lib.hid rfl⟩
            have FX : Hid (∀ W, Rj c q es (some ⟨gE, 0, none⟩) cA base gV gP L aL cL bL w W → W.cell? ⟨w.heap.size, 2, none⟩ = some (.slice (some ⟨bR, oR, none⟩) c.fr.length q.cR) ∧ W.cell? ⟨bR, oR + n, none⟩ = some (.int .i64 f)) := Lib.hid (fun W hR => by
              have h1 := hR.lk.box.facts.2.2.1
              rw [hq] at h1
              have h2 := (hR.lk.below.cell (p := ⟨bR, oR + n, none⟩) hbl).trans (hcell n (by rw [HFR.out]; exact hlt))
              rw [hf.out] at h2
              exact ⟨h1, h2⟩)
            have hfi : (n : Int) < (c.fr.length : Int) := by rw [HFR.out]; exact hni
            have KS1 := Lib.hid (fun w0 h0 hp => KS.out es (some ⟨gE, 0, none⟩) cA base gP w0 h0 hp n hlt r (by rw [srcR_src HM.out n hlt HRX.out]; exact hr.out))
            clear hq hbl hcell
            go_upto_region 16 with (first
              | (go_at_call 28; (with_reducible refine (KRX.out _).mono ?_); rintro e' w9 ⟨rfl, hb⟩; have R7 := Lib.hid (R6.out.on hb); clear hb clx y0 y1 y2 y3 y4; obtain ⟨y0, y1, y2, y3, y4⟩ := R7.out.vr.facts)
              | (go_at_call 46; (with_reducible refine (KS1.out _ R7.out.vr.vh R7.out.pl).mono ?_); rintro e' w10 ⟨rfl, hb⟩; have R8 := Lib.hid (R7.out.on hb); clear hb y0 y1 y2 y3 y4))
            obtain ⟨v2, cf⟩ := FX.out _ R8.out
            obtain ⟨bv, hbv⟩ : ∃ b, (r != f) = b := ⟨_, rfl⟩
            have HBN : Hid (valB c n = bv) := Lib.hid (by
              unfold valB
              rw [hf.out, hr.out, ← hbv]
              by_cases e : f = r
              · rw [e]; simp
              · have e2 : ¬ r = f := fun h => e h.symm
                simp [e, e2])
            cases bv with
            | true =>
              have HRES : Hid (judgeW c = ⟨false, 3, n, r⟩) := Lib.hid (by
                rw [HO.out]
                unfold valJ
                rw [find_range hlt HBN.out HBV.out]
                show (⟨false, 3, n, srcW c n⟩ : Jd) = _
                rw [hr.out])
              go_wp2_with (go_at_call 45; (with_reducible refine (rbad_b _ _ _ _).mono ?_); rintro e8 x8 ⟨rfl, hb⟩; obtain ⟨W9, hs9, hj9, hB9⟩ := ans_store (w := w) (R8.out.jb.on hb) (by omega) (R8.out.on hb).lk.below false 3 (n : Int) r; have D9 := Lib.hid hj9; have B9 := Lib.hid hB9; clear hj9 hB9 hb)
              refine bodyPost_ret (judged_end rfl rfl D9.out) rfl ?_
              exact ⟨by rw [HRES.out], B9.out⟩
            | false =>
              have HNX : Hid (∀ j, j < n + 1 → valB c j = false) := Lib.hid (fun j hj => by
                by_cases e : j = n
                · rw [e]; exact HBN.out
                · exact HBV.out j (by omega))
              go_wp2
              go_roundw
              case rel => exact ⟨n + 1, by omega, by go_num, HNX, R8⟩
              case measure => simp [intOf]; omega
        · obtain rfl : n = c.N := by omega
          have HV : Hid (judgeW c = (parJ c).getD keptJ) := Lib.hid (by
            rw [HO.out]
            unfold valJ
            rw [find_range_none HBV.out]; rfl)
          clear HBV hlt hn
          go_wp2
          clear y0 y1 y2 y3 y4
          go_loopw [10] (fun vi wr => ∃ (n : Nat), n ≤ c.N ∧ vi = .int .i64 n ∧ Hid (∀ j, j < n → parB c j = false) ∧ Hid (Rj c q es aA cA base gV gP L aL cL bL w wr)) (fun vi _ => c.N - (intOf vi).toNat)
          case atStart => exact ⟨0, Nat.zero_le _, rfl, Lib.hid (fun j h => by omega), R6⟩
          case round =>
            clear R6
            obtain ⟨n, hn, rfl, HBV, R6⟩ := hrel
            obtain ⟨y0, y1, y2, y3, y4⟩ := R6.out.vr.facts
            by_cases hlt : n < c.N
            · obtain ⟨gE, cap, ev, _, hra⟩ := R6.out.vr.vh.ra.rall (by omega)
              injection ev with ev1 ev2 ev3
              subst ev1
              clear ev2 ev3
              have HA := Lib.hid hra
              clear hra
              have hni : (n : Int) < (c.N : Int) := by omega
              have hn0 : (0 : Int) ≤ (n : Int) := by omega
              have e4 : IntKind.i64.wrap ((n : Int) + 1) = ((n + 1 : Nat) : Int) := by rw [IntWalk.i64_in _ (by omega)]; omega
              obtain ⟨X, hX⟩ : ∃ X, Hid (evAtN es n = X) := ⟨_, Lib.hid rfl⟩
              have XL : Hid (∃ x y z, X = (c.at n).1.lists x y z) := Lib.hid (by rw [← hX.out]; exact HA.out.like n hlt)
              have HKX : Hid (X.kind = (c.at n).1.kind) := Lib.hid (by obtain ⟨_, _, _, ex⟩ := XL.out; rw [ex])
              have ck : wr.cell? ⟨gE, n * 14 + 2, none⟩ = some (.int .i64 X.kind) := by
                have := HA.out.at_ n hlt 2 _ rfl
                rw [hX.out, Nat.zero_add] at this
                exact this
              by_cases k4 : X.kind = 4
              · have n4 : (X.kind != 4) = false := by simp [k4]
                have h4 : (c.at n).1.kind = 4 := by rw [← HKX.out]; exact k4
                have HMEM : memE (c.at n).1 = true := by unfold memE; rw [h4]; decide
                obtain ⟨l, j, m, hla, hlr, _⟩ := sc_pair HM.out n hlt h4
                obtain ⟨v, hv⟩ : ∃ v, Hid (partN c (atI c.fr l) n = v) := ⟨_, Lib.hid rfl⟩
                have hvlow : -1 ≤ v := by rw [← hv.out]; exact partN_ge HM.out (fr_in HM.out l (by omega)) hlt HMEM
                have KP1 := Lib.hid (fun w0 h0 hp => KP.out es (some ⟨gE, 0, none⟩) cA base gP w0 h0 hp n hlt h4 l hlr v hv.out)
                have HPB : Hid (parB c n = decide (v ≠ -1)) := Lib.hid (by unfold parB; rw [h4, hlr, Int.toNat_natCast, hv.out]; rfl)
                have HLR := Lib.hid hlr
                clear h4 HMEM hlr k4
                by_cases hv0 : v = -1
                · subst hv0
                  have HNX : Hid (∀ j, j < n + 1 → parB c j = false) := Lib.hid (fun j hj => by
                    by_cases e : j = n
                    · rw [e]; exact HPB.out
                    · exact HBV.out j (by omega))
                  go_wp2_with (go_at_call 47; (with_reducible refine (KP1.out _ R6.out.vr.vh R6.out.pl).mono ?_); rintro e' w9 ⟨rfl, hb⟩; have R7 := Lib.hid (R6.out.on hb); clear hb ck y0 y1 y2 y3 y4)
                  go_roundw
                  case rel => exact ⟨n + 1, by omega, by go_num, HNX, R7⟩
                  case measure => simp [intOf]; omega
                · have dv : decide (v ≥ 0) = true := by simp; omega
                  have dv2 : decide (0 ≤ v) = true := by simp; omega
                  have HRES : Hid (judgeW c = ⟨false, 4, l, v⟩) := Lib.hid (by
                    rw [HV.out]
                    unfold parJ
                    rw [find_range hlt (by rw [HPB.out]; simpa using hv0) HBV.out]
                    show (⟨false, 4, lrN c n, partN c (atI c.fr (lrN c n).toNat) n⟩ : Jd) = _
                    rw [HLR.out, Int.toNat_natCast, hv.out])
                  clear hv0
                  go_wp2_with (first
                    | (go_at_call 47; (with_reducible refine (KP1.out _ R6.out.vr.vh R6.out.pl).mono ?_); rintro e' w9 ⟨rfl, hb⟩; have R7 := Lib.hid (R6.out.on hb); clear hb ck y0 y1 y2 y3 y4)
                    | (go_at_call 45; (with_reducible refine (rbad_b _ _ _ _).mono ?_); rintro e8 x8 ⟨rfl, hb⟩; obtain ⟨W9, hs9, hj9, hB9⟩ := ans_store (w := w) (R7.out.jb.on hb) (by omega) (R7.out.on hb).lk.below false 4 (l : Int) v; have D9 := Lib.hid hj9; have B9 := Lib.hid hB9; clear hj9 hB9 hb))
                  refine bodyPost_ret (judged_end rfl rfl D9.out) rfl ?_
                  exact ⟨by rw [HRES.out], B9.out⟩
              · have n4 : (X.kind != 4) = true := by simpa using k4
                have HNX : Hid (∀ j, j < n + 1 → parB c j = false) := Lib.hid (fun j hj => by
                  by_cases e : j = n
                  · rw [e]; unfold parB; rw [decide_eq_false (by rw [← HKX.out]; exact k4)]; rfl
                  · exact HBV.out j (by omega))
                clear k4
                go_wp2
                go_roundw
                case rel => exact ⟨n + 1, by omega, by go_num, HNX, R6⟩
                case measure => simp [intOf]; omega
            · obtain rfl : n = c.N := by omega
              have HRES : Hid (judgeW c = keptJ) := Lib.hid (by
                rw [HV.out]
                unfold parJ
                rw [find_range_none HBV.out]; rfl)
              obtain ⟨W9, hs9, hj9, hB9⟩ := ans_store (w := w) R6.out.jb (by omega) R6.out.lk.below true 0 (-1) (-1)
              have D9 := Lib.hid hj9
              have B9 := Lib.hid hB9
              clear hj9 hB9
              go_wp2
              refine bodyPost_ret (judged_end rfl rfl D9.out) rfl ?_
              exact ⟨by rw [HRES.out]; rfl, B9.out⟩

theorem rjudge_any (c : Cd) (q : Cv) (w : World) (hL : Lt c) (hX : ∀ h, h < c.nh → ∀ k, k < c.len h → PairFits (c.ev h k)) (h : CAt c q w) : Calls Tryz.prog 17 #[cdV c q] w fun e w' => GivesJ w (judgeW c) e w' := by
  cases hm : c.may with
  | true => exact rjudge_yes c q w hL hX h hm
  | false => exact rjudge_no c q w hL hX h hm
set_option maxRecDepth 100000 in
set_option maxHeartbeats 4000000 in
theorem rok_any (c : Cd) (q : Cv) (w : World) (hL : Lt c) (hX : ∀ h, h < c.nh → ∀ k, k < c.len h → PairFits (c.ev h k)) (h : CAt c q w) (r : Bool) (hr : (judgeW c).ok = r) : Calls Tryz.prog 18 #[cdV c q] w fun e w' => SaysB w r e w' := by
  obtain ⟨o, y, a, b, hj⟩ : ∃ o y a b, judgeW c = ⟨o, y, a, b⟩ := ⟨_, _, _, _, rfl⟩
  have hro : r = o := by rw [← hr, hj]
  subst hro
  have KJ := Lib.hid (fun w0 h0 => (show Calls Tryz.prog 17 #[cdV c q] w0 fun e w' => AnsIs r y a b w0 e w' from by
    have := rjudge_any c q w0 hL hX h0
    rw [hj] at this
    exact this))
  have S0 := Lib.hid (Lk.start h)
  obtain ⟨u0, u1, u2, u3⟩ := S0.out.box.facts
  have hfd : ∀ W : World, (Instr.field 37 (.agg #[.bool r, .int .i64 y, .int .i64 a, .int .i64 b]) 0).run Tryz.prog W = .ok (.bool r) W := fun W => by kernel_rfl
  clear h hL hr hj hX
  go_enter Tryz.func18, Tryz.ntmps18
  go_wp2_with (go_at_call 17; (with_reducible refine (KJ.out _ S0.out.at_).mono ?_); rintro e' w1 ⟨rfl, hb⟩; have S1 := Lib.hid (S0.out.on hb); clear hb u0 u1 u2 u3)
  go_ret
  exact ⟨rfl, S1.out.below⟩
end Go.Proofs.YtcbfokbdiefdeaaGreatDoor
