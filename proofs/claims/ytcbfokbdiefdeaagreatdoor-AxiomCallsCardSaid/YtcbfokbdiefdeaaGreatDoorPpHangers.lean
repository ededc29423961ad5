/-
  Proved here: findHangers lays the first one that hangs on each event by its address; nothing else that was there is changed. Condition: a view of at most 60 events of a candidate that may be.
  (With it: Proved here: findFences lays, for each event, the last fences ahead of it at which it waits; nothing else that was there is changed. Condition: a view of at most 60 events.)
-/
import Derived.Test.YtcbfokbdiefdeaaGreatDoorRf09Pure
namespace Go.Proofs.YtcbfokbdiefdeaaGreatDoor
set_option linter.unusedVariables false
set_option linter.unusedSimpArgs false
open Go.RowKit Go.Maps
attribute [local go_sem ↓] fold_E fold_SE
attribute [local irreducible] wpStill

/-- the last fences, in four rows of four -/
def fCells (F : Nat → Nat → Int) : List Value := (List.range 16).map fun i => .int .i64 (F (i / 4) (i % 4))
theorem fCells_at (F : Nat → Nat → Int) (s q : Nat) (hs : s < 4) (hq : q < 4) : (fCells F)[s * 4 + q]? = some (.int .i64 (F s q)) := by
  unfold fCells
  rw [List.getElem?_map, List.getElem?_range (by omega)]
  simp only [Option.map_some]
  rw [show (s * 4 + q) / 4 = s by omega, show (s * 4 + q) % 4 = q by omega]
def FcAt (F : Nat → Nat → Int) (M : Nat) (w : World) : Prop := w.heap[M]? = some (.cells (fCells F).toArray 154 (0, 0))
theorem FcAt.lt {F : Nat → Nat → Int} {M : Nat} {w : World} (h : FcAt F M w) : M < w.heap.size := (Array.getElem?_eq_some_iff.1 h).1
theorem FcAt.on {F : Nat → Nat → Int} {M : Nat} {w w2 : World} (h : FcAt F M w) (hb : Below w.heap.size w w2) : FcAt F M w2 := (hb.block M h.lt).trans h
theorem FcAt.keep {F : Nat → Nat → Int} {M : Nat} {w w2 : World} (h : FcAt F M w) (hb : w2.heap[M]? = w.heap[M]?) : FcAt F M w2 := hb.trans h
theorem FcAt.cell {F : Nat → Nat → Int} {M : Nat} {w : World} (h : FcAt F M w) (s q : Nat) (hs : s < 4) (hq : q < 4) : w.cell? ⟨M, s * 4 + q, none⟩ = some (.int .i64 (F s q)) := by
  rw [cell_of_row w M (s * 4 + q) _ _ _ h]
  simpa using fCells_at F s q hs hq
theorem FcAt.free {F : Nat → Nat → Int} {M : Nat} {w : World} (h : FcAt F M w) (i : Nat) : w.frozen? ⟨M, i, none⟩ = false := frozen_of_row w M i _ _ h
theorem FcAt.ext {F G : Nat → Nat → Int} {M : Nat} {w : World} (h : FcAt F M w) (he : ∀ s q, s < 4 → q < 4 → F s q = G s q) : FcAt G M w := by
  unfold FcAt at h ⊢
  rw [h]
  congr 3
  unfold fCells
  apply List.map_congr_left
  intro i hi
  rw [List.mem_range] at hi
  rw [he (i / 4) (i % 4) (by omega) (by omega)]
theorem FcAt.set {F : Nat → Nat → Int} {M : Nat} {w : World} (h : FcAt F M w) (s q : Nat) (hs : s < 4) (hq : q < 4) (x : Int) : FcAt (updK F s q x) M (w.setCell ⟨M, s * 4 + q, none⟩ (.int .i64 x)) := by
  have := set_at w M (s * 4 + q) (.int .i64 x) _ _ _ h
  unfold FcAt
  rw [this]
  congr 2
  have hl : (fCells F).set (s * 4 + q) (.int .i64 x) = fCells (updK F s q x) := by
    apply List.ext_getElem?
    intro i
    rw [List.getElem?_set]
    by_cases hi : i < 16
    · have e1 : (fCells F)[i]? = some (.int .i64 (F (i / 4) (i % 4))) := by unfold fCells; rw [List.getElem?_map, List.getElem?_range hi]; rfl
      have e2 : (fCells (updK F s q x))[i]? = some (.int .i64 (updK F s q x (i / 4) (i % 4))) := by unfold fCells; rw [List.getElem?_map, List.getElem?_range hi]; rfl
      rw [e1, e2]
      unfold updK
      by_cases hh : s * 4 + q = i
      · subst hh
        rw [if_pos rfl, if_pos (by simp [fCells]; omega), if_pos ⟨by omega, by omega⟩]
      · rw [if_neg hh, if_neg (by omega)]
    · have e1 : (fCells F)[i]? = none := List.getElem?_eq_none (by simp [fCells]; omega)
      have e2 : (fCells (updK F s q x))[i]? = none := List.getElem?_eq_none (by simp [fCells]; omega)
      rw [e1, e2]
      by_cases hh : s * 4 + q = i
      · omega
      · rw [if_neg hh]
  rw [← hl]
  simp
theorem FcAt.start (w : World) : FcAt (fun _ _ => 0) w.heap.size (w.alloc (.cells #[.int .i64 0, .int .i64 0, .int .i64 0, .int .i64 0, .int .i64 0, .int .i64 0, .int .i64 0, .int .i64 0, .int .i64 0, .int .i64 0, .int .i64 0, .int .i64 0, .int .i64 0, .int .i64 0, .int .i64 0, .int .i64 0] 154)) := Array.getElem?_push_size
/-- so many changed -/
def mixF (F G : Nat → Nat → Int) (s k : Nat) : Nat → Nat → Int := fun a b => if a < s ∨ (a = s ∧ b < k) then G a b else F a b
theorem mixF_zero (F G : Nat → Nat → Int) : mixF F G 0 0 = F := by funext a b; unfold mixF; rw [if_neg (by omega)]
theorem mixF_row (F G : Nat → Nat → Int) (s a b : Nat) (hb : b < 4) : mixF F G s 4 a b = mixF F G (s + 1) 0 a b := by
  unfold mixF
  by_cases h : a < s ∨ (a = s ∧ b < 4)
  · rw [if_pos h, if_pos (by omega)]
  · rw [if_neg h, if_neg (by omega)]
theorem mixF_all (F G : Nat → Nat → Int) (a b : Nat) (ha : a < 4) : mixF F G 4 0 a b = G a b := by unfold mixF; rw [if_pos (by omega)]
theorem mixF_put (F G : Nat → Nat → Int) (s k : Nat) (x : Int) (hx : G s k = x) : updK (mixF F G s k) s k x = mixF F G s (k + 1) := by
  funext a b
  unfold updK mixF
  by_cases h : a = s ∧ b = k
  · obtain ⟨rfl, rfl⟩ := h
    rw [if_pos ⟨rfl, rfl⟩, if_pos (by omega), hx]
  · rw [if_neg h]
    by_cases h2 : a < s ∨ (a = s ∧ b < k)
    · rw [if_pos h2, if_pos (by omega)]
    · rw [if_neg h2, if_neg (by omega)]
theorem mixF_same (F G : Nat → Nat → Int) (s k : Nat) (hx : G s k = F s k) : mixF F G s k = mixF F G s (k + 1) := by
  funext a b
  unfold mixF
  by_cases h2 : a < s ∨ (a = s ∧ b < k)
  · rw [if_pos h2, if_pos (by omega)]
  · rw [if_neg h2]
    by_cases h3 : a = s ∧ b = k
    · obtain ⟨rfl, rfl⟩ := h3
      rw [if_pos (by omega), hx]
    · rw [if_neg (by omega)]
def fnF (c : Cd) (n : Nat) : Nat → Nat → Int := fun s q => ((fnL c s q n : Nat) : Int)
theorem fnF_mem (c : Cd) (n : Nat) (h : sideE (c.at n).1 ≠ 0) : fnF c (n + 1) = fnF c n := by
  funext s q
  unfold fnF
  show ((if _ then n else fnL c s q n : Nat) : Int) = _
  rw [if_neg (by simp [h])]
theorem fnF_fence (c : Cd) (n s q : Nat) (h : sideE (c.at n).1 = 0) : fnF c (n + 1) s q = if meetS (c.at n).1.succ s = true ∧ meetS (c.at n).1.pred q = true then (n : Int) else fnF c n s q := by
  unfold fnF
  show ((if _ then n else fnL c s q n : Nat) : Int) = _
  simp only [h, true_and]
  split <;> rfl
/-- four more of what is known -/
def fenK (c : Cd) (n : Nat) (K : Nat → Nat → Int) : Nat → Nat → Int := fun m j => if 2 ≤ j ∧ j < 6 ∧ m < n then fnF c m (sideE (c.at m).1) (j - 2) else K m j
theorem fenK_zero (c : Cd) (K : Nat → Nat → Int) : fenK c 0 K = K := by funext m j; unfold fenK; rw [if_neg (by omega)]
theorem fenK_next (c : Cd) (n : Nat) (K : Nat → Nat → Int) (s : Nat) (hs : sideE (c.at n).1 = s) : updK (updK (updK (updK (fenK c n K) n 2 (fnF c n s 0)) n 3 (fnF c n s 1)) n 4 (fnF c n s 2)) n 5 (fnF c n s 3) = fenK c (n + 1) K := by
  subst hs
  funext m j
  unfold updK fenK
  by_cases h5 : m = n ∧ j = 5
  · obtain ⟨rfl, rfl⟩ := h5; simp
  by_cases h4 : m = n ∧ j = 4
  · obtain ⟨rfl, rfl⟩ := h4; simp
  by_cases h3 : m = n ∧ j = 3
  · obtain ⟨rfl, rfl⟩ := h3; simp
  by_cases h2 : m = n ∧ j = 2
  · obtain ⟨rfl, rfl⟩ := h2; simp
  rw [if_neg h5, if_neg h4, if_neg h3, if_neg h2]
  by_cases h : 2 ≤ j ∧ j < 6 ∧ m < n
  · rw [if_pos h, if_pos ⟨h.1, h.2.1, by omega⟩]
  · rw [if_neg h, if_neg (by omega)]
theorem Vw.other {c : Cd} {K : Nat → Nat → Int} {p : Vp} {w w2 : World} {M : Nat} (h : Vw c K p w) (hb : ∀ j, j ≠ M → w2.heap[j]? = w.heap[j]?) (hw : Below M w w2) (h1 : M ≠ p.g) (h2 : M ≠ p.gk) (h3 : p.W0.heap.size ≤ M) : Vw c K p w2 :=
  ⟨(hb _ (Ne.symm h1)).trans h.box, (hb _ (Ne.symm h2)).trans h.kn, h.bel.trans (hw.mono h3), h.hk, h.hg, h.ne, h.hA, h.ev0, h.rd0, h.lt0, h.fr0⟩
set_option maxRecDepth 100000 in
set_option maxHeartbeats 16000000 in
theorem findFences_v (c : Cd) (p : Vp) (w : World) (K : Nat → Nat → Int) (hK : ∀ n, n < c.N → K n 0 = ((sideE (c.at n).1 : Nat) : Int)) (h : Vw c K p w) (hN : c.N ≤ 60) (hp : ∀ n, n < c.N → (0 ≤ (c.at n).1.pred ∧ (c.at n).1.pred < 16) ∧ (0 ≤ (c.at n).1.succ ∧ (c.at n).1.succ < 16)) :
    Calls Tryz.prog 98 #[.pointer (some ⟨p.g, 0, none⟩)] w fun e w' => VwIs c (fenK c c.N K) p e w' := by
  have HP := Lib.hid hp
  have HK := Lib.hid hK
  rw [← fenK_zero c K] at h
  have HH0 := Lib.hid (Array.getElem?_eq_some_iff.1 h.box).1
  have HH1 := Lib.hid (Array.getElem?_eq_some_iff.1 h.kn).1
  have HH2 := Lib.hid h.bel.size
  have H := Lib.hid (h.on (box_below w (.cells #[.int .i64 0, .int .i64 0, .int .i64 0, .int .i64 0, .int .i64 0, .int .i64 0, .int .i64 0, .int .i64 0, .int .i64 0, .int .i64 0, .int .i64 0, .int .i64 0, .int .i64 0, .int .i64 0, .int .i64 0, .int .i64 0] 154)))
  have F0 := Lib.hid (FcAt.start w)
  clear h hK hp
  obtain ⟨b0, b1, b2⟩ := H.out.three
  go_enter Tryz.func98, Tryz.ntmps98
  go_wp2
  clear b0 b1 b2
  go_loopw [11] (fun vi wr => ∃ (n : Nat), n ≤ c.N ∧ vi = .int .i64 n ∧ Hid (FcAt (fnF c n) w.heap.size wr) ∧ Hid (Vw c (fenK c n K) p wr)) (fun vi _ => c.N - (intOf vi).toNat)
  case atStart => exact ⟨0, Nat.zero_le _, rfl, Lib.hid F0.out, H⟩
  case round =>
    obtain ⟨n, hn, rfl, HF, HV⟩ := hrel
    by_cases hlt : n < c.N
    · obtain ⟨b0, b1, b2⟩ := HV.out.three
      have n0 : (0 : Int) ≤ (n : Int) := by omega
      have n1 : (n : Int) < (c.N : Int) := by omega
      obtain ⟨s, hs⟩ : ∃ s, Hid (sideE (c.at n).1 = s) := ⟨_, Lib.hid rfl⟩
      have hs4 : s < 4 := by rw [← hs.out]; exact sideE_lt _
      have k0 := HV.out.k n 0 hlt (by omega)
      have hk0 : fenK c n K n 0 = (s : Int) := by unfold fenK; rw [if_neg (by omega), HK.out n hlt, hs.out]
      rw [hk0] at k0
      clear hk0
      have k0 : wr.cell? ⟨p.gk, n * 7, none⟩ = some (.int .i64 (s : Int)) := k0
      have f0 : wr.cell? ⟨w.heap.size, s * 4, none⟩ = some (.int .i64 (fnF c n s 0)) := HF.out.cell s 0 hs4 (by omega)
      have f1 := HF.out.cell s 1 hs4 (by omega)
      have f2 := HF.out.cell s 2 hs4 (by omega)
      have f3 := HF.out.cell s 3 hs4 (by omega)
      have k2 := HV.out.k n 2 hlt (by omega)
      have k3 := HV.out.k n 3 hlt (by omega)
      have k4 := HV.out.k n 4 hlt (by omega)
      have k5 := HV.out.k n 5 hlt (by omega)
      have z2 := HV.out.free (n * 7 + 2)
      have z3 := HV.out.free (n * 7 + 3)
      have z4 := HV.out.free (n * 7 + 4)
      have z5 := HV.out.free (n * 7 + 5)
      have s0 : (0 : Int) ≤ (s : Int) := by omega
      have s1 : (s : Int) < 4 := by omega
      go_upto_region 4 with fail
      refine wp_region_still_tail 17 (by kernel_rfl) (by kernel_rfl) ?_
      simp only [List.take_succ_cons, List.take_zero, List.drop_succ_cons, List.drop_zero]
      iterate 17 still_step
      refine wpStill_nil ?_
      change wpList _ _ _ _ _ (World.drew _)
      go_upto_region 5 with fail
      go_name_world W1 hW1
      have hMk : w.heap.size ≠ p.gk := by have := HH1.out; omega
      have hMg : w.heap.size ≠ p.g := by have := HH0.out; omega
      have V1 : Hid (Vw c (fenK c (n + 1) K) p W1) := Lib.hid (by rw [← hW1, ← fenK_next c n K s hs.out]; exact ((((HV.out.set n 2 hlt (by omega) _).set n 3 hlt (by omega) _).set n 4 hlt (by omega) _).set n 5 hlt (by omega) _).on (Below.refl _ _).drew)
      have F1 : Hid (FcAt (fnF c n) w.heap.size W1) := Lib.hid (HF.out.keep (by rw [← hW1]; exact (Below.heap_setCell _ ⟨p.gk, n * 7 + 2 + 3, none⟩ _ _ hMk).trans ((Below.heap_setCell _ ⟨p.gk, n * 7 + 2 + 2, none⟩ _ _ hMk).trans ((Below.heap_setCell _ ⟨p.gk, n * 7 + 2 + 1, none⟩ _ _ hMk).trans (Below.heap_setCell _ ⟨p.gk, n * 7 + 2, none⟩ _ _ hMk)))))
      clear hW1 k0 f0 f1 f2 f3 k2 k3 k4 k5 z2 z3 z4 z5 b0 b1 b2 HF HV
      have hs0 : Hid (fenK c (n + 1) K n 0 = ((sideE (c.at n).1 : Nat) : Int)) := Lib.hid (by unfold fenK; rw [if_neg (by omega)]; exact HK.out n hlt)
      by_cases hz : s = 0
      rotate_left
      · have KM := Lib.hid (fun w0 h0 => memory_v c (fenK c (n + 1) K) p w0 h0 n hlt hs0.out true (by rw [hs.out]; simpa using hz))
        have hm := Lib.hid (fnF_mem c n (by rw [hs.out]; exact hz))
        clear hz
        go_wp2_with (go_at_call 117; (with_reducible refine (KM.out _ V1.out).mono ?_); rintro e' w2 ⟨rfl, hb⟩; have V2 := Lib.hid (V1.out.on hb); have F2 := Lib.hid (F1.out.on hb); clear hb)
        go_roundw
        case rel => exact ⟨n + 1, by omega, by go_num, Lib.hid (by rw [hm.out]; exact F2.out), V2⟩
        case measure => simp [intOf]; omega
      · have KM := Lib.hid (fun w0 h0 => memory_v c (fenK c (n + 1) K) p w0 h0 n hlt hs0.out false (by rw [hs.out]; simpa using hz))
        have hs2 : Hid (sideE (c.at n).1 = 0) := Lib.hid (by rw [hs.out]; exact hz)
        have hAAh := Lib.hid (V1.out.hA (by omega))
        have hps := HP.out n hlt
        obtain ⟨xs, hxs⟩ : ∃ x, Hid ((c.at n).1.succ = x) := ⟨_, Lib.hid rfl⟩
        obtain ⟨xp, hxp⟩ : ∃ x, Hid ((c.at n).1.pred = x) := ⟨_, Lib.hid rfl⟩
        rw [hxs.out, hxp.out] at hps
        have HPS := Lib.hid hps
        have HG := Lib.hid (fun a b => fnF_fence c n a b hs2.out)
        rw [hxs.out, hxp.out] at HG
        have HWE := Lib.hid (fun (W : World) (hW : Vw c (fenK c (n + 1) K) p W) => (⟨by have := hW.ev n hlt 9 _ rfl; rw [hxs.out] at this; exact this, by have := hW.ev n hlt 8 _ rfl; rw [hxp.out] at this; exact this⟩ : W.cell? ⟨p.b, p.off + n * 14 + 9, none⟩ = some (.int .i64 xs) ∧ W.cell? ⟨p.b, p.off + n * 14 + 8, none⟩ = some (.int .i64 xp)))
        clear hz hps s0 s1 hs4
        go_wp2_with (go_at_call 117; (with_reducible refine (KM.out _ V1.out).mono ?_); rintro e' w2 ⟨rfl, hb⟩; have V2 := Lib.hid (V1.out.on hb); have F2 := Lib.hid (F1.out.on hb); clear hb)
        go_loopw [34] (fun va wa => ∃ (a : Nat), a ≤ 4 ∧ va = .int .i64 a ∧ Hid (FcAt (mixF (fnF c n) (fnF c (n + 1)) a 0) w.heap.size wa) ∧ Hid (Vw c (fenK c (n + 1) K) p wa)) (fun va _ => 4 - (intOf va).toNat)
        case atStart => exact ⟨0, by omega, rfl, Lib.hid (by rw [mixF_zero]; exact F2.out), V2⟩
        case round =>
          obtain ⟨a, ha, rfl, FA, VA⟩ := hrel
          by_cases ha4 : a < 4
          · have a0 : (0 : Int) ≤ (a : Int) := by omega
            have a1 : (a : Int) < 4 := by omega
            go_wp2
            go_loopw [37] (fun vb wb => ∃ (b : Nat), b ≤ 4 ∧ vb = .int .i64 b ∧ Hid (FcAt (mixF (fnF c n) (fnF c (n + 1)) a b) w.heap.size wb) ∧ Hid (Vw c (fenK c (n + 1) K) p wb)) (fun vb _ => 4 - (intOf vb).toNat)
            case atStart => exact ⟨0, by omega, rfl, FA, VA⟩
            case round =>
              obtain ⟨b, hb, rfl, FB, VB⟩ := hrel
              by_cases hb4 : b < 4
              · have x0 : (0 : Int) ≤ (b : Int) := by omega
                have x1 : (b : Int) < 4 := by omega
                obtain ⟨b0, b1, b2⟩ := VB.out.three
                rw [hAAh.out] at b0
                obtain ⟨e9, e8⟩ := HWE.out _ VB.out
                obtain ⟨r1, hr1⟩ : ∃ r, meetS xs a = r := ⟨_, rfl⟩
                obtain ⟨r2, hr2⟩ : ∃ r, meetS xp b = r := ⟨_, rfl⟩
                have m1 := meet_is xs HPS.out.2 a ha4
                have m2 := meet_is xp HPS.out.1 b hb4
                rw [hr1] at m1
                rw [hr2] at m2
                have HGab := HG.out a b
                rw [hr1, hr2] at HGab
                have HGh := Lib.hid HGab
                clear HGab hr1 hr2
                cases r1 with
                | false =>
                  have HS := Lib.hid (mixF_same (fnF c n) (fnF c (n + 1)) a b (by rw [HGh.out, if_neg (by simp)]))
                  go_wp2
                  go_roundw
                  case rel => exact ⟨b + 1, by omega, by go_num, Lib.hid (by rw [← HS.out]; exact FB.out), VB⟩
                  case measure => simp [intOf]; omega
                | true =>
                  cases r2 with
                  | false =>
                    have HS := Lib.hid (mixF_same (fnF c n) (fnF c (n + 1)) a b (by rw [HGh.out, if_neg (by simp)]))
                    go_wp2
                    go_roundw
                    case rel => exact ⟨b + 1, by omega, by go_num, Lib.hid (by rw [← HS.out]; exact FB.out), VB⟩
                    case measure => simp [intOf]; omega
                  | true =>
                    have HS := Lib.hid (mixF_put (fnF c n) (fnF c (n + 1)) a b (n : Int) (by rw [HGh.out, if_pos ⟨rfl, rfl⟩]))
                    have c0 := FB.out.cell a b ha4 hb4
                    have z0 := FB.out.free (a * 4 + b)
                    have FC0 := FB.out.set a b ha4 hb4 (n : Int)
                    rw [HS.out] at FC0
                    have FC := Lib.hid FC0
                    have VC := Lib.hid (VB.out.other (fun j hj => Below.heap_setCell _ ⟨w.heap.size, a * 4 + b, none⟩ (.int .i64 (n : Int)) j hj) ((Below.refl _ _).setCell (Nat.le_refl _) _) hMg hMk HH2.out)
                    clear FC0
                    go_wp2
                    go_roundw
                    case rel => exact ⟨b + 1, by omega, by go_num, FC, VC⟩
                    case measure => simp [intOf]; omega
              · obtain rfl : b = 4 := by omega
                go_wp2
                go_roundw
                case rel => exact ⟨a + 1, by omega, by go_num, Lib.hid (FB.out.ext (fun s q hs hq => mixF_row _ _ a s q hq)), VB⟩
                case measure => simp [intOf]; omega
          · obtain rfl : a = 4 := by omega
            go_wp2
            go_roundw
            case rel => exact ⟨n + 1, by omega, by go_num, Lib.hid (FA.out.ext (fun s q hs hq => mixF_all _ _ s q hs)), VA⟩
            case measure => simp [intOf]; omega
    · obtain rfl : n = c.N := by omega
      go_wp2
      exact bodyPost_ret (v := .tuple #[]) (by simp [results, Tryz.results98]) rfl ⟨rfl, HV.out⟩
end Go.Proofs.YtcbfokbdiefdeaaGreatDoor
namespace Go.Proofs.YtcbfokbdiefdeaaGreatDoor
set_option linter.unusedVariables false
set_option linter.unusedSimpArgs false
open Go.RowKit Go.Maps
attribute [local go_sem ↓] fold_E fold_SE
attribute [local irreducible] wpStill

theorem rises_last : ∀ (l : List Int) (lo : Int), risesFrom lo l = true → ∀ x ∈ l, x ≤ atI l (l.length - 1)
  | [], _, _, x, hx => by simp at hx
  | [y], lo, h, x, hx => by simp at hx; subst hx; simp [atI]
  | y :: z :: r, lo, h, x, hx => by
    simp only [risesFrom, Bool.and_eq_true, decide_eq_true_eq] at h
    have ih := rises_last (z :: r) y (by simp only [risesFrom, Bool.and_eq_true, decide_eq_true_eq]; exact h.2)
    have e : atI (y :: z :: r) ((y :: z :: r).length - 1) = atI (z :: r) ((z :: r).length - 1) := by simp [atI]
    rw [e]
    rcases List.mem_cons.1 hx with rfl | hx
    · have := ih z (by simp); omega
    · exact ih x hx
theorem ahead_in {p : Int} {l : List Int} (h : aheadB p l = true) : ∀ x ∈ l, 0 ≤ x ∧ x < p := by
  unfold aheadB at h
  simp only [Bool.and_eq_true, Bool.or_eq_true, decide_eq_true_eq] at h
  obtain ⟨h1, h2⟩ := h
  intro x hx
  have h3 := rises_lo l (-1) h1 x hx
  rcases h2 with h2 | h2
  · rw [List.length_eq_zero_iff.1 h2] at hx; simp at hx
  · have := rises_last l (-1) h1 x hx
    omega
theorem chk_lists {e : Ev} {l : El} (h : chkE e l = true) : aheadB e.pos l.a = true ∧ aheadB e.pos l.d = true ∧ aheadB e.pos l.y = true := by
  unfold chkE at h
  simp only [Bool.and_eq_true] at h
  have h1 := h.2.2.2.2.2.2.2.2
  unfold aheadAll at h1
  rw [List.all_eq_true] at h1
  exact ⟨h1 0 (by simp), h1 1 (by simp), h1 2 (by simp)⟩
def hanK (c : Cd) (n k : Nat) (K : Nat → Nat → Int) : Nat → Nat → Int := fun m j => if j = 6 ∧ m < c.N then hgP c m n k else K m j
theorem hgL_lt (c : Cd) (a : Int) : ∀ n, 0 ≤ hgL c a n ∧ hgL c a n ≤ (n : Int)
  | 0 => ⟨Int.le_refl _, Int.le_refl _⟩
  | n + 1 => by
    unfold hgL
    have := hgL_lt c a n
    split <;> omega
theorem hanK_zero (c : Cd) (K : Nat → Nat → Int) (h : ∀ m, m < c.N → K m 6 = 0) : hanK c 0 0 K = K := by
  funext m j
  unfold hanK
  by_cases hj : j = 6 ∧ m < c.N
  · rw [if_pos hj, hgP_zero, hj.1, h m hj.2]; rfl
  · rw [if_neg hj]
theorem hanK_row (c : Cd) (n : Nat) (K : Nat → Nat → Int) : hanK c n (c.at n).2.a.length K = hanK c (n + 1) 0 K := by
  funext m j
  unfold hanK
  rw [hgP_all, hgP_zero]
theorem hanK_put (c : Cd) (n k M : Nat) (K : Nat → Nat → Int) (hk : k < (c.at n).2.a.length) (hM : (M : Int) = numAt c n (atI (c.at n).2.a k)) (h0 : hgP c M n k = 0) (hMN : M < c.N) : updK (hanK c n k K) M 6 n = hanK c n (k + 1) K := by
  funext m j
  unfold updK hanK
  by_cases h : m = M ∧ j = 6
  · obtain ⟨rfl, rfl⟩ := h
    rw [if_pos ⟨rfl, rfl⟩, if_pos ⟨rfl, hMN⟩, hgP_next c m n k hk, if_pos ⟨h0, hM⟩]
  · rw [if_neg h]
    by_cases hj : j = 6 ∧ m < c.N
    · rw [if_pos hj, if_pos hj, hgP_next c m n k hk, if_neg (fun e => h ⟨by have := e.2.trans hM.symm; omega, hj.1⟩)]
    · rw [if_neg hj, if_neg hj]
theorem hanK_same (c : Cd) (n k M : Nat) (K : Nat → Nat → Int) (hk : k < (c.at n).2.a.length) (hM : (M : Int) = numAt c n (atI (c.at n).2.a k)) (h0 : hgP c M n k ≠ 0) : hanK c n k K = hanK c n (k + 1) K := by
  funext m j
  unfold hanK
  by_cases hj : j = 6 ∧ m < c.N
  · rw [if_pos hj, if_pos hj, hgP_next c m n k hk, if_neg (fun e => by
      have : m = M := by have := e.2.trans hM.symm; omega
      subst this; exact h0 e.1)]
  · rw [if_neg hj, if_neg hj]
set_option maxRecDepth 100000 in
set_option maxHeartbeats 16000000 in
theorem findHangers_v (c : Cd) (p : Vp) (w : World) (K : Nat → Nat → Int) (hK : ∀ m, m < c.N → K m 6 = 0) (h : Vw c K p w) (hm : c.may = true) (hL : Lt c) :
    Calls Tryz.prog 99 #[.pointer (some ⟨p.g, 0, none⟩)] w fun e w' => VwIs c (hanK c c.N 0 K) p e w' := by
  have hN := hL.n
  have HM := Lib.hid (fun n hn => may_num hm n hn)
  have HS : Hid (∀ n, n < c.N → (c.at n).2.a.length ≤ 60) := Lib.hid (fun n hn => by
    obtain ⟨h, j, hh, hj, rfl⟩ := num_of c.len c.nh n hn
    rw [c.at_is h j hh hj]
    exact ((hL.small h hh).2 j hj).1)
  rw [← hanK_zero c K hK] at h
  have H := Lib.hid h
  clear h hK hm hL
  obtain ⟨b0, b1, b2⟩ := H.out.three
  go_enter Tryz.func99, Tryz.ntmps99
  go_wp2
  clear b0 b1 b2
  go_loopw [12] (fun vi wr => ∃ (n : Nat), n ≤ c.N ∧ vi = .int .i64 n ∧ Hid (Vw c (hanK c n 0 K) p wr)) (fun vi _ => c.N - (intOf vi).toNat)
  case atStart => exact ⟨0, Nat.zero_le _, rfl, H⟩
  case round =>
    obtain ⟨n, hn, rfl, HV⟩ := hrel
    by_cases hlt : n < c.N
    · obtain ⟨hh, j, hhn, hjl, hnb, heq, hhart, hpos, hchk⟩ := HM.out n hlt
      have HCH := Lib.hid (ahead_in (chk_lists hchk).1)
      rw [hpos] at HCH
      have HLen := HS.out n hlt
      obtain ⟨b0, b1, b2⟩ := HV.out.three
      have hAA := HV.out.hA (by omega)
      rw [hAA] at b0
      have n0 : (0 : Int) ≤ (n : Int) := by omega
      have n1 : (n : Int) < (c.N : Int) := by omega
      have e1 : wr.cell? ⟨p.b, p.off + n * 14 + 1, none⟩ = some (.int .i64 (c.at n).1.pos) := HV.out.ev n hlt 1 _ rfl
      rw [hpos] at e1
      have e11 : wr.cell? ⟨p.b, p.off + n * 14 + 11, none⟩ = some (c.at n).1.a := HV.out.ev n hlt 11 _ rfl
      have HRL := Lib.hid (HV.out.rd n hlt).1
      obtain ⟨aL, cL, hsl⟩ := HRL.out.len
      obtain ⟨B, hB⟩ : ∃ B : Nat, baseL c.len hh = B := ⟨_, rfl⟩
      rw [hB] at hnb
      have hw1 : IntKind.i64.wrap ((n : Int) - (j : Int)) = (B : Int) := by rw [IntWalk.i64_in _ (by omega)]; omega
      have HNum : Hid (∀ x, numAt c n x = (B : Int) + x) := Lib.hid (fun x => by unfold numAt; rw [hpos]; omega)
      have hnbh := Lib.hid hnb
      clear hnb
      have hAAh := Lib.hid hAA
      rw [hsl] at e11
      have hslh := Lib.hid hsl
      clear hsl hAA heq hhart hchk hpos hB
      obtain ⟨l, hl⟩ : ∃ l, (c.at n).2.a = l := ⟨_, rfl⟩
      rw [hslh.out] at HRL
      rw [hl] at HRL HCH HLen e11
      rw [hl] at hslh
      have hlh := Lib.hid hl
      clear hl
      go_wp2
      clear e1 e11 b0 b1 b2 hw1
      go_loopw [35] (fun vk wk => ∃ (k : Nat), k ≤ l.length ∧ vk = .int .i64 k ∧ Hid (Vw c (hanK c n k K) p wk)) (fun vk _ => l.length - (intOf vk).toNat)
      case atStart => exact ⟨0, Nat.zero_le _, rfl, HV⟩
      case round =>
        obtain ⟨k, hk, rfl, VK⟩ := hrel
        by_cases hkl : k < l.length
        · have RK := Lib.hid (VK.out.rd n hlt).1
          rw [hslh.out, hlh.out] at RK
          obtain ⟨b0, b1, b2⟩ := VK.out.three
          rw [hAAh.out] at b0
          rcases RK.out with ⟨_, h0⟩ | ⟨bb, oo, cc, e, _, _, _, hcell⟩
          · rw [h0] at hkl; exact absurd hkl (by simp)
          injection e with e1 e2 e3
          subst e1
          have d0 := hcell k hkl
          have hmem : atI l k ∈ l := by unfold atI; rw [List.getD_eq_getElem?_getD, List.getElem?_eq_getElem hkl]; exact List.getElem_mem hkl
          obtain ⟨y0, y1⟩ := HCH.out _ hmem
          have HNx := Lib.hid (HNum.out (atI l k))
          have HKL : Hid (k < (c.at n).2.a.length) := Lib.hid (by rw [hlh.out]; exact hkl)
          have HAt : Hid (atI (c.at n).2.a k = atI l k) := Lib.hid (by rw [hlh.out])
          obtain ⟨x, hx⟩ : ∃ x : Nat, atI l k = (x : Int) := ⟨(atI l k).toNat, by omega⟩
          rw [hx] at d0 y0 y1 HNx HAt
          have hMN : B + x < c.N := by have := hnbh.out; omega
          obtain ⟨M, hM⟩ : ∃ M, B + x = M := ⟨_, rfl⟩
          have hw2 : IntKind.i64.wrap ((B : Int) + (x : Int)) = (M : Int) := by rw [IntWalk.i64_in _ (by omega)]; omega
          have HNM : Hid ((M : Int) = numAt c n (atI (c.at n).2.a k)) := Lib.hid (by rw [HAt.out, HNx.out]; omega)
          rw [hM] at hMN
          have m0 : (0 : Int) ≤ (M : Int) := by omega
          have m1 : (M : Int) < (c.N : Int) := by omega
          have k0 : (0 : Int) ≤ (k : Int) := by omega
          have k1 : (k : Int) < (l.length : Int) := by omega
          have g6 := VK.out.k M 6 hMN (by omega)
          have z6 := VK.out.free (M * 7 + 6)
          have hg : hanK c n k K M 6 = hgP c M n k := by unfold hanK; rw [if_pos ⟨rfl, hMN⟩]
          rw [hg] at g6
          obtain ⟨v, hv⟩ : ∃ v, Hid (hgP c M n k = v) := ⟨_, Lib.hid rfl⟩
          rw [hv.out] at g6
          clear hcell hg hx y0 y1 hM e2 e3 HNx hmem
          by_cases hv0 : v = 0
          · have hvb : (v == 0) = true := by simpa using hv0
            have VP := Lib.hid (VK.out.set M 6 hMN (by omega) (n : Int))
            rw [hanK_put c n k M K HKL.out HNM.out (by rw [hv.out]; exact hv0) hMN] at VP
            clear hv0
            go_wp2
            go_roundw
            case rel => exact ⟨k + 1, by omega, by go_num, VP⟩
            case measure => simp [intOf]; omega
          · have hvb : (v == 0) = false := by simpa using hv0
            have HS2 := Lib.hid (hanK_same c n k M K HKL.out HNM.out (by rw [hv.out]; exact hv0))
            clear hv0
            go_wp2
            go_roundw
            case rel => exact ⟨k + 1, by omega, by go_num, Lib.hid (by rw [← HS2.out]; exact VK.out)⟩
            case measure => simp [intOf]; omega
        · obtain rfl : k = l.length := by omega
          go_wp2
          go_roundw
          case rel => exact ⟨n + 1, by omega, by go_num, Lib.hid (by rw [← hanK_row, hlh.out]; exact VK.out)⟩
          case measure => simp [intOf]; omega
    · obtain rfl : n = c.N := by omega
      go_wp2
      exact bodyPost_ret (v := .tuple #[]) (by simp [results, Tryz.results99]) rfl ⟨rfl, HV.out⟩
end Go.Proofs.YtcbfokbdiefdeaaGreatDoor
