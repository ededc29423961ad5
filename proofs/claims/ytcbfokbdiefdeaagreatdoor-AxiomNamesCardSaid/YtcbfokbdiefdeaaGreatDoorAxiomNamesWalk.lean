/-
  Proved here: the law AxiomNames answers true; nothing that was there is changed. Condition: the table of powers of ten as the library lays it.
-/
import Derived.Test.YtcbfokbdiefdeaaGreatDoorAxLives
import Derived.Test.YtcbfokbdiefdeaaGreatDoorAxLaws
import Derived.Test.YtcbfokbdiefdeaaGreatDoorAxLike
namespace Go.Proofs.YtcbfokbdiefdeaaGreatDoor
set_option linter.unusedVariables false
set_option linter.unusedSimpArgs false
open Go.RowKit Go.Maps
attribute [local irreducible] wpStill

/-- so many blocks laid -/
def allocs (w : World) : List Obj → World
  | [] => w
  | o :: os => allocs (w.alloc o) os
theorem allocs_below : ∀ (os : List Obj) (w : World), Below w.heap.size w (allocs w os)
  | [], w => Below.refl _ _
  | o :: os, w => (box_below w o).trans ((allocs_below os (w.alloc o)).mono (by simp))
theorem allocs_at : ∀ (os : List Obj) (w : World) (i : Nat) (o : Obj), os[i]? = some o → (allocs w os).heap[w.heap.size + i]? = some o
  | [], w, i, o, h => by simp at h
  | x :: os, w, 0, o, h => by
    simp at h; subst h
    exact ((allocs_below os (w.alloc x)).block _ (by simp)).trans Array.getElem?_push_size
  | x :: os, w, i + 1, o, h => by
    have := allocs_at os (w.alloc x) i o (by simpa using h)
    rw [show w.heap.size + (i + 1) = (w.alloc x).heap.size + i by simp; omega]
    exact this
theorem HsAt.as {c d : Cd} {k : Nat} {a : Option Addr} {w : World} (h : HsAt c k a w) (hl : d.len = c.len) (hv : d.ev = c.ev) (he : d.el = c.el) : HsAt d k a w := by
  rcases h with h | ⟨b, off, e, h⟩
  · exact .inl h
  · refine .inr ⟨b, off, e, ⟨fun j hj => ?_, h.lt⟩⟩
    rw [hl, hv, he]
    exact h.each j hj
def msgX : Cd := litC [m0E, m1E] [m2E, m3E] [-1, -1, 1, -1] [0, 1, 2, 3]
def lrE : Ev := ⟨0, 0, 3, 8, 0, 0, false, false, 0, 0, 0, .slice none 0 0, .slice none 0 0, .slice none 0 0⟩
def scE : Ev := ⟨0, 1, 4, 8, 0, 5, false, false, 0, 0, 0, .slice none 0 0, .slice none 0 0, .slice none 0 0⟩
def otE : Ev := ⟨1, 0, 2, 8, 0, 7, false, false, 0, 0, 0, .slice none 0 0, .slice none 0 0, .slice none 0 0⟩
def dN : Cd := litC [lrE, scE] [otE] [-1, -1, -1] [0, 2, 1]
def eN : Cd := litC [lrE, scE] [otE] [-1, -1, -1] [0, 1, 2]
def zN : Cd := ⟨0, fun _ => 0, fun _ _ => lrE, fun _ _ => nilL, [], [], []⟩
def qN : Cv := ⟨none, 0, none, 0, none, 0, none, 0⟩
theorem zN_lt : Lt zN where
  ew := fun h hh => absurd hh (by show ¬ h < 0; omega)
  nh := Nat.zero_le _
  n := Nat.zero_le _
  small := fun h hh => absurd hh (by show ¬ h < 0; omega)
  fs := Nat.zero_le _
  fr := Nat.zero_le _
  od := Nat.zero_le _
  fw := fun j hj => absurd hj (by show ¬ j < 0; omega)
theorem zN_at (w : World) : CAt zN qN w := ⟨.inl ⟨EmptyS.nil, rfl⟩, .inl rfl, Nat.le_refl _, .inl ⟨EmptyS.nil, rfl⟩, .inl ⟨EmptyS.nil, rfl⟩⟩
theorem bareNa : ∀ e ∈ [lrE, scE], bareE e := by
  intro e he; simp only [List.mem_cons, List.not_mem_nil, or_false] at he
  rcases he with rfl | rfl <;> exact ⟨rfl, rfl, rfl, by decide, by decide, by decide⟩
theorem bareNb : ∀ e ∈ [otE], bareE e := by
  intro e he; simp only [List.mem_cons, List.not_mem_nil, or_false] at he
  subst he; exact ⟨rfl, rfl, rfl, by decide, by decide, by decide⟩
theorem msgX_lt : Lt msgX := lit_lt bare0a bare0b (by decide) (by decide) (by decide) (by decide)
theorem dN_lt : Lt dN := lit_lt bareNa bareNb (by decide) (by decide) (by decide) (by decide)
theorem msgX_judge : (judgeW msgX).ok = false ∧ (judgeW msgX).why = 3 ∧ (judgeW msgX).a = 3 ∧ (judgeW msgX).b = 0 := by decide +kernel
theorem dN_judge : (judgeW dN).ok = false ∧ (judgeW dN).why = 4 ∧ (judgeW dN).a = 0 ∧ (judgeW dN).b = 2 := by decide +kernel
theorem eN_judge : (judgeW eN).ok = true := by decide +kernel
theorem zN_judge : (judgeW zN).ok = false ∧ (judgeW zN).why = 1 ∧ (judgeW zN).a = -1 ∧ (judgeW zN).b = -1 := by decide +kernel
theorem msgX_src : sourceW msgX 3 = 0 ∧ sourceW msgX 0 = -1 ∧ sourceW msgX 9 = -1 := by decide +kernel
theorem lineX : lineL false 9 (-3) 12 = [111, 116, 104, 101, 114, 32, 45, 51, 32, 49, 50] := by decide +kernel
/-- the law's three candidates, in their boxes -/
structure Nm (q : Cv) (k : Cw) (gC gO gD gH gF gP gE gQ : Nat) (w W : World) : Prop where
  bC : CBox (.slice q.aF 0 q.cF) (.slice q.aH 2 q.cH) (.slice q.aR 4 q.cR) (.slice (some ⟨gO, 0, none⟩) 4 4) gC W
  cC : CAt msgX ⟨q.aF, q.cF, q.aH, q.cH, q.aR, q.cR, some ⟨gO, 0, none⟩, 4⟩ W
  bD : CBox (.slice none 0 0) (.slice (some ⟨gH, 0, none⟩) 2 2) (.slice (some ⟨gF, 0, none⟩) 3 3) (.slice (some ⟨gP, 0, none⟩) 3 3) gD W
  cD : CAt dN (litQ gH gF gP 3 3) W
  bE : CBox (.slice k.q.aF 0 k.q.cF) (.slice k.q.aH 2 k.q.cH) (.slice k.q.aR 3 k.q.cR) (.slice (some ⟨gQ, 0, none⟩) 3 3) gE W
  cE : CAt (dN.copy k.ess [-1, -1, -1] [0, 1, 2]) ⟨k.q.aF, k.q.cF, k.q.aH, k.q.cH, k.q.aR, k.q.cR, some ⟨gQ, 0, none⟩, 3⟩ W
  bel : Below w.heap.size w W
theorem Nm.on {q : Cv} {k : Cw} {gC gO gD gH gF gP gE gQ : Nat} {w W W2 : World} (h : Nm q k gC gO gD gH gF gP gE gQ w W) (hb : Below W.heap.size W W2) : Nm q k gC gO gD gH gF gP gE gQ w W2 :=
  ⟨h.bC.on hb, h.cC.below hb, h.bD.on hb, h.cD.below hb, h.bE.on hb, h.cE.below hb, h.bel.trans (hb.mono h.bel.size)⟩
theorem Cy.at_od {c : Cd} {k : Cw} {fr od : List Int} {W : World} (h : Cy c k fr od W) (hl : ∀ h, h < c.nh → ∀ k, k < c.len h → 0 ≤ (c.ev h k).addr) {od2 : List Int} {a : Option Addr} {cp : Nat} (hO : ReadsI W (.slice a od2.length cp) od2) : CAt (c.copy k.ess fr od2) ⟨k.q.aF, k.q.cF, k.q.aH, k.q.cH, k.q.aR, k.q.cR, a, cp⟩ W :=
  copy_cat h.rows hl h.first h.own (readsI_of_own h.from_) hO
set_option maxRecDepth 100000 in
set_option maxHeartbeats 16000000 in
theorem axiomNames_any (w : World) (hT : TabP w) : Calls Tryz.prog 3 #[] w fun e w' => SameOk w true e w' := by
  have K0 := Lib.hid (fun w0 => msg_no w0)
  have HT := Lib.hid hT
  have KW := Lib.hid (fun qd w0 h0 => ownCand_cy dN qd w0 dN_lt h0)
  clear hT
  go_enter Tryz.func3, Tryz.ntmps3
  go_upto_region 6 with (go_at_call 8; (with_reducible refine (K0.out _).mono ?_); rintro e' w1 ⟨q, rfl, hc, hb⟩; have C1 := Lib.hid hc; have L1 := Lib.hid hb; clear hc hb)
  go_name_world W6 hW6
  have hA : Hid (W6 = allocs w1 [.cells #[.slice q.aF msg0.fs.length q.cF, .slice q.aH msg0.nh q.cH, .slice q.aR msg0.fr.length q.cR, .slice (some ⟨w1.heap.size + 1, 0, none⟩) 4 4] 26, .cells #[.int .i64 0, .int .i64 1, .int .i64 2, .int .i64 3] 3, .cells #[.int .i64 0, .int .i64 0, .int .i64 3, .int .u64 8, .int .u64 0, .int .u64 0, .bool false, .bool false, .int .i64 0, .int .i64 0, .int .i64 0, .slice none 0 0, .slice none 0 0, .slice none 0 0] 32, .cells #[.int .i64 0, .int .i64 1, .int .i64 4, .int .u64 8, .int .u64 0, .int .u64 5, .bool false, .bool false, .int .i64 0, .int .i64 0, .int .i64 0, .slice none 0 0, .slice none 0 0, .slice none 0 0] 32, .cells #[.int .i64 1, .int .i64 0, .int .i64 2, .int .u64 8, .int .u64 0, .int .u64 7, .bool false, .bool false, .int .i64 0, .int .i64 0, .int .i64 0, .slice none 0 0, .slice none 0 0, .slice none 0 0] 32, .cells #[.int .i64 0, .int .i64 0, .int .i64 3, .int .u64 8, .int .u64 0, .int .u64 0, .bool false, .bool false, .int .i64 0, .int .i64 0, .int .i64 0, .slice none 0 0, .slice none 0 0, .slice none 0 0, .int .i64 0, .int .i64 1, .int .i64 4, .int .u64 8, .int .u64 0, .int .u64 5, .bool false, .bool false, .int .i64 0, .int .i64 0, .int .i64 0, .slice none 0 0, .slice none 0 0, .slice none 0 0] 32, .cells #[.int .i64 1, .int .i64 0, .int .i64 2, .int .u64 8, .int .u64 0, .int .u64 7, .bool false, .bool false, .int .i64 0, .int .i64 0, .int .i64 0, .slice none 0 0, .slice none 0 0, .slice none 0 0] 32, .cells #[.slice (some ⟨w1.heap.size + 1 + 1 + 1 + 1 + 1, 0, none⟩) 2 2, .slice (some ⟨w1.heap.size + 1 + 1 + 1 + 1 + 1 + 1, 0, none⟩) 1 1] 33, .cells #[.int .i64 (-1), .int .i64 (-1), .int .i64 (-1)] 3, .cells #[.int .i64 0, .int .i64 2, .int .i64 1] 3, .cells #[.slice none 0 0, .slice (some ⟨w1.heap.size + 1 + 1 + 1 + 1 + 1 + 1 + 1, 0, none⟩) 2 2, .slice (some ⟨w1.heap.size + 1 + 1 + 1 + 1 + 1 + 1 + 1 + 1, 0, none⟩) 3 3, .slice (some ⟨w1.heap.size + 1 + 1 + 1 + 1 + 1 + 1 + 1 + 1 + 1, 0, none⟩) 3 3] 26]) := Lib.hid (by rw [← hW6]; rfl)
  clear hW6
  have L6 : Hid (Below w1.heap.size w1 W6) := Lib.hid (by rw [hA.out]; exact allocs_below _ _)
  have hat : Hid (∀ i o, [.cells #[.slice q.aF msg0.fs.length q.cF, .slice q.aH msg0.nh q.cH, .slice q.aR msg0.fr.length q.cR, .slice (some ⟨w1.heap.size + 1, 0, none⟩) 4 4] 26, .cells #[.int .i64 0, .int .i64 1, .int .i64 2, .int .i64 3] 3, .cells #[.int .i64 0, .int .i64 0, .int .i64 3, .int .u64 8, .int .u64 0, .int .u64 0, .bool false, .bool false, .int .i64 0, .int .i64 0, .int .i64 0, .slice none 0 0, .slice none 0 0, .slice none 0 0] 32, .cells #[.int .i64 0, .int .i64 1, .int .i64 4, .int .u64 8, .int .u64 0, .int .u64 5, .bool false, .bool false, .int .i64 0, .int .i64 0, .int .i64 0, .slice none 0 0, .slice none 0 0, .slice none 0 0] 32, .cells #[.int .i64 1, .int .i64 0, .int .i64 2, .int .u64 8, .int .u64 0, .int .u64 7, .bool false, .bool false, .int .i64 0, .int .i64 0, .int .i64 0, .slice none 0 0, .slice none 0 0, .slice none 0 0] 32, .cells #[.int .i64 0, .int .i64 0, .int .i64 3, .int .u64 8, .int .u64 0, .int .u64 0, .bool false, .bool false, .int .i64 0, .int .i64 0, .int .i64 0, .slice none 0 0, .slice none 0 0, .slice none 0 0, .int .i64 0, .int .i64 1, .int .i64 4, .int .u64 8, .int .u64 0, .int .u64 5, .bool false, .bool false, .int .i64 0, .int .i64 0, .int .i64 0, .slice none 0 0, .slice none 0 0, .slice none 0 0] 32, .cells #[.int .i64 1, .int .i64 0, .int .i64 2, .int .u64 8, .int .u64 0, .int .u64 7, .bool false, .bool false, .int .i64 0, .int .i64 0, .int .i64 0, .slice none 0 0, .slice none 0 0, .slice none 0 0] 32, .cells #[.slice (some ⟨w1.heap.size + 1 + 1 + 1 + 1 + 1, 0, none⟩) 2 2, .slice (some ⟨w1.heap.size + 1 + 1 + 1 + 1 + 1 + 1, 0, none⟩) 1 1] 33, .cells #[.int .i64 (-1), .int .i64 (-1), .int .i64 (-1)] 3, .cells #[.int .i64 0, .int .i64 2, .int .i64 1] 3, .cells #[.slice none 0 0, .slice (some ⟨w1.heap.size + 1 + 1 + 1 + 1 + 1 + 1 + 1, 0, none⟩) 2 2, .slice (some ⟨w1.heap.size + 1 + 1 + 1 + 1 + 1 + 1 + 1 + 1, 0, none⟩) 3 3, .slice (some ⟨w1.heap.size + 1 + 1 + 1 + 1 + 1 + 1 + 1 + 1 + 1, 0, none⟩) 3 3] 26][i]? = some o → W6.heap[w1.heap.size + i]? = some o) := Lib.hid (fun i o h => by rw [hA.out]; exact allocs_at _ _ i o h)
  clear hA
  have BC : Hid (CBox (.slice q.aF 0 q.cF) (.slice q.aH 2 q.cH) (.slice q.aR 4 q.cR) (.slice (some ⟨w1.heap.size + 1, 0, none⟩) 4 4) (w1.heap.size) W6) := Lib.hid (hat.out 0 _ rfl)
  have HO := Lib.hid (hat.out 1 _ rfl)
  have HA := Lib.hid (hat.out 5 _ rfl)
  have HB := Lib.hid (hat.out 6 _ rfl)
  have HH := Lib.hid (hat.out 7 _ rfl)
  have HF := Lib.hid (hat.out 8 _ rfl)
  have HQ := Lib.hid (hat.out 9 _ rfl)
  have BD : Hid (CBox (.slice none 0 0) (.slice (some ⟨w1.heap.size + 1 + 1 + 1 + 1 + 1 + 1 + 1, 0, none⟩) 2 2) (.slice (some ⟨w1.heap.size + 1 + 1 + 1 + 1 + 1 + 1 + 1 + 1, 0, none⟩) 3 3) (.slice (some ⟨w1.heap.size + 1 + 1 + 1 + 1 + 1 + 1 + 1 + 1 + 1, 0, none⟩) 3 3) (w1.heap.size + 1 + 1 + 1 + 1 + 1 + 1 + 1 + 1 + 1 + 1) W6) := Lib.hid (hat.out 10 _ rfl)
  clear hat
  have CC : Hid (CAt msgX ⟨q.aF, q.cF, q.aH, q.cH, q.aR, q.cR, some ⟨w1.heap.size + 1, 0, none⟩, 4⟩ W6) := Lib.hid (by
    have h := C1.out.below L6.out
    exact ⟨h.first, h.harts.as rfl rfl rfl, h.cap, h.from_, ints_blk (zs := [0, 1, 2, 3]) HO.out (by decide)⟩)
  have CD : Hid (CAt dN (litQ (w1.heap.size + 1 + 1 + 1 + 1 + 1 + 1 + 1) (w1.heap.size + 1 + 1 + 1 + 1 + 1 + 1 + 1 + 1) (w1.heap.size + 1 + 1 + 1 + 1 + 1 + 1 + 1 + 1 + 1) 3 3) W6) := Lib.hid (lit_at (ea := [lrE, scE]) (eb := [otE]) (fr := [-1, -1, -1]) (od := [0, 2, 1]) HA.out HB.out HH.out HF.out HQ.out bareNa bareNb (by decide) (by decide))
  clear HO HA HB HH HF HQ
  obtain ⟨gC, hgC⟩ : ∃ g, w1.heap.size = g := ⟨_, rfl⟩
  rw [hgC] at BC BD CC CD ⊢
  have L6b := Lib.hid (L1.out.trans (L6.out.mono L1.out.size))
  clear hgC L6 L1
  obtain ⟨gD, hgD⟩ : ∃ g, gC + 1 + 1 + 1 + 1 + 1 + 1 + 1 + 1 + 1 + 1 = g := ⟨_, rfl⟩
  rw [hgD] at BD ⊢
  obtain ⟨gP, hgP⟩ : ∃ g, gC + 1 + 1 + 1 + 1 + 1 + 1 + 1 + 1 + 1 = g := ⟨_, rfl⟩
  rw [hgP] at BD CD
  obtain ⟨gF, hgF⟩ : ∃ g, gC + 1 + 1 + 1 + 1 + 1 + 1 + 1 + 1 = g := ⟨_, rfl⟩
  rw [hgF] at BD CD
  obtain ⟨gH, hgH⟩ : ∃ g, gC + 1 + 1 + 1 + 1 + 1 + 1 + 1 = g := ⟨_, rfl⟩
  rw [hgH] at BD CD
  obtain ⟨gO, hgO⟩ : ∃ g, gC + 1 = g := ⟨_, rfl⟩
  rw [hgO] at BC CC
  clear hgD hgP hgF hgH hgO C1 K0
  have KW2 : Hid (∀ w0, CAt dN (litQ gH gF gP 3 3) w0 → Calls Tryz.prog 9 #[.agg #[.slice none 0 0, .slice (some ⟨gH, 0, none⟩) 2 2, .slice (some ⟨gF, 0, none⟩) 3 3, .slice (some ⟨gP, 0, none⟩) 3 3]] w0 fun e w' => ∃ k : Cw, e = .returned (.agg #[.slice k.q.aF 0 k.q.cF, .slice k.q.aH 2 k.q.cH, .slice k.q.aR 3 k.q.cR, .slice k.q.aO 3 k.q.cO]) ∧ Cy dN k dN.fr dN.od w' ∧ Below w0.heap.size w0 w') := Lib.hid (fun w0 h0 => (KW.out _ w0 h0).mono fun e w' ⟨k, _, h2, h3, h4⟩ => ⟨k, h2, h3, h4⟩)
  clear KW
  obtain ⟨v0, v1, v2, v3⟩ := BD.out.facts
  go_upto_region 8 with (go_at_call 9; (with_reducible refine (KW2.out _ CD.out).mono ?_); rintro e' w7 ⟨k, rfl, hcy, hb⟩; have C7 := Lib.hid hcy; have L7 := Lib.hid hb; clear hcy hb v0 v1 v2 v3)
  go_name_world W8 hW8
  have hA : Hid (W8 = allocs w7 [.cells #[.slice k.q.aF 0 k.q.cF, .slice k.q.aH 2 k.q.cH, .slice k.q.aR 3 k.q.cR, .slice (some ⟨w7.heap.size + 1, 0, none⟩) 3 3] 26, .cells #[.int .i64 0, .int .i64 1, .int .i64 2] 3]) := Lib.hid (by rw [← hW8]; rfl)
  clear hW8
  have L8 : Hid (Below w7.heap.size w7 W8) := Lib.hid (by rw [hA.out]; exact allocs_below _ _)
  have BE : Hid (CBox (.slice k.q.aF 0 k.q.cF) (.slice k.q.aH 2 k.q.cH) (.slice k.q.aR 3 k.q.cR) (.slice (some ⟨w7.heap.size + 1, 0, none⟩) 3 3) w7.heap.size W8) := Lib.hid (by rw [hA.out]; exact allocs_at _ _ 0 _ rfl)
  have HQ : Hid (W8.heap[w7.heap.size + 1]? = some (.cells #[.int .i64 0, .int .i64 1, .int .i64 2] 3 (0, 0))) := Lib.hid (by rw [hA.out]; exact allocs_at _ _ 1 _ rfl)
  clear hA
  have L78 := Lib.hid (L7.out.trans (L8.out.mono L7.out.size))
  have AL : Hid (Al eN (dN.copy k.ess [-1, -1, -1] [0, 1, 2])) := Lib.hid (by
    have h : AsEv dN (dN.copy k.ess [-1, -1, -1] [0, 1, 2]) := copy_as C7.out.rows [-1, -1, -1] [0, 1, 2]
    exact ⟨⟨h.nh, h.len, h.el, h.fs, h.ev⟩, rfl, rfl⟩)
  have LE : Hid (Lt (dN.copy k.ess [-1, -1, -1] [0, 1, 2])) := Lib.hid (copy_lt dN_lt (copy_as C7.out.rows [-1, -1, -1] [0, 1, 2]) (by decide) (by decide))
  have N0 : Hid (Nm q k gC gO gD gH gF gP w7.heap.size (w7.heap.size + 1) w W8) := Lib.hid ⟨BC.out.on L78.out, CC.out.below L78.out, BD.out.on L78.out, CD.out.below L78.out, BE.out, (C7.out.on L8.out).at_od (low_addr CD.out) (ints_blk (zs := [0, 1, 2]) HQ.out (by decide)), L6b.out.trans (L78.out.mono L6b.out.size)⟩
  obtain ⟨gQ, hgQ⟩ : ∃ g, w7.heap.size + 1 = g := ⟨_, rfl⟩
  rw [hgQ] at N0
  obtain ⟨gE, hgE⟩ : ∃ g, w7.heap.size = g := ⟨_, rfl⟩
  rw [hgE] at N0 ⊢
  clear hgE hgQ BC CC BD CD BE HQ C7 L7 L8 L78 L6b KW2
  have KJc : Hid (∀ w0, CAt msgX ⟨q.aF, q.cF, q.aH, q.cH, q.aR, q.cR, some ⟨gO, 0, none⟩, 4⟩ w0 → Calls Tryz.prog 11 #[.agg #[.slice q.aF 0 q.cF, .slice q.aH 2 q.cH, .slice q.aR 4 q.cR, .slice (some ⟨gO, 0, none⟩) 4 4]] w0 fun e w' => AnsIs false 3 3 0 w0 e w') := Lib.hid (fun w0 h0 => by
    have := Judge_any msgX _ w0 msgX_lt h0
    rw [jd_of msgX_judge] at this
    exact this)
  have KJd : Hid (∀ w0, CAt dN (litQ gH gF gP 3 3) w0 → Calls Tryz.prog 11 #[.agg #[.slice none 0 0, .slice (some ⟨gH, 0, none⟩) 2 2, .slice (some ⟨gF, 0, none⟩) 3 3, .slice (some ⟨gP, 0, none⟩) 3 3]] w0 fun e w' => AnsIs false 4 0 2 w0 e w') := Lib.hid (fun w0 h0 => by
    have := Judge_any dN _ w0 dN_lt h0
    rw [jd_of dN_judge] at this
    exact this)
  have KJz : Hid (∀ w0, Calls Tryz.prog 11 #[.agg #[.slice none 0 0, .slice none 0 0, .slice none 0 0, .slice none 0 0]] w0 fun e w' => AnsIs false 1 (-1) (-1) w0 e w') := Lib.hid (fun w0 => by
    have := Judge_any zN qN w0 zN_lt (zN_at w0)
    rw [jd_of zN_judge] at this
    exact this)
  have KOe : Hid (∀ w0, CAt (dN.copy k.ess [-1, -1, -1] [0, 1, 2]) ⟨k.q.aF, k.q.cF, k.q.aH, k.q.cH, k.q.aR, k.q.cR, some ⟨gQ, 0, none⟩, 3⟩ w0 → Calls Tryz.prog 12 #[.agg #[.slice k.q.aF 0 k.q.cF, .slice k.q.aH 2 k.q.cH, .slice k.q.aR 3 k.q.cR, .slice (some ⟨gQ, 0, none⟩) 3 3]] w0 fun e w' => SaysB w0 true e w') := Lib.hid (fun w0 h0 => Ok_any _ _ w0 LE.out h0 true (by rw [AL.out.judge]; exact eN_judge))
  have KS3 : Hid (∀ w0, CAt msgX ⟨q.aF, q.cF, q.aH, q.cH, q.aR, q.cR, some ⟨gO, 0, none⟩, 4⟩ w0 → Calls Tryz.prog 13 #[.agg #[.slice q.aF 0 q.cF, .slice q.aH 2 q.cH, .slice q.aR 4 q.cR, .slice (some ⟨gO, 0, none⟩) 4 4], .int .i64 3] w0 fun e w' => GivesI w0 0 e w') := Lib.hid (fun w0 h0 => Source_any msgX _ w0 msgX_lt h0 3 0 msgX_src.1)
  have KS0 : Hid (∀ w0, CAt msgX ⟨q.aF, q.cF, q.aH, q.cH, q.aR, q.cR, some ⟨gO, 0, none⟩, 4⟩ w0 → Calls Tryz.prog 13 #[.agg #[.slice q.aF 0 q.cF, .slice q.aH 2 q.cH, .slice q.aR 4 q.cR, .slice (some ⟨gO, 0, none⟩) 4 4], .int .i64 0] w0 fun e w' => GivesI w0 (-1) e w') := Lib.hid (fun w0 h0 => Source_any msgX _ w0 msgX_lt h0 0 (-1) msgX_src.2.1)
  have KS9 : Hid (∀ w0, CAt msgX ⟨q.aF, q.cF, q.aH, q.cH, q.aR, q.cR, some ⟨gO, 0, none⟩, 4⟩ w0 → Calls Tryz.prog 13 #[.agg #[.slice q.aF 0 q.cF, .slice q.aH 2 q.cH, .slice q.aR 4 q.cR, .slice (some ⟨gO, 0, none⟩) 4 4], .int .i64 9] w0 fun e w' => GivesI w0 (-1) e w') := Lib.hid (fun w0 h0 => Source_any msgX _ w0 msgX_lt h0 9 (-1) msgX_src.2.2)
  have KL1 : Hid (∀ w0, TabP w0 → Calls Tryz.prog 14 #[.agg #[.bool true, .int .i64 0, .int .i64 0, .int .i64 0]] w0 fun e w' => e = .returned (.string ⟨#[111, 107]⟩) ∧ Below w0.heap.size w0 w') := Lib.hid (fun w0 h0 => Line_any true 0 0 0 w0 h0 (by omega) (by omega))
  have KL2 : Hid (∀ w0, TabP w0 → Calls Tryz.prog 14 #[.agg #[.bool false, .int .i64 9, .int .i64 (-3), .int .i64 12]] w0 fun e w' => e = .returned (.string ⟨#[111, 116, 104, 101, 114, 32, 45, 51, 32, 49, 50]⟩) ∧ Below w0.heap.size w0 w') := Lib.hid (fun w0 h0 => by
    have := Line_any false 9 (-3) 12 w0 h0 (by omega) (by omega)
    unfold TextIsL at this
    rw [lineX] at this
    exact this)
  have heq3 : ∀ W : World, (Op.equalIn 10000 37 (.agg #[.bool false, .int .i64 3, .int .i64 3, .int .i64 0]) (.agg #[.bool false, .int .i64 3, .int .i64 3, .int .i64 0])).run Tryz.prog W = .ok true W := fun W => by kernel_rfl
  have heq4 : ∀ W : World, (Op.equalIn 10000 37 (.agg #[.bool false, .int .i64 4, .int .i64 0, .int .i64 2]) (.agg #[.bool false, .int .i64 4, .int .i64 0, .int .i64 2])).run Tryz.prog W = .ok true W := fun W => by kernel_rfl
  have heq1 : ∀ W : World, (Op.equalIn 10000 37 (.agg #[.bool false, .int .i64 1, .int .i64 (-1), .int .i64 (-1)]) (.agg #[.bool false, .int .i64 1, .int .i64 (-1), .int .i64 (-1)])).run Tryz.prog W = .ok true W := fun W => by kernel_rfl
  obtain ⟨x0, x1, x2, x3⟩ := N0.out.bC.facts
  obtain ⟨y0, y1, y2, y3⟩ := N0.out.bD.facts
  obtain ⟨z0, z1, z2, z3⟩ := N0.out.bE.facts
  go_wp2_with (first
    | (go_at_call 10; (with_reducible refine (alives_any _ (HT.out.on N0.out.bel)).mono ?_); rintro e' w9 ⟨rfl, hb⟩; replace N0 := Lib.hid (N0.out.on hb); clear hb x0 x1 x2 x3 y0 y1 y2 y3 z0 z1 z2 z3; obtain ⟨x0, x1, x2, x3⟩ := N0.out.bC.facts; obtain ⟨y0, y1, y2, y3⟩ := N0.out.bD.facts; obtain ⟨z0, z1, z2, z3⟩ := N0.out.bE.facts)
    | (go_at_call 11; (with_reducible (first | refine (KJc.out _ N0.out.cC).mono ?_ | refine (KJd.out _ N0.out.cD).mono ?_ | refine (KJz.out _).mono ?_)); rintro e' w9 ⟨rfl, hb⟩; replace N0 := Lib.hid (N0.out.on hb); clear hb x0 x1 x2 x3 y0 y1 y2 y3 z0 z1 z2 z3; obtain ⟨x0, x1, x2, x3⟩ := N0.out.bC.facts; obtain ⟨y0, y1, y2, y3⟩ := N0.out.bD.facts; obtain ⟨z0, z1, z2, z3⟩ := N0.out.bE.facts)
    | (go_at_call 12; (with_reducible refine (KOe.out _ N0.out.cE).mono ?_); rintro e' w9 ⟨rfl, hb⟩; replace N0 := Lib.hid (N0.out.on hb); clear hb x0 x1 x2 x3 y0 y1 y2 y3 z0 z1 z2 z3; obtain ⟨x0, x1, x2, x3⟩ := N0.out.bC.facts; obtain ⟨y0, y1, y2, y3⟩ := N0.out.bD.facts; obtain ⟨z0, z1, z2, z3⟩ := N0.out.bE.facts)
    | (go_at_call 13; (with_reducible (first | refine (KS3.out _ N0.out.cC).mono ?_ | refine (KS0.out _ N0.out.cC).mono ?_ | refine (KS9.out _ N0.out.cC).mono ?_)); rintro e' w9 ⟨rfl, hb⟩; replace N0 := Lib.hid (N0.out.on hb); clear hb x0 x1 x2 x3 y0 y1 y2 y3 z0 z1 z2 z3; obtain ⟨x0, x1, x2, x3⟩ := N0.out.bC.facts; obtain ⟨y0, y1, y2, y3⟩ := N0.out.bD.facts; obtain ⟨z0, z1, z2, z3⟩ := N0.out.bE.facts)
    | (go_at_call 14; (with_reducible (first | refine (KL1.out _ (HT.out.on N0.out.bel)).mono ?_ | refine (KL2.out _ (HT.out.on N0.out.bel)).mono ?_)); rintro e' w9 ⟨rfl, hb⟩; replace N0 := Lib.hid (N0.out.on hb); clear hb x0 x1 x2 x3 y0 y1 y2 y3 z0 z1 z2 z3; obtain ⟨x0, x1, x2, x3⟩ := N0.out.bC.facts; obtain ⟨y0, y1, y2, y3⟩ := N0.out.bD.facts; obtain ⟨z0, z1, z2, z3⟩ := N0.out.bE.facts))
  go_ret
  exact ⟨rfl, N0.out.bel⟩
end Go.Proofs.YtcbfokbdiefdeaaGreatDoor
