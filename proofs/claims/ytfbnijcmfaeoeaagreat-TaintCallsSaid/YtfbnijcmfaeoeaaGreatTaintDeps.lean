/-
  Proved here: comparing deps; the law's lives answers true; nothing that was there is changed. No condition.
-/
import Derived.Test.YtfbnijcmfaeoeaaGreatTaintStart
namespace Go.Proofs.YtfbnijcmfaeoeaaGreat
open Go.RowKit
attribute [local go_sem ↓] fold_T fold_I

theorem same_yes (va vb : Value) (a b : List Int) (w : World) (h : Hid (a = b)) (ha : ReadsI w va a) (hb : ReadsI w vb b) (hn : a.length ≤ 100000) : Calls Tryz.prog 16 #[va, vb] w fun e w' => SameOk w true e w' := by
  have := same_any va vb a b w ha hb hn
  rw [decide_eq_true h.out] at this
  exact this
/-- two deps in boxes of the call's own -/
theorem deps_boxes (a d y a2 d2 y2 : Value) (w : World) : DAt a d y w.heap.size ((w.alloc (.cells #[a, d, y] 31)).alloc (.cells #[a2, d2, y2] 31)) ∧ DAt a2 d2 y2 (w.heap.size + 1) ((w.alloc (.cells #[a, d, y] 31)).alloc (.cells #[a2, d2, y2] 31)) ∧ Below w.heap.size w ((w.alloc (.cells #[a, d, y] 31)).alloc (.cells #[a2, d2, y2] 31)) := by
  refine ⟨(DAt.new a d y w).alloc _, ?_, ((Below.refl _ _).alloc (Nat.le_refl _) _).alloc (by simp) _⟩
  have := DAt.new a2 d2 y2 (w.alloc (.cells #[a, d, y] 31))
  simp only [World.size_alloc] at this
  exact this
def depsB (al dl yl al2 dl2 yl2 : List Int) : Bool := decide (al = al2) && (decide (dl = dl2) && decide (yl = yl2))
theorem same_b (va vb : Value) (a b : List Int) (r : Bool) (hr : decide (a = b) = r) (w : World) (ha : ReadsI w va a) (hb : ReadsI w vb b) (hn : a.length ≤ 100000) : Calls Tryz.prog 16 #[va, vb] w fun e w' => SameOk w r e w' := by
  rw [← hr]; exact same_any va vb a b w ha hb hn
set_option maxRecDepth 100000 in
set_option maxHeartbeats 4000000 in
theorem deps_any (a d y a2 d2 y2 : Value) (al dl yl al2 dl2 yl2 : List Int) (w : World) (ha : ReadsI w a al) (hd : ReadsI w d dl) (hy : ReadsI w y yl) (ha2 : ReadsI w a2 al2) (hd2 : ReadsI w d2 dl2) (hy2 : ReadsI w y2 yl2) (na : al.length ≤ 100000) (nd : dl.length ≤ 100000) (ny : yl.length ≤ 100000) :
    Calls Tryz.prog 10 #[.agg #[a, d, y], .agg #[a2, d2, y2]] w fun e w' => SameOk w (depsB al dl yl al2 dl2 yl2) e w' := by
  unfold depsB
  obtain ⟨r1, G1⟩ : ∃ r, Hid (decide (al = al2) = r) := ⟨_, Lib.hid rfl⟩
  obtain ⟨r2, G2⟩ : ∃ r, Hid (decide (dl = dl2) = r) := ⟨_, Lib.hid rfl⟩
  rw [G1.out, G2.out]
  obtain ⟨b1, b2, b3⟩ := deps_boxes a d y a2 d2 y2 w
  have B1 := Lib.hid b1
  have B2 := Lib.hid b2
  have B3 := Lib.hid b3
  clear b1 b2 b3
  have HA := Lib.hid (fun (w0 : World) (b : Below w.heap.size w w0) (r : Bool) (hr : decide (al = al2) = r) => same_b a a2 al al2 r hr w0 (ha.below b) (ha2.below b) na)
  have HD := Lib.hid (fun (w0 : World) (b : Below w.heap.size w w0) (r : Bool) (hr : decide (dl = dl2) = r) => same_b d d2 dl dl2 r hr w0 (hd.below b) (hd2.below b) nd)
  have HY := Lib.hid (fun (w0 : World) (b : Below w.heap.size w w0) (r : Bool) (hr : decide (yl = yl2) = r) => same_b y y2 yl yl2 r hr w0 (hy.below b) (hy2.below b) ny)
  clear ha hd hy ha2 hd2 hy2
  go_enter Tryz.func10, Tryz.ntmps10
  go_upto_region 1 with fail
  obtain ⟨W, HW⟩ : ∃ W, Hid ((w.alloc (.cells #[a, d, y] 31)).alloc (.cells #[a2, d2, y2] 31) = W) := ⟨_, Lib.hid rfl⟩
  rw [HW.out] at B1 B2 B3 ⊢
  obtain ⟨z, c0, c1, c2, _, _, _⟩ := B1.out.facts
  obtain ⟨z2, e0, e1, e2, _, _, _⟩ := B2.out.facts
  cases r1 with
  | false =>
    go_wp2_with (go_at_call 16; (with_reducible refine (HA.out _ B3.out _ G1.out).mono ?_); rintro e w1 ⟨rfl, hb1⟩; have K1 := Lib.hid (B3.out.trans (hb1.mono B3.out.size)); clear hb1)
    go_ret
    exact ⟨rfl, K1.out⟩
  | true =>
    cases r2 with
    | false =>
      go_wp2_with (first
        | (go_at_call 16; (with_reducible refine (HA.out _ B3.out _ G1.out).mono ?_); rintro e w1 ⟨rfl, hb1⟩; clear HA z c0 c1 c2 z2 e0 e1 e2; have K1 := Lib.hid (B3.out.trans (hb1.mono B3.out.size)); have B11 := Lib.hid (B1.out.below hb1 B1.out.lt); have B21 := Lib.hid (B2.out.below hb1 B2.out.lt); clear hb1; obtain ⟨z, c0, c1, c2, _, _, _⟩ := B11.out.facts; obtain ⟨z2, e0, e1, e2, _, _, _⟩ := B21.out.facts)
        | (go_at_call 16; (with_reducible refine (HD.out _ K1.out _ G2.out).mono ?_); rintro e w2 ⟨rfl, hb2⟩; have K2 := Lib.hid (K1.out.trans (hb2.mono K1.out.size)); clear hb2))
      go_ret
      exact ⟨rfl, K2.out⟩
    | true =>
      go_wp2_with (first
        | (go_at_call 16; (with_reducible refine (HA.out _ B3.out _ G1.out).mono ?_); rintro e w1 ⟨rfl, hb1⟩; clear HA z c0 c1 c2 z2 e0 e1 e2; have K1 := Lib.hid (B3.out.trans (hb1.mono B3.out.size)); have B11 := Lib.hid (B1.out.below hb1 B1.out.lt); have B21 := Lib.hid (B2.out.below hb1 B2.out.lt); clear hb1; obtain ⟨z, c0, c1, c2, _, _, _⟩ := B11.out.facts; obtain ⟨z2, e0, e1, e2, _, _, _⟩ := B21.out.facts)
        | (go_at_call 16; (with_reducible refine (HD.out _ K1.out _ G2.out).mono ?_); rintro e w2 ⟨rfl, hb2⟩; clear HD z c0 c1 c2 z2 e0 e1 e2; have K2 := Lib.hid (K1.out.trans (hb2.mono K1.out.size)); have B12 := Lib.hid (B11.out.below hb2 B11.out.lt); have B22 := Lib.hid (B21.out.below hb2 B21.out.lt); clear hb2; obtain ⟨z, c0, c1, c2, _, _, _⟩ := B12.out.facts; obtain ⟨z2, e0, e1, e2, _, _, _⟩ := B22.out.facts)
        | (go_at_call 16; (with_reducible refine (HY.out _ K2.out _ rfl).mono ?_); rintro e w3 ⟨rfl, hb3⟩; have K3 := Lib.hid (K2.out.trans (hb3.mono K2.out.size)); clear hb3))
      go_ret
      exact ⟨rfl, K3.out⟩
theorem deps_yes (a d y a2 d2 y2 : Value) (al dl yl al2 dl2 yl2 : List Int) (w : World) (h1 : Hid (al = al2)) (h2 : Hid (dl = dl2)) (h3 : Hid (yl = yl2)) (ha : ReadsI w a al) (hd : ReadsI w d dl) (hy : ReadsI w y yl) (ha2 : ReadsI w a2 al2) (hd2 : ReadsI w d2 dl2) (hy2 : ReadsI w y2 yl2) (na : al.length ≤ 100000) (nd : dl.length ≤ 100000) (ny : yl.length ≤ 100000) :
    Calls Tryz.prog 10 #[.agg #[a, d, y], .agg #[a2, d2, y2]] w fun e w' => SameOk w true e w' := by
  have := deps_any a d y a2 d2 y2 al dl yl al2 dl2 yl2 w ha hd hy ha2 hd2 hy2 na nd ny
  have e : depsB al dl yl al2 dl2 yl2 = true := by unfold depsB; rw [decide_eq_true h1.out, decide_eq_true h2.out, decide_eq_true h3.out]; rfl
  rw [e] at this
  exact this
/-- what a step has left in two boxes of the call's own -/
structure Got (B g : Nat) (t : Ta) (l2 : Tl) (a d y : Value) (al dl yl : List Int) (W : World) : Prop where
  box : TAt 25 t g W
  deps : DAt a d y (g + 1) W
  reads : TReads W t l2
  ra : ReadsI W a al
  rd : ReadsI W d dl
  ry : ReadsI W y yl
  low : B ≤ g
theorem Got.on {B g : Nat} {t : Ta} {l2 : Tl} {a d y : Value} {al dl yl : List Int} {W W2 : World} (h : Got B g t l2 a d y al dl yl W) (hb : Below W.heap.size W W2) : Got B g t l2 a d y al dl yl W2 :=
  ⟨h.box.below hb h.box.lt, h.deps.below hb h.deps.lt, h.reads.below hb, h.ra.below hb, h.rd.below hb, h.ry.below hb, h.low⟩
/-- both boxes made, both stored -/
theorem got_of {B : Nat} {t : Ta} {l2 : Tl} {a d y : Value} {al dl yl : List Int} {n : Nat} {w2 w3 w4 : World} (ht : TReadsN n w2 t l2) (hd : DepsN n w2 a d y al dl yl) (hB : B ≤ w2.heap.size) {o1 o2 : Obj}
    (D3 : TAt 25 t w2.heap.size w3) (hb3 : Below w2.heap.size ((w2.alloc o1).alloc o2) w3) (D4 : DAt a d y (w2.heap.size + 1) w4) (hb4 : Below (w2.heap.size + 1) w3 w4) : Got B w2.heap.size t l2 a d y al dl yl w4 ∧ Below w2.heap.size w2 w4 := by
  have hb : Below w2.heap.size w2 w4 := ((((Below.refl _ _).alloc (Nat.le_refl _) o1).alloc (by simp) o2).trans hb3).trans (hb4.mono (by omega))
  exact ⟨⟨D3.below hb4 (by omega), D4, ht.reads.below hb, hd.1.1.below hb, hd.2.1.1.below hb, hd.2.2.1.below hb, hB⟩, hb⟩
theorem step_ok (t : Ta) (l : Tl) (i : Ins) (event : Int) (w : World) (h : TReads w t l) (hs : l.short) (hb : Hid (stepOkB l i event = true)) :
    Calls Tryz.prog 6 #[t.V, i.V, .int .i64 event] w fun e w' => StepOk w (behindL l i event) (addrL l i) (dataL l i) l.way 0 e w' := by
  have := step_any t l i event w h hs
  rw [hb.out] at this
  exact this
theorem step_bad (t : Ta) (l : Tl) (i : Ins) (event : Int) (w : World) (h : TReads w t l) (hs : l.short) (hb : Hid (stepOkB l i event = false)) :
    Calls Tryz.prog 6 #[t.V, i.V, .int .i64 event] w fun e w' => StepOk w zeroTl [] [] [] 2 e w' := by
  have := step_any t l i event w h hs
  rw [hb.out] at this
  exact this
end Go.Proofs.YtfbnijcmfaeoeaaGreat
