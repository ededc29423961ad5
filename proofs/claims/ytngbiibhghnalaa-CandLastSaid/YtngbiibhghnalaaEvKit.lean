/-
  Proved here: the kit's LightDeps, the document's Rising, the law's below, the kit's Deps; nothing that was there is changed. Condition: lists of at most 100,000 numbers.
-/
import Derived.Test.YtngbiibhghnalaaEvDeps
import Derived.Deep.DeepCutAuto
namespace Go.Proofs.Ytngbiibhghnalaa
set_option linter.unusedVariables false
set_option linter.unusedSimpArgs false
open Go.RowKit
attribute [local go_sem ↓] fold_E fold_SE

def lightB (l : El) (m : Int) : Bool := decide ((l.a.length : Int) ≤ m) && (decide ((l.d.length : Int) ≤ m) && decide ((l.y.length : Int) ≤ m))
theorem light_any (a d y : Option Addr) (n1 n2 n3 c1 c2 c3 : Nat) (m : Nat) (w : World) : Calls Try.prog 59 #[.agg #[.slice a n1 c1, .slice d n2 c2, .slice y n3 c3], .int .i64 (m : Int)] w fun e w' => SameOk w (decide (n1 ≤ m) && (decide (n2 ≤ m) && decide (n3 ≤ m))) e w' := by
  by_cases h1 : n1 ≤ m
  · by_cases h2 : n2 ≤ m
    · by_cases h3 : n3 ≤ m
      · have e : Hid ((decide (n1 ≤ m) && (decide (n2 ≤ m) && decide (n3 ≤ m))) = true) := Lib.hid (by simp [h1, h2, h3])
        rw [e.out]
        go_enter Try.func59, Try.ntmps59
        go_wp2
        go_ret
        exact ⟨rfl, box_below _ _⟩
      · have e : Hid ((decide (n1 ≤ m) && (decide (n2 ≤ m) && decide (n3 ≤ m))) = false) := Lib.hid (by simp [h3])
        rw [e.out]
        have h3' : decide (n3 ≤ m) = false := decide_eq_false h3
        go_enter Try.func59, Try.ntmps59
        go_wp2
        go_ret
        exact ⟨rfl, box_below _ _⟩
    · have e : Hid ((decide (n1 ≤ m) && (decide (n2 ≤ m) && decide (n3 ≤ m))) = false) := Lib.hid (by simp [h2])
      rw [e.out]
      have h2' : decide (n2 ≤ m) = false := decide_eq_false h2
      go_enter Try.func59, Try.ntmps59
      go_wp2
      go_ret
      exact ⟨rfl, box_below _ _⟩
  · have e : Hid ((decide (n1 ≤ m) && (decide (n2 ≤ m) && decide (n3 ≤ m))) = false) := Lib.hid (by simp [h1])
    rw [e.out]
    have h1' : decide (n1 ≤ m) = false := decide_eq_false h1
    go_enter Try.func59, Try.ntmps59
    go_wp2
    go_ret
    exact ⟨rfl, box_below _ _⟩
/-- of numbers that rise each is at least 0 -/
theorem rises_low (zs : List Int) (j : Nat) (hj : j < zs.length) (h : rises (zs.take (j + 1)) = true) : 0 ≤ lastE zs (j + 1) := by
  rw [lastE_succ]
  have hm : atI zs j ∈ zs.take (j + 1) := by
    unfold atI
    rw [List.getD_eq_getElem?_getD, List.getElem?_eq_getElem hj, List.mem_take_iff_getElem]
    exact ⟨j, by omega, rfl⟩
  have := rises_lo _ _ h _ hm
  omega
/-- only draws -/
def DrawOk (w : World) (b : Bool) (e : Ending) (w' : World) : Prop := e = .returned (.bool b) ∧ ∃ m, w' = w.drewN m
theorem DrawOk.below {w w' : World} {b : Bool} {e : Ending} (h : DrawOk w b e w') : SameOk w b e w' := by
  obtain ⟨h1, m, rfl⟩ := h
  exact ⟨h1, below_drewW (Below.refl _ _) m⟩
/-- two deps in boxes of the call's own -/
theorem deps_boxes (a d y a2 d2 y2 : Value) (w : World) : DAt a d y w.heap.size ((w.alloc (.cells #[a, d, y] 46)).alloc (.cells #[a2, d2, y2] 46)) ∧ DAt a2 d2 y2 (w.heap.size + 1) ((w.alloc (.cells #[a, d, y] 46)).alloc (.cells #[a2, d2, y2] 46)) ∧ Below w.heap.size w ((w.alloc (.cells #[a, d, y] 46)).alloc (.cells #[a2, d2, y2] 46)) := by
  refine ⟨(DAt.new a d y w).alloc _, ?_, ((Below.refl _ _).alloc (Nat.le_refl _) _).alloc (by simp) _⟩
  have := DAt.new a2 d2 y2 (w.alloc (.cells #[a, d, y] 46))
  simp only [World.size_alloc] at this
  exact this
def depsB (al dl yl al2 dl2 yl2 : List Int) : Bool := decide (al = al2) && (decide (dl = dl2) && decide (yl = yl2))
theorem same_b (va vb : Value) (a b : List Int) (r : Bool) (hr : decide (a = b) = r) (w : World) (ha : ReadsI w va a) (hb : ReadsI w vb b) (hn : a.length ≤ 100000) : Calls Try.prog 15 #[va, vb] w fun e w' => SameOk w r e w' := by
  rw [← hr]; exact same_any va vb a b w ha hb hn
set_option maxRecDepth 100000 in
set_option maxHeartbeats 4000000 in
theorem deps_any (a d y a2 d2 y2 : Value) (al dl yl al2 dl2 yl2 : List Int) (w : World) (ha : ReadsI w a al) (hd : ReadsI w d dl) (hy : ReadsI w y yl) (ha2 : ReadsI w a2 al2) (hd2 : ReadsI w d2 dl2) (hy2 : ReadsI w y2 yl2) (na : al.length ≤ 100000) (nd : dl.length ≤ 100000) (ny : yl.length ≤ 100000) :
    Calls Try.prog 42 #[.agg #[a, d, y], .agg #[a2, d2, y2]] w fun e w' => SameOk w (depsB al dl yl al2 dl2 yl2) e w' := by
  unfold depsB
  obtain ⟨r1, G1⟩ : ∃ r, Hid (decide (al = al2) = r) := ⟨_, Lib.hid rfl⟩
  obtain ⟨r2, G2⟩ : ∃ r, Hid (decide (dl = dl2) = r) := ⟨_, Lib.hid rfl⟩
  rw [G1.out, G2.out]
  obtain ⟨b1, b2, b3⟩ := deps_boxes a d y a2 d2 y2 w
  have B1 := Lib.hid b1
  have B2 := Lib.hid b2
  have B3 := Lib.hid b3
  clear b1 b2 b3
  have HA := Lib.hid (fun (w0 : World) (b : Below w.heap.size w w0) (r : Bool) (hr : decide (al = al2) = r) => same_b a a2 al al2 r hr w0 (ha.below b) (ha2.below b) na)
  have HD := Lib.hid (fun (w0 : World) (b : Below w.heap.size w w0) (r : Bool) (hr : decide (dl = dl2) = r) => same_b d d2 dl dl2 r hr w0 (hd.below b) (hd2.below b) nd)
  have HY := Lib.hid (fun (w0 : World) (b : Below w.heap.size w w0) (r : Bool) (hr : decide (yl = yl2) = r) => same_b y y2 yl yl2 r hr w0 (hy.below b) (hy2.below b) ny)
  clear ha hd hy ha2 hd2 hy2
  go_enter Try.func42, Try.ntmps42
  go_upto_region 1 with fail
  obtain ⟨W, HW⟩ : ∃ W, Hid ((w.alloc (.cells #[a, d, y] 46)).alloc (.cells #[a2, d2, y2] 46) = W) := ⟨_, Lib.hid rfl⟩
  rw [HW.out] at B1 B2 B3 ⊢
  obtain ⟨z, c0, c1, c2, _, _, _⟩ := B1.out.facts
  obtain ⟨z2, e0, e1, e2, _, _, _⟩ := B2.out.facts
  cases r1 with
  | false =>
    go_wp2_with (go_at_call 15; (with_reducible refine (HA.out _ B3.out _ G1.out).mono ?_); rintro e w1 ⟨rfl, hb1⟩; have K1 := Lib.hid (B3.out.trans (hb1.mono B3.out.size)); clear hb1)
    go_ret
    exact ⟨rfl, K1.out⟩
  | true =>
    cases r2 with
    | false =>
      go_wp2_with (first
        | (go_at_call 15; (with_reducible refine (HA.out _ B3.out _ G1.out).mono ?_); rintro e w1 ⟨rfl, hb1⟩; clear HA z c0 c1 c2 z2 e0 e1 e2; have K1 := Lib.hid (B3.out.trans (hb1.mono B3.out.size)); have B11 := Lib.hid (B1.out.below hb1 B1.out.lt); have B21 := Lib.hid (B2.out.below hb1 B2.out.lt); clear hb1; obtain ⟨z, c0, c1, c2, _, _, _⟩ := B11.out.facts; obtain ⟨z2, e0, e1, e2, _, _, _⟩ := B21.out.facts)
        | (go_at_call 15; (with_reducible refine (HD.out _ K1.out _ G2.out).mono ?_); rintro e w2 ⟨rfl, hb2⟩; have K2 := Lib.hid (K1.out.trans (hb2.mono K1.out.size)); clear hb2))
      go_ret
      exact ⟨rfl, K2.out⟩
    | true =>
      go_wp2_with (first
        | (go_at_call 15; (with_reducible refine (HA.out _ B3.out _ G1.out).mono ?_); rintro e w1 ⟨rfl, hb1⟩; clear HA z c0 c1 c2 z2 e0 e1 e2; have K1 := Lib.hid (B3.out.trans (hb1.mono B3.out.size)); have B11 := Lib.hid (B1.out.below hb1 B1.out.lt); have B21 := Lib.hid (B2.out.below hb1 B2.out.lt); clear hb1; obtain ⟨z, c0, c1, c2, _, _, _⟩ := B11.out.facts; obtain ⟨z2, e0, e1, e2, _, _, _⟩ := B21.out.facts)
        | (go_at_call 15; (with_reducible refine (HD.out _ K1.out _ G2.out).mono ?_); rintro e w2 ⟨rfl, hb2⟩; clear HD z c0 c1 c2 z2 e0 e1 e2; have K2 := Lib.hid (K1.out.trans (hb2.mono K1.out.size)); have B12 := Lib.hid (B11.out.below hb2 B11.out.lt); have B22 := Lib.hid (B21.out.below hb2 B21.out.lt); clear hb2; obtain ⟨z, c0, c1, c2, _, _, _⟩ := B12.out.facts; obtain ⟨z2, e0, e1, e2, _, _, _⟩ := B22.out.facts)
        | (go_at_call 15; (with_reducible refine (HY.out _ K2.out _ rfl).mono ?_); rintro e w3 ⟨rfl, hb3⟩; have K3 := Lib.hid (K2.out.trans (hb3.mono K2.out.size)); clear hb3))
      go_ret
      exact ⟨rfl, K3.out⟩
theorem deps_yes (a d y a2 d2 y2 : Value) (al dl yl al2 dl2 yl2 : List Int) (w : World) (h1 : Hid (al = al2)) (h2 : Hid (dl = dl2)) (h3 : Hid (yl = yl2)) (ha : ReadsI w a al) (hd : ReadsI w d dl) (hy : ReadsI w y yl) (ha2 : ReadsI w a2 al2) (hd2 : ReadsI w d2 dl2) (hy2 : ReadsI w y2 yl2) (na : al.length ≤ 100000) (nd : dl.length ≤ 100000) (ny : yl.length ≤ 100000) :
    Calls Try.prog 42 #[.agg #[a, d, y], .agg #[a2, d2, y2]] w fun e w' => SameOk w true e w' := by
  have := deps_any a d y a2 d2 y2 al dl yl al2 dl2 yl2 w ha hd hy ha2 hd2 hy2 na nd ny
  have e : depsB al dl yl al2 dl2 yl2 = true := by unfold depsB; rw [decide_eq_true h1.out, decide_eq_true h2.out, decide_eq_true h3.out]; rfl
  rw [e] at this
  exact this
end Go.Proofs.Ytngbiibhghnalaa
