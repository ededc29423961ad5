/-
  Proved here: the kit's LightDeps, the document's Rising, the law's below, the kit's Deps; nothing that was there is changed. Condition: lists of at most 100,000 numbers.
-/
import Derived.Test.YtcebcmmbokajcaaEvDeps
import Derived.Deep.DeepCutAuto
namespace Go.Proofs.Ytcebcmmbokajcaa
set_option linter.unusedVariables false
set_option linter.unusedSimpArgs false
open Go.RowKit
attribute [local go_sem ↓] fold_E fold_SE

def lightB (l : El) (m : Int) : Bool := decide ((l.a.length : Int) ≤ m) && (decide ((l.d.length : Int) ≤ m) && decide ((l.y.length : Int) ≤ m))
theorem light_any (a d y : Option Addr) (n1 n2 n3 c1 c2 c3 : Nat) (m : Nat) (w : World) : Calls Try.prog 68 #[.agg #[.slice a n1 c1, .slice d n2 c2, .slice y n3 c3], .int .i64 (m : Int)] w fun e w' => SameOk w (decide (n1 ≤ m) && (decide (n2 ≤ m) && decide (n3 ≤ m))) e w' := by
  by_cases h1 : n1 ≤ m
  · by_cases h2 : n2 ≤ m
    · by_cases h3 : n3 ≤ m
      · have e : Hid ((decide (n1 ≤ m) && (decide (n2 ≤ m) && decide (n3 ≤ m))) = true) := Lib.hid (by simp [h1, h2, h3])
        rw [e.out]
        go_enter Try.func68, Try.ntmps68
        go_wp2
        go_ret
        exact ⟨rfl, box_below _ _⟩
      · have e : Hid ((decide (n1 ≤ m) && (decide (n2 ≤ m) && decide (n3 ≤ m))) = false) := Lib.hid (by simp [h3])
        rw [e.out]
        have h3' : decide (n3 ≤ m) = false := decide_eq_false h3
        go_enter Try.func68, Try.ntmps68
        go_wp2
        go_ret
        exact ⟨rfl, box_below _ _⟩
    · have e : Hid ((decide (n1 ≤ m) && (decide (n2 ≤ m) && decide (n3 ≤ m))) = false) := Lib.hid (by simp [h2])
      rw [e.out]
      have h2' : decide (n2 ≤ m) = false := decide_eq_false h2
      go_enter Try.func68, Try.ntmps68
      go_wp2
      go_ret
      exact ⟨rfl, box_below _ _⟩
  · have e : Hid ((decide (n1 ≤ m) && (decide (n2 ≤ m) && decide (n3 ≤ m))) = false) := Lib.hid (by simp [h1])
    rw [e.out]
    have h1' : decide (n1 ≤ m) = false := decide_eq_false h1
    go_enter Try.func68, Try.ntmps68
    go_wp2
    go_ret
    exact ⟨rfl, box_below _ _⟩
/-- of numbers that rise each is at least 0 -/
theorem rises_low (zs : List Int) (j : Nat) (hj : j < zs.length) (h : rises (zs.take (j + 1)) = true) : 0 ≤ lastE zs (j + 1) := by
  rw [lastE_succ]
  have hm : atI zs j ∈ zs.take (j + 1) := by
    unfold atI
    rw [List.getD_eq_getElem?_getD, List.getElem?_eq_getElem hj, List.mem_take_iff_getElem]
    exact ⟨j, by omega, rfl⟩
  have := rises_lo _ _ h _ hm
  omega
/-- only draws -/
def DrawOk (w : World) (b : Bool) (e : Ending) (w' : World) : Prop := e = .returned (.bool b) ∧ ∃ m, w' = w.drewN m
theorem DrawOk.below {w w' : World} {b : Bool} {e : Ending} (h : DrawOk w b e w') : SameOk w b e w' := by
  obtain ⟨h1, m, rfl⟩ := h
  exact ⟨h1, below_drewW (Below.refl _ _) m⟩
/-- two deps in boxes of the call's own -/
theorem deps_boxes (a d y a2 d2 y2 : Value) (w : World) : DAt a d y w.heap.size ((w.alloc (.cells #[a, d, y] 48)).alloc (.cells #[a2, d2, y2] 48)) ∧ DAt a2 d2 y2 (w.heap.size + 1) ((w.alloc (.cells #[a, d, y] 48)).alloc (.cells #[a2, d2, y2] 48)) ∧ Below w.heap.size w ((w.alloc (.cells #[a, d, y] 48)).alloc (.cells #[a2, d2, y2] 48)) := by
  refine ⟨(DAt.new a d y w).alloc _, ?_, ((Below.refl _ _).alloc (Nat.le_refl _) _).alloc (by simp) _⟩
  have := DAt.new a2 d2 y2 (w.alloc (.cells #[a, d, y] 48))
  simp only [World.size_alloc] at this
  exact this
def depsB (al dl yl al2 dl2 yl2 : List Int) : Bool := decide (al = al2) && (decide (dl = dl2) && decide (yl = yl2))
theorem same_b (va vb : Value) (a b : List Int) (r : Bool) (hr : decide (a = b) = r) (w : World) (ha : ReadsI w va a) (hb : ReadsI w vb b) (hn : a.length ≤ 100000) : Calls Try.prog 14 #[va, vb] w fun e w' => SameOk w r e w' := by
  rw [← hr]; exact same_any va vb a b w ha hb hn
end Go.Proofs.Ytcebcmmbokajcaa
