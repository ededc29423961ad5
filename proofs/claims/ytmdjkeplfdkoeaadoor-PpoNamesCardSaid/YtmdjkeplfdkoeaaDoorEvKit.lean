/-
  Proved here: the kit's LightDeps, the document's Rising, the law's below, the kit's Deps; nothing that was there is changed. Condition: lists of at most 100,000 numbers.
  (With it: Proved here: the kit's Own and OwnDeps once more, telling also that the new lists lie in rows of ints. Condition: lists of at most 100,000 numbers.)
-/
import Derived.Test.YtmdjkeplfdkoeaaDoorEvDeps
import Derived.Deep.RegionHeld3
import Derived.Deep.DeepCutAuto
namespace Go.Proofs.YtmdjkeplfdkoeaaDoor
set_option linter.unusedVariables false
set_option linter.unusedSimpArgs false
open Go.RowKit
attribute [local go_sem ↓] fold_E fold_SE fold_SD

/-- a slice that lies in a row of ints -/
def TypedI (w : World) (v : Value) : Prop := ∀ g, v.ownBlock = some g → ∃ cs, w.heap[g]? = some (.cells cs 3 (0, 0))
theorem TypedI.nil (w : World) : TypedI w (.slice none 0 0) := fun g h => by simp [Value.ownBlock] at h
theorem TypedI.on {w w' : World} {v : Value} (h : TypedI w v) (hb : Below w.heap.size w w') : TypedI w' v := fun g hg => by
  obtain ⟨cs, hc⟩ := h g hg
  exact ⟨cs, (hb.block g (Array.getElem?_eq_some_iff.1 hc).1).trans hc⟩
theorem typed_of_own {w : World} {base n : Nat} {v : Value} {xs : List Value} (h : w.ownsRow base 3 1 v n xs) : TypedI w v := fun g hg => by
  rcases h.2 with ⟨rfl, _⟩ | ⟨g', cap, cur, rfl, _, hgg, _⟩
  · simp [Value.ownBlock] at hg
  · simp [Value.ownBlock] at hg
    subst hg
    exact ⟨cur, hgg⟩
def MergedT (w : World) (M : List Int) (e : Ending) (w' : World) : Prop := ∃ v, e = .returned v ∧ ReadsN w.heap.size w' v M ∧ TypedI w' v ∧ Below w.heap.size w w'
def TypedD (w : World) (a d y : Value) : Prop := TypedI w a ∧ TypedI w d ∧ TypedI w y
theorem TypedD.on {w w' : World} {a d y : Value} (h : TypedD w a d y) (hb : Below w.heap.size w w') : TypedD w' a d y := ⟨h.1.on hb, h.2.1.on hb, h.2.2.on hb⟩
def DepsT (w : World) (al dl yl : List Int) (e : Ending) (w' : World) : Prop := ∃ a d y, e = .returned (.agg #[a, d, y]) ∧ DepsN w.heap.size w' a d y al dl yl ∧ TypedD w' a d y ∧ Below w.heap.size w w'
theorem typed_row {W : World} {n g : Nat} {v : Value} {zs : List Int} {cs : Array Value} (h : TypedI W v) (hr : ReadsN n W v zs) (hg : g < n) : TypedI (W.setRow g cs) v := fun k hk => by
  obtain ⟨c, hc⟩ := h k hk
  exact ⟨c, (setRow_other _ _ _ _ (by have := hr.2 k hk; omega)).trans hc⟩
end Go.Proofs.YtmdjkeplfdkoeaaDoor
namespace Go.Proofs.YtmdjkeplfdkoeaaDoor
set_option linter.unusedVariables false
set_option linter.unusedSimpArgs false
open Go.RowKit
attribute [local go_sem ↓] fold_E fold_SE

def lightB (l : El) (m : Int) : Bool := decide ((l.a.length : Int) ≤ m) && (decide ((l.d.length : Int) ≤ m) && decide ((l.y.length : Int) ≤ m))
/-- of numbers that rise each is at least 0 -/
theorem rises_low (zs : List Int) (j : Nat) (hj : j < zs.length) (h : rises (zs.take (j + 1)) = true) : 0 ≤ lastE zs (j + 1) := by
  rw [lastE_succ]
  have hm : atI zs j ∈ zs.take (j + 1) := by
    unfold atI
    rw [List.getD_eq_getElem?_getD, List.getElem?_eq_getElem hj, List.mem_take_iff_getElem]
    exact ⟨j, by omega, rfl⟩
  have := rises_lo _ _ h _ hm
  omega
/-- only draws -/
def DrawOk (w : World) (b : Bool) (e : Ending) (w' : World) : Prop := e = .returned (.bool b) ∧ ∃ m, w' = w.drewN m
theorem DrawOk.below {w w' : World} {b : Bool} {e : Ending} (h : DrawOk w b e w') : SameOk w b e w' := by
  obtain ⟨h1, m, rfl⟩ := h
  exact ⟨h1, below_drewW (Below.refl _ _) m⟩
/-- two deps in boxes of the call's own -/
theorem deps_boxes (a d y a2 d2 y2 : Value) (w : World) : DAt a d y w.heap.size ((w.alloc (.cells #[a, d, y] 40)).alloc (.cells #[a2, d2, y2] 40)) ∧ DAt a2 d2 y2 (w.heap.size + 1) ((w.alloc (.cells #[a, d, y] 40)).alloc (.cells #[a2, d2, y2] 40)) ∧ Below w.heap.size w ((w.alloc (.cells #[a, d, y] 40)).alloc (.cells #[a2, d2, y2] 40)) := by
  refine ⟨(DAt.new a d y w).alloc _, ?_, ((Below.refl _ _).alloc (Nat.le_refl _) _).alloc (by simp) _⟩
  have := DAt.new a2 d2 y2 (w.alloc (.cells #[a, d, y] 40))
  simp only [World.size_alloc] at this
  exact this
def depsB (al dl yl al2 dl2 yl2 : List Int) : Bool := decide (al = al2) && (decide (dl = dl2) && decide (yl = yl2))
end Go.Proofs.YtmdjkeplfdkoeaaDoor
