/-
  Proved here: what a row's events are, and what rows become by a store into one event of a copy. No condition.
  (With it: Proved here: the kit's OwnEvents answers a row of events of its own; nothing that was there is changed. Condition: at most 60 events.)
-/
import Derived.Test.YtokhnjcbcpmmjaaEvRowWords
namespace Go.Proofs.Ytokhnjcbcpmmjaa
set_option linter.unusedVariables false
set_option linter.unusedSimpArgs false
open Go.RowKit
attribute [local go_sem ↓] fold_E fold_SE

end Go.Proofs.Ytokhnjcbcpmmjaa
namespace Go.Proofs.Ytokhnjcbcpmmjaa
set_option linter.unusedVariables false
set_option linter.unusedSimpArgs false
open Go.RowKit

/-- a row of events in a block of its own -/
def IsRow (g : Nat) (w : World) : Prop := ∃ cur, w.heap[g]? = some (.cells cur 42 (0, 0))
theorem IsRow.on {g : Nat} {w w' : World} (h : IsRow g w) (hb : Below w.heap.size w w') : IsRow g w' := by
  obtain ⟨c, hc⟩ := h
  exact ⟨c, (hb.block g (Array.getElem?_eq_some_iff.1 hc).1).trans hc⟩
theorem IsRow.lt {g : Nat} {w : World} (h : IsRow g w) : g < w.heap.size := by
  obtain ⟨c, hc⟩ := h
  exact (Array.getElem?_eq_some_iff.1 hc).1
theorem IsRow.free {g : Nat} {w : World} (h : IsRow g w) (k : Nat) : w.frozen? ⟨g, k, none⟩ = false := by
  obtain ⟨c, hc⟩ := h
  exact frozen_of_row w g k _ _ hc
theorem IsRow.set {g : Nat} {w : World} (h : IsRow g w) (g2 i : Nat) (u : Value) : IsRow g (w.setCell ⟨g2, i, none⟩ u) := by
  obtain ⟨c, hc⟩ := h
  by_cases e : g = g2
  · subst e
    exact ⟨_, set_at _ _ _ _ _ _ _ hc⟩
  · exact ⟨c, (Below.heap_setCell w ⟨g2, i, none⟩ u g e).trans hc⟩
theorem ne_of_typed {w : World} {v : Value} {g b : Nat} (ht : TypedI w v) (hg : IsRow g w) (hb : v.ownBlock = some b) : b ≠ g := by
  intro e
  subst e
  obtain ⟨c, hc⟩ := ht b hb
  obtain ⟨c2, hc2⟩ := hg
  rw [hc] at hc2
  simp at hc2
theorem typed_store {w : World} {v : Value} {g i : Nat} {u : Value} (ht : TypedI w v) (hg : IsRow g w) : TypedI (w.setCell ⟨g, i, none⟩ u) v := fun b hb => by
  obtain ⟨c, hc⟩ := ht b hb
  exact ⟨c, (Below.heap_setCell w ⟨g, i, none⟩ u b (ne_of_typed ht hg hb)).trans hc⟩
theorem reads_store {w : World} {v : Value} {zs : List Int} {g i : Nat} {u : Value} (hr : ReadsI w v zs) (ht : TypedI w v) (hg : IsRow g w) : ReadsI (w.setCell ⟨g, i, none⟩ u) v zs := by
  rcases hr with h0 | ⟨b, off, c, rfl, h1, h2, h3, h4⟩
  · exact .inl h0
  · refine .inr ⟨b, off, c, rfl, h1, h2, by simpa [World.setCell] using h3, fun j hj => ?_⟩
    rw [← h4 j hj]
    exact World.cell?_of_block (Below.heap_setCell w ⟨g, i, none⟩ u b (ne_of_typed ht hg rfl))
theorem ereads_store {w : World} {e : Ev} {l : El} {g i : Nat} {u : Value} (hr : EReads w e l) (ht : TypedD w e.a e.d e.y) (hg : IsRow g w) : EReads (w.setCell ⟨g, i, none⟩ u) e l :=
  ⟨reads_store hr.1 ht.1 hg, reads_store hr.2.1 ht.2.1 hg, reads_store hr.2.2 ht.2.2 hg⟩
end Go.Proofs.Ytokhnjcbcpmmjaa
