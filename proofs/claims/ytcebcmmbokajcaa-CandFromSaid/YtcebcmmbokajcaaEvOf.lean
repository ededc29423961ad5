/-
  Proved here: event's Of answers the event that an ask makes, or ErrArg; nothing that was there is changed. Condition: numbers of 64 bits; lists of at most 100,000 numbers.
-/
import Derived.Test.YtcebcmmbokajcaaEvMade
import Derived.Test.YtcebcmmbokajcaaEvDeps
import Derived.Deep.CutBlock
namespace Go.Proofs.Ytcebcmmbokajcaa
set_option linter.unusedVariables false
set_option linter.unusedSimpArgs false
open Go.RowKit
attribute [local go_sem ↓] fold_E fold_SE

theorem ReadsN.far {n g k : Nat} {w : World} {v : Value} {zs : List Int} (h : ReadsN n w v zs) (x : Value) (hg : g < n) : ReadsN n (w.setCell ⟨g, k, none⟩ x) v zs :=
  ⟨h.1.set g k x (fun e => absurd (h.2 g e) (by omega)), h.2⟩
/-- what reads from above block n reads so still where block n alone was written -/
theorem reads_but {n m B : Nat} {W w9 : World} {v : Value} {zs : List Int} (hv : ReadsN B W v zs) (hn : n < B) (hm : m ≤ B) (ho : ∀ j, j ≠ n → w9.heap[j]? = W.heap[j]?) (hz : w9.heap.size = W.heap.size) : ReadsN m w9 v zs := by
  refine ⟨?_, fun k hk => by have := hv.2 k hk; omega⟩
  rcases hv.1 with h0 | ⟨b, off, c, e, h2, h3, h4, h5⟩
  · exact .inl h0
  · subst e
    have hbn := hv.2 b rfl
    refine .inr ⟨b, off, c, rfl, h2, h3, by omega, fun j hj => ?_⟩
    rw [← h5 j hj]
    exact World.cell?_of_block (ho b (by omega))
/-- what Of answers -/
def OfIs (w : World) (e : Ev) (l : El) (e' : Ending) (w' : World) : Prop := ∃ a d y, e' = .returned (.tuple #[(⟨e.hart, e.pos, e.kind, e.addr, e.load, e.store, e.aq, e.rl, e.pred, e.succ, e.pair, a, d, y⟩ : Ev).V, .int .i64 0]) ∧ DepsN w.heap.size w' a d y l.a l.d l.y ∧ Below w.heap.size w w'
end Go.Proofs.Ytcebcmmbokajcaa
