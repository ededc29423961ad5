/-
  Proved here: the kit's Event tells that an event is its copy, which has lists of its own that read as its; nothing that was there is changed. Condition: lists of at most 100,000 numbers.
-/
import Derived.Test.YtcebcmmbokajcaaCdPlain
import Derived.Lib.ItoaWalk
namespace Go.Proofs.Ytcebcmmbokajcaa
set_option linter.unusedVariables false
set_option linter.unusedSimpArgs false
open Go.RowKit
attribute [local go_sem ↓] fold_E fold_SE

/-- the boxes of the kit's Event -/
structure Eb (e f : Ev) (w W : World) : Prop where
  b0 : EvAt e w.heap.size W
  b1 : EvAt f (w.heap.size + 1) W
  below : Below w.heap.size w W
theorem Eb.on {e f : Ev} {w W W2 : World} (h : Eb e f w W) (hb : Below W.heap.size W W2) : Eb e f w W2 := ⟨h.b0.on hb, h.b1.on hb, h.below.trans (hb.mono h.below.size)⟩
end Go.Proofs.Ytcebcmmbokajcaa
