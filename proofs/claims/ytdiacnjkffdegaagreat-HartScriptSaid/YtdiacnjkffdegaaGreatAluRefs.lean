/-
  Proved here: the document's Short and Low, on bit vectors. No condition.
-/
import Derived.Test.YtdiacnjkffdegaaGreatAluDo
namespace Go.Proofs.YtdiacnjkffdegaaGreat
open Go.RowKit
theorem rshort_U (x : BitVec 64) (w : World) : Calls Tryz.prog 34 #[.int .u64 (U x)] w fun e w' => e = .returned (.int .u64 (U (sh x))) ∧ w = w' := by
  have h := refShort_any x w
  rw [shortI_U] at h
  exact h
theorem rlow_U (x : BitVec 64) (w : World) : Calls Tryz.prog 56 #[.int .u64 (U x), .int .i64 32] w fun e w' => e = .returned (.int .u64 (U (lo x))) ∧ w = w' := by
  have h := refLow_any (U x) 32 w
  rw [lowI_U, ck32] at h
  exact h
end Go.Proofs.YtdiacnjkffdegaaGreat
