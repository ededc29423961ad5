/-
  Proved here: the kit's Event tells that an event is its copy, which has lists of its own that read as its; nothing that was there is changed. Condition: lists of at most 100,000 numbers.
-/
import Derived.Test.YtokhnjcbcpmmjaaCdPlain
import Derived.Lib.ItoaWalk
namespace Go.Proofs.Ytokhnjcbcpmmjaa
set_option linter.unusedVariables false
set_option linter.unusedSimpArgs false
open Go.RowKit
attribute [local go_sem ↓] fold_E fold_SE

end Go.Proofs.Ytokhnjcbcpmmjaa
