/-
  Words: what an order that may be tells of places; what the law CandNumbers stands on. No condition.
-/
import Derived.Test.YtokhnjcbcpmmjaaCdLives
import Derived.Test.YtokhnjcbcpmmjaaCdNumber
import Derived.Test.YtokhnjcbcpmmjaaCdFresh
import Derived.Test.YtokhnjcbcpmmjaaCdFew
import Derived.Test.YtokhnjcbcpmmjaaCdEvent
namespace Go.Proofs.Ytokhnjcbcpmmjaa
set_option linter.unusedVariables false
set_option linter.unusedSimpArgs false
open Go.RowKit

end Go.Proofs.Ytokhnjcbcpmmjaa
