/-
  No cell of these rows narrows 'for every input' (looked for: loops, veiled, ifaces, maps, wideKeys, modest, calm, conditions, laid).
  DERIVED. THE GIVEN ROWS OF THIS SEAT. 7 by the template 'for every input the law returns true; each argument reads behind the call as it read before'; 0 by the template 'total and deterministic' (their statements: YtdapbaakcpjafaaTotals.lean).
  GIVEN WITH THE SEED: the statements are not yours to turn. If you find one false, say at which input.
  Laid BY PROGRAM, IN A SANDBOX (cutbox-rows.mjs): the forced cells as the released guide's own fill.sh prints them over the translation 674c468609d19ff3… (all of the seat's roots in one cut). By AI agents, Wed Nov 11 2026. No macro, syntax, notation, axiom, sorry.
-/
import Derived.Test.YtdapbaakcpjafaaChecked
import GoSem.Claim
import GoSem.ClaimJoined
import GoSem.ClaimMapViews
import Derived.JoinedTies
import Derived.KernelRfl
namespace Go.Proofs.Ytdapbaakcpjafaa
/- THE CELL 'sum', in the pinned program and in every row, IS THE sha256 OF THE DUMP (.gsa) THAT YtdapbaakcpjafaaProg.lean LOADS. Nothing in Lean hashes anything: it is a label: what it is worth is what the hold of that sum in a sandbox is worth. -/
noncomputable def Try.pinned : Pinned := { name := "ytdapbaakcpjafaa", sum := "674c468609d19ff3990bd7cbc737bc8bfe1a2683917ee60618c56ce80416aca3", checked := Try.checked }
namespace Rows
def none {H : Type} : Left H := { results := [], args := [] }

/-- 'fencepostlaw04.AluNames': WHATEVER THE INPUT: true; the input reads as it did. -/
def aluNamesSpec : ChangeSpec := { name := "aluNames", fn := fun _ => fun
  | [] => { results := [.lit (.bool true)], args := [] }
  | _ => none }
def aluNamesRow : OpenClaim := { program := "ytdapbaakcpjafaa", sum := "674c468609d19ff3990bd7cbc737bc8bfe1a2683917ee60618c56ce80416aca3", func := "fencepost/fencepostlaw04.AluNames", spec := "aluNames", unfollowed := true, recurses := true, apart := false }
def AluNamesSaid : Prop := aluNamesRow.holds Try.pinned (OpenSpec.ofChange aluNamesSpec)

/-- ITS FALSE NEIGHBOUR: 'it returns false'. Refute it at one input. -/
def aluNamesWrong : ChangeSpec := { name := "aluNames", fn := fun _ => fun
  | [] => { results := [.lit (.bool false)], args := [] }
  | _ => none }
def AluNamesWrongFalsely : Prop := aluNamesRow.holds Try.pinned (OpenSpec.ofChange aluNamesWrong)

/-- 'fencepostlaw04.AluCalls': WHATEVER THE INPUT: true; the input reads as it did. -/
def aluCallsSpec : ChangeSpec := { name := "aluCalls", fn := fun _ => fun
  | [d1, d2, d3] => { results := [.lit (.bool true)], args := [d1, d2, d3] }
  | _ => none }
def aluCallsRow : OpenClaim := { program := "ytdapbaakcpjafaa", sum := "674c468609d19ff3990bd7cbc737bc8bfe1a2683917ee60618c56ce80416aca3", func := "fencepost/fencepostlaw04.AluCalls", spec := "aluCalls", unfollowed := true, recurses := true, apart := false }
def AluCallsSaid : Prop := aluCallsRow.holds Try.pinned (OpenSpec.ofChange aluCallsSpec)

/-- ITS FALSE NEIGHBOUR: 'it returns false'. Refute it at one input. -/
def aluCallsWrong : ChangeSpec := { name := "aluCalls", fn := fun _ => fun
  | [d1, d2, d3] => { results := [.lit (.bool false)], args := [d1, d2, d3] }
  | _ => none }
def AluCallsWrongFalsely : Prop := aluCallsRow.holds Try.pinned (OpenSpec.ofChange aluCallsWrong)

/-- 'fencepostlaw04.AluDivides': WHATEVER THE INPUT: true; the input reads as it did. -/
def aluDividesSpec : ChangeSpec := { name := "aluDivides", fn := fun _ => fun
  | [d1, d2] => { results := [.lit (.bool true)], args := [d1, d2] }
  | _ => none }
def aluDividesRow : OpenClaim := { program := "ytdapbaakcpjafaa", sum := "674c468609d19ff3990bd7cbc737bc8bfe1a2683917ee60618c56ce80416aca3", func := "fencepost/fencepostlaw04.AluDivides", spec := "aluDivides", unfollowed := true, recurses := true, apart := false }
def AluDividesSaid : Prop := aluDividesRow.holds Try.pinned (OpenSpec.ofChange aluDividesSpec)

/-- ITS FALSE NEIGHBOUR: 'it returns false'. Refute it at one input. -/
def aluDividesWrong : ChangeSpec := { name := "aluDivides", fn := fun _ => fun
  | [d1, d2] => { results := [.lit (.bool false)], args := [d1, d2] }
  | _ => none }
def AluDividesWrongFalsely : Prop := aluDividesRow.holds Try.pinned (OpenSpec.ofChange aluDividesWrong)

/-- 'fencepostlaw04.AluHalves': WHATEVER THE INPUT: true; the input reads as it did. -/
def aluHalvesSpec : ChangeSpec := { name := "aluHalves", fn := fun _ => fun
  | [d1, d2] => { results := [.lit (.bool true)], args := [d1, d2] }
  | _ => none }
def aluHalvesRow : OpenClaim := { program := "ytdapbaakcpjafaa", sum := "674c468609d19ff3990bd7cbc737bc8bfe1a2683917ee60618c56ce80416aca3", func := "fencepost/fencepostlaw04.AluHalves", spec := "aluHalves", unfollowed := true, recurses := true, apart := false }
def AluHalvesSaid : Prop := aluHalvesRow.holds Try.pinned (OpenSpec.ofChange aluHalvesSpec)

/-- ITS FALSE NEIGHBOUR: 'it returns false'. Refute it at one input. -/
def aluHalvesWrong : ChangeSpec := { name := "aluHalves", fn := fun _ => fun
  | [d1, d2] => { results := [.lit (.bool false)], args := [d1, d2] }
  | _ => none }
def AluHalvesWrongFalsely : Prop := aluHalvesRow.holds Try.pinned (OpenSpec.ofChange aluHalvesWrong)

/-- 'fencepostlaw04.AluShort': WHATEVER THE INPUT: true; the input reads as it did. -/
def aluShortSpec : ChangeSpec := { name := "aluShort", fn := fun _ => fun
  | [d1, d2, d3, d4, d5] => { results := [.lit (.bool true)], args := [d1, d2, d3, d4, d5] }
  | _ => none }
def aluShortRow : OpenClaim := { program := "ytdapbaakcpjafaa", sum := "674c468609d19ff3990bd7cbc737bc8bfe1a2683917ee60618c56ce80416aca3", func := "fencepost/fencepostlaw04.AluShort", spec := "aluShort", unfollowed := true, recurses := true, apart := false }
def AluShortSaid : Prop := aluShortRow.holds Try.pinned (OpenSpec.ofChange aluShortSpec)

/-- ITS FALSE NEIGHBOUR: 'it returns false'. Refute it at one input. -/
def aluShortWrong : ChangeSpec := { name := "aluShort", fn := fun _ => fun
  | [d1, d2, d3, d4, d5] => { results := [.lit (.bool false)], args := [d1, d2, d3, d4, d5] }
  | _ => none }
def AluShortWrongFalsely : Prop := aluShortRow.holds Try.pinned (OpenSpec.ofChange aluShortWrong)

/-- 'fencepostlaw04.AluOrders': WHATEVER THE INPUT: true; the input reads as it did. -/
def aluOrdersSpec : ChangeSpec := { name := "aluOrders", fn := fun _ => fun
  | [d1, d2] => { results := [.lit (.bool true)], args := [d1, d2] }
  | _ => none }
def aluOrdersRow : OpenClaim := { program := "ytdapbaakcpjafaa", sum := "674c468609d19ff3990bd7cbc737bc8bfe1a2683917ee60618c56ce80416aca3", func := "fencepost/fencepostlaw04.AluOrders", spec := "aluOrders", unfollowed := true, recurses := true, apart := false }
def AluOrdersSaid : Prop := aluOrdersRow.holds Try.pinned (OpenSpec.ofChange aluOrdersSpec)

/-- ITS FALSE NEIGHBOUR: 'it returns false'. Refute it at one input. -/
def aluOrdersWrong : ChangeSpec := { name := "aluOrders", fn := fun _ => fun
  | [d1, d2] => { results := [.lit (.bool false)], args := [d1, d2] }
  | _ => none }
def AluOrdersWrongFalsely : Prop := aluOrdersRow.holds Try.pinned (OpenSpec.ofChange aluOrdersWrong)

/-- 'fencepostlaw04.AluRing': WHATEVER THE INPUT: true; the input reads as it did. -/
def aluRingSpec : ChangeSpec := { name := "aluRing", fn := fun _ => fun
  | [d1, d2, d3, d4] => { results := [.lit (.bool true)], args := [d1, d2, d3, d4] }
  | _ => none }
def aluRingRow : OpenClaim := { program := "ytdapbaakcpjafaa", sum := "674c468609d19ff3990bd7cbc737bc8bfe1a2683917ee60618c56ce80416aca3", func := "fencepost/fencepostlaw04.AluRing", spec := "aluRing", unfollowed := true, recurses := true, apart := false }
def AluRingSaid : Prop := aluRingRow.holds Try.pinned (OpenSpec.ofChange aluRingSpec)

/-- ITS FALSE NEIGHBOUR: 'it returns false'. Refute it at one input. -/
def aluRingWrong : ChangeSpec := { name := "aluRing", fn := fun _ => fun
  | [d1, d2, d3, d4] => { results := [.lit (.bool false)], args := [d1, d2, d3, d4] }
  | _ => none }
def AluRingWrongFalsely : Prop := aluRingRow.holds Try.pinned (OpenSpec.ofChange aluRingWrong)

/- THE SECOND FORM. 'bulk': how many values and letters a reading holds, each counted each time it is reached (what is shared counts as often as it is met; a slice's spare places count too). A statement '..UptoSaid' is the law's where the arguments, and the package variables that the reading takes, are together of bulk at most 1048576: NARROWER than '..Said'. Prove '..Said' where nothing that the law and all that it calls make is longer than what came in: it says more and counts as full. Else prove '..UptoSaid'. A law counts once. -/
mutual
def uptoBulk {H : Type} : DataW H → Nat
  | .lit (.string bytes) => bytes.length + 1
  | .lit _ => 1
  | .nil => 1
  | .ptr d => uptoBulk d + 1
  | .slice elems spare => uptoBulkAll elems + uptoBulkAll spare + 1
  | .agg parts => uptoBulkAll parts + 1
  | .iface _ d => uptoBulk d + 1
  | .map entries => uptoBulkEntries entries + 1
  | .held _ => 1
def uptoBulkAll {H : Type} : List (DataW H) → Nat
  | [] => 0
  | d :: r => uptoBulk d + uptoBulkAll r
def uptoBulkEntries {H : Type} : List (Lit × DataW H) → Nat
  | [] => 0
  | x :: r => uptoBulkEntry x + uptoBulkEntries r
def uptoBulkEntry {H : Type} : Lit × DataW H → Nat
  | (.string bytes, d) => bytes.length + uptoBulk d + 1
  | (_, d) => uptoBulk d + 1
 end
def uptoSmall : (H : Type) → List (DataW H) → Bool := fun _ ds => decide (uptoBulkAll ds ≤ 1048576)
def OpenSpec.upto (s : _root_.Go.ChangeSpec) : _root_.Go.OpenSpec := { _root_.Go.OpenSpec.ofChange s with cond := some uptoSmall }

/-- 'fencepostlaw04.AluNames', WHERE WHAT IT READS IS OF BULK AT MOST 1048576: true; the input reads as it did. -/
def aluNamesUptoRow : OpenClaim := { program := "ytdapbaakcpjafaa", sum := "674c468609d19ff3990bd7cbc737bc8bfe1a2683917ee60618c56ce80416aca3", func := "fencepost/fencepostlaw04.AluNames", spec := "aluNames", unfollowed := true, recurses := true, apart := false, narrowed := true }
def AluNamesUptoSaid : Prop := aluNamesUptoRow.holds Try.pinned (OpenSpec.upto aluNamesSpec)

/-- 'fencepostlaw04.AluCalls', WHERE WHAT IT READS IS OF BULK AT MOST 1048576: true; the input reads as it did. -/
def aluCallsUptoRow : OpenClaim := { program := "ytdapbaakcpjafaa", sum := "674c468609d19ff3990bd7cbc737bc8bfe1a2683917ee60618c56ce80416aca3", func := "fencepost/fencepostlaw04.AluCalls", spec := "aluCalls", unfollowed := true, recurses := true, apart := false, narrowed := true }
def AluCallsUptoSaid : Prop := aluCallsUptoRow.holds Try.pinned (OpenSpec.upto aluCallsSpec)

/-- 'fencepostlaw04.AluDivides', WHERE WHAT IT READS IS OF BULK AT MOST 1048576: true; the input reads as it did. -/
def aluDividesUptoRow : OpenClaim := { program := "ytdapbaakcpjafaa", sum := "674c468609d19ff3990bd7cbc737bc8bfe1a2683917ee60618c56ce80416aca3", func := "fencepost/fencepostlaw04.AluDivides", spec := "aluDivides", unfollowed := true, recurses := true, apart := false, narrowed := true }
def AluDividesUptoSaid : Prop := aluDividesUptoRow.holds Try.pinned (OpenSpec.upto aluDividesSpec)

/-- 'fencepostlaw04.AluHalves', WHERE WHAT IT READS IS OF BULK AT MOST 1048576: true; the input reads as it did. -/
def aluHalvesUptoRow : OpenClaim := { program := "ytdapbaakcpjafaa", sum := "674c468609d19ff3990bd7cbc737bc8bfe1a2683917ee60618c56ce80416aca3", func := "fencepost/fencepostlaw04.AluHalves", spec := "aluHalves", unfollowed := true, recurses := true, apart := false, narrowed := true }
def AluHalvesUptoSaid : Prop := aluHalvesUptoRow.holds Try.pinned (OpenSpec.upto aluHalvesSpec)

/-- 'fencepostlaw04.AluShort', WHERE WHAT IT READS IS OF BULK AT MOST 1048576: true; the input reads as it did. -/
def aluShortUptoRow : OpenClaim := { program := "ytdapbaakcpjafaa", sum := "674c468609d19ff3990bd7cbc737bc8bfe1a2683917ee60618c56ce80416aca3", func := "fencepost/fencepostlaw04.AluShort", spec := "aluShort", unfollowed := true, recurses := true, apart := false, narrowed := true }
def AluShortUptoSaid : Prop := aluShortUptoRow.holds Try.pinned (OpenSpec.upto aluShortSpec)

/-- 'fencepostlaw04.AluOrders', WHERE WHAT IT READS IS OF BULK AT MOST 1048576: true; the input reads as it did. -/
def aluOrdersUptoRow : OpenClaim := { program := "ytdapbaakcpjafaa", sum := "674c468609d19ff3990bd7cbc737bc8bfe1a2683917ee60618c56ce80416aca3", func := "fencepost/fencepostlaw04.AluOrders", spec := "aluOrders", unfollowed := true, recurses := true, apart := false, narrowed := true }
def AluOrdersUptoSaid : Prop := aluOrdersUptoRow.holds Try.pinned (OpenSpec.upto aluOrdersSpec)

/-- 'fencepostlaw04.AluRing', WHERE WHAT IT READS IS OF BULK AT MOST 1048576: true; the input reads as it did. -/
def aluRingUptoRow : OpenClaim := { program := "ytdapbaakcpjafaa", sum := "674c468609d19ff3990bd7cbc737bc8bfe1a2683917ee60618c56ce80416aca3", func := "fencepost/fencepostlaw04.AluRing", spec := "aluRing", unfollowed := true, recurses := true, apart := false, narrowed := true }
def AluRingUptoSaid : Prop := aluRingUptoRow.holds Try.pinned (OpenSpec.upto aluRingSpec)

end Rows
end Go.Proofs.Ytdapbaakcpjafaa
