/-
  DERIVED. GIVEN WITH THE SEED: THE CARDS: each row of YtplneijbhmhmoaaGreatDoorRows.lean that lists a variable, with what it lists TIED to the program's text (the seventh form; the later family's looks); each row that meets fmt, with fmt's text TOLD by the authors' own Lean function (tested against real Go, not proved from fmt's source: count such statements apart). THE CARD IS WHAT COUNTS. Prove the row's statement (the work); the ties are given (YtplneijbhmhmoaaGreatDoorTie.lean); close each card by the builder's one call (the guide's Derived/Test/ToyasCard.lean, 'card_holds'). Laid BY PROGRAM, IN A SANDBOX (cutbox-door.mjs). By AI agents, Wed Nov 11 2026. No macro, syntax, notation, axiom, sorry.
-/
import Derived.Test.YtplneijbhmhmoaaGreatDoorRows
import GoSem.ClaimSeven
namespace Go.Proofs.YtplneijbhmhmoaaGreatDoor
namespace Rows

/-- THE TIED CARD OF 'fencepostlaw02.InsnNames'. -/
def insnNamesCard : Claim7 := { stood := { row := insnNamesRow, standIns := [], harness := (true, "d045510191e21829b80e7957d409faf492069b510a534e541c5d34383730c635"), looks := true }, kinds := [], alts := [], laidByText := true, laidKinds := [.data, .data, .data, .data, .sentinel, .sentinel, .pinned], laidTests := true, laidLooks := .later }
def InsnNamesCardSaid : Prop := Claim7.holds Tryz.pinned (.plain (OpenSpec.ofChange insnNamesSpec)) insnNamesCard

/-- THE TIED CARD OF 'fencepostlaw02.InsnCalls'. -/
def insnCallsCard : Claim7 := { stood := { row := insnCallsRow, standIns := [], harness := (true, "d045510191e21829b80e7957d409faf492069b510a534e541c5d34383730c635"), looks := true }, kinds := [], alts := [], laidByText := true, laidKinds := [.data, .data, .data, .data, .sentinel, .sentinel, .pinned], laidTests := true, laidLooks := .later }
def InsnCallsCardSaid : Prop := Claim7.holds Tryz.pinned (.plain (OpenSpec.ofChange insnCallsSpec)) insnCallsCard

/-- THE SECOND FORM's CARD OF 'fencepostlaw02.InsnNames'. -/
def insnNamesUptoCard : Claim7 := { stood := { row := insnNamesUptoRow, standIns := [], harness := (true, "d045510191e21829b80e7957d409faf492069b510a534e541c5d34383730c635"), looks := true }, kinds := [], alts := [], laidByText := true, laidKinds := [.data, .data, .data, .data, .sentinel, .sentinel, .pinned], laidTests := true, laidLooks := .later }
def InsnNamesUptoCardSaid : Prop := Claim7.holds Tryz.pinned (.plain (OpenSpec.upto insnNamesSpec)) insnNamesUptoCard

/-- THE SECOND FORM's CARD OF 'fencepostlaw02.InsnCalls'. -/
def insnCallsUptoCard : Claim7 := { stood := { row := insnCallsUptoRow, standIns := [], harness := (true, "d045510191e21829b80e7957d409faf492069b510a534e541c5d34383730c635"), looks := true }, kinds := [], alts := [], laidByText := true, laidKinds := [.data, .data, .data, .data, .sentinel, .sentinel, .pinned], laidTests := true, laidLooks := .later }
def InsnCallsUptoCardSaid : Prop := Claim7.holds Tryz.pinned (.plain (OpenSpec.upto insnCallsSpec)) insnCallsUptoCard
end Rows
end Go.Proofs.YtplneijbhmhmoaaGreatDoor
