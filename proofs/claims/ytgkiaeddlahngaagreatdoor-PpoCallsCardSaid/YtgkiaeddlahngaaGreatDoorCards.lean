/-
  DERIVED. GIVEN WITH THE SEED: THE CARDS: each row of YtgkiaeddlahngaaGreatDoorRows.lean that lists a variable, with what it lists TIED to the program's text (the seventh form; the later family's looks); each row that meets fmt, with fmt's text TOLD by the authors' own Lean function (tested against real Go, not proved from fmt's source: count such statements apart). THE CARD IS WHAT COUNTS. Prove the row's statement (the work); the ties are given (YtgkiaeddlahngaaGreatDoorTie.lean); close each card by the builder's one call (the guide's Derived/Test/ToyasCard.lean, 'card_holds'). Laid BY PROGRAM, IN A SANDBOX (cutbox-door.mjs). By AI agents, Wed Nov 11 2026. No macro, syntax, notation, axiom, sorry.
-/
import Derived.Test.YtgkiaeddlahngaaGreatDoorRows
import GoSem.ClaimSeven
namespace Go.Proofs.YtgkiaeddlahngaaGreatDoor
namespace Rows

/-- THE TIED CARD OF 'fencepostlaw10.PpoCalls'. -/
def ppoCallsCard : Claim7 := { stood := { row := ppoCallsRow, standIns := [], harness := (true, "9c9ce1469d978321033f920359ff3af11f37b1e97e681819e5138ec610a6191e"), looks := false }, kinds := [], alts := [], laidByText := true, laidKinds := [.data], laidTests := true, laidLooks := .later }
def PpoCallsCardSaid : Prop := Claim7.holds Tryz.pinned (.plain (OpenSpec.ofChange ppoCallsSpec)) ppoCallsCard

/-- THE TIED CARD OF 'fencepostlaw10.PpoWithin'. -/
def ppoWithinCard : Claim7 := { stood := { row := ppoWithinRow, standIns := [], harness := (true, "9c9ce1469d978321033f920359ff3af11f37b1e97e681819e5138ec610a6191e"), looks := false }, kinds := [], alts := [], laidByText := true, laidKinds := [.data], laidTests := true, laidLooks := .later }
def PpoWithinCardSaid : Prop := Claim7.holds Tryz.pinned (.plain (OpenSpec.ofChange ppoWithinSpec)) ppoWithinCard

/-- THE TIED CARD OF 'fencepostlaw10.PpoFences'. -/
def ppoFencesCard : Claim7 := { stood := { row := ppoFencesRow, standIns := [], harness := (true, "9c9ce1469d978321033f920359ff3af11f37b1e97e681819e5138ec610a6191e"), looks := false }, kinds := [], alts := [], laidByText := true, laidKinds := [.data], laidTests := true, laidLooks := .later }
def PpoFencesCardSaid : Prop := Claim7.holds Tryz.pinned (.plain (OpenSpec.ofChange ppoFencesSpec)) ppoFencesCard

/-- THE SECOND FORM's CARD OF 'fencepostlaw10.PpoCalls'. -/
def ppoCallsUptoCard : Claim7 := { stood := { row := ppoCallsUptoRow, standIns := [], harness := (true, "9c9ce1469d978321033f920359ff3af11f37b1e97e681819e5138ec610a6191e"), looks := false }, kinds := [], alts := [], laidByText := true, laidKinds := [.data], laidTests := true, laidLooks := .later }
def PpoCallsUptoCardSaid : Prop := Claim7.holds Tryz.pinned (.plain (OpenSpec.upto ppoCallsSpec)) ppoCallsUptoCard

/-- THE SECOND FORM's CARD OF 'fencepostlaw10.PpoWithin'. -/
def ppoWithinUptoCard : Claim7 := { stood := { row := ppoWithinUptoRow, standIns := [], harness := (true, "9c9ce1469d978321033f920359ff3af11f37b1e97e681819e5138ec610a6191e"), looks := false }, kinds := [], alts := [], laidByText := true, laidKinds := [.data], laidTests := true, laidLooks := .later }
def PpoWithinUptoCardSaid : Prop := Claim7.holds Tryz.pinned (.plain (OpenSpec.upto ppoWithinSpec)) ppoWithinUptoCard

/-- THE SECOND FORM's CARD OF 'fencepostlaw10.PpoFences'. -/
def ppoFencesUptoCard : Claim7 := { stood := { row := ppoFencesUptoRow, standIns := [], harness := (true, "9c9ce1469d978321033f920359ff3af11f37b1e97e681819e5138ec610a6191e"), looks := false }, kinds := [], alts := [], laidByText := true, laidKinds := [.data], laidTests := true, laidLooks := .later }
def PpoFencesUptoCardSaid : Prop := Claim7.holds Tryz.pinned (.plain (OpenSpec.upto ppoFencesSpec)) ppoFencesUptoCard
end Rows
end Go.Proofs.YtgkiaeddlahngaaGreatDoor
