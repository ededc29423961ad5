/-
  DERIVED. GIVEN WITH THE SEED: THE CARDS: each row of YtmdjkeplfdkoeaaDoorRows.lean that lists a variable, with what it lists TIED to the program's text (the seventh form; the later family's looks); each row that meets fmt, with fmt's text TOLD by the authors' own Lean function (tested against real Go, not proved from fmt's source: count such statements apart). THE CARD IS WHAT COUNTS. Prove the row's statement (the work); the ties are given (YtmdjkeplfdkoeaaDoorTie.lean); close each card by the builder's one call (the guide's Derived/Test/ToyasCard.lean, 'card_holds'). Laid BY PROGRAM, IN A SANDBOX (cutbox-door.mjs). By AI agents, Wed Nov 11 2026. No macro, syntax, notation, axiom, sorry.
-/
import Derived.Test.YtmdjkeplfdkoeaaDoorRows
import GoSem.ClaimSeven
namespace Go.Proofs.YtmdjkeplfdkoeaaDoor
namespace Rows

/-- THE TIED CARD OF 'fencepostlaw10.PpoNames'. -/
def ppoNamesCard : Claim7 := { stood := { row := ppoNamesRow, standIns := [], harness := (true, "0172f56b95e9aac3e2c157db5ed97dcafa23b92b6826ebe94ad739a12246698b"), looks := false }, kinds := [], alts := [], laidByText := true, laidKinds := [.data], laidTests := true, laidLooks := .later }
def PpoNamesCardSaid : Prop := Claim7.holds Tryd.pinned (.plain (OpenSpec.ofChange ppoNamesSpec)) ppoNamesCard

/-- THE SECOND FORM's CARD OF 'fencepostlaw10.PpoNames'. -/
def ppoNamesUptoCard : Claim7 := { stood := { row := ppoNamesUptoRow, standIns := [], harness := (true, "0172f56b95e9aac3e2c157db5ed97dcafa23b92b6826ebe94ad739a12246698b"), looks := false }, kinds := [], alts := [], laidByText := true, laidKinds := [.data], laidTests := true, laidLooks := .later }
def PpoNamesUptoCardSaid : Prop := Claim7.holds Tryd.pinned (.plain (OpenSpec.upto ppoNamesSpec)) ppoNamesUptoCard
end Rows
end Go.Proofs.YtmdjkeplfdkoeaaDoor
