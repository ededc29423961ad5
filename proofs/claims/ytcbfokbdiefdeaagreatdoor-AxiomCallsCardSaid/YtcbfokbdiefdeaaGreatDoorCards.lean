/-
  DERIVED. GIVEN WITH THE SEED: THE CARDS: each row of YtcbfokbdiefdeaaGreatDoorRows.lean that lists a variable, with what it lists TIED to the program's text (the seventh form; the later family's looks); each row that meets fmt, with fmt's text TOLD by the authors' own Lean function (tested against real Go, not proved from fmt's source: count such statements apart). THE CARD IS WHAT COUNTS. Prove the row's statement (the work); the ties are given (YtcbfokbdiefdeaaGreatDoorTie.lean); close each card by the builder's one call (the guide's Derived/Test/ToyasCard.lean, 'card_holds'). Laid BY PROGRAM, IN A SANDBOX (cutbox-door.mjs). By AI agents, Wed Nov 11 2026. No macro, syntax, notation, axiom, sorry.
-/
import Derived.Test.YtcbfokbdiefdeaaGreatDoorRows
import GoSem.ClaimSeven
namespace Go.Proofs.YtcbfokbdiefdeaaGreatDoor
namespace Rows

/-- THE TIED CARD OF 'fencepostlaw11.AxiomNames'. -/
def axiomNamesCard : Claim7 := { stood := { row := axiomNamesRow, standIns := [], harness := (true, "f47f2333c429094ecd39056022d9a8de489e7fe24e54ec4eb562ddcecae07df0"), looks := false }, kinds := [], alts := [], laidByText := true, laidKinds := [.data, .data, .data], laidTests := true, laidLooks := .later }
def AxiomNamesCardSaid : Prop := Claim7.holds Tryz.pinned (.plain (OpenSpec.ofChange axiomNamesSpec)) axiomNamesCard

/-- THE TIED CARD OF 'fencepostlaw11.AxiomCalls'. -/
def axiomCallsCard : Claim7 := { stood := { row := axiomCallsRow, standIns := [], harness := (true, "f47f2333c429094ecd39056022d9a8de489e7fe24e54ec4eb562ddcecae07df0"), looks := false }, kinds := [], alts := [], laidByText := true, laidKinds := [.data, .data, .data], laidTests := true, laidLooks := .later }
def AxiomCallsCardSaid : Prop := Claim7.holds Tryz.pinned (.plain (OpenSpec.ofChange axiomCallsSpec)) axiomCallsCard

/-- THE TIED CARD OF 'fencepostlaw11.AxiomSources'. -/
def axiomSourcesCard : Claim7 := { stood := { row := axiomSourcesRow, standIns := [], harness := (true, "f47f2333c429094ecd39056022d9a8de489e7fe24e54ec4eb562ddcecae07df0"), looks := false }, kinds := [], alts := [], laidByText := true, laidKinds := [.data, .data, .data], laidTests := true, laidLooks := .later }
def AxiomSourcesCardSaid : Prop := Claim7.holds Tryz.pinned (.plain (OpenSpec.ofChange axiomSourcesSpec)) axiomSourcesCard

/-- THE TIED CARD OF 'fencepostlaw11.AxiomOrders'. -/
def axiomOrdersCard : Claim7 := { stood := { row := axiomOrdersRow, standIns := [], harness := (true, "f47f2333c429094ecd39056022d9a8de489e7fe24e54ec4eb562ddcecae07df0"), looks := false }, kinds := [], alts := [], laidByText := true, laidKinds := [.data, .data, .data], laidTests := true, laidLooks := .later }
def AxiomOrdersCardSaid : Prop := Claim7.holds Tryz.pinned (.plain (OpenSpec.ofChange axiomOrdersSpec)) axiomOrdersCard

/-- THE TIED CARD OF 'fencepostlaw11.AxiomCoherent'. -/
def axiomCoherentCard : Claim7 := { stood := { row := axiomCoherentRow, standIns := [], harness := (true, "f47f2333c429094ecd39056022d9a8de489e7fe24e54ec4eb562ddcecae07df0"), looks := false }, kinds := [], alts := [], laidByText := true, laidKinds := [.data, .data, .data], laidTests := true, laidLooks := .later }
def AxiomCoherentCardSaid : Prop := Claim7.holds Tryz.pinned (.plain (OpenSpec.ofChange axiomCoherentSpec)) axiomCoherentCard

/-- THE SECOND FORM's CARD OF 'fencepostlaw11.AxiomNames'. -/
def axiomNamesUptoCard : Claim7 := { stood := { row := axiomNamesUptoRow, standIns := [], harness := (true, "f47f2333c429094ecd39056022d9a8de489e7fe24e54ec4eb562ddcecae07df0"), looks := false }, kinds := [], alts := [], laidByText := true, laidKinds := [.data, .data, .data], laidTests := true, laidLooks := .later }
def AxiomNamesUptoCardSaid : Prop := Claim7.holds Tryz.pinned (.plain (OpenSpec.upto axiomNamesSpec)) axiomNamesUptoCard

/-- THE SECOND FORM's CARD OF 'fencepostlaw11.AxiomCalls'. -/
def axiomCallsUptoCard : Claim7 := { stood := { row := axiomCallsUptoRow, standIns := [], harness := (true, "f47f2333c429094ecd39056022d9a8de489e7fe24e54ec4eb562ddcecae07df0"), looks := false }, kinds := [], alts := [], laidByText := true, laidKinds := [.data, .data, .data], laidTests := true, laidLooks := .later }
def AxiomCallsUptoCardSaid : Prop := Claim7.holds Tryz.pinned (.plain (OpenSpec.upto axiomCallsSpec)) axiomCallsUptoCard

/-- THE SECOND FORM's CARD OF 'fencepostlaw11.AxiomSources'. -/
def axiomSourcesUptoCard : Claim7 := { stood := { row := axiomSourcesUptoRow, standIns := [], harness := (true, "f47f2333c429094ecd39056022d9a8de489e7fe24e54ec4eb562ddcecae07df0"), looks := false }, kinds := [], alts := [], laidByText := true, laidKinds := [.data, .data, .data], laidTests := true, laidLooks := .later }
def AxiomSourcesUptoCardSaid : Prop := Claim7.holds Tryz.pinned (.plain (OpenSpec.upto axiomSourcesSpec)) axiomSourcesUptoCard

/-- THE SECOND FORM's CARD OF 'fencepostlaw11.AxiomOrders'. -/
def axiomOrdersUptoCard : Claim7 := { stood := { row := axiomOrdersUptoRow, standIns := [], harness := (true, "f47f2333c429094ecd39056022d9a8de489e7fe24e54ec4eb562ddcecae07df0"), looks := false }, kinds := [], alts := [], laidByText := true, laidKinds := [.data, .data, .data], laidTests := true, laidLooks := .later }
def AxiomOrdersUptoCardSaid : Prop := Claim7.holds Tryz.pinned (.plain (OpenSpec.upto axiomOrdersSpec)) axiomOrdersUptoCard

/-- THE SECOND FORM's CARD OF 'fencepostlaw11.AxiomCoherent'. -/
def axiomCoherentUptoCard : Claim7 := { stood := { row := axiomCoherentUptoRow, standIns := [], harness := (true, "f47f2333c429094ecd39056022d9a8de489e7fe24e54ec4eb562ddcecae07df0"), looks := false }, kinds := [], alts := [], laidByText := true, laidKinds := [.data, .data, .data], laidTests := true, laidLooks := .later }
def AxiomCoherentUptoCardSaid : Prop := Claim7.holds Tryz.pinned (.plain (OpenSpec.upto axiomCoherentSpec)) axiomCoherentUptoCard
end Rows
end Go.Proofs.YtcbfokbdiefdeaaGreatDoor
