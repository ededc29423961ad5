/-
  DERIVED. GIVEN WITH THE SEED: THE CARDS: each row of YtplneijbhmhmoaaDoorRows.lean that lists a variable, with what it lists TIED to the program's text (the seventh form; the later family's looks); each row that meets fmt, with fmt's text TOLD by the authors' own Lean function (tested against real Go, not proved from fmt's source: count such statements apart). THE CARD IS WHAT COUNTS. Prove the row's statement (the work); the ties are given (YtplneijbhmhmoaaDoorTie.lean); close each card by the builder's one call (the guide's Derived/Test/ToyasCard.lean, 'card_holds'). Laid BY PROGRAM, IN A SANDBOX (cutbox-door.mjs). By AI agents, Wed Nov 11 2026. No macro, syntax, notation, axiom, sorry.
-/
import Derived.Test.YtplneijbhmhmoaaDoorRows
import GoSem.ClaimSeven
namespace Go.Proofs.YtplneijbhmhmoaaDoor
namespace Rows

/-- THE TIED CARD OF 'fencepostlaw02.InsnBack'. -/
def insnBackCard : Claim7 := { stood := { row := insnBackRow, standIns := [], harness := (true, "33ee0fa41b099f560181e38782eea67afe84684e518277b5cb26a0ea6b1c4416"), looks := true }, kinds := [], alts := [], laidByText := true, laidKinds := [.data, .data, .data, .data, .sentinel, .sentinel, .pinned], laidTests := true, laidLooks := .later }
def InsnBackCardSaid : Prop := Claim7.holds Tryd.pinned (.plain (OpenSpec.ofChange insnBackSpec)) insnBackCard

/-- THE TIED CARD OF 'fencepostlaw02.InsnTables'. -/
def insnTablesCard : Claim7 := { stood := { row := insnTablesRow, standIns := [], harness := (true, "33ee0fa41b099f560181e38782eea67afe84684e518277b5cb26a0ea6b1c4416"), looks := true }, kinds := [], alts := [], laidByText := true, laidKinds := [.data, .data, .data], laidTests := true, laidLooks := .later }
def InsnTablesCardSaid : Prop := Claim7.holds Tryd.pinned (.plain (OpenSpec.ofChange insnTablesSpec)) insnTablesCard

/-- THE TIED CARD OF 'fencepostlaw02.InsnFields'. -/
def insnFieldsCard : Claim7 := { stood := { row := insnFieldsRow, standIns := [], harness := (true, "33ee0fa41b099f560181e38782eea67afe84684e518277b5cb26a0ea6b1c4416"), looks := true }, kinds := [], alts := [], laidByText := true, laidKinds := [.data, .data, .data], laidTests := true, laidLooks := .later }
def InsnFieldsCardSaid : Prop := Claim7.holds Tryd.pinned (.plain (OpenSpec.ofChange insnFieldsSpec)) insnFieldsCard

/-- THE TIED CARD OF 'fencepostlaw02.InsnShapes'. -/
def insnShapesCard : Claim7 := { stood := { row := insnShapesRow, standIns := [], harness := (true, "33ee0fa41b099f560181e38782eea67afe84684e518277b5cb26a0ea6b1c4416"), looks := true }, kinds := [], alts := [], laidByText := true, laidKinds := [.data, .data, .data], laidTests := true, laidLooks := .later }
def InsnShapesCardSaid : Prop := Claim7.holds Tryd.pinned (.plain (OpenSpec.ofChange insnShapesSpec)) insnShapesCard

/-- THE SECOND FORM's CARD OF 'fencepostlaw02.InsnBack'. -/
def insnBackUptoCard : Claim7 := { stood := { row := insnBackUptoRow, standIns := [], harness := (true, "33ee0fa41b099f560181e38782eea67afe84684e518277b5cb26a0ea6b1c4416"), looks := true }, kinds := [], alts := [], laidByText := true, laidKinds := [.data, .data, .data, .data, .sentinel, .sentinel, .pinned], laidTests := true, laidLooks := .later }
def InsnBackUptoCardSaid : Prop := Claim7.holds Tryd.pinned (.plain (OpenSpec.upto insnBackSpec)) insnBackUptoCard

/-- THE SECOND FORM's CARD OF 'fencepostlaw02.InsnTables'. -/
def insnTablesUptoCard : Claim7 := { stood := { row := insnTablesUptoRow, standIns := [], harness := (true, "33ee0fa41b099f560181e38782eea67afe84684e518277b5cb26a0ea6b1c4416"), looks := true }, kinds := [], alts := [], laidByText := true, laidKinds := [.data, .data, .data], laidTests := true, laidLooks := .later }
def InsnTablesUptoCardSaid : Prop := Claim7.holds Tryd.pinned (.plain (OpenSpec.upto insnTablesSpec)) insnTablesUptoCard

/-- THE SECOND FORM's CARD OF 'fencepostlaw02.InsnFields'. -/
def insnFieldsUptoCard : Claim7 := { stood := { row := insnFieldsUptoRow, standIns := [], harness := (true, "33ee0fa41b099f560181e38782eea67afe84684e518277b5cb26a0ea6b1c4416"), looks := true }, kinds := [], alts := [], laidByText := true, laidKinds := [.data, .data, .data], laidTests := true, laidLooks := .later }
def InsnFieldsUptoCardSaid : Prop := Claim7.holds Tryd.pinned (.plain (OpenSpec.upto insnFieldsSpec)) insnFieldsUptoCard

/-- THE SECOND FORM's CARD OF 'fencepostlaw02.InsnShapes'. -/
def insnShapesUptoCard : Claim7 := { stood := { row := insnShapesUptoRow, standIns := [], harness := (true, "33ee0fa41b099f560181e38782eea67afe84684e518277b5cb26a0ea6b1c4416"), looks := true }, kinds := [], alts := [], laidByText := true, laidKinds := [.data, .data, .data], laidTests := true, laidLooks := .later }
def InsnShapesUptoCardSaid : Prop := Claim7.holds Tryd.pinned (.plain (OpenSpec.upto insnShapesSpec)) insnShapesUptoCard
end Rows
end Go.Proofs.YtplneijbhmhmoaaDoor
