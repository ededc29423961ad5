/-
  Proved here: what the row asks of the listed table gives the table of zero bits; the heap that the door's own run leaves meets it. No condition.
-/
import Derived.Test.YtgkiaeddlahngaaGreatDoorPpSets
import Derived.Test.YtgkiaeddlahngaaGreatDoorRows
import Derived.LaidMore
import Derived.Stop.Joined
import Derived.Lib.LaidTab
import Derived.Stop.LaidErr
namespace Go.Proofs.YtgkiaeddlahngaaGreatDoor
open Go.RowKit

theorem ownD : ownKnob Tryz.prog.godebug = none := by kernel_rfl
theorem tZ : (Tryz.prog.globals[0]?).map (·.type) = some 126 := by kernel_rfl
abbrev tabZL : List Int := [0, 1, 56, 2, 57, 49, 28, 3, 61, 58, 42, 50, 38, 29, 17, 4, 62, 47, 59, 36, 45, 43, 51, 22, 53, 39, 33, 30, 24, 18, 12, 5, 63, 55, 48, 27, 60, 41, 37, 16, 46, 35, 44, 21, 52, 32, 23, 11, 54, 26, 40, 15, 34, 20, 31, 10, 25, 14, 19, 9, 13, 8, 7, 6]
theorem zData : (Rows.laid_math_bits_deBruijn64tab : DataW Unit) = Lib.tabData .u8 tabZL := by kernel_rfl
abbrev laid1 : List (String × DataW Unit) := [("math/bits.deBruijn64tab", Rows.laid_math_bits_deBruijn64tab)]
theorem tabZ_at : ∀ j, j < 64 → tabZL.getD j 0 = ((Lib.deBruijn64tab.getD j 0 : Nat) : Int) := by decide +kernel
theorem tabs_of_laid {W : World} (h : laidMetH Tryz.prog laid1 W) : TabT W := by
  rw [MakeChecks.laidMetH_plain _ _ _ (by kernel_rfl)] at h
  have h1 := h
  unfold laid1 at h1
  rw [zData] at h1
  have hz := Lib.tabIs_of_head gZ tZ Tryz.underlying126 Tryz.underlying5 (by kernel_rfl) (by kernel_rfl) h1
  intro j hj
  have hj64 : j < 64 := hj
  have hc := Lib.TabIs.cell hz gZ j hj64
  rw [tabZ_at j hj64] at hc
  exact hc
theorem door_met (os : Os) (args : Array Value) : laidMetH Tryz.prog laid1 ((World.doorLaid Tryz.prog 400 os).forCall (fun _ _ => 0) ⟨#[], args, []⟩).memory :=
  laidMetH_of_parts3 (fuel := 8) (laidMet_of_run' 8 (by kernel_rfl) (by kernel_rfl)) (by kernel_rfl) (by kernel_rfl)
end Go.Proofs.YtgkiaeddlahngaaGreatDoor
