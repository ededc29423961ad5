/-
  Proved here: what CodeNames' row asks of the listed tables gives the tables of powers of ten and of zero bits, and goes on giving them; the heap that the door's own run leaves meets it. No condition.
-/
import Derived.Test.YtbchecnidiiddaaGreatDoorCodeText
import Derived.Test.YtbchecnidiiddaaGreatDoorRows
import Derived.LaidMore
import Derived.Stop.Joined
import Derived.Lib.LaidTab
import Derived.Stop.LaidErr
namespace Go.Proofs.YtbchecnidiiddaaGreatDoor
open Go.RowKit

theorem own : ownKnob Tryz.prog.godebug = none := by kernel_rfl
theorem gPow : Tryz.prog.globalNamed "internal/strconv.uint64pow10" = some 0 := by kernel_rfl
theorem tPow : (Tryz.prog.globals[0]?).map (·.type) = some 160 := by kernel_rfl
theorem tZ : (Tryz.prog.globals[3]?).map (·.type) = some 176 := by kernel_rfl
theorem powData : (Rows.laid_internal_strconv_uint64pow10 : DataW Unit) = Lib.tabData .u64 Lib.pow10Tab := by kernel_rfl
abbrev tabZL : List Int := [0, 1, 56, 2, 57, 49, 28, 3, 61, 58, 42, 50, 38, 29, 17, 4, 62, 47, 59, 36, 45, 43, 51, 22, 53, 39, 33, 30, 24, 18, 12, 5, 63, 55, 48, 27, 60, 41, 37, 16, 46, 35, 44, 21, 52, 32, 23, 11, 54, 26, 40, 15, 34, 20, 31, 10, 25, 14, 19, 9, 13, 8, 7, 6]
theorem zData : (Rows.laid_math_bits_deBruijn64tab : DataW Unit) = Lib.tabData .u8 tabZL := by kernel_rfl
abbrev laid3 : List (String × DataW Unit) := [("math/bits.deBruijn32tab", Rows.laid_math_bits_deBruijn32tab), ("math/bits.deBruijn64tab", Rows.laid_math_bits_deBruijn64tab), ("internal/strconv.uint64pow10", Rows.laid_internal_strconv_uint64pow10)]
theorem tabs_of_laid {W : World} (h : laidMetH Tryz.prog laid3 W) : TabB W.heap.size W := by
  rw [MakeChecks.laidMetH_plain _ _ _ (by kernel_rfl)] at h
  have h1 := laidMet.tail h
  have h2 := laidMet.tail h1
  rw [zData] at h1
  rw [powData] at h2
  have hz := Lib.tabIs_of_head gZ tZ Tryz.underlying176 Tryz.underlying5 (by kernel_rfl) (by kernel_rfl) h1
  have hp := Lib.tabIs_of_head gPow tPow Tryz.underlying160 Tryz.underlying50 (by kernel_rfl) (by kernel_rfl) h2
  exact ⟨Nat.le_refl _, fun w' hb => ⟨Lib.tabBelow_of_tabIs hz w' hb, Lib.tabBelow_of_tabIs hp w' hb⟩⟩
theorem door_met (os : Os) (args : Array Value) : laidMetH Tryz.prog laid3 ((World.doorLaid Tryz.prog 400 os).forCall (fun _ _ => 0) ⟨#[], args, []⟩).memory :=
  laidMetH_of_parts3 (fuel := 8) (laidMet_of_run' 8 (by kernel_rfl) (by kernel_rfl)) (by kernel_rfl) (by kernel_rfl)
end Go.Proofs.YtbchecnidiiddaaGreatDoor
