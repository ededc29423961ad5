/-
  Proved here: the texts of the third chapter's examples have their words: the law's lives answers true. Condition: one goroutine.
-/
import Derived.Test.YtbchecnidiiddaaGreatDoorRef02Read0
import Derived.Test.YtbchecnidiiddaaGreatDoorRef02Read1
import Derived.Test.YtbchecnidiiddaaGreatDoorRef02Read2
import Derived.Test.YtbchecnidiiddaaGreatDoorRef02Read3
import Derived.Test.YtbchecnidiiddaaGreatDoorRef02Read4
import Derived.Test.YtbchecnidiiddaaGreatDoorRef02Read5
import Derived.Test.YtbchecnidiiddaaGreatDoorCodePublic
namespace Go.Proofs.YtbchecnidiiddaaGreatDoor
set_option linter.unusedVariables false
open Go.RowKit

def Ret1 (x : Value) (w : World) (e : Ending) (w' : World) : Prop := e = .returned x ∧ Below w.heap.size w w'
theorem bel3 {w w1 w2 : World} {o : Obj} (h1 : Below w.heap.size w w1) (h2 : Below (w1.alloc o).heap.size (w1.alloc o) w2) : Below w.heap.size w w2 :=
  (h1.trans ((one_box w1 o).mono h1.size)).trans (h2.mono (by have := h1.size; simp; omega))
theorem w0X : Hid (U (wordL ⟨22, 5, 6, 0, (-3), false, false, 0, 0⟩) = 4292018835) := Lib.hid (by decide +kernel)
theorem w0I : Hid (I64 (⟨22, 5, 6, 0, (-3), false, false, 0, 0⟩ : Ins).imm) := Lib.hid ⟨by decide, by decide⟩
set_option maxRecDepth 100000 in
set_option maxHeartbeats 2000000 in
theorem of_0 (w : World) : Calls Tryz.prog 12 #[.string ⟨#[97, 100, 100, 105, 32, 120, 53, 44, 32, 120, 54, 44, 32, 45, 51]⟩] w fun e w' => Ret1 (.int .u32 4292018835) w e w' := by
  go_enter Tryz.func12, Tryz.ntmps12
  go_wp2_with (first
    | (go_at_call 20; (with_reducible refine (read_0 _).mono ?_); rintro e w1 ⟨rfl, hb⟩; have B1 := Lib.hid hb; clear hb)
    | (go_at_call 21; (with_reducible refine (Word_yes ⟨22, 5, 6, 0, (-3), false, false, 0, 0⟩ t0K w0I _ w0X _).mono ?_); rintro e w2 ⟨rfl, hb⟩; have B2 := Lib.hid hb; clear hb))
  go_ret
  exact ⟨rfl, bel3 B1.out B2.out⟩
theorem w1X : Hid (U (wordL ⟨21, 0, 2, 7, 8, false, false, 0, 0⟩) = 7418915) := Lib.hid (by decide +kernel)
theorem w1I : Hid (I64 (⟨21, 0, 2, 7, 8, false, false, 0, 0⟩ : Ins).imm) := Lib.hid ⟨by decide, by decide⟩
set_option maxRecDepth 100000 in
set_option maxHeartbeats 2000000 in
theorem of_1 (w : World) : Calls Tryz.prog 12 #[.string ⟨#[115, 100, 32, 120, 55, 44, 32, 56, 40, 120, 50, 41]⟩] w fun e w' => Ret1 (.int .u32 7418915) w e w' := by
  go_enter Tryz.func12, Tryz.ntmps12
  go_wp2_with (first
    | (go_at_call 20; (with_reducible refine (read_1 _).mono ?_); rintro e w1 ⟨rfl, hb⟩; have B1 := Lib.hid hb; clear hb)
    | (go_at_call 21; (with_reducible refine (Word_yes ⟨21, 0, 2, 7, 8, false, false, 0, 0⟩ t1K w1I _ w1X _).mono ?_); rintro e w2 ⟨rfl, hb⟩; have B2 := Lib.hid hb; clear hb))
  go_ret
  exact ⟨rfl, bel3 B1.out B2.out⟩
theorem w2X : Hid (U (wordL ⟨5, 0, 1, 2, (-4), false, false, 0, 0⟩) = 4263546595) := Lib.hid (by decide +kernel)
theorem w2I : Hid (I64 (⟨5, 0, 1, 2, (-4), false, false, 0, 0⟩ : Ins).imm) := Lib.hid ⟨by decide, by decide⟩
set_option maxRecDepth 100000 in
set_option maxHeartbeats 2000000 in
theorem of_2 (w : World) : Calls Tryz.prog 12 #[.string ⟨#[98, 101, 113, 32, 120, 49, 44, 32, 120, 50, 44, 32, 45, 52]⟩] w fun e w' => Ret1 (.int .u32 4263546595) w e w' := by
  go_enter Tryz.func12, Tryz.ntmps12
  go_wp2_with (first
    | (go_at_call 20; (with_reducible refine (read_2 _).mono ?_); rintro e w1 ⟨rfl, hb⟩; have B1 := Lib.hid hb; clear hb)
    | (go_at_call 21; (with_reducible refine (Word_yes ⟨5, 0, 1, 2, (-4), false, false, 0, 0⟩ t2K w2I _ w2X _).mono ?_); rintro e w2 ⟨rfl, hb⟩; have B2 := Lib.hid hb; clear hb))
  go_ret
  exact ⟨rfl, bel3 B1.out B2.out⟩
theorem w3X : Hid (U (wordL ⟨3, 1, 0, 0, 2048, false, false, 0, 0⟩) = 1048815) := Lib.hid (by decide +kernel)
theorem w3I : Hid (I64 (⟨3, 1, 0, 0, 2048, false, false, 0, 0⟩ : Ins).imm) := Lib.hid ⟨by decide, by decide⟩
set_option maxRecDepth 100000 in
set_option maxHeartbeats 2000000 in
theorem of_3 (w : World) : Calls Tryz.prog 12 #[.string ⟨#[106, 97, 108, 32, 120, 49, 44, 32, 50, 48, 52, 56]⟩] w fun e w' => Ret1 (.int .u32 1048815) w e w' := by
  go_enter Tryz.func12, Tryz.ntmps12
  go_wp2_with (first
    | (go_at_call 20; (with_reducible refine (read_3 _).mono ?_); rintro e w1 ⟨rfl, hb⟩; have B1 := Lib.hid hb; clear hb)
    | (go_at_call 21; (with_reducible refine (Word_yes ⟨3, 1, 0, 0, 2048, false, false, 0, 0⟩ t3K w3I _ w3X _).mono ?_); rintro e w2 ⟨rfl, hb⟩; have B2 := Lib.hid hb; clear hb))
  go_ret
  exact ⟨rfl, bel3 B1.out B2.out⟩
theorem w4X : Hid (U (wordL ⟨63, 0, 0, 0, 0, false, false, 3, 3⟩) = 53477391) := Lib.hid (by decide +kernel)
theorem w4I : Hid (I64 (⟨63, 0, 0, 0, 0, false, false, 3, 3⟩ : Ins).imm) := Lib.hid ⟨by decide, by decide⟩
set_option maxRecDepth 100000 in
set_option maxHeartbeats 2000000 in
theorem of_4 (w : World) : Calls Tryz.prog 12 #[.string ⟨#[102, 101, 110, 99, 101, 32, 114, 119, 44, 32, 114, 119]⟩] w fun e w' => Ret1 (.int .u32 53477391) w e w' := by
  go_enter Tryz.func12, Tryz.ntmps12
  go_wp2_with (first
    | (go_at_call 20; (with_reducible refine (read_4 _).mono ?_); rintro e w1 ⟨rfl, hb⟩; have B1 := Lib.hid hb; clear hb)
    | (go_at_call 21; (with_reducible refine (Word_yes ⟨63, 0, 0, 0, 0, false, false, 3, 3⟩ t4K w4I _ w4X _).mono ?_); rintro e w2 ⟨rfl, hb⟩; have B2 := Lib.hid hb; clear hb))
  go_ret
  exact ⟨rfl, bel3 B1.out B2.out⟩
theorem w5X : Hid (U (wordL ⟨67, 5, 6, 0, 0, true, false, 0, 0⟩) = 335753903) := Lib.hid (by decide +kernel)
theorem w5I : Hid (I64 (⟨67, 5, 6, 0, 0, true, false, 0, 0⟩ : Ins).imm) := Lib.hid ⟨by decide, by decide⟩
set_option maxRecDepth 100000 in
set_option maxHeartbeats 2000000 in
theorem of_5 (w : World) : Calls Tryz.prog 12 #[.string ⟨#[108, 114, 46, 100, 46, 97, 113, 32, 120, 53, 44, 32, 40, 120, 54, 41]⟩] w fun e w' => Ret1 (.int .u32 335753903) w e w' := by
  go_enter Tryz.func12, Tryz.ntmps12
  go_wp2_with (first
    | (go_at_call 20; (with_reducible refine (read_5 _).mono ?_); rintro e w1 ⟨rfl, hb⟩; have B1 := Lib.hid hb; clear hb)
    | (go_at_call 21; (with_reducible refine (Word_yes ⟨67, 5, 6, 0, 0, true, false, 0, 0⟩ t5K w5I _ w5X _).mono ?_); rintro e w2 ⟨rfl, hb⟩; have B2 := Lib.hid hb; clear hb))
  go_ret
  exact ⟨rfl, bel3 B1.out B2.out⟩
set_option maxRecDepth 100000 in
set_option maxHeartbeats 2000000 in
theorem lives_any (w : World) : Calls Tryz.prog 7 #[] w fun e w' => Ret1 (.bool true) w e w' := by
  go_enter Tryz.func7, Tryz.ntmps7
  have B0 := Lib.hid (Below.refl w.heap.size w)
  go_wp2_with (first
    | (go_at_call 12; (with_reducible refine (of_0 _).mono ?_); rintro e w1 ⟨rfl, hb⟩; have B1 := Lib.hid (B0.out.trans (hb.mono B0.out.size)); clear hb B0)
    | (go_at_call 12; (with_reducible refine (of_1 _).mono ?_); rintro e w2 ⟨rfl, hb⟩; have B2 := Lib.hid (B1.out.trans (hb.mono B1.out.size)); clear hb B1)
    | (go_at_call 12; (with_reducible refine (of_2 _).mono ?_); rintro e w3 ⟨rfl, hb⟩; have B3 := Lib.hid (B2.out.trans (hb.mono B2.out.size)); clear hb B2)
    | (go_at_call 12; (with_reducible refine (of_3 _).mono ?_); rintro e w4 ⟨rfl, hb⟩; have B4 := Lib.hid (B3.out.trans (hb.mono B3.out.size)); clear hb B3)
    | (go_at_call 12; (with_reducible refine (of_4 _).mono ?_); rintro e w5 ⟨rfl, hb⟩; have B5 := Lib.hid (B4.out.trans (hb.mono B4.out.size)); clear hb B4)
    | (go_at_call 12; (with_reducible refine (of_5 _).mono ?_); rintro e w6 ⟨rfl, hb⟩; have B6 := Lib.hid (B5.out.trans (hb.mono B5.out.size)); clear hb B5))
  go_ret
  exact ⟨rfl, B6.out⟩
end Go.Proofs.YtbchecnidiiddaaGreatDoor
