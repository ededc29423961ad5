/-
  Proved here: the law CodeNames answers true; nothing that was there is changed. Condition: the tables of Go's library as it lays them.
  (With it: Proved here: package code's Words refuses bytes whose number is no multiple of four. Condition: fewer bytes than an int holds.)
-/
import Derived.Test.YtbchecnidiiddaaGreatDoorProg
import Derived.WalkKit
import Derived.Lib.Hide
import Derived.IntWalk
import Derived.Test.YtbchecnidiiddaaGreatDoorCodeDump
import Derived.Test.YtbchecnidiiddaaGreatDoorCodeLives
namespace Go.Proofs.YtbchecnidiiddaaGreatDoor
set_option linter.unusedVariables false
open Go.RowKit
theorem Words_odd (a : Option Addr) (k c : Nat) (hk : k % 4 ≠ 0) (w : World) : Calls Tryz.prog 5 #[.slice a k c] w fun e w' => e = .returned (.tuple #[.slice none 0 0, .int .i64 4]) ∧ w = w' := by
  have hne : ((k : Int) % 4 != 0) = true := by
    have : ¬ ((k : Int) % 4 = 0) := by omega
    simpa using this
  go_enter Tryz.func5, Tryz.ntmps5
  go_wp2
  go_ret2
  exact ⟨rfl, rfl⟩
end Go.Proofs.YtbchecnidiiddaaGreatDoor
namespace Go.Proofs.YtbchecnidiiddaaGreatDoor
set_option linter.unusedVariables false
set_option linter.unusedSimpArgs false
open Go.RowKit

def iEb : Ins := { op := 65, rd := 0, rs1 := 0, rs2 := 0, imm := 0, aq := false, rl := false, pred := 0, succ := 0 }
theorem eb_good : goodW 1048691#64 = true := by decide +kernel
theorem eb_read : readW 1048691#64 = iEb := by kernel_rfl
theorem no_0 : goodW 0#64 = false := by decide +kernel
theorem no_fence : goodW 2200961039#64 = false := by decide +kernel
theorem insn_eb (w : World) : Calls Tryz.prog 4 #[.int .u32 1048691] w fun e w' => Ret2 iEb.V (.int .i64 0) w e w' := Insn_yes 1048691#64 iEb (Lib.hid eb_good) (Lib.hid eb_read) w
theorem insn_0 (w : World) : Calls Tryz.prog 4 #[.int .u32 0] w fun e w' => Ret2 (Ins.none 0).V (.int .i64 4) w e w' := Insn_no 0#64 (Lib.hid no_0) w
theorem insn_fence (w : World) : Calls Tryz.prog 4 #[.int .u32 2200961039] w fun e w' => Ret2 (Ins.none 0).V (.int .i64 4) w e w' := Insn_no 2200961039#64 (Lib.hid no_fence) w
theorem ins_on {i : Ins} {n : Nat} {w w' : World} (h : InsAt i n w) (hb : Below w.heap.size w w') : InsAt i n w' := InsAt.below h hb (InsAt.facts h).1
set_option maxRecDepth 100000 in
set_option maxHeartbeats 8000000 in
theorem codeNames_any (w : World) (hT : TabB w.heap.size w) : Calls Tryz.prog 3 #[] w fun e w' => Ret1 (.bool true) w e w' := by
  have HT := Lib.hid hT
  clear hT
  go_enter Tryz.func3, Tryz.ntmps3
  go_upto_region 2 with (go_at_call 4; (with_reducible refine (insn_eb _).mono ?_); rintro e w1 ⟨rfl, hb⟩; have B1 := Lib.hid hb; clear hb)
  go_name_world W1 hW1
  have L1 : Hid (Below w.heap.size w W1) := Lib.hid (by rw [← hW1]; exact B1.out.alloc B1.out.size _)
  have N1 : Hid (InsAt iEb w1.heap.size W1) := Lib.hid (by rw [← hW1]; exact heap_new w1 _)
  clear hW1 B1
  go_upto_region 3 with (go_at_call 4; (with_reducible refine (insn_0 _).mono ?_); rintro e w2 ⟨rfl, hb⟩; have L1b := Lib.hid (L1.out.trans (hb.mono L1.out.size)); have N1b := Lib.hid (ins_on N1.out hb); clear hb)
  go_name_world W2 hW2
  have L2 : Hid (Below w.heap.size w W2) := Lib.hid (by rw [← hW2]; exact L1b.out.alloc L1b.out.size _)
  have N2 : Hid (InsAt iEb w1.heap.size W2) := Lib.hid (by rw [← hW2]; exact ins_on N1b.out (one_box _ _))
  clear hW2 L1b N1b L1 N1
  go_upto_region 4 with (go_at_call 4; (with_reducible refine (insn_fence _).mono ?_); rintro e w3 ⟨rfl, hb⟩; have L2b := Lib.hid (L2.out.trans (hb.mono L2.out.size)); have N2b := Lib.hid (ins_on N2.out hb); clear hb)
  go_name_world W3 hW3
  have L3 : Hid (Below w.heap.size w W3) := Lib.hid (by rw [← hW3]; exact L2b.out.alloc L2b.out.size _)
  have N3 : Hid (InsAt iEb w1.heap.size W3) := Lib.hid (by rw [← hW3]; exact ins_on N2b.out (one_box _ _))
  clear hW3 L2b N2b L2 N2
  go_upto_region 5 with (go_at_call 5; (with_reducible refine (Words_odd _ 3 _ (by decide) _).mono ?_); rintro e w4 ⟨rfl, rfl⟩)
  go_name_world W4 hW4
  have L4 : Hid (Below w.heap.size w W4) := Lib.hid (by rw [← hW4]; exact L3.out.alloc L3.out.size _)
  have N4 : Hid (InsAt iEb w1.heap.size W4) := Lib.hid (by rw [← hW4]; exact ins_on N3.out (one_box _ _))
  clear hW4 L3 N3
  have L5 := Lib.hid (L4.out.alloc L4.out.size (.cells #[.int .u32 115, .int .u32 4294967295] 27))
  have N5 := Lib.hid (ins_on N4.out (one_box W4 (.cells #[.int .u32 115, .int .u32 4294967295] 27)))
  have T5 : Hid (TabB (W4.alloc (.cells #[.int .u32 115, .int .u32 4294967295] 27)).heap.size (W4.alloc (.cells #[.int .u32 115, .int .u32 4294967295] 27))) := Lib.hid ⟨Nat.le_refl _, fun w' hb => HT.out.2 w' (L5.out.trans (hb.mono L5.out.size))⟩
  go_upto_region 6 with (go_at_call 6; (with_reducible refine (dump_two W4.heap.size _ (heap_new W4 _) T5.out).mono ?_); rintro e w5 ⟨g2, cap, rfl, d0, d1, hg2, hb⟩; have L6 := Lib.hid (L5.out.trans (hb.mono L5.out.size)); have N6 := Lib.hid (ins_on N5.out hb); have D0 := Lib.hid d0; have D1 := Lib.hid d1; have G2 := Lib.hid hg2; clear hb d0 d1 hg2)
  clear L4 N4 L5 N5 T5
  go_wp2_with (first
    | (go_at_call 7; (with_reducible refine (lives_any _).mono ?_); rintro e w6 ⟨rfl, hb⟩; have L7 := Lib.hid (L6.out.trans (hb.mono L6.out.size)); have N7 := Lib.hid (ins_on N6.out hb); have d0 := (hb.cell (p := ⟨g2, 0, none⟩) G2.out).trans D0.out; have d1 := (hb.cell (p := ⟨g2, 1, none⟩) G2.out).trans D1.out; clear hb; obtain ⟨za, a0, a1, a2, a3, a4, a5, a6, a7, a8⟩ := InsAt.facts N7.out; dsimp only [iEb] at a0 a1 a2 a3 a4 a5 a6 a7 a8)
    | (go_at_call 8; (with_reducible refine (bytes_one w6.heap.size _ (heap_new w6 _)).mono ?_); rintro e w7 ⟨g3, cap3, rfl, hcv, hb⟩; have L8 := Lib.hid ((L7.out.alloc L7.out.size (.cells #[.int .u32 67305985] 27)).trans (hb.mono (Nat.le_trans L7.out.size (by simp)))); clear hb))
  go_ret
  exact ⟨rfl, L8.out⟩
end Go.Proofs.YtbchecnidiiddaaGreatDoor
