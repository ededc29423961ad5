/-
  Proved here: Check's contracts for an instruction that may be, and one that may not; 'Stand': an argument's box stands as it was, behind it all is new. No condition.
-/
import Derived.Test.YtplneijbhmhmoaaGreatDoorInsnAsk
import Derived.Deep.RegionHeld3
import Derived.Deep.DeepCutAuto
import Derived.Deep.CutBlock
namespace Go.Proofs.YtplneijbhmhmoaaGreatDoor
open Go.RowKit

theorem Check_i (i : Ins) (b : Bool) (hb : Hid (i.ok = b)) (w : World) : Calls Tryz.prog 11 #[i.V] w fun e w' => e = .returned (.int .i64 (errI b)) ∧ Below w.heap.size w w' := by
  rw [← hb.out]
  exact Check_any i.op i.rd i.rs1 i.rs2 i.imm i.aq i.rl i.pred i.succ w
theorem Check_no (i : Ins) (hb : Hid (i.ok = false)) (w : World) : Calls Tryz.prog 11 #[i.V] w fun e w' => e = .returned (.int .i64 2) ∧ Below w.heap.size w w' := Check_i i false hb w
theorem Check_ok (i : Ins) (hb : Hid (i.ok = true)) (w : World) : Calls Tryz.prog 11 #[i.V] w fun e w' => e = .returned (.int .i64 0) ∧ Below w.heap.size w w' := Check_i i true hb w
theorem ins_new (i : Ins) (w : World) : InsAt i w.heap.size (w.alloc (.cells (insCells i) 23)) := heap_new _ _
/-- what stands behind the boxed argument: it reads so still, nothing that was there is changed -/
def Stand (i : Ins) (w w' : World) : Prop := InsAt i w.heap.size w' ∧ Below w.heap.size w w'
theorem Stand.start (i : Ins) (w : World) : Stand i w (w.alloc (.cells (insCells i) 23)) := ⟨heap_new _ _, (Below.refl _ _).alloc (Nat.le_refl _) _⟩
theorem Stand.on {i : Ins} {w w1 w2 : World} (h : Stand i w w1) (hb : Below w1.heap.size w1 w2) : Stand i w w2 :=
  ⟨h.1.below hb (Array.getElem?_eq_some_iff.1 h.1).1, h.2.trans (hb.mono h.2.size)⟩
theorem Stand.drew {i : Ins} {w w1 : World} (h : Stand i w w1) : Stand i w w1.drew := ⟨h.1, Below.drew h.2⟩
theorem Stand.ins {i : Ins} {w w1 : World} (h : Stand i w w1) : InsAt i w.heap.size w1 := h.1
theorem Stand.below {i : Ins} {w w1 : World} (h : Stand i w w1) : Below w.heap.size w w1 := h.2
theorem Stand.tab {i : Ins} {w w1 : World} (h : Stand i w w1) (ht : Hid (TabB w)) : Tab w1 := ht.out w1 h.2
end Go.Proofs.YtplneijbhmhmoaaGreatDoor
