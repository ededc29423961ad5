/-
  Proved here: Check's contracts for an instruction that may be, and one that may not; 'Stand': an argument's box stands as it was, behind it all is new. No condition.
  (With it: Proved here: an instruction as a value and as nine cells; the package insn's Form answers the chapter's table, its Check what may be; each writes nothing that was there. No condition.)
-/
import Derived.Test.YtbchecnidiiddaaGreatDoorInsnCheck
import Derived.Test.YtbchecnidiiddaaGreatDoorInsnBackPlain
import Derived.Laws.NewBlocks
import Derived.Deep.RegionHeld3
import Derived.Deep.DeepCutAuto
import Derived.Deep.CutBlock
namespace Go.Proofs.YtbchecnidiiddaaGreatDoor
open Go.RowKit

abbrev insCells (i : Ins) : Array Value := #[.int .i64 i.op, .int .i64 i.rd, .int .i64 i.rs1, .int .i64 i.rs2, .int .i64 i.imm, .bool i.aq, .bool i.rl, .int .i64 i.pred, .int .i64 i.succ]
abbrev Ins.V (i : Ins) : Value := .agg (insCells i)
def InsAt (i : Ins) (n : Nat) (w : World) : Prop := w.heap[n]? = some (.cells (insCells i) 23 (0, 0))
theorem look_row (op : Int) (w : World) : Calls Tryz.prog 29 #[.int .i64 op] w fun e w' => e = .returned (.agg #[.string ⟨(nameOf op).toArray⟩, .int .i64 (formOf op), .int .i64 (sizeOf' op)]) ∧ Below w.heap.size w w' := look_any op w
theorem row_field0 (s : ByteArray) (f g : Int) (w : World) : (Instr.field 88 (.agg #[.string s, .int .i64 f, .int .i64 g]) 0).run Tryz.prog w = .ok (.string s) w := by kernel_rfl
theorem row_field1 (s : ByteArray) (f g : Int) (w : World) : (Instr.field 88 (.agg #[.string s, .int .i64 f, .int .i64 g]) 1).run Tryz.prog w = .ok (.int .i64 f) w := by kernel_rfl
theorem row_field2 (s : ByteArray) (f g : Int) (w : World) : (Instr.field 88 (.agg #[.string s, .int .i64 f, .int .i64 g]) 2).run Tryz.prog w = .ok (.int .i64 g) w := by kernel_rfl
set_option maxRecDepth 100000 in
theorem Form_any (op : Int) (w : World) : Calls Tryz.prog 25 #[.int .i64 op] w fun e w' => e = .returned (.int .i64 (formOf op)) ∧ Below w.heap.size w w' := by
  have hf := row_field1
  go_enter Tryz.func25, Tryz.ntmps25
  go_wp2_with (go_at_call 29; (with_reducible refine (look_row op _).mono ?_); rintro e w1 ⟨rfl, hb1⟩; have HB := Lib.hid hb1; clear hb1)
  go_ret
  exact ⟨rfl, HB.out⟩
theorem Check_i (i : Ins) (b : Bool) (hb : Hid (i.ok = b)) (w : World) : Calls Tryz.prog 26 #[i.V] w fun e w' => e = .returned (.int .i64 (errI b)) ∧ Below w.heap.size w w' := by
  rw [← hb.out]
  exact Check_any i.op i.rd i.rs1 i.rs2 i.imm i.aq i.rl i.pred i.succ w
end Go.Proofs.YtbchecnidiiddaaGreatDoor
namespace Go.Proofs.YtbchecnidiiddaaGreatDoor
open Go.RowKit

theorem heap_new (w : World) (o : Obj) : (w.alloc o).heap[w.heap.size]? = some o := by
  show (w.heap.push o)[w.heap.size]? = some o
  simp
theorem InsAt.facts {i : Ins} {n : Nat} {w : World} (h : InsAt i n w) : n < w.heap.size ∧ w.cell? ⟨n, 0, none⟩ = some (.int .i64 i.op) ∧ w.cell? ⟨n, 1, none⟩ = some (.int .i64 i.rd) ∧ w.cell? ⟨n, 2, none⟩ = some (.int .i64 i.rs1) ∧ w.cell? ⟨n, 3, none⟩ = some (.int .i64 i.rs2) ∧ w.cell? ⟨n, 4, none⟩ = some (.int .i64 i.imm) ∧ w.cell? ⟨n, 5, none⟩ = some (.bool i.aq) ∧ w.cell? ⟨n, 6, none⟩ = some (.bool i.rl) ∧ w.cell? ⟨n, 7, none⟩ = some (.int .i64 i.pred) ∧ w.cell? ⟨n, 8, none⟩ = some (.int .i64 i.succ) :=
  ⟨(Array.getElem?_eq_some_iff.1 h).1, by rw [Lib.cell_of_heap h]; rfl, by rw [Lib.cell_of_heap h]; rfl, by rw [Lib.cell_of_heap h]; rfl, by rw [Lib.cell_of_heap h]; rfl, by rw [Lib.cell_of_heap h]; rfl, by rw [Lib.cell_of_heap h]; rfl, by rw [Lib.cell_of_heap h]; rfl, by rw [Lib.cell_of_heap h]; rfl, by rw [Lib.cell_of_heap h]; rfl⟩
theorem InsAt.below {i : Ins} {n B : Nat} {w w' : World} (h : InsAt i n w) (hb : Below B w w') (hn : n < B) : InsAt i n w' := (hb.block n hn).trans h
theorem InsAt.alloc {i : Ins} {n : Nat} {w : World} (h : InsAt i n w) (o : Obj) : InsAt i n (w.alloc o) := (Lib.alloc_old w o n (Array.getElem?_eq_some_iff.1 h).1).trans h
theorem Check_no (i : Ins) (hb : Hid (i.ok = false)) (w : World) : Calls Tryz.prog 26 #[i.V] w fun e w' => e = .returned (.int .i64 2) ∧ Below w.heap.size w w' := Check_i i false hb w
theorem Check_ok (i : Ins) (hb : Hid (i.ok = true)) (w : World) : Calls Tryz.prog 26 #[i.V] w fun e w' => e = .returned (.int .i64 0) ∧ Below w.heap.size w w' := Check_i i true hb w
theorem ins_new (i : Ins) (w : World) : InsAt i w.heap.size (w.alloc (.cells (insCells i) 23)) := heap_new _ _
/-- what stands behind the boxed argument: it reads so still, nothing that was there is changed -/
def Stand (i : Ins) (w w' : World) : Prop := InsAt i w.heap.size w' ∧ Below w.heap.size w w'
theorem Stand.start (i : Ins) (w : World) : Stand i w (w.alloc (.cells (insCells i) 23)) := ⟨heap_new _ _, (Below.refl _ _).alloc (Nat.le_refl _) _⟩
theorem Stand.on {i : Ins} {w w1 w2 : World} (h : Stand i w w1) (hb : Below w1.heap.size w1 w2) : Stand i w w2 :=
  ⟨h.1.below hb (Array.getElem?_eq_some_iff.1 h.1).1, h.2.trans (hb.mono h.2.size)⟩
theorem Stand.drew {i : Ins} {w w1 : World} (h : Stand i w w1) : Stand i w w1.drew := ⟨h.1, Below.drew h.2⟩
theorem Stand.ins {i : Ins} {w w1 : World} (h : Stand i w w1) : InsAt i w.heap.size w1 := h.1
theorem Stand.below {i : Ins} {w w1 : World} (h : Stand i w w1) : Below w.heap.size w w1 := h.2
end Go.Proofs.YtbchecnidiiddaaGreatDoor
