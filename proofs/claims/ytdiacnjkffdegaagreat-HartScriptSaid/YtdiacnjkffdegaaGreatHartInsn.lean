/-
  Proved here: an instruction as a value and as nine cells; the package insn's Form answers the chapter's table, its Check what may be; each writes nothing that was there. No condition.
-/
import Derived.Test.YtdiacnjkffdegaaGreatInsnCheck
import Derived.Test.YtdiacnjkffdegaaGreatInsnBackPlain
namespace Go.Proofs.YtdiacnjkffdegaaGreat
open Go.RowKit

abbrev insCells (i : Ins) : Array Value := #[.int .i64 i.op, .int .i64 i.rd, .int .i64 i.rs1, .int .i64 i.rs2, .int .i64 i.imm, .bool i.aq, .bool i.rl, .int .i64 i.pred, .int .i64 i.succ]
abbrev Ins.V (i : Ins) : Value := .agg (insCells i)
def InsAt (i : Ins) (n : Nat) (w : World) : Prop := w.heap[n]? = some (.cells (insCells i) 34 (0, 0))
theorem look_row (op : Int) (w : World) : Calls Tryz.prog 44 #[.int .i64 op] w fun e w' => e = .returned (.agg #[.string ⟨(nameOf op).toArray⟩, .int .i64 (formOf op), .int .i64 (sizeOf' op)]) ∧ Below w.heap.size w w' := look_any op w
theorem row_field0 (s : ByteArray) (f g : Int) (w : World) : (Instr.field 80 (.agg #[.string s, .int .i64 f, .int .i64 g]) 0).run Tryz.prog w = .ok (.string s) w := by kernel_rfl
theorem row_field1 (s : ByteArray) (f g : Int) (w : World) : (Instr.field 80 (.agg #[.string s, .int .i64 f, .int .i64 g]) 1).run Tryz.prog w = .ok (.int .i64 f) w := by kernel_rfl
theorem row_field2 (s : ByteArray) (f g : Int) (w : World) : (Instr.field 80 (.agg #[.string s, .int .i64 f, .int .i64 g]) 2).run Tryz.prog w = .ok (.int .i64 g) w := by kernel_rfl
set_option maxRecDepth 100000 in
theorem Form_any (op : Int) (w : World) : Calls Tryz.prog 41 #[.int .i64 op] w fun e w' => e = .returned (.int .i64 (formOf op)) ∧ Below w.heap.size w w' := by
  have hf := row_field1
  go_enter Tryz.func41, Tryz.ntmps41
  go_wp2_with (go_at_call 44; (with_reducible refine (look_row op _).mono ?_); rintro e w1 ⟨rfl, hb1⟩; have HB := Lib.hid hb1; clear hb1)
  go_ret
  exact ⟨rfl, HB.out⟩
theorem Check_i (i : Ins) (b : Bool) (hb : Hid (i.ok = b)) (w : World) : Calls Tryz.prog 28 #[i.V] w fun e w' => e = .returned (.int .i64 (errI b)) ∧ Below w.heap.size w w' := by
  rw [← hb.out]
  exact Check_any i.op i.rd i.rs1 i.rs2 i.imm i.aq i.rl i.pred i.succ w
end Go.Proofs.YtdiacnjkffdegaaGreat
