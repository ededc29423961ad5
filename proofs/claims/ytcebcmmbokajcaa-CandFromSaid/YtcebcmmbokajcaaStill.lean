/-
  Proved here: single operations of a region that draws its order and changes nothing. No condition.
-/
import Derived.Test.YtcebcmmbokajcaaCdRows
import Derived.StillTailTactics
import Derived.Deep.QuietTactic
import Derived.BigQuiet
namespace Go.Proofs.Ytcebcmmbokajcaa
set_option linter.unusedVariables false
set_option linter.unusedSimpArgs false
open Go.RowKit

section
variable {P : Program} {ops : Array Oper} {w : World} {Q : Act → Prop} {a : Act} {o : Oper} {rest : List Oper}
theorem wpStill_enter (f : FuncId) (args : Array Value) (v : Value) (hw : Region.wanted o (yielded ops a.tmps) = true) (hr : (execOp a.eval o).run P w = .ok (.enter f args) w)
    (hc : Calls P f args w (fun e w' => e = .returned v ∧ w' = w)) (k : wpStill P ops w Q rest (a.put o.dst v)) : wpStill P ops w Q (o :: rest) a := by
  unfold wpStill
  rw [if_pos hw]
  unfold Oper.still
  rw [hr]
  exact ⟨rfl, v, hc, k⟩
theorem wpStill_skip (hw : Region.wanted o (yielded ops a.tmps) = false) (k : wpStill P ops w Q rest (a.put o.dst undef)) : wpStill P ops w Q (o :: rest) a := by
  unfold wpStill
  rw [if_neg (by rw [hw]; decide)]
  exact k
theorem loadAt_cell {ty : TypeId} {addr : Addr} {v : Value} {x : Value} (hx : x = .pointer (some addr)) (ha : (isAgg ty).run P w = .ok false w) (hc : w.cell? addr = some v) : (Instr.loadAt ty x).run P w = .ok v w := by
  subst hx
  simp [Instr.loadAt, Instr.sureAddr, loadVar, ha, hc]
theorem wpStill_load (ty : TypeId) (x : Operand) (addr : Addr) (v : Value) (hw : Region.wanted o (yielded ops a.tmps) = true) (ho : o.op = .load ty x) (hx : a.eval x = .pointer (some addr)) (ha : (isAgg ty).run P w = .ok false w) (hc : w.cell? addr = some v)
    (k : wpStill P ops w Q rest (a.put o.dst v)) : wpStill P ops w Q (o :: rest) a := by
  unfold wpStill
  rw [if_pos hw]
  unfold Oper.still execOp
  rw [ho]
  simp only [Sem.run_bind, loadAt_cell hx ha hc, Result.andThen_ok]
  exact ⟨rfl, k⟩
theorem wpStill_val (v : Value) (hw : Region.wanted o (yielded ops a.tmps) = true) (hr : (execOp a.eval o).run P w = .ok (.value v) w)
    (k : wpStill P ops w Q rest (a.put o.dst v)) : wpStill P ops w Q (o :: rest) a := by
  unfold wpStill
  rw [if_pos hw]
  unfold Oper.still
  rw [hr]
  exact ⟨rfl, k⟩
end
end Go.Proofs.Ytcebcmmbokajcaa
