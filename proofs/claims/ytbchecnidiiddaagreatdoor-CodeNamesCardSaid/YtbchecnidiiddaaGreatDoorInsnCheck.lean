/-
  Proved here: the package insn's Check returns what checkB says of an instruction's fields, and writes nothing that was there. No condition.
-/
import Derived.Test.YtbchecnidiiddaaGreatDoorInsnParts
import Derived.StillTailTactics
import Derived.Laws.EntriesVeiled
import Derived.Deep.DeepCutAuto
namespace Go.Proofs.YtbchecnidiiddaaGreatDoor
open Go.RowKit

section
variable {P : Program} {ops : Array Oper} {w : World} {Q : Act → Prop} {a : Act} {o : Oper} {rest : List Oper}
theorem wpStill_enter (f : FuncId) (args : Array Value) (v : Value) (hw : Region.wanted o (yielded ops a.tmps) = true) (hr : (execOp a.eval o).run P w = .ok (.enter f args) w)
    (hc : Calls P f args w (fun e w' => e = .returned v ∧ w' = w)) (k : wpStill P ops w Q rest (a.put o.dst v)) : wpStill P ops w Q (o :: rest) a := by
  unfold wpStill
  rw [if_pos hw]
  unfold Oper.still
  rw [hr]
  exact ⟨rfl, v, hc, k⟩
theorem wpStill_skip (hw : Region.wanted o (yielded ops a.tmps) = false) (k : wpStill P ops w Q rest (a.put o.dst undef)) : wpStill P ops w Q (o :: rest) a := by
  unfold wpStill
  rw [if_neg (by rw [hw]; decide)]
  exact k
theorem loadAt_cell {ty : TypeId} {addr : Addr} {v : Value} {x : Value} (hx : x = .pointer (some addr)) (ha : (isAgg ty).run P w = .ok false w) (hc : w.cell? addr = some v) : (Instr.loadAt ty x).run P w = .ok v w := by
  subst hx
  simp [Instr.loadAt, Instr.sureAddr, loadVar, ha, hc]
theorem wpStill_load (ty : TypeId) (x : Operand) (addr : Addr) (v : Value) (hw : Region.wanted o (yielded ops a.tmps) = true) (ho : o.op = .load ty x) (hx : a.eval x = .pointer (some addr)) (ha : (isAgg ty).run P w = .ok false w) (hc : w.cell? addr = some v)
    (k : wpStill P ops w Q rest (a.put o.dst v)) : wpStill P ops w Q (o :: rest) a := by
  unfold wpStill
  rw [if_pos hw]
  unfold Oper.still execOp
  rw [ho]
  simp only [Sem.run_bind, loadAt_cell hx ha hc, Result.andThen_ok]
  exact ⟨rfl, k⟩
theorem wpStill_val (v : Value) (hw : Region.wanted o (yielded ops a.tmps) = true) (hr : (execOp a.eval o).run P w = .ok (.value v) w)
    (k : wpStill P ops w Q rest (a.put o.dst v)) : wpStill P ops w Q (o :: rest) a := by
  unfold wpStill
  rw [if_pos hw]
  unfold Oper.still
  rw [hr]
  exact ⟨rfl, k⟩
end
attribute [local irreducible] wpStill
abbrev insV (op rd rs1 rs2 imm : Int) (aq rl : Bool) (pred succ : Int) : Value := .agg #[.int .i64 op, .int .i64 rd, .int .i64 rs1, .int .i64 rs2, .int .i64 imm, .bool aq, .bool rl, .int .i64 pred, .int .i64 succ]
theorem has_at (u : UInt8) (s : List UInt8) (c : Int) (p : Nat) (w : World) (hu : c.toNat.toUInt8 = u) (hp : w.cell? ⟨p, 0, none⟩ = some (.string ⟨s.toArray⟩)) :
    Calls Tryz.prog 62 #[.int .u8 c, .pointer (some ⟨p, 0, none⟩)] w fun e w' => e = .returned (.bool (hasB s u)) ∧ w' = w := by
  subst hu; exact has_any s c p w hp
theorem has_is (b : Bool) (u : UInt8) (s : List UInt8) (c : Int) (p : Nat) (w : World) (hb : Hid (hasB s u = b)) (hu : c.toNat.toUInt8 = u) (hp : w.cell? ⟨p, 0, none⟩ = some (.string ⟨s.toArray⟩)) :
    Calls Tryz.prog 62 #[.int .u8 c, .pointer (some ⟨p, 0, none⟩)] w fun e w' => e = .returned (.bool b) ∧ w' = w := by
  rw [← hb.out]; exact has_at u s c p w hu hp
theorem upTo_at (u : UInt8) (s : List UInt8) (last c x : Int) (p q : Nat) (w : World) (hu : c.toNat.toUInt8 = u) (hp : w.cell? ⟨p, 0, none⟩ = some (.string ⟨s.toArray⟩)) (hq : w.cell? ⟨q, 0, none⟩ = some (.func (.func 62) #[] #[.pointer (some ⟨p, 0, none⟩)])) :
    Calls Tryz.prog 64 #[.int .i64 last, .int .u8 c, .int .i64 x, .pointer (some ⟨q, 0, none⟩)] w fun e w' => e = .returned (.bool (upToB s last u x)) ∧ w' = w := by
  subst hu; exact upTo_any s last c x p q w hp hq
theorem good_still (op form v : Int) (w : World) : Calls Tryz.prog 66 #[.int .i64 op, .int .i64 form, .int .i64 v] w fun e w' => e = .returned (.bool (goodB op form v)) ∧ w' = w :=
  (goodImm_any op form v w).mono fun _ _ h => ⟨h.1, h.2.symm⟩
theorem bools_at (b0 b1 b2 b3 b4 b5 b6 : Bool) (g : Nat) (w : World) (h0 : w.cell? ⟨g, 0, none⟩ = some (.bool b0)) (h1 : w.cell? ⟨g, 1, none⟩ = some (.bool b1)) (h2 : w.cell? ⟨g, 2, none⟩ = some (.bool b2)) (h3 : w.cell? ⟨g, 3, none⟩ = some (.bool b3))
    (h4 : w.cell? ⟨g, 4, none⟩ = some (.bool b4)) (h5 : w.cell? ⟨g, 5, none⟩ = some (.bool b5)) (h6 : w.cell? ⟨g, 6, none⟩ = some (.bool b6)) :
    Calls Tryz.prog 65 #[.slice (some ⟨g, 0, none⟩) 7 7] w fun e w' => e = .returned (.bool ([b0, b1, b2, b3, b4, b5, b6].all id)) ∧ w' = w :=
  all_bools [b0, b1, b2, b3, b4, b5, b6] 7 g 7 w (Lib.hid rfl) (by omega) (Lib.hid fun i hi => by
    match i, hi with
    | 0, _ => exact h0
    | 1, _ => exact h1
    | 2, _ => exact h2
    | 3, _ => exact h3
    | 4, _ => exact h4
    | 5, _ => exact h5
    | 6, _ => exact h6)

theorem bools_is (r b0 b1 b2 b3 b4 b5 b6 : Bool) (g : Nat) (w : World) (hr : Hid ([b0, b1, b2, b3, b4, b5, b6].all id = r)) (h0 : w.cell? ⟨g, 0, none⟩ = some (.bool b0)) (h1 : w.cell? ⟨g, 1, none⟩ = some (.bool b1)) (h2 : w.cell? ⟨g, 2, none⟩ = some (.bool b2)) (h3 : w.cell? ⟨g, 3, none⟩ = some (.bool b3))
    (h4 : w.cell? ⟨g, 4, none⟩ = some (.bool b4)) (h5 : w.cell? ⟨g, 5, none⟩ = some (.bool b5)) (h6 : w.cell? ⟨g, 6, none⟩ = some (.bool b6)) :
    Calls Tryz.prog 65 #[.slice (some ⟨g, 0, none⟩) 7 7] w fun e w' => e = .returned (.bool r) ∧ w' = w := by
  rw [← hr.out]; exact bools_at b0 b1 b2 b3 b4 b5 b6 g w h0 h1 h2 h3 h4 h5 h6

set_option maxHeartbeats 4000000 in
set_option maxRecDepth 100000 in
theorem Check_none (op rd rs1 rs2 imm : Int) (aq rl : Bool) (pred succ : Int) (w : World) (h : formOf op = 0) :
    Calls Tryz.prog 26 #[insV op rd rs1 rs2 imm aq rl pred succ] w fun e w' => e = .returned (.int .i64 2) ∧ Below w.heap.size w w' := by
  have hf : (formOf op == 0) = true := by simp [h]
  clear h
  go_enter Tryz.func26, Tryz.ntmps26
  go_wp2_with (go_at_call 29; (with_reducible refine (look_any _ _).mono ?_); rintro e w1 ⟨rfl, hb1⟩; obtain ⟨hc1, hf1⟩ := bcell hb1; have HB1 := Lib.hid hb1; clear hb1; unfold rowV)
  go_ret
  exact ⟨rfl, (((Below.refl _ _).alloc (Nat.le_refl _) _).trans (HB1.out.mono (by simp))).alloc (by have := HB1.out.size; simp at this; omega) _⟩

set_option maxHeartbeats 4000000 in
set_option maxRecDepth 100000 in
theorem Check_some (op rd rs1 rs2 imm : Int) (aq rl : Bool) (pred succ : Int) (w : World) (h : formOf op ≠ 0) :
    Calls Tryz.prog 26 #[insV op rd rs1 rs2 imm aq rl pred succ] w fun e w' => e = .returned (.int .i64 (errI ((partsB op rd rs1 rs2 imm aq rl pred succ).all id))) ∧ Below w.heap.size w w' := by
  have hf : (formOf op == 0) = false := by simp [h]
  have h0 := (form_hi op).1
  have h1 := (form_hi op).2
  clear h
  go_enter Tryz.func26, Tryz.ntmps26
  go_upto_region 7 with (first | (go_at_call 29; (with_reducible refine (look_any _ _).mono ?_); rintro e w1 ⟨rfl, hb1⟩; obtain ⟨hc1, hf1⟩ := bcell hb1; have hz1 : w.heap.size < w1.heap.size := (by have := hb1.size; simp at this; omega); have HB1 := Lib.hid hb1; clear hb1; unfold rowV) | (go_at_call 31; (with_reducible refine (shape_any _ _ h0 h1 _).mono ?_); rintro e w2 ⟨rfl, hb2⟩; obtain ⟨hc2, hf2⟩ := bcell hb2; have hz2 : w1.heap.size < w2.heap.size := (by have := hb2.size; simp at this; omega); have hz3 : w.heap.size < w2.heap.size := (by omega); have HB2 := Lib.hid hb2; clear hb2))
  obtain ⟨W, hW⟩ : ∃ W, (w2.alloc (.cells #[.string ⟨(shapeOf op (formOf op)).toArray⟩] 9)).alloc (.cells #[.func (.func 62) #[] #[.pointer (some ⟨w2.heap.size, 0, none⟩)]] 106) = W := ⟨_, rfl⟩
  have HW := Lib.hid hW
  clear hW
  have g0 : W.cell? ⟨w.heap.size, 0, none⟩ = some (.int .i64 op) := by rw [← HW.out]; go_simp
  have g1 : W.cell? ⟨w.heap.size, 1, none⟩ = some (.int .i64 rd) := by rw [← HW.out]; go_simp
  have g2 : W.cell? ⟨w.heap.size, 2, none⟩ = some (.int .i64 rs1) := by rw [← HW.out]; go_simp
  have g3 : W.cell? ⟨w.heap.size, 3, none⟩ = some (.int .i64 rs2) := by rw [← HW.out]; go_simp
  have g4 : W.cell? ⟨w.heap.size, 4, none⟩ = some (.int .i64 imm) := by rw [← HW.out]; go_simp
  have g5 : W.cell? ⟨w.heap.size, 5, none⟩ = some (.bool aq) := by rw [← HW.out]; go_simp
  have g6 : W.cell? ⟨w.heap.size, 6, none⟩ = some (.bool rl) := by rw [← HW.out]; go_simp
  have g7 : W.cell? ⟨w.heap.size, 7, none⟩ = some (.int .i64 pred) := by rw [← HW.out]; go_simp
  have g8 : W.cell? ⟨w.heap.size, 8, none⟩ = some (.int .i64 succ) := by rw [← HW.out]; go_simp
  have gf : W.cell? ⟨w1.heap.size, 1, none⟩ = some (.int .i64 (formOf op)) := by rw [← HW.out]; go_simp
  have gp : W.cell? ⟨w2.heap.size, 0, none⟩ = some (.string ⟨(shapeS op).toArray⟩) := by rw [← HW.out]; unfold shapeS; go_simp
  have gq : W.cell? ⟨w2.heap.size + 1, 0, none⟩ = some (.func (.func 62) #[] #[.pointer (some ⟨w2.heap.size, 0, none⟩)]) := by rw [← HW.out]; go_simp
  have HB : Hid (Below w.heap.size w W) := by
    rw [← HW.out]
    exact Lib.hid ((((((((Below.refl _ _).alloc (Nat.le_refl _) _).trans (HB1.out.mono (by simp))).alloc (by omega) _).trans (HB2.out.mono (by simp; omega))).alloc (by omega) _).alloc (by simp; omega) _))
  rw [HW.out]
  have hz4 : w.heap.size ≤ W.heap.size := by rw [← HW.out]; simp; omega
  clear HW hc1 hf1 HB1 hc2 hf2 HB2
  by_cases hm : hasB (shapeS op) 109 = true
  · have e1 : (partsB op rd rs1 rs2 imm aq rl pred succ).all id = [upToB (shapeS op) 31 100 rd, upToB (shapeS op) 31 49 rs1, upToB (shapeS op) 31 50 rs2, upToB (shapeS op) 15 112 pred, upToB (shapeS op) 15 115 succ, true, goodB op (formOf op) imm].all id := by
      unfold partsB; rw [hm]; rfl
    have E1 := Lib.hid e1
    clear e1
    have HM := Lib.hid hm
    clear hm
    refine wp_region_still_tail 39 (by kernel_rfl) (by kernel_rfl) ?_
    simp only [List.take_succ_cons, List.take_zero, List.drop_succ_cons, List.drop_zero]
    refine wpStill_val (.func (.func 64) #[] #[.pointer (some ⟨w2.heap.size + 1, 0, none⟩)]) (by as_aux_lemma => kernel_rfl) (by as_aux_lemma => kernel_rfl) ?_
    simp only [Act.put, List.setIfInBounds_toArray, List.set_cons_succ, List.set_cons_zero]
    refine wpStill_val (.pointer (some ⟨w.heap.size, 1, none⟩)) (by as_aux_lemma => kernel_rfl) (by as_aux_lemma => kernel_rfl) ?_
    simp only [Act.put, List.setIfInBounds_toArray, List.set_cons_succ, List.set_cons_zero]
    refine wpStill_load 3 (.tmp 22) ⟨w.heap.size, 1, none⟩ (.int .i64 rd) (by as_aux_lemma => kernel_rfl) rfl (by as_aux_lemma => kernel_rfl) (Tryz.isAgg3 _) g1 ?_
    simp only [Act.put, List.setIfInBounds_toArray, List.set_cons_succ, List.set_cons_zero]
    refine wpStill_enter 64 #[.int .i64 31, .int .u8 100, .int .i64 rd, .pointer (some ⟨w2.heap.size + 1, 0, none⟩)] (.bool (upToB (shapeS op) 31 100 rd)) (by as_aux_lemma => kernel_rfl) (by as_aux_lemma => kernel_rfl) (upTo_at 100 (shapeS op) 31 100 rd _ _ _ rfl gp gq) ?_
    simp only [Act.put, List.setIfInBounds_toArray, List.set_cons_succ, List.set_cons_zero]
    refine wpStill_val (.func (.func 64) #[] #[.pointer (some ⟨w2.heap.size + 1, 0, none⟩)]) (by as_aux_lemma => kernel_rfl) (by as_aux_lemma => kernel_rfl) ?_
    simp only [Act.put, List.setIfInBounds_toArray, List.set_cons_succ, List.set_cons_zero]
    refine wpStill_val (.pointer (some ⟨w.heap.size, 2, none⟩)) (by as_aux_lemma => kernel_rfl) (by as_aux_lemma => kernel_rfl) ?_
    simp only [Act.put, List.setIfInBounds_toArray, List.set_cons_succ, List.set_cons_zero]
    refine wpStill_load 3 (.tmp 26) ⟨w.heap.size, 2, none⟩ (.int .i64 rs1) (by as_aux_lemma => kernel_rfl) rfl (by as_aux_lemma => kernel_rfl) (Tryz.isAgg3 _) g2 ?_
    simp only [Act.put, List.setIfInBounds_toArray, List.set_cons_succ, List.set_cons_zero]
    refine wpStill_enter 64 #[.int .i64 31, .int .u8 49, .int .i64 rs1, .pointer (some ⟨w2.heap.size + 1, 0, none⟩)] (.bool (upToB (shapeS op) 31 49 rs1)) (by as_aux_lemma => kernel_rfl) (by as_aux_lemma => kernel_rfl) (upTo_at 49 (shapeS op) 31 49 rs1 _ _ _ rfl gp gq) ?_
    simp only [Act.put, List.setIfInBounds_toArray, List.set_cons_succ, List.set_cons_zero]
    refine wpStill_val (.func (.func 64) #[] #[.pointer (some ⟨w2.heap.size + 1, 0, none⟩)]) (by as_aux_lemma => kernel_rfl) (by as_aux_lemma => kernel_rfl) ?_
    simp only [Act.put, List.setIfInBounds_toArray, List.set_cons_succ, List.set_cons_zero]
    refine wpStill_val (.pointer (some ⟨w.heap.size, 3, none⟩)) (by as_aux_lemma => kernel_rfl) (by as_aux_lemma => kernel_rfl) ?_
    simp only [Act.put, List.setIfInBounds_toArray, List.set_cons_succ, List.set_cons_zero]
    refine wpStill_load 3 (.tmp 30) ⟨w.heap.size, 3, none⟩ (.int .i64 rs2) (by as_aux_lemma => kernel_rfl) rfl (by as_aux_lemma => kernel_rfl) (Tryz.isAgg3 _) g3 ?_
    simp only [Act.put, List.setIfInBounds_toArray, List.set_cons_succ, List.set_cons_zero]
    refine wpStill_enter 64 #[.int .i64 31, .int .u8 50, .int .i64 rs2, .pointer (some ⟨w2.heap.size + 1, 0, none⟩)] (.bool (upToB (shapeS op) 31 50 rs2)) (by as_aux_lemma => kernel_rfl) (by as_aux_lemma => kernel_rfl) (upTo_at 50 (shapeS op) 31 50 rs2 _ _ _ rfl gp gq) ?_
    simp only [Act.put, List.setIfInBounds_toArray, List.set_cons_succ, List.set_cons_zero]
    refine wpStill_val (.func (.func 64) #[] #[.pointer (some ⟨w2.heap.size + 1, 0, none⟩)]) (by as_aux_lemma => kernel_rfl) (by as_aux_lemma => kernel_rfl) ?_
    simp only [Act.put, List.setIfInBounds_toArray, List.set_cons_succ, List.set_cons_zero]
    refine wpStill_val (.pointer (some ⟨w.heap.size, 7, none⟩)) (by as_aux_lemma => kernel_rfl) (by as_aux_lemma => kernel_rfl) ?_
    simp only [Act.put, List.setIfInBounds_toArray, List.set_cons_succ, List.set_cons_zero]
    refine wpStill_load 3 (.tmp 34) ⟨w.heap.size, 7, none⟩ (.int .i64 pred) (by as_aux_lemma => kernel_rfl) rfl (by as_aux_lemma => kernel_rfl) (Tryz.isAgg3 _) g7 ?_
    simp only [Act.put, List.setIfInBounds_toArray, List.set_cons_succ, List.set_cons_zero]
    refine wpStill_enter 64 #[.int .i64 15, .int .u8 112, .int .i64 pred, .pointer (some ⟨w2.heap.size + 1, 0, none⟩)] (.bool (upToB (shapeS op) 15 112 pred)) (by as_aux_lemma => kernel_rfl) (by as_aux_lemma => kernel_rfl) (upTo_at 112 (shapeS op) 15 112 pred _ _ _ rfl gp gq) ?_
    simp only [Act.put, List.setIfInBounds_toArray, List.set_cons_succ, List.set_cons_zero]
    refine wpStill_val (.func (.func 64) #[] #[.pointer (some ⟨w2.heap.size + 1, 0, none⟩)]) (by as_aux_lemma => kernel_rfl) (by as_aux_lemma => kernel_rfl) ?_
    simp only [Act.put, List.setIfInBounds_toArray, List.set_cons_succ, List.set_cons_zero]
    refine wpStill_val (.pointer (some ⟨w.heap.size, 8, none⟩)) (by as_aux_lemma => kernel_rfl) (by as_aux_lemma => kernel_rfl) ?_
    simp only [Act.put, List.setIfInBounds_toArray, List.set_cons_succ, List.set_cons_zero]
    refine wpStill_load 3 (.tmp 38) ⟨w.heap.size, 8, none⟩ (.int .i64 succ) (by as_aux_lemma => kernel_rfl) rfl (by as_aux_lemma => kernel_rfl) (Tryz.isAgg3 _) g8 ?_
    simp only [Act.put, List.setIfInBounds_toArray, List.set_cons_succ, List.set_cons_zero]
    refine wpStill_enter 64 #[.int .i64 15, .int .u8 115, .int .i64 succ, .pointer (some ⟨w2.heap.size + 1, 0, none⟩)] (.bool (upToB (shapeS op) 15 115 succ)) (by as_aux_lemma => kernel_rfl) (by as_aux_lemma => kernel_rfl) (upTo_at 115 (shapeS op) 15 115 succ _ _ _ rfl gp gq) ?_
    simp only [Act.put, List.setIfInBounds_toArray, List.set_cons_succ, List.set_cons_zero]
    refine wpStill_load 106 (.tmp 5) ⟨w2.heap.size + 1, 0, none⟩ (.func (.func 62) #[] #[.pointer (some ⟨w2.heap.size, 0, none⟩)]) (by as_aux_lemma => kernel_rfl) rfl (by as_aux_lemma => kernel_rfl) (Tryz.isAgg106 _) gq ?_
    simp only [Act.put, List.setIfInBounds_toArray, List.set_cons_succ, List.set_cons_zero]
    refine wpStill_enter 62 #[.int .u8 109, .pointer (some ⟨w2.heap.size, 0, none⟩)] (.bool true) (by as_aux_lemma => kernel_rfl) (by as_aux_lemma => kernel_rfl) (has_is true 109 (shapeS op) 109 _ _ HM rfl gp) ?_
    simp only [Act.put, List.setIfInBounds_toArray, List.set_cons_succ, List.set_cons_zero]
    refine wpStill_val (.bool true) (by as_aux_lemma => kernel_rfl) (by as_aux_lemma => kernel_rfl) ?_
    simp only [Act.put, List.setIfInBounds_toArray, List.set_cons_succ, List.set_cons_zero]
    refine wpStill_skip (by as_aux_lemma => kernel_rfl) ?_
    simp only [Act.put, List.setIfInBounds_toArray, List.set_cons_succ, List.set_cons_zero]
    refine wpStill_skip (by as_aux_lemma => kernel_rfl) ?_
    simp only [Act.put, List.setIfInBounds_toArray, List.set_cons_succ, List.set_cons_zero]
    refine wpStill_skip (by as_aux_lemma => kernel_rfl) ?_
    simp only [Act.put, List.setIfInBounds_toArray, List.set_cons_succ, List.set_cons_zero]
    refine wpStill_skip (by as_aux_lemma => kernel_rfl) ?_
    simp only [Act.put, List.setIfInBounds_toArray, List.set_cons_succ, List.set_cons_zero]
    refine wpStill_skip (by as_aux_lemma => kernel_rfl) ?_
    simp only [Act.put, List.setIfInBounds_toArray, List.set_cons_succ, List.set_cons_zero]
    refine wpStill_skip (by as_aux_lemma => kernel_rfl) ?_
    simp only [Act.put, List.setIfInBounds_toArray, List.set_cons_succ, List.set_cons_zero]
    refine wpStill_skip (by as_aux_lemma => kernel_rfl) ?_
    simp only [Act.put, List.setIfInBounds_toArray, List.set_cons_succ, List.set_cons_zero]
    refine wpStill_skip (by as_aux_lemma => kernel_rfl) ?_
    simp only [Act.put, List.setIfInBounds_toArray, List.set_cons_succ, List.set_cons_zero]
    refine wpStill_val (.bool true) (by as_aux_lemma => kernel_rfl) (by as_aux_lemma => kernel_rfl) ?_
    simp only [Act.put, List.setIfInBounds_toArray, List.set_cons_succ, List.set_cons_zero]
    refine wpStill_val (.pointer (some ⟨w.heap.size, 0, none⟩)) (by as_aux_lemma => kernel_rfl) (by as_aux_lemma => kernel_rfl) ?_
    simp only [Act.put, List.setIfInBounds_toArray, List.set_cons_succ, List.set_cons_zero]
    refine wpStill_load 3 (.tmp 53) ⟨w.heap.size, 0, none⟩ (.int .i64 op) (by as_aux_lemma => kernel_rfl) rfl (by as_aux_lemma => kernel_rfl) (Tryz.isAgg3 _) g0 ?_
    simp only [Act.put, List.setIfInBounds_toArray, List.set_cons_succ, List.set_cons_zero]
    refine wpStill_val (.pointer (some ⟨w1.heap.size, 1, none⟩)) (by as_aux_lemma => kernel_rfl) (by as_aux_lemma => kernel_rfl) ?_
    simp only [Act.put, List.setIfInBounds_toArray, List.set_cons_succ, List.set_cons_zero]
    refine wpStill_load 3 (.tmp 55) ⟨w1.heap.size, 1, none⟩ (.int .i64 (formOf op)) (by as_aux_lemma => kernel_rfl) rfl (by as_aux_lemma => kernel_rfl) (Tryz.isAgg3 _) gf ?_
    simp only [Act.put, List.setIfInBounds_toArray, List.set_cons_succ, List.set_cons_zero]
    refine wpStill_val (.pointer (some ⟨w.heap.size, 4, none⟩)) (by as_aux_lemma => kernel_rfl) (by as_aux_lemma => kernel_rfl) ?_
    simp only [Act.put, List.setIfInBounds_toArray, List.set_cons_succ, List.set_cons_zero]
    refine wpStill_load 2 (.tmp 57) ⟨w.heap.size, 4, none⟩ (.int .i64 imm) (by as_aux_lemma => kernel_rfl) rfl (by as_aux_lemma => kernel_rfl) (Tryz.isAgg2 _) g4 ?_
    simp only [Act.put, List.setIfInBounds_toArray, List.set_cons_succ, List.set_cons_zero]
    refine wpStill_enter 66 #[.int .i64 op, .int .i64 (formOf op), .int .i64 imm] (.bool (goodB op (formOf op) imm)) (by as_aux_lemma => kernel_rfl) (by as_aux_lemma => kernel_rfl) (good_still op (formOf op) imm _) ?_
    simp only [Act.put, List.setIfInBounds_toArray, List.set_cons_succ, List.set_cons_zero]
    refine wpStill_nil ?_
    change wpList _ _ _ _ _ W.drew
    clear g0 g1 g2 g3 g4 g5 g6 g7 g8 gf gp gq
    have hz5 : w.heap.size ≤ W.drew.heap.size := hz4
    have HB5 : Hid (Below w.heap.size w W.drew) := Lib.hid HB.out.drew
    generalize W.drew = V at *
    obtain ⟨r, hr⟩ : ∃ r, [upToB (shapeS op) 31 100 rd, upToB (shapeS op) 31 49 rs1, upToB (shapeS op) 31 50 rs2, upToB (shapeS op) 15 112 pred, upToB (shapeS op) 15 115 succ, true, goodB op (formOf op) imm].all id = r := ⟨_, rfl⟩
    have HR := Lib.hid hr
    clear hr
    cases r
    all_goals go_wp2_with (go_at_call 65; (with_reducible refine (bools_is _ (upToB (shapeS op) 31 100 rd) (upToB (shapeS op) 31 49 rs1) (upToB (shapeS op) 31 50 rs2) (upToB (shapeS op) 15 112 pred) (upToB (shapeS op) 15 115 succ) (true) (goodB op (formOf op) imm) V.heap.size _ HR (by go_simp) (by go_simp) (by go_simp) (by go_simp) (by go_simp) (by go_simp) (by go_simp)).mono ?_); rintro e w5 ⟨rfl, rfl⟩)
    all_goals
      go_ret
      refine ⟨ret_int ?_, HB5.out.alloc hz5 _⟩
      rw [E1.out, HR.out]; rfl
  have hm : hasB (shapeS op) 109 = false := by simpa using hm
  cases aq
  · have e1 : (partsB op rd rs1 rs2 imm false rl pred succ).all id = [upToB (shapeS op) 31 100 rd, upToB (shapeS op) 31 49 rs1, upToB (shapeS op) 31 50 rs2, upToB (shapeS op) 15 112 pred, upToB (shapeS op) 15 115 succ, !rl, goodB op (formOf op) imm].all id := by
      unfold partsB; rw [hm]; rfl
    have E1 := Lib.hid e1
    clear e1
    have HM := Lib.hid hm
    clear hm
    refine wp_region_still_tail 39 (by kernel_rfl) (by kernel_rfl) ?_
    simp only [List.take_succ_cons, List.take_zero, List.drop_succ_cons, List.drop_zero]
    refine wpStill_val (.func (.func 64) #[] #[.pointer (some ⟨w2.heap.size + 1, 0, none⟩)]) (by as_aux_lemma => kernel_rfl) (by as_aux_lemma => kernel_rfl) ?_
    simp only [Act.put, List.setIfInBounds_toArray, List.set_cons_succ, List.set_cons_zero]
    refine wpStill_val (.pointer (some ⟨w.heap.size, 1, none⟩)) (by as_aux_lemma => kernel_rfl) (by as_aux_lemma => kernel_rfl) ?_
    simp only [Act.put, List.setIfInBounds_toArray, List.set_cons_succ, List.set_cons_zero]
    refine wpStill_load 3 (.tmp 22) ⟨w.heap.size, 1, none⟩ (.int .i64 rd) (by as_aux_lemma => kernel_rfl) rfl (by as_aux_lemma => kernel_rfl) (Tryz.isAgg3 _) g1 ?_
    simp only [Act.put, List.setIfInBounds_toArray, List.set_cons_succ, List.set_cons_zero]
    refine wpStill_enter 64 #[.int .i64 31, .int .u8 100, .int .i64 rd, .pointer (some ⟨w2.heap.size + 1, 0, none⟩)] (.bool (upToB (shapeS op) 31 100 rd)) (by as_aux_lemma => kernel_rfl) (by as_aux_lemma => kernel_rfl) (upTo_at 100 (shapeS op) 31 100 rd _ _ _ rfl gp gq) ?_
    simp only [Act.put, List.setIfInBounds_toArray, List.set_cons_succ, List.set_cons_zero]
    refine wpStill_val (.func (.func 64) #[] #[.pointer (some ⟨w2.heap.size + 1, 0, none⟩)]) (by as_aux_lemma => kernel_rfl) (by as_aux_lemma => kernel_rfl) ?_
    simp only [Act.put, List.setIfInBounds_toArray, List.set_cons_succ, List.set_cons_zero]
    refine wpStill_val (.pointer (some ⟨w.heap.size, 2, none⟩)) (by as_aux_lemma => kernel_rfl) (by as_aux_lemma => kernel_rfl) ?_
    simp only [Act.put, List.setIfInBounds_toArray, List.set_cons_succ, List.set_cons_zero]
    refine wpStill_load 3 (.tmp 26) ⟨w.heap.size, 2, none⟩ (.int .i64 rs1) (by as_aux_lemma => kernel_rfl) rfl (by as_aux_lemma => kernel_rfl) (Tryz.isAgg3 _) g2 ?_
    simp only [Act.put, List.setIfInBounds_toArray, List.set_cons_succ, List.set_cons_zero]
    refine wpStill_enter 64 #[.int .i64 31, .int .u8 49, .int .i64 rs1, .pointer (some ⟨w2.heap.size + 1, 0, none⟩)] (.bool (upToB (shapeS op) 31 49 rs1)) (by as_aux_lemma => kernel_rfl) (by as_aux_lemma => kernel_rfl) (upTo_at 49 (shapeS op) 31 49 rs1 _ _ _ rfl gp gq) ?_
    simp only [Act.put, List.setIfInBounds_toArray, List.set_cons_succ, List.set_cons_zero]
    refine wpStill_val (.func (.func 64) #[] #[.pointer (some ⟨w2.heap.size + 1, 0, none⟩)]) (by as_aux_lemma => kernel_rfl) (by as_aux_lemma => kernel_rfl) ?_
    simp only [Act.put, List.setIfInBounds_toArray, List.set_cons_succ, List.set_cons_zero]
    refine wpStill_val (.pointer (some ⟨w.heap.size, 3, none⟩)) (by as_aux_lemma => kernel_rfl) (by as_aux_lemma => kernel_rfl) ?_
    simp only [Act.put, List.setIfInBounds_toArray, List.set_cons_succ, List.set_cons_zero]
    refine wpStill_load 3 (.tmp 30) ⟨w.heap.size, 3, none⟩ (.int .i64 rs2) (by as_aux_lemma => kernel_rfl) rfl (by as_aux_lemma => kernel_rfl) (Tryz.isAgg3 _) g3 ?_
    simp only [Act.put, List.setIfInBounds_toArray, List.set_cons_succ, List.set_cons_zero]
    refine wpStill_enter 64 #[.int .i64 31, .int .u8 50, .int .i64 rs2, .pointer (some ⟨w2.heap.size + 1, 0, none⟩)] (.bool (upToB (shapeS op) 31 50 rs2)) (by as_aux_lemma => kernel_rfl) (by as_aux_lemma => kernel_rfl) (upTo_at 50 (shapeS op) 31 50 rs2 _ _ _ rfl gp gq) ?_
    simp only [Act.put, List.setIfInBounds_toArray, List.set_cons_succ, List.set_cons_zero]
    refine wpStill_val (.func (.func 64) #[] #[.pointer (some ⟨w2.heap.size + 1, 0, none⟩)]) (by as_aux_lemma => kernel_rfl) (by as_aux_lemma => kernel_rfl) ?_
    simp only [Act.put, List.setIfInBounds_toArray, List.set_cons_succ, List.set_cons_zero]
    refine wpStill_val (.pointer (some ⟨w.heap.size, 7, none⟩)) (by as_aux_lemma => kernel_rfl) (by as_aux_lemma => kernel_rfl) ?_
    simp only [Act.put, List.setIfInBounds_toArray, List.set_cons_succ, List.set_cons_zero]
    refine wpStill_load 3 (.tmp 34) ⟨w.heap.size, 7, none⟩ (.int .i64 pred) (by as_aux_lemma => kernel_rfl) rfl (by as_aux_lemma => kernel_rfl) (Tryz.isAgg3 _) g7 ?_
    simp only [Act.put, List.setIfInBounds_toArray, List.set_cons_succ, List.set_cons_zero]
    refine wpStill_enter 64 #[.int .i64 15, .int .u8 112, .int .i64 pred, .pointer (some ⟨w2.heap.size + 1, 0, none⟩)] (.bool (upToB (shapeS op) 15 112 pred)) (by as_aux_lemma => kernel_rfl) (by as_aux_lemma => kernel_rfl) (upTo_at 112 (shapeS op) 15 112 pred _ _ _ rfl gp gq) ?_
    simp only [Act.put, List.setIfInBounds_toArray, List.set_cons_succ, List.set_cons_zero]
    refine wpStill_val (.func (.func 64) #[] #[.pointer (some ⟨w2.heap.size + 1, 0, none⟩)]) (by as_aux_lemma => kernel_rfl) (by as_aux_lemma => kernel_rfl) ?_
    simp only [Act.put, List.setIfInBounds_toArray, List.set_cons_succ, List.set_cons_zero]
    refine wpStill_val (.pointer (some ⟨w.heap.size, 8, none⟩)) (by as_aux_lemma => kernel_rfl) (by as_aux_lemma => kernel_rfl) ?_
    simp only [Act.put, List.setIfInBounds_toArray, List.set_cons_succ, List.set_cons_zero]
    refine wpStill_load 3 (.tmp 38) ⟨w.heap.size, 8, none⟩ (.int .i64 succ) (by as_aux_lemma => kernel_rfl) rfl (by as_aux_lemma => kernel_rfl) (Tryz.isAgg3 _) g8 ?_
    simp only [Act.put, List.setIfInBounds_toArray, List.set_cons_succ, List.set_cons_zero]
    refine wpStill_enter 64 #[.int .i64 15, .int .u8 115, .int .i64 succ, .pointer (some ⟨w2.heap.size + 1, 0, none⟩)] (.bool (upToB (shapeS op) 15 115 succ)) (by as_aux_lemma => kernel_rfl) (by as_aux_lemma => kernel_rfl) (upTo_at 115 (shapeS op) 15 115 succ _ _ _ rfl gp gq) ?_
    simp only [Act.put, List.setIfInBounds_toArray, List.set_cons_succ, List.set_cons_zero]
    refine wpStill_load 106 (.tmp 5) ⟨w2.heap.size + 1, 0, none⟩ (.func (.func 62) #[] #[.pointer (some ⟨w2.heap.size, 0, none⟩)]) (by as_aux_lemma => kernel_rfl) rfl (by as_aux_lemma => kernel_rfl) (Tryz.isAgg106 _) gq ?_
    simp only [Act.put, List.setIfInBounds_toArray, List.set_cons_succ, List.set_cons_zero]
    refine wpStill_enter 62 #[.int .u8 109, .pointer (some ⟨w2.heap.size, 0, none⟩)] (.bool false) (by as_aux_lemma => kernel_rfl) (by as_aux_lemma => kernel_rfl) (has_is false 109 (shapeS op) 109 _ _ HM rfl gp) ?_
    simp only [Act.put, List.setIfInBounds_toArray, List.set_cons_succ, List.set_cons_zero]
    refine wpStill_val (.bool false) (by as_aux_lemma => kernel_rfl) (by as_aux_lemma => kernel_rfl) ?_
    simp only [Act.put, List.setIfInBounds_toArray, List.set_cons_succ, List.set_cons_zero]
    refine wpStill_val (.pointer (some ⟨w.heap.size, 5, none⟩)) (by as_aux_lemma => kernel_rfl) (by as_aux_lemma => kernel_rfl) ?_
    simp only [Act.put, List.setIfInBounds_toArray, List.set_cons_succ, List.set_cons_zero]
    refine wpStill_load 4 (.tmp 44) ⟨w.heap.size, 5, none⟩ (.bool false) (by as_aux_lemma => kernel_rfl) rfl (by as_aux_lemma => kernel_rfl) (Tryz.isAgg4 _) g5 ?_
    simp only [Act.put, List.setIfInBounds_toArray, List.set_cons_succ, List.set_cons_zero]
    refine wpStill_val (.bool true) (by as_aux_lemma => kernel_rfl) (by as_aux_lemma => kernel_rfl) ?_
    simp only [Act.put, List.setIfInBounds_toArray, List.set_cons_succ, List.set_cons_zero]
    refine wpStill_val (.bool true) (by as_aux_lemma => kernel_rfl) (by as_aux_lemma => kernel_rfl) ?_
    simp only [Act.put, List.setIfInBounds_toArray, List.set_cons_succ, List.set_cons_zero]
    refine wpStill_val (.pointer (some ⟨w.heap.size, 6, none⟩)) (by as_aux_lemma => kernel_rfl) (by as_aux_lemma => kernel_rfl) ?_
    simp only [Act.put, List.setIfInBounds_toArray, List.set_cons_succ, List.set_cons_zero]
    refine wpStill_load 4 (.tmp 48) ⟨w.heap.size, 6, none⟩ (.bool rl) (by as_aux_lemma => kernel_rfl) rfl (by as_aux_lemma => kernel_rfl) (Tryz.isAgg4 _) g6 ?_
    simp only [Act.put, List.setIfInBounds_toArray, List.set_cons_succ, List.set_cons_zero]
    refine wpStill_val (.bool !rl) (by as_aux_lemma => kernel_rfl) (by as_aux_lemma => kernel_rfl) ?_
    simp only [Act.put, List.setIfInBounds_toArray, List.set_cons_succ, List.set_cons_zero]
    refine wpStill_val (.bool !rl) (by as_aux_lemma => kernel_rfl) (by as_aux_lemma => kernel_rfl) ?_
    simp only [Act.put, List.setIfInBounds_toArray, List.set_cons_succ, List.set_cons_zero]
    refine wpStill_val (.bool !rl) (by as_aux_lemma => kernel_rfl) (by as_aux_lemma => kernel_rfl) ?_
    simp only [Act.put, List.setIfInBounds_toArray, List.set_cons_succ, List.set_cons_zero]
    refine wpStill_val (.pointer (some ⟨w.heap.size, 0, none⟩)) (by as_aux_lemma => kernel_rfl) (by as_aux_lemma => kernel_rfl) ?_
    simp only [Act.put, List.setIfInBounds_toArray, List.set_cons_succ, List.set_cons_zero]
    refine wpStill_load 3 (.tmp 53) ⟨w.heap.size, 0, none⟩ (.int .i64 op) (by as_aux_lemma => kernel_rfl) rfl (by as_aux_lemma => kernel_rfl) (Tryz.isAgg3 _) g0 ?_
    simp only [Act.put, List.setIfInBounds_toArray, List.set_cons_succ, List.set_cons_zero]
    refine wpStill_val (.pointer (some ⟨w1.heap.size, 1, none⟩)) (by as_aux_lemma => kernel_rfl) (by as_aux_lemma => kernel_rfl) ?_
    simp only [Act.put, List.setIfInBounds_toArray, List.set_cons_succ, List.set_cons_zero]
    refine wpStill_load 3 (.tmp 55) ⟨w1.heap.size, 1, none⟩ (.int .i64 (formOf op)) (by as_aux_lemma => kernel_rfl) rfl (by as_aux_lemma => kernel_rfl) (Tryz.isAgg3 _) gf ?_
    simp only [Act.put, List.setIfInBounds_toArray, List.set_cons_succ, List.set_cons_zero]
    refine wpStill_val (.pointer (some ⟨w.heap.size, 4, none⟩)) (by as_aux_lemma => kernel_rfl) (by as_aux_lemma => kernel_rfl) ?_
    simp only [Act.put, List.setIfInBounds_toArray, List.set_cons_succ, List.set_cons_zero]
    refine wpStill_load 2 (.tmp 57) ⟨w.heap.size, 4, none⟩ (.int .i64 imm) (by as_aux_lemma => kernel_rfl) rfl (by as_aux_lemma => kernel_rfl) (Tryz.isAgg2 _) g4 ?_
    simp only [Act.put, List.setIfInBounds_toArray, List.set_cons_succ, List.set_cons_zero]
    refine wpStill_enter 66 #[.int .i64 op, .int .i64 (formOf op), .int .i64 imm] (.bool (goodB op (formOf op) imm)) (by as_aux_lemma => kernel_rfl) (by as_aux_lemma => kernel_rfl) (good_still op (formOf op) imm _) ?_
    simp only [Act.put, List.setIfInBounds_toArray, List.set_cons_succ, List.set_cons_zero]
    refine wpStill_nil ?_
    change wpList _ _ _ _ _ W.drew
    clear g0 g1 g2 g3 g4 g5 g6 g7 g8 gf gp gq
    have hz5 : w.heap.size ≤ W.drew.heap.size := hz4
    have HB5 : Hid (Below w.heap.size w W.drew) := Lib.hid HB.out.drew
    generalize W.drew = V at *
    obtain ⟨r, hr⟩ : ∃ r, [upToB (shapeS op) 31 100 rd, upToB (shapeS op) 31 49 rs1, upToB (shapeS op) 31 50 rs2, upToB (shapeS op) 15 112 pred, upToB (shapeS op) 15 115 succ, !rl, goodB op (formOf op) imm].all id = r := ⟨_, rfl⟩
    have HR := Lib.hid hr
    clear hr
    cases r
    all_goals go_wp2_with (go_at_call 65; (with_reducible refine (bools_is _ (upToB (shapeS op) 31 100 rd) (upToB (shapeS op) 31 49 rs1) (upToB (shapeS op) 31 50 rs2) (upToB (shapeS op) 15 112 pred) (upToB (shapeS op) 15 115 succ) (!rl) (goodB op (formOf op) imm) V.heap.size _ HR (by go_simp) (by go_simp) (by go_simp) (by go_simp) (by go_simp) (by go_simp) (by go_simp)).mono ?_); rintro e w5 ⟨rfl, rfl⟩)
    all_goals
      go_ret
      refine ⟨ret_int ?_, HB5.out.alloc hz5 _⟩
      rw [E1.out, HR.out]; rfl
  · have e1 : (partsB op rd rs1 rs2 imm true rl pred succ).all id = [upToB (shapeS op) 31 100 rd, upToB (shapeS op) 31 49 rs1, upToB (shapeS op) 31 50 rs2, upToB (shapeS op) 15 112 pred, upToB (shapeS op) 15 115 succ, false, goodB op (formOf op) imm].all id := by
      unfold partsB; rw [hm]; rfl
    have E1 := Lib.hid e1
    clear e1
    have HM := Lib.hid hm
    clear hm
    refine wp_region_still_tail 39 (by kernel_rfl) (by kernel_rfl) ?_
    simp only [List.take_succ_cons, List.take_zero, List.drop_succ_cons, List.drop_zero]
    refine wpStill_val (.func (.func 64) #[] #[.pointer (some ⟨w2.heap.size + 1, 0, none⟩)]) (by as_aux_lemma => kernel_rfl) (by as_aux_lemma => kernel_rfl) ?_
    simp only [Act.put, List.setIfInBounds_toArray, List.set_cons_succ, List.set_cons_zero]
    refine wpStill_val (.pointer (some ⟨w.heap.size, 1, none⟩)) (by as_aux_lemma => kernel_rfl) (by as_aux_lemma => kernel_rfl) ?_
    simp only [Act.put, List.setIfInBounds_toArray, List.set_cons_succ, List.set_cons_zero]
    refine wpStill_load 3 (.tmp 22) ⟨w.heap.size, 1, none⟩ (.int .i64 rd) (by as_aux_lemma => kernel_rfl) rfl (by as_aux_lemma => kernel_rfl) (Tryz.isAgg3 _) g1 ?_
    simp only [Act.put, List.setIfInBounds_toArray, List.set_cons_succ, List.set_cons_zero]
    refine wpStill_enter 64 #[.int .i64 31, .int .u8 100, .int .i64 rd, .pointer (some ⟨w2.heap.size + 1, 0, none⟩)] (.bool (upToB (shapeS op) 31 100 rd)) (by as_aux_lemma => kernel_rfl) (by as_aux_lemma => kernel_rfl) (upTo_at 100 (shapeS op) 31 100 rd _ _ _ rfl gp gq) ?_
    simp only [Act.put, List.setIfInBounds_toArray, List.set_cons_succ, List.set_cons_zero]
    refine wpStill_val (.func (.func 64) #[] #[.pointer (some ⟨w2.heap.size + 1, 0, none⟩)]) (by as_aux_lemma => kernel_rfl) (by as_aux_lemma => kernel_rfl) ?_
    simp only [Act.put, List.setIfInBounds_toArray, List.set_cons_succ, List.set_cons_zero]
    refine wpStill_val (.pointer (some ⟨w.heap.size, 2, none⟩)) (by as_aux_lemma => kernel_rfl) (by as_aux_lemma => kernel_rfl) ?_
    simp only [Act.put, List.setIfInBounds_toArray, List.set_cons_succ, List.set_cons_zero]
    refine wpStill_load 3 (.tmp 26) ⟨w.heap.size, 2, none⟩ (.int .i64 rs1) (by as_aux_lemma => kernel_rfl) rfl (by as_aux_lemma => kernel_rfl) (Tryz.isAgg3 _) g2 ?_
    simp only [Act.put, List.setIfInBounds_toArray, List.set_cons_succ, List.set_cons_zero]
    refine wpStill_enter 64 #[.int .i64 31, .int .u8 49, .int .i64 rs1, .pointer (some ⟨w2.heap.size + 1, 0, none⟩)] (.bool (upToB (shapeS op) 31 49 rs1)) (by as_aux_lemma => kernel_rfl) (by as_aux_lemma => kernel_rfl) (upTo_at 49 (shapeS op) 31 49 rs1 _ _ _ rfl gp gq) ?_
    simp only [Act.put, List.setIfInBounds_toArray, List.set_cons_succ, List.set_cons_zero]
    refine wpStill_val (.func (.func 64) #[] #[.pointer (some ⟨w2.heap.size + 1, 0, none⟩)]) (by as_aux_lemma => kernel_rfl) (by as_aux_lemma => kernel_rfl) ?_
    simp only [Act.put, List.setIfInBounds_toArray, List.set_cons_succ, List.set_cons_zero]
    refine wpStill_val (.pointer (some ⟨w.heap.size, 3, none⟩)) (by as_aux_lemma => kernel_rfl) (by as_aux_lemma => kernel_rfl) ?_
    simp only [Act.put, List.setIfInBounds_toArray, List.set_cons_succ, List.set_cons_zero]
    refine wpStill_load 3 (.tmp 30) ⟨w.heap.size, 3, none⟩ (.int .i64 rs2) (by as_aux_lemma => kernel_rfl) rfl (by as_aux_lemma => kernel_rfl) (Tryz.isAgg3 _) g3 ?_
    simp only [Act.put, List.setIfInBounds_toArray, List.set_cons_succ, List.set_cons_zero]
    refine wpStill_enter 64 #[.int .i64 31, .int .u8 50, .int .i64 rs2, .pointer (some ⟨w2.heap.size + 1, 0, none⟩)] (.bool (upToB (shapeS op) 31 50 rs2)) (by as_aux_lemma => kernel_rfl) (by as_aux_lemma => kernel_rfl) (upTo_at 50 (shapeS op) 31 50 rs2 _ _ _ rfl gp gq) ?_
    simp only [Act.put, List.setIfInBounds_toArray, List.set_cons_succ, List.set_cons_zero]
    refine wpStill_val (.func (.func 64) #[] #[.pointer (some ⟨w2.heap.size + 1, 0, none⟩)]) (by as_aux_lemma => kernel_rfl) (by as_aux_lemma => kernel_rfl) ?_
    simp only [Act.put, List.setIfInBounds_toArray, List.set_cons_succ, List.set_cons_zero]
    refine wpStill_val (.pointer (some ⟨w.heap.size, 7, none⟩)) (by as_aux_lemma => kernel_rfl) (by as_aux_lemma => kernel_rfl) ?_
    simp only [Act.put, List.setIfInBounds_toArray, List.set_cons_succ, List.set_cons_zero]
    refine wpStill_load 3 (.tmp 34) ⟨w.heap.size, 7, none⟩ (.int .i64 pred) (by as_aux_lemma => kernel_rfl) rfl (by as_aux_lemma => kernel_rfl) (Tryz.isAgg3 _) g7 ?_
    simp only [Act.put, List.setIfInBounds_toArray, List.set_cons_succ, List.set_cons_zero]
    refine wpStill_enter 64 #[.int .i64 15, .int .u8 112, .int .i64 pred, .pointer (some ⟨w2.heap.size + 1, 0, none⟩)] (.bool (upToB (shapeS op) 15 112 pred)) (by as_aux_lemma => kernel_rfl) (by as_aux_lemma => kernel_rfl) (upTo_at 112 (shapeS op) 15 112 pred _ _ _ rfl gp gq) ?_
    simp only [Act.put, List.setIfInBounds_toArray, List.set_cons_succ, List.set_cons_zero]
    refine wpStill_val (.func (.func 64) #[] #[.pointer (some ⟨w2.heap.size + 1, 0, none⟩)]) (by as_aux_lemma => kernel_rfl) (by as_aux_lemma => kernel_rfl) ?_
    simp only [Act.put, List.setIfInBounds_toArray, List.set_cons_succ, List.set_cons_zero]
    refine wpStill_val (.pointer (some ⟨w.heap.size, 8, none⟩)) (by as_aux_lemma => kernel_rfl) (by as_aux_lemma => kernel_rfl) ?_
    simp only [Act.put, List.setIfInBounds_toArray, List.set_cons_succ, List.set_cons_zero]
    refine wpStill_load 3 (.tmp 38) ⟨w.heap.size, 8, none⟩ (.int .i64 succ) (by as_aux_lemma => kernel_rfl) rfl (by as_aux_lemma => kernel_rfl) (Tryz.isAgg3 _) g8 ?_
    simp only [Act.put, List.setIfInBounds_toArray, List.set_cons_succ, List.set_cons_zero]
    refine wpStill_enter 64 #[.int .i64 15, .int .u8 115, .int .i64 succ, .pointer (some ⟨w2.heap.size + 1, 0, none⟩)] (.bool (upToB (shapeS op) 15 115 succ)) (by as_aux_lemma => kernel_rfl) (by as_aux_lemma => kernel_rfl) (upTo_at 115 (shapeS op) 15 115 succ _ _ _ rfl gp gq) ?_
    simp only [Act.put, List.setIfInBounds_toArray, List.set_cons_succ, List.set_cons_zero]
    refine wpStill_load 106 (.tmp 5) ⟨w2.heap.size + 1, 0, none⟩ (.func (.func 62) #[] #[.pointer (some ⟨w2.heap.size, 0, none⟩)]) (by as_aux_lemma => kernel_rfl) rfl (by as_aux_lemma => kernel_rfl) (Tryz.isAgg106 _) gq ?_
    simp only [Act.put, List.setIfInBounds_toArray, List.set_cons_succ, List.set_cons_zero]
    refine wpStill_enter 62 #[.int .u8 109, .pointer (some ⟨w2.heap.size, 0, none⟩)] (.bool false) (by as_aux_lemma => kernel_rfl) (by as_aux_lemma => kernel_rfl) (has_is false 109 (shapeS op) 109 _ _ HM rfl gp) ?_
    simp only [Act.put, List.setIfInBounds_toArray, List.set_cons_succ, List.set_cons_zero]
    refine wpStill_val (.bool false) (by as_aux_lemma => kernel_rfl) (by as_aux_lemma => kernel_rfl) ?_
    simp only [Act.put, List.setIfInBounds_toArray, List.set_cons_succ, List.set_cons_zero]
    refine wpStill_val (.pointer (some ⟨w.heap.size, 5, none⟩)) (by as_aux_lemma => kernel_rfl) (by as_aux_lemma => kernel_rfl) ?_
    simp only [Act.put, List.setIfInBounds_toArray, List.set_cons_succ, List.set_cons_zero]
    refine wpStill_load 4 (.tmp 44) ⟨w.heap.size, 5, none⟩ (.bool true) (by as_aux_lemma => kernel_rfl) rfl (by as_aux_lemma => kernel_rfl) (Tryz.isAgg4 _) g5 ?_
    simp only [Act.put, List.setIfInBounds_toArray, List.set_cons_succ, List.set_cons_zero]
    refine wpStill_val (.bool false) (by as_aux_lemma => kernel_rfl) (by as_aux_lemma => kernel_rfl) ?_
    simp only [Act.put, List.setIfInBounds_toArray, List.set_cons_succ, List.set_cons_zero]
    refine wpStill_val (.bool false) (by as_aux_lemma => kernel_rfl) (by as_aux_lemma => kernel_rfl) ?_
    simp only [Act.put, List.setIfInBounds_toArray, List.set_cons_succ, List.set_cons_zero]
    refine wpStill_skip (by as_aux_lemma => kernel_rfl) ?_
    simp only [Act.put, List.setIfInBounds_toArray, List.set_cons_succ, List.set_cons_zero]
    refine wpStill_skip (by as_aux_lemma => kernel_rfl) ?_
    simp only [Act.put, List.setIfInBounds_toArray, List.set_cons_succ, List.set_cons_zero]
    refine wpStill_skip (by as_aux_lemma => kernel_rfl) ?_
    simp only [Act.put, List.setIfInBounds_toArray, List.set_cons_succ, List.set_cons_zero]
    refine wpStill_val (.bool false) (by as_aux_lemma => kernel_rfl) (by as_aux_lemma => kernel_rfl) ?_
    simp only [Act.put, List.setIfInBounds_toArray, List.set_cons_succ, List.set_cons_zero]
    refine wpStill_val (.bool false) (by as_aux_lemma => kernel_rfl) (by as_aux_lemma => kernel_rfl) ?_
    simp only [Act.put, List.setIfInBounds_toArray, List.set_cons_succ, List.set_cons_zero]
    refine wpStill_val (.pointer (some ⟨w.heap.size, 0, none⟩)) (by as_aux_lemma => kernel_rfl) (by as_aux_lemma => kernel_rfl) ?_
    simp only [Act.put, List.setIfInBounds_toArray, List.set_cons_succ, List.set_cons_zero]
    refine wpStill_load 3 (.tmp 53) ⟨w.heap.size, 0, none⟩ (.int .i64 op) (by as_aux_lemma => kernel_rfl) rfl (by as_aux_lemma => kernel_rfl) (Tryz.isAgg3 _) g0 ?_
    simp only [Act.put, List.setIfInBounds_toArray, List.set_cons_succ, List.set_cons_zero]
    refine wpStill_val (.pointer (some ⟨w1.heap.size, 1, none⟩)) (by as_aux_lemma => kernel_rfl) (by as_aux_lemma => kernel_rfl) ?_
    simp only [Act.put, List.setIfInBounds_toArray, List.set_cons_succ, List.set_cons_zero]
    refine wpStill_load 3 (.tmp 55) ⟨w1.heap.size, 1, none⟩ (.int .i64 (formOf op)) (by as_aux_lemma => kernel_rfl) rfl (by as_aux_lemma => kernel_rfl) (Tryz.isAgg3 _) gf ?_
    simp only [Act.put, List.setIfInBounds_toArray, List.set_cons_succ, List.set_cons_zero]
    refine wpStill_val (.pointer (some ⟨w.heap.size, 4, none⟩)) (by as_aux_lemma => kernel_rfl) (by as_aux_lemma => kernel_rfl) ?_
    simp only [Act.put, List.setIfInBounds_toArray, List.set_cons_succ, List.set_cons_zero]
    refine wpStill_load 2 (.tmp 57) ⟨w.heap.size, 4, none⟩ (.int .i64 imm) (by as_aux_lemma => kernel_rfl) rfl (by as_aux_lemma => kernel_rfl) (Tryz.isAgg2 _) g4 ?_
    simp only [Act.put, List.setIfInBounds_toArray, List.set_cons_succ, List.set_cons_zero]
    refine wpStill_enter 66 #[.int .i64 op, .int .i64 (formOf op), .int .i64 imm] (.bool (goodB op (formOf op) imm)) (by as_aux_lemma => kernel_rfl) (by as_aux_lemma => kernel_rfl) (good_still op (formOf op) imm _) ?_
    simp only [Act.put, List.setIfInBounds_toArray, List.set_cons_succ, List.set_cons_zero]
    refine wpStill_nil ?_
    change wpList _ _ _ _ _ W.drew
    clear g0 g1 g2 g3 g4 g5 g6 g7 g8 gf gp gq
    have hz5 : w.heap.size ≤ W.drew.heap.size := hz4
    have HB5 : Hid (Below w.heap.size w W.drew) := Lib.hid HB.out.drew
    generalize W.drew = V at *
    obtain ⟨r, hr⟩ : ∃ r, [upToB (shapeS op) 31 100 rd, upToB (shapeS op) 31 49 rs1, upToB (shapeS op) 31 50 rs2, upToB (shapeS op) 15 112 pred, upToB (shapeS op) 15 115 succ, false, goodB op (formOf op) imm].all id = r := ⟨_, rfl⟩
    have HR := Lib.hid hr
    clear hr
    cases r
    all_goals go_wp2_with (go_at_call 65; (with_reducible refine (bools_is _ (upToB (shapeS op) 31 100 rd) (upToB (shapeS op) 31 49 rs1) (upToB (shapeS op) 31 50 rs2) (upToB (shapeS op) 15 112 pred) (upToB (shapeS op) 15 115 succ) (false) (goodB op (formOf op) imm) V.heap.size _ HR (by go_simp) (by go_simp) (by go_simp) (by go_simp) (by go_simp) (by go_simp) (by go_simp)).mono ?_); rintro e w5 ⟨rfl, rfl⟩)
    all_goals
      go_ret
      refine ⟨ret_int ?_, HB5.out.alloc hz5 _⟩
      rw [E1.out, HR.out]; rfl
theorem Check_any (op rd rs1 rs2 imm : Int) (aq rl : Bool) (pred succ : Int) (w : World) :
    Calls Tryz.prog 26 #[insV op rd rs1 rs2 imm aq rl pred succ] w fun e w' => e = .returned (.int .i64 (errI (checkB op rd rs1 rs2 imm aq rl pred succ))) ∧ Below w.heap.size w w' := by
  by_cases h : formOf op = 0
  · have e : errI (checkB op rd rs1 rs2 imm aq rl pred succ) = 2 := by unfold checkB; simp [h, errI]
    rw [e]; exact Check_none op rd rs1 rs2 imm aq rl pred succ w h
  · have e : checkB op rd rs1 rs2 imm aq rl pred succ = (partsB op rd rs1 rs2 imm aq rl pred succ).all id := by unfold checkB; simp [h]
    rw [e]; exact Check_some op rd rs1 rs2 imm aq rl pred succ w h
end Go.Proofs.YtbchecnidiiddaaGreatDoor
