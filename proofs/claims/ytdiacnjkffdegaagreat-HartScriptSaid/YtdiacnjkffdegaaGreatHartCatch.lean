/-
  Proved here: the deferred function of the package hart's Step, of a frame that panics with an end, and of one that returns. Condition: the two variables lie where it is told.
-/
import Derived.Test.YtdiacnjkffdegaaGreatHartDo
import Derived.Test.YtdiacnjkffdegaaGreatHartOf
import Derived.Defers
import Derived.Recover
namespace Go.Proofs.YtdiacnjkffdegaaGreat
set_option linter.unusedSimpArgs false
set_option linter.unusedVariables false
open Go.RowKit
section
variable {P : Program} {ops : Array Oper} {Q : Exit → Act → List Frame → World → Prop} {a : Act} {cs : List Frame} {w w' : World} {i : Nat} {rest : List Nat} {o : Oper}
theorem opsS_val (d : Nat) (v : Value) (ho : ops[i]? = some o) (hd : o.dst = some d) (hw : Region.wanted o (yielded ops a.tmps) = true) (hr : (execOp a.eval o).run P w = .ok (.value v) w') (k : wpOpsS P ops Q rest (a.put (some d) v) cs w') : wpOpsS P ops Q (i :: rest) a cs w := by
  unfold wpOpsS
  simp only [ho, hw, if_true, hr, Oper.upon]
  rw [hd]
  exact k
theorem opsS_skip (ho : ops[i]? = some o) (hd : o.dst = none) (hw : Region.wanted o (yielded ops a.tmps) = true) (hr : (execOp a.eval o).run P w = .ok .skip w') (k : wpOpsS P ops Q rest a cs w') : wpOpsS P ops Q (i :: rest) a cs w := by
  unfold wpOpsS
  simp only [ho, hw, if_true, hr, Oper.upon]
  rw [hd]
  exact k
theorem opsS_rec (d : Nat) (v : Value) (cs' : List Frame) (ho : ops[i]? = some o) (hd : o.dst = some d) (hw : Region.wanted o (yielded ops a.tmps) = true) (hr : (execOp a.eval o).run P w = .ok .recover w) (hc : recoverD cs = some (v, cs')) (k : wpOpsS P ops Q rest (a.put (some d) v) cs' w) : wpOpsS P ops Q (i :: rest) a cs w := by
  unfold wpOpsS
  simp only [ho, hw, if_true, hr, hc]
  rw [hd]
  exact k
theorem opsS_norec (d : Nat) (ho : ops[i]? = some o) (hd : o.dst = some d) (hw : Region.wanted o (yielded ops a.tmps) = true) (hr : (execOp a.eval o).run P w = .ok .recover w) (hc : recoverD cs = none) (k : wpOpsS P ops Q rest (a.put (some d) .nilIface) cs w) : wpOpsS P ops Q (i :: rest) a cs w := by
  unfold wpOpsS
  simp only [ho, hw, if_true, hr, hc]
  rw [hd]
  exact k
theorem opsS_nil {next : Act → List Frame → World → Prop} (h : next a cs w) : wpOpsS P ops (Exit.thenS next Q) [] a cs w := by
  unfold wpOpsS
  exact h
end
attribute [local irreducible] wpOpsS
theorem store_run {P : Program} {o : Oper} {a : Act} {w : World} (ty : TypeId) (x y : Operand) (ho : o.op = .store ty x y)
    (g : Nat) (cells : Array Value) (hx : a.eval x = .pointer (some ⟨g, 0, none⟩)) (hy : a.eval y = .agg cells)
    (t : TypeId) (old : Array Value) (hg : w.heap[g]? = some (.cells old t (0, 0))) (hi : (P.info? ty).map (·.size) = some cells.size)
    (hold : old.size = cells.size) (h1 : cells.all (·.oneCell') = true) : (execOp a.eval o).run P w = .ok .skip (w.setRow g cells) := by
  unfold execOp
  simp only [ho, hx, hy, Instr.storeAt, Instr.sureAddr, Sem.run_bind, Sem.run_pure, Result.andThen_ok, run_storeVar_row w g t ty old cells hg hi hold h1]
theorem zero_end : ((Tryz.prog.info? 45).bind (·.zero)) = some (.agg #[.int .i64 0, .int .u64 0]) := by kernel_rfl
theorem alloc_run {o : Oper} {a : Act} {w : World} (ho : o.op = .alloc 45) : (execOp a.eval o).run Tryz.prog w = .ok (.value (.pointer (some ⟨w.heap.size, 0, none⟩))) (w.alloc (.cells #[.int .i64 0, .int .u64 0] 45)) := by
  obtain ⟨inf, hi, hzr⟩ := Option.bind_eq_some_iff.1 zero_end
  have hr : (Instr.alloc 45 true (.tuple #[])).run Tryz.prog w = .ok (.pointer (some ⟨w.heap.size, 0, none⟩)) (w.alloc (.cells #[.int .i64 0, .int .u64 0] 45)) := by
    simp [Instr.alloc, zeroValue, typeInfo, hi, hzr, newVar, newRow, Value.cells, go_sem]
  unfold execOp
  simp only [ho, Sem.run_bind, hr, Result.andThen_ok, Sem.run_pure]
set_option maxHeartbeats 1000000 in
set_option maxRecDepth 100000 in
theorem catch_end (nh nr : Nat) (how : Int) (c : BitVec 64) (h r : Ha) (older : List PanicEntry) (w : World) (H : HAt 25 h nh w) (HR : HAt 25 r nr w) (hlt : nh < nr) :
    CallsD Tryz.prog 12 #[.pointer (some ⟨nh, 0, none⟩), .pointer (some ⟨nr, 0, none⟩)] (.panicking ({ v := .iface 45 (.agg #[.int .i64 how, .int .u64 (U c)]), recovered := false } :: older)) w fun e u' w' =>
      e = .returned (.tuple #[]) ∧ u' = .panicking ({ v := .iface 45 (.agg #[.int .i64 how, .int .u64 (U c)]), recovered := true } :: older) ∧ HAt 25 ((h.atE how).atCode c) nr w' ∧ Below nr w w' := by
  refine callsD_of_wpS Tryz.func12 rfl fun c₀ cs hu => ?_
  apply wpS_seq
  apply wpS_region
  simp only [Tryz.ntmps12, List.size_toArray, List.length_cons, List.length_nil, Nat.reduceAdd, Nat.reduceSub, Array.replicate_succ, Array.replicate_zero, List.push_toArray, List.append_toArray, List.nil_append, List.cons_append]
  rw [show List.range 8 = [0, 1, 2, 3, 4, 5, 6, 7] from rfl]
  have hrec : recoverD (c₀ :: cs) = some (.iface 45 (.agg #[.int .i64 how, .int .u64 (U c)]), { c₀ with mode := .panicking ({ v := .iface 45 (.agg #[.int .i64 how, .int .u64 (U c)]), recovered := true } :: older) } :: cs) := by
    simp [recoverD, hu]
  refine opsS_rec 5 _ _ rfl rfl (by kernel_rfl) (by kernel_rfl) hrec ?_
  simp only [Act.put, List.setIfInBounds_toArray, List.set_cons_succ, List.set_cons_zero]
  refine opsS_val (w' := w) 6 (.tuple #[.agg #[.int .i64 how, .int .u64 (U c)], .bool true]) rfl rfl (by kernel_rfl) (by kernel_rfl) ?_
  simp only [Act.put, List.setIfInBounds_toArray, List.set_cons_succ, List.set_cons_zero]
  refine opsS_val (w' := w) 4 (.tuple #[.agg #[.int .i64 how, .int .u64 (U c)], .bool true]) rfl rfl (by kernel_rfl) (by kernel_rfl) ?_
  simp only [Act.put, List.setIfInBounds_toArray, List.set_cons_succ, List.set_cons_zero]
  refine opsS_val (w' := w) 7 (.agg #[.int .i64 how, .int .u64 (U c)]) rfl rfl (by kernel_rfl) (by kernel_rfl) ?_
  simp only [Act.put, List.setIfInBounds_toArray, List.set_cons_succ, List.set_cons_zero]
  refine opsS_val (w' := w) 8 (.bool true) rfl rfl (by kernel_rfl) (by kernel_rfl) ?_
  simp only [Act.put, List.setIfInBounds_toArray, List.set_cons_succ, List.set_cons_zero]
  refine opsS_val 2 (.pointer (some ⟨w.heap.size, 0, none⟩)) (w' := w.alloc (.cells #[.int .i64 0, .int .u64 0] 45)) rfl rfl (by kernel_rfl) (alloc_run rfl) ?_
  simp only [Act.put, List.setIfInBounds_toArray, List.set_cons_succ, List.set_cons_zero]
  refine opsS_skip rfl rfl (by kernel_rfl) (store_run 45 (.tmp 2) (.tmp 7) rfl w.heap.size #[.int .i64 how, .int .u64 (U c)] rfl rfl 45 #[.int .i64 0, .int .u64 0] Array.getElem?_push_size (by kernel_rfl) rfl (by simp [Value.oneCell'])) ?_
  obtain ⟨W, hW⟩ : ∃ W, (w.alloc (.cells #[.int .i64 0, .int .u64 0] 45)).setRow w.heap.size #[.int .i64 how, .int .u64 (U c)] = W := ⟨_, rfl⟩
  rw [hW]
  refine opsS_val (w' := W) 3 (.bool true) rfl rfl (by kernel_rfl) (by kernel_rfl) ?_
  simp only [Act.put, List.setIfInBounds_toArray, List.set_cons_succ, List.set_cons_zero]
  have hs := setRow_heap (w.alloc (.cells #[.int .i64 0, .int .u64 0] 45)) w.heap.size _ #[.int .i64 how, .int .u64 (U c)] _ _ Array.getElem?_push_size
  rw [hW] at hs
  have e0 : W.cell? ⟨w.heap.size, 0, none⟩ = some (.int .i64 how) := cell_of_row W _ 0 _ _ _ hs
  have e1 : W.cell? ⟨w.heap.size, 1, none⟩ = some (.int .u64 (U c)) := cell_of_row W _ 1 _ _ _ hs
  have hl := H.lt
  have hlr := HR.lt
  have HO : ∀ k, k < w.heap.size → W.heap[k]? = w.heap[k]? := by
    intro k hk
    rw [← hW, setRow_other _ _ _ _ (by omega)]
    exact Below.heap_alloc _ _ _ hk
  have H1 : HAt 25 h nh W := (HO nh hl).trans H
  have H2 : HAt 25 r nr W := (HO nr hlr).trans HR
  have hz : W.heap.size = w.heap.size + 1 := by rw [← hW]; simp
  have HB : Hid (Below w.heap.size w W) := by
    rw [← hW]
    exact Lib.hid (((Below.refl _ _).alloc (Nat.le_refl _) _).trans ⟨rfl, rfl, rfl, by simp, fun j hj => setRow_other _ _ _ _ (by omega)⟩)
  have HN := Lib.hid (And.intro H1 H2)
  clear hW hs H1 H2 HO
  refine opsS_nil (wpS_of_wp ?_)
  go_wp2_with (first | (refine load_ha row_hart HN.out.1 rfl _ rfl rfl ?_) | (go_at_call 13; (with_reducible refine (of_any how c h _).mono ?_); rintro e w2 ⟨rfl, hb⟩; have H2 := Lib.hid (HN.out.2.below hb (by omega)); have HB2 := Lib.hid hb; clear hb) | (refine store_ha row_hart ((h.atE how).atCode c) H2.out rfl _ _ rfl rfl rfl ?_; intro w3 h3 ho3 hb3 hz3; have H3 := Lib.hid (And.intro h3 hb3); clear h3 ho3 hb3 hz3))
  exact ⟨rfl, _, rfl, _, results_none rfl _ _ _, rfl, rfl, H3.out.1, ((HB.out.mono (by omega)).trans (HB2.out.mono (by omega))).trans H3.out.2⟩
set_option maxHeartbeats 1000000 in
set_option maxRecDepth 100000 in
theorem catch_idle (nh nr : Nat) (w : World) :
    CallsD Tryz.prog 12 #[.pointer (some ⟨nh, 0, none⟩), .pointer (some ⟨nr, 0, none⟩)] .returning w fun e u' w' => e = .returned (.tuple #[]) ∧ u' = .returning ∧ Below w.heap.size w w' := by
  refine callsD_of_wpS Tryz.func12 rfl fun c₀ cs hu => ?_
  apply wpS_seq
  apply wpS_region
  simp only [Tryz.ntmps12, List.size_toArray, List.length_cons, List.length_nil, Nat.reduceAdd, Nat.reduceSub, Array.replicate_succ, Array.replicate_zero, List.push_toArray, List.append_toArray, List.nil_append, List.cons_append]
  rw [show List.range 8 = [0, 1, 2, 3, 4, 5, 6, 7] from rfl]
  have hrec : recoverD (c₀ :: cs) = none := by simp [recoverD, hu]
  refine opsS_norec 5 rfl rfl (by kernel_rfl) (by kernel_rfl) hrec ?_
  simp only [Act.put, List.setIfInBounds_toArray, List.set_cons_succ, List.set_cons_zero]
  refine opsS_val (w' := w) 6 (.tuple #[.agg #[.int .i64 0, .int .u64 0], .bool false]) rfl rfl (by kernel_rfl) (by kernel_rfl) ?_
  simp only [Act.put, List.setIfInBounds_toArray, List.set_cons_succ, List.set_cons_zero]
  refine opsS_val (w' := w) 4 (.tuple #[.agg #[.int .i64 0, .int .u64 0], .bool false]) rfl rfl (by kernel_rfl) (by kernel_rfl) ?_
  simp only [Act.put, List.setIfInBounds_toArray, List.set_cons_succ, List.set_cons_zero]
  refine opsS_val (w' := w) 7 (.agg #[.int .i64 0, .int .u64 0]) rfl rfl (by kernel_rfl) (by kernel_rfl) ?_
  simp only [Act.put, List.setIfInBounds_toArray, List.set_cons_succ, List.set_cons_zero]
  refine opsS_val (w' := w) 8 (.bool false) rfl rfl (by kernel_rfl) (by kernel_rfl) ?_
  simp only [Act.put, List.setIfInBounds_toArray, List.set_cons_succ, List.set_cons_zero]
  refine opsS_val 2 (.pointer (some ⟨w.heap.size, 0, none⟩)) (w' := w.alloc (.cells #[.int .i64 0, .int .u64 0] 45)) rfl rfl (by kernel_rfl) (alloc_run rfl) ?_
  simp only [Act.put, List.setIfInBounds_toArray, List.set_cons_succ, List.set_cons_zero]
  refine opsS_skip rfl rfl (by kernel_rfl) (store_run 45 (.tmp 2) (.tmp 7) rfl w.heap.size #[.int .i64 0, .int .u64 0] rfl rfl 45 #[.int .i64 0, .int .u64 0] Array.getElem?_push_size (by kernel_rfl) rfl (by simp [Value.oneCell'])) ?_
  obtain ⟨W, hW⟩ : ∃ W, (w.alloc (.cells #[.int .i64 0, .int .u64 0] 45)).setRow w.heap.size #[.int .i64 0, .int .u64 0] = W := ⟨_, rfl⟩
  rw [hW]
  refine opsS_val (w' := W) 3 (.bool false) rfl rfl (by kernel_rfl) (by kernel_rfl) ?_
  simp only [Act.put, List.setIfInBounds_toArray, List.set_cons_succ, List.set_cons_zero]
  have HB : Hid (Below w.heap.size w W) := by
    rw [← hW]
    exact Lib.hid (((Below.refl _ _).alloc (Nat.le_refl _) _).trans ⟨rfl, rfl, rfl, by simp, fun j hj => setRow_other _ _ _ _ (by omega)⟩)
  clear hW
  refine opsS_nil (wpS_of_wp ?_)
  go_wp2_with fail
  have hc : c₀ = { c₀ with mode := .returning } := by cases c₀; simp_all
  exact ⟨rfl, _, by rw [← hc], _, results_none rfl _ _ _, rfl, rfl, HB.out⟩
end Go.Proofs.YtdiacnjkffdegaaGreat
