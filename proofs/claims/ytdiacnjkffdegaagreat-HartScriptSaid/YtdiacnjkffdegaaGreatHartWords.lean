/-
  Words: a hart as a value of 35 cells, and where it lies. No condition.
-/
import Derived.Test.YtdiacnjkffdegaaGreatProg
import Derived.Test.YtdiacnjkffdegaaGreatWordPlain
import Derived.Laws.Tables
import Derived.Laws.Rows
import Derived.Lib.Hide
namespace Go.Proofs.YtdiacnjkffdegaaGreat
open Go.RowKit

structure Ha where
  pc : BitVec 64
  xs : List (BitVec 64)
  e : Int
  code : BitVec 64
  len : xs.length = 32
def hC (h : Ha) : Array Value := (Value.int .u64 (U h.pc) :: (h.xs.map (fun b => Value.int .u64 (U b)) ++ [.int .i64 h.e, .int .u64 (U h.code)])).toArray
def Ha.x (h : Ha) (k : Nat) : BitVec 64 := h.xs.getD k 0
abbrev Ha.V (h : Ha) : Value := .agg (hC h)
theorem hC_size (h : Ha) : (hC h).size = 35 := by unfold hC; simp [h.len]
theorem hC_pc (h : Ha) : (hC h)[0]? = some (.int .u64 (U h.pc)) := by unfold hC; simp
theorem hC_x (h : Ha) (k : Nat) (hk : k < 32) : (hC h)[1 + k]? = some (.int .u64 (U (h.x k))) := by
  have hl := h.len
  unfold hC Ha.x
  rw [Nat.add_comm, List.getElem?_toArray, List.getElem?_cons_succ, List.getElem?_append_left (by simp [hl]; exact hk), List.getElem?_map, List.getD_eq_getElem?_getD, List.getElem?_eq_getElem (by omega)]
  rfl
theorem hC_e (h : Ha) : (hC h)[33]? = some (.int .i64 h.e) := by
  have hl := h.len
  unfold hC
  rw [List.getElem?_toArray, List.getElem?_cons_succ, List.getElem?_append_right (by simp [hl])]
  simp [hl]
theorem hC_code (h : Ha) : (hC h)[34]? = some (.int .u64 (U h.code)) := by
  have hl := h.len
  unfold hC
  rw [List.getElem?_toArray, List.getElem?_cons_succ, List.getElem?_append_right (by simp [hl])]
  simp [hl]
theorem hC_one (h : Ha) : (hC h).all (·.oneCell') = true := by
  unfold hC
  simp [Value.oneCell']
def HAt (T : TypeId) (h : Ha) (n : Nat) (w : World) : Prop := w.heap[n]? = some (.cells (hC h) T (0, 0))
theorem HAt.cell {T : TypeId} {h : Ha} {n : Nat} {w : World} (H : HAt T h n w) (k : Nat) : w.cell? ⟨n, k, none⟩ = (hC h)[k]? := by
  exact cell_of_row w n k _ _ _ H
theorem HAt.lt {T : TypeId} {h : Ha} {n : Nat} {w : World} (H : HAt T h n w) : n < w.heap.size := (Array.getElem?_eq_some_iff.1 H).1
theorem HAt.c0 {T : TypeId} {h : Ha} {n : Nat} {w : World} (H : HAt T h n w) : w.cell? ⟨n, 0, none⟩ = some (.int .u64 (U h.pc)) := (H.cell 0).trans (hC_pc h)
theorem HAt.cx {T : TypeId} {h : Ha} {n : Nat} {w : World} (H : HAt T h n w) (k : Nat) (hk : k < 32) : w.cell? ⟨n, 1 + k, none⟩ = some (.int .u64 (U (h.x k))) := (H.cell _).trans (hC_x h k hk)
theorem HAt.c1 {T : TypeId} {h : Ha} {n : Nat} {w : World} (H : HAt T h n w) : w.cell? ⟨n, 1, none⟩ = some (.int .u64 (U (h.x 0))) := H.cx 0 (by omega)
theorem HAt.c33 {T : TypeId} {h : Ha} {n : Nat} {w : World} (H : HAt T h n w) : w.cell? ⟨n, 33, none⟩ = some (.int .i64 h.e) := (H.cell _).trans (hC_e h)
theorem HAt.c34 {T : TypeId} {h : Ha} {n : Nat} {w : World} (H : HAt T h n w) : w.cell? ⟨n, 34, none⟩ = some (.int .u64 (U h.code)) := (H.cell _).trans (hC_code h)
theorem HAt.new (T : TypeId) (h : Ha) (w : World) : HAt T h w.heap.size (w.alloc (.cells (hC h) T)) := Array.getElem?_push_size
theorem HAt.below {T : TypeId} {h : Ha} {n B : Nat} {w w' : World} (H : HAt T h n w) (hb : Below B w w') (hn : n < B) : HAt T h n w' := (hb.block n hn).trans H
theorem HAt.frozen {T : TypeId} {h : Ha} {n : Nat} {w : World} (H : HAt T h n w) (k : Nat) : w.frozen? ⟨n, k, none⟩ = false := frozen_of_row w n k _ _ H
theorem HAt.alloc {T : TypeId} {h : Ha} {n : Nat} {w : World} (H : HAt T h n w) (o : Obj) : HAt T h n (w.alloc o) := (Below.heap_alloc w o n H.lt).trans H
theorem HAt.load {T : TypeId} {h : Ha} {n : Nat} {w : World} (H : HAt T h n w) (P : Program) (ty : TypeId) (d : TypeDesc) (hu : P.underlying ty = some d) (hd : (match d with | .struct _ | .array _ _ => true | _ => false) = true) (hi : (P.info? ty).map (·.size) = some 35) :
    (loadVar ty ⟨n, 0, none⟩).run P w = .ok h.V w := run_loadVar_row w n T ty (hC h) (0, 0) d H hu hd (by rw [hC_size]; exact hi)
theorem setCell_heap (w : World) (n k : Nat) (v : Value) (cs : Array Value) (T : TypeId) (fr : Nat × Nat) (h : w.heap[n]? = some (.cells cs T fr)) : (w.setCell ⟨n, k, none⟩ v).heap[n]? = some (.cells (cs.setIfInBounds k v) T fr) := by
  have hl : n < w.heap.size := (Array.getElem?_eq_some_iff.1 h).1
  unfold World.setCell
  simp only [Array.getElem?_modify, if_true, h, Option.map_some]
  simp
/-! ### parts put -/
def Ha.atPc (h : Ha) (b : BitVec 64) : Ha := { h with pc := b }
def Ha.atE (h : Ha) (e : Int) : Ha := { h with e := e }
def Ha.atCode (h : Ha) (b : BitVec 64) : Ha := { h with code := b }
def Ha.atX (h : Ha) (k : Nat) (b : BitVec 64) : Ha := { h with xs := h.xs.set k b, len := by rw [List.length_set]; exact h.len }
theorem hC_atPc (h : Ha) (b : BitVec 64) : (hC h).setIfInBounds 0 (.int .u64 (U b)) = hC (h.atPc b) := by
  unfold hC Ha.atPc; simp
theorem hC_atE (h : Ha) (e : Int) : (hC h).setIfInBounds 33 (.int .i64 e) = hC (h.atE e) := by
  have hl := h.len
  unfold hC Ha.atE
  simp only [List.setIfInBounds_toArray, List.set_cons_succ]
  rw [List.set_append_right _ _ (by simp [hl])]
  simp [hl]
theorem hC_atCode (h : Ha) (b : BitVec 64) : (hC h).setIfInBounds 34 (.int .u64 (U b)) = hC (h.atCode b) := by
  have hl := h.len
  unfold hC Ha.atCode
  simp only [List.setIfInBounds_toArray, List.set_cons_succ]
  rw [List.set_append_right _ _ (by simp [hl])]
  simp [hl]
theorem hC_atX (h : Ha) (k : Nat) (hk : k < 32) (b : BitVec 64) : (hC h).setIfInBounds (1 + k) (.int .u64 (U b)) = hC (h.atX k b) := by
  have hl := h.len
  unfold hC Ha.atX
  rw [Nat.add_comm]
  simp only [List.setIfInBounds_toArray, List.set_cons_succ]
  rw [List.set_append_left _ _ (by simp [hl]; exact hk), List.map_set]
theorem HAt.setE {T : TypeId} {h : Ha} {n : Nat} {w : World} (H : HAt T h n w) (e : Int) : HAt T (h.atE e) n (w.setCell ⟨n, 33, none⟩ (.int .i64 e)) := by
  unfold HAt; rw [setCell_heap _ _ _ _ _ _ _ H, hC_atE]
theorem HAt.setCode {T : TypeId} {h : Ha} {n : Nat} {w : World} (H : HAt T h n w) (b : BitVec 64) : HAt T (h.atCode b) n (w.setCell ⟨n, 34, none⟩ (.int .u64 (U b))) := by
  unfold HAt; rw [setCell_heap _ _ _ _ _ _ _ H, hC_atCode]
theorem HAt.setPc {T : TypeId} {h : Ha} {n : Nat} {w : World} (H : HAt T h n w) (b : BitVec 64) : HAt T (h.atPc b) n (w.setCell ⟨n, 0, none⟩ (.int .u64 (U b))) := by
  unfold HAt; rw [setCell_heap _ _ _ _ _ _ _ H, hC_atPc]
theorem HAt.setX {T : TypeId} {h : Ha} {n : Nat} {w : World} (H : HAt T h n w) (k : Nat) (hk : k < 32) (b : BitVec 64) : HAt T (h.atX k b) n (w.setCell ⟨n, 1 + k, none⟩ (.int .u64 (U b))) := by
  unfold HAt; rw [setCell_heap _ _ _ _ _ _ _ H, hC_atX h k hk]
theorem HAt.setOther {T : TypeId} {h : Ha} {n : Nat} {w : World} (H : HAt T h n w) (a : Addr) (v : Value) (ha : n ≠ a.block) : HAt T h n (w.setCell a v) := (Below.heap_setCell w a v n ha).trans H
/-! ### whole harts, read and stored -/
def rowD : TypeDesc → Bool | .struct _ | .array _ _ => true | _ => false
def IsRow (ty : TypeId) : Prop := ∃ d, Tryz.prog.underlying ty = some d ∧ rowD d = true ∧ (Tryz.prog.info? ty).map (·.size) = some 35
theorem row_hart : IsRow 25 := ⟨_, Tryz.underlying25, rfl, by as_aux_lemma => kernel_rfl⟩
theorem row_state : IsRow 48 := ⟨_, Tryz.underlying48, rfl, by as_aux_lemma => kernel_rfl⟩
theorem load_ha {ops : Array Oper} {rest : List Oper} {o : Oper} {a : Act} {w : World} {Q : Exit → Act → World → Prop} {ty : TypeId} (hr : IsRow ty) {T : TypeId} {h : Ha} {n : Nat} (H : HAt T h n w) (hgd : o.guard = none) (x : Operand) (ho : o.op = .load ty x)
    (hx : a.eval x = .pointer (some ⟨n, 0, none⟩)) (k : wpList Tryz.prog ops Q rest (a.put o.dst (.agg (hC h))) w) : wpList Tryz.prog ops Q (o :: rest) a w := by
  obtain ⟨d, hu, hd, hi⟩ := hr
  exact wpList_load_row hgd ty x ho n hx T (hC h) (0, 0) d H hu (by cases d <;> simp_all [rowD]) (by rw [hC_size]; exact hi) k
theorem results_ha {tmps : Array Value} {p : Tmp} {fn : Func} {ty : TypeId} (hr : IsRow ty) {T : TypeId} {h : Ha} {n : Nat} {w : World} (H : HAt T h n w) (hf : fn.results = #[.cell p ty]) (hp : tmps.getD p undef = .pointer (some ⟨n, 0, none⟩)) :
    (results fn tmps).run Tryz.prog w = .ok h.V w := by
  obtain ⟨d, hu, hd, hi⟩ := hr
  exact results_cell_row hf tmps w n T (hC h) (0, 0) d hp H hu (by cases d <;> simp_all [rowD]) (by rw [hC_size]; exact hi)
/-- a whole hart is stored: the new world by what is asked of it further on -/
theorem store_ha {ops : Array Oper} {rest : List Oper} {o : Oper} {a : Act} {w : World} {Q : Exit → Act → World → Prop} {ty : TypeId} (hr : IsRow ty) (h : Ha) {T : TypeId} {h0 : Ha} {n : Nat} (H : HAt T h0 n w) (hgd : o.guard = none) (x y : Operand) (ho : o.op = .store ty x y)
    (hx : a.eval x = .pointer (some ⟨n, 0, none⟩)) (hy : a.eval y = .agg (hC h)) (k : ∀ w1, HAt T h n w1 → (∀ j, j ≠ n → w1.heap[j]? = w.heap[j]?) → Below n w w1 → w1.heap.size = w.heap.size → wpList Tryz.prog ops Q rest (a.put o.dst undef) w1) : wpList Tryz.prog ops Q (o :: rest) a w := by
  obtain ⟨d, hu, hd, hi⟩ := hr
  refine wpList_store_row hgd ty x y ho n (hC h) hx hy T (hC h0) H (by rw [hC_size]; exact hi) (by rw [hC_size, hC_size]) (hC_one h) (k _ ?_ ?_ ?_ (by simp))
  · exact setRow_heap w n _ _ T _ H
  · exact fun j hj => setRow_other w n j _ hj
  · exact (Below.refl _ _).trans ⟨rfl, rfl, rfl, by simp, fun j hj => setRow_other _ _ _ _ (by omega)⟩
end Go.Proofs.YtdiacnjkffdegaaGreat
