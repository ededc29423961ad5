/-
  Words: a taint as a value of 33 cells, where it lies, and what its lists read as; its parts read and put. No condition.
-/
import Derived.Test.YtfbnijcmfaeoeaaGreatTaintWords
import Derived.Test.YtfbnijcmfaeoeaaGreatInsnLook
import Derived.LoopTactic
import Derived.IntWalk
namespace Go.Proofs.YtfbnijcmfaeoeaaGreat
open Go.RowKit

structure Ta where
  vs : List Value
  way : Value
  len : vs.length = 32
def tC (t : Ta) : Array Value := (t.vs ++ [t.way]).toArray
def tX (t : Ta) : Array Value := t.vs.toArray
abbrev Ta.V (t : Ta) : Value := .agg (tC t)
def Ta.v (t : Ta) (k : Nat) : Value := t.vs.getD k undef
/-- what hangs on what -/
structure Tl where
  xs : List (List Int)
  way : List Int
  len : xs.length = 32
def Tl.x (l : Tl) (k : Nat) : List Int := l.xs.getD k []
def TReads (w : World) (t : Ta) (l : Tl) : Prop := (∀ k, k < 32 → ReadsI w (t.v k) (l.x k)) ∧ ReadsI w t.way l.way
theorem TReads.x {w : World} {t : Ta} {l : Tl} (h : TReads w t l) (k : Nat) (hk : k < 32) : ReadsI w (t.v k) (l.x k) := h.1 k hk
theorem TReads.w {w : World} {t : Ta} {l : Tl} (h : TReads w t l) : ReadsI w t.way l.way := h.2
theorem TReads.below {w w' : World} {t : Ta} {l : Tl} (h : TReads w t l) (hb : Below w.heap.size w w') : TReads w' t l := ⟨fun k hk => (h.1 k hk).below hb, h.2.below hb⟩
theorem TReads.alloc {w : World} {t : Ta} {l : Tl} (h : TReads w t l) (o : Obj) : TReads (w.alloc o) t l := h.below ((Below.refl _ _).alloc (Nat.le_refl _) _)
def Tl.short (l : Tl) : Prop := (∀ k, k < 32 → (l.x k).length ≤ 10000) ∧ l.way.length ≤ 10000
theorem Tl.short.x {l : Tl} (h : l.short) (k : Nat) (hk : k < 32) : (l.x k).length ≤ 10000 := h.1 k hk
theorem Tl.short.w {l : Tl} (h : l.short) : l.way.length ≤ 10000 := h.2
theorem tC_size (t : Ta) : (tC t).size = 33 := by unfold tC; simp [t.len]
theorem tX_size (t : Ta) : (tX t).size = 32 := by unfold tX; simp [t.len]
theorem tC_x (t : Ta) (k : Nat) (hk : k < 32) : (tC t)[k]? = some (t.v k) := by
  have hl := t.len
  unfold tC Ta.v
  rw [List.getElem?_toArray, List.getElem?_append_left (by omega), List.getD_eq_getElem?_getD, List.getElem?_eq_getElem (by omega)]
  rfl
theorem tX_x (t : Ta) (k : Nat) (hk : k < 32) : (tX t)[k]? = some (t.v k) := by
  have hl := t.len
  unfold tX Ta.v
  rw [List.getElem?_toArray, List.getD_eq_getElem?_getD, List.getElem?_eq_getElem (by omega)]
  rfl
theorem tC_way (t : Ta) : (tC t)[32]? = some t.way := by
  have hl := t.len
  unfold tC
  rw [List.getElem?_toArray, List.getElem?_append_right (by omega)]
  simp [hl]
def TAt (T : TypeId) (t : Ta) (n : Nat) (w : World) : Prop := w.heap[n]? = some (.cells (tC t) T (0, 0))
theorem TAt.cell {T : TypeId} {t : Ta} {n : Nat} {w : World} (H : TAt T t n w) (k : Nat) : w.cell? ⟨n, k, none⟩ = (tC t)[k]? := cell_of_row w n k _ _ _ H
theorem TAt.lt {T : TypeId} {t : Ta} {n : Nat} {w : World} (H : TAt T t n w) : n < w.heap.size := (Array.getElem?_eq_some_iff.1 H).1
theorem TAt.cx {T : TypeId} {t : Ta} {n : Nat} {w : World} (H : TAt T t n w) (k : Nat) (hk : k < 32) : w.cell? ⟨n, k, none⟩ = some (t.v k) := (H.cell k).trans (tC_x t k hk)
theorem TAt.cw {T : TypeId} {t : Ta} {n : Nat} {w : World} (H : TAt T t n w) : w.cell? ⟨n, 32, none⟩ = some t.way := (H.cell 32).trans (tC_way t)
theorem TAt.new (T : TypeId) (t : Ta) (w : World) : TAt T t w.heap.size (w.alloc (.cells (tC t) T)) := Array.getElem?_push_size
theorem TAt.below {T : TypeId} {t : Ta} {n B : Nat} {w w' : World} (H : TAt T t n w) (hb : Below B w w') (hn : n < B) : TAt T t n w' := (hb.block n hn).trans H
theorem TAt.frozen {T : TypeId} {t : Ta} {n : Nat} {w : World} (H : TAt T t n w) (k : Nat) : w.frozen? ⟨n, k, none⟩ = false := frozen_of_row w n k _ _ H
theorem TAt.alloc {T : TypeId} {t : Ta} {n : Nat} {w : World} (H : TAt T t n w) (o : Obj) : TAt T t n (w.alloc o) := (Below.heap_alloc w o n H.lt).trans H
/-- a first part of a block, read whole -/
theorem run_load_pre {P : Program} (w : World) (g : Nat) (t ty : TypeId) (cs ds : Array Value) (fr : Nat × Nat) (d : TypeDesc) (hg : w.heap[g]? = some (.cells cs t fr)) (hpre : ∀ j, j < ds.size → cs[j]? = ds[j]?)
    (hu : P.underlying ty = some d) (hd : (match d with | .struct _ | .array _ _ => true | _ => false) = true) (hi : (P.info? ty).map (·.size) = some ds.size) :
    (loadVar ty ⟨g, 0, none⟩).run P w = .ok (.agg ds) w := by
  have hl : (loadCells ⟨g, 0, none⟩ ds.toList.length).run P w = .ok ds.toList.toArray w :=
    run_loadCells_list (P := P) w ⟨g, 0, none⟩ ds.toList (fun j v hv => by
      have hadd : (⟨g, 0, none⟩ : Addr).add j = ⟨g, j, none⟩ := by unfold Addr.add; split <;> simp_all
      have hj : j < ds.size := by simpa using (List.getElem?_eq_some_iff.1 hv).1
      rw [hadd, cell_of_row w g j cs t fr hg, hpre j hj]
      simpa using hv)
  cases hq : P.info? ty with
  | none => simp [hq] at hi
  | some i =>
    have hs : i.size = ds.size := by simpa [hq] using hi
    have hagg : (isAgg ty).run P w = .ok true w := by
      unfold isAgg
      rw [Sem.run_bind, run_underlying hu w]
      cases d <;> simp_all
    simp only [Array.length_toList, Array.toArray_toList] at hl
    simp [loadVar, Sem.run_bind, hagg, sizeOf, typeInfo, hq, hs, hl]
theorem wpList_load_pre {P : Program} {ops : Array Oper} {rest : List Oper} {o : Oper} {a : Act} {w : World} {Q : Exit → Act → World → Prop} (hgd : o.guard = none) (ty : TypeId) (x : Operand) (ho : o.op = .load ty x)
    (g : Nat) (hx : a.eval x = .pointer (some ⟨g, 0, none⟩)) (t : TypeId) (cs ds : Array Value) (fr : Nat × Nat) (d : TypeDesc) (hg : w.heap[g]? = some (.cells cs t fr)) (hpre : ∀ j, j < ds.size → cs[j]? = ds[j]?)
    (hu : P.underlying ty = some d) (hd : (match d with | .struct _ | .array _ _ => true | _ => false) = true) (hi : (P.info? ty).map (·.size) = some ds.size)
    (h : wpList P ops Q rest (a.put o.dst (.agg ds)) w) : wpList P ops Q (o :: rest) a w :=
  wpList_plain hgd fun _ hK => by
    unfold Oper.wp execOp
    simp only [ho, hx, Instr.loadAt, Instr.sureAddr, Sem.run_bind, Sem.run_pure, Result.andThen_ok, run_load_pre w g t ty cs ds fr d hg hpre hu hd hi]
    exact hK _ _ h
theorem tX_pre (t : Ta) : ∀ j, j < (tX t).size → (tC t)[j]? = (tX t)[j]? := by
  intro j hj
  rw [tX_size] at hj
  rw [tC_x t j hj, tX_x t j hj]
/-- the lists of registers, read whole -/
theorem load_tx {ops : Array Oper} {rest : List Oper} {o : Oper} {a : Act} {w : World} {Q : Exit → Act → World → Prop} {T : TypeId} {t : Ta} {n : Nat} (H : TAt T t n w) (hgd : o.guard = none) (x : Operand) (ho : o.op = .load 23 x)
    (hx : a.eval x = .pointer (some ⟨n, 0, none⟩)) (k : wpList Tryz.prog ops Q rest (a.put o.dst (.agg (tX t))) w) : wpList Tryz.prog ops Q (o :: rest) a w :=
  wpList_load_pre hgd _ x ho n hx T (tC t) (tX t) (0, 0) _ H (tX_pre t) Tryz.underlying23 rfl (by rw [tX_size]; as_aux_lemma => kernel_rfl) k
/-- a taint, read whole -/
theorem load_ta {ops : Array Oper} {rest : List Oper} {o : Oper} {a : Act} {w : World} {Q : Exit → Act → World → Prop} {T : TypeId} {t : Ta} {n : Nat} (H : TAt T t n w) (hgd : o.guard = none) (x : Operand) (ho : o.op = .load 25 x)
    (hx : a.eval x = .pointer (some ⟨n, 0, none⟩)) (k : wpList Tryz.prog ops Q rest (a.put o.dst (.agg (tC t))) w) : wpList Tryz.prog ops Q (o :: rest) a w :=
  wpList_load_row hgd _ x ho n hx T (tC t) (0, 0) _ H Tryz.underlying25 rfl (by rw [tC_size]; as_aux_lemma => kernel_rfl) k
theorem index_tx (t : Ta) (k : Nat) (h : k < 32) (w : World) : (Instr.index 23 (.agg (tX t)) (.int .i64 (k : Int))).run Tryz.prog w = .ok (t.v k) w := by
  have hu := run_underlying Tryz.underlying23 w
  have ha : (isAgg 22).run Tryz.prog w = .ok false w := by
    unfold isAgg; rw [Sem.run_bind, run_underlying Tryz.underlying22 w]; rfl
  have hs : (Go.sizeOf 22).run Tryz.prog w = .ok 1 w := by kernel_rfl
  have hk : (0 : Int) ≤ k ∧ (k : Int) < (32 : Nat) := by omega
  simp only [Instr.index, asIntOf, Sem.run_bind, Sem.run_pure, Result.andThen_ok, hu, if_pos hk, hs, Go.part, ha, Int.toNat_natCast]
  simp [tX_x t k h]
end Go.Proofs.YtfbnijcmfaeoeaaGreat
