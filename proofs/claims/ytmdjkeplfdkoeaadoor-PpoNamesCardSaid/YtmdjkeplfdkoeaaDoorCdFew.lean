/-
  Proved here: a few small facts that many texts want: maps of words, a look-up among skipped operations, a block just made, cells in a row. No condition.
  (With it: Proved here: the document's Reads, Writes, Memory of an event tell what event's do; nothing that was there is changed. No condition.)
-/
import Derived.Test.YtmdjkeplfdkoeaaDoorCdPlain
import Derived.Test.YtmdjkeplfdkoeaaDoorCdLook
import Derived.Test.YtmdjkeplfdkoeaaDoorCdNumber
import Derived.Test.YtmdjkeplfdkoeaaDoorCdFresh
import Derived.Maps.OwnOps
import Derived.Maps.OwnSet
import Derived.Maps.RangeWalk
namespace Go.Proofs.YtmdjkeplfdkoeaaDoor
set_option linter.unusedVariables false
set_option linter.unusedSimpArgs false
open Go.RowKit
attribute [local go_sem ↓] fold_E fold_SE

theorem reads_kind (e : Ev) : readsE e = (decide (e.kind = 1) || (decide (e.kind = 3) || decide (e.kind = 5))) := by
  unfold readsE fieldsOf
  by_cases h1 : e.kind = 1
  · rw [if_pos h1, decide_eq_true h1]; rfl
  · rw [if_neg h1, decide_eq_false h1]
    by_cases h2 : e.kind = 2
    · rw [if_pos h2, decide_eq_false (show ¬ e.kind = 3 by omega), decide_eq_false (show ¬ e.kind = 5 by omega)]; rfl
    · rw [if_neg h2]
      by_cases h3 : e.kind = 3
      · rw [if_pos h3, decide_eq_true h3]; rfl
      · rw [if_neg h3, decide_eq_false h3]
        by_cases h4 : e.kind = 4
        · rw [if_pos h4, decide_eq_false (show ¬ e.kind = 5 by omega)]; rfl
        · rw [if_neg h4]
          by_cases h5 : e.kind = 5
          · rw [if_pos h5, decide_eq_true h5]; rfl
          · rw [if_neg h5, decide_eq_false h5]
            split <;> rfl
theorem writes_kind (e : Ev) : writesE e = (decide (e.kind = 2) || (decide (e.kind = 4) || decide (e.kind = 5))) := by
  unfold writesE fieldsOf
  by_cases h1 : e.kind = 1
  · rw [if_pos h1, decide_eq_false (show ¬ e.kind = 2 by omega), decide_eq_false (show ¬ e.kind = 4 by omega), decide_eq_false (show ¬ e.kind = 5 by omega)]; rfl
  · rw [if_neg h1]
    by_cases h2 : e.kind = 2
    · rw [if_pos h2, decide_eq_true h2]; rfl
    · rw [if_neg h2, decide_eq_false h2]
      by_cases h3 : e.kind = 3
      · rw [if_pos h3, decide_eq_false (show ¬ e.kind = 4 by omega), decide_eq_false (show ¬ e.kind = 5 by omega)]; rfl
      · rw [if_neg h3]
        by_cases h4 : e.kind = 4
        · rw [if_pos h4, decide_eq_true h4]; rfl
        · rw [if_neg h4, decide_eq_false h4]
          by_cases h5 : e.kind = 5
          · rw [if_pos h5, decide_eq_true h5]; rfl
          · rw [if_neg h5, decide_eq_false h5]
            split <;> rfl
theorem mem_kind (e : Ev) : memE e = (readsE e || writesE e) := by
  rw [reads_kind, writes_kind]
  unfold memE fieldsOf
  by_cases h1 : e.kind = 1
  · rw [if_pos h1, decide_eq_true h1]; rfl
  · rw [if_neg h1]
    by_cases h2 : e.kind = 2
    · rw [if_pos h2, decide_eq_true h2]; simp; decide
    · rw [if_neg h2]
      by_cases h3 : e.kind = 3
      · rw [if_pos h3, decide_eq_true h3]; simp; decide
      · rw [if_neg h3]
        by_cases h4 : e.kind = 4
        · rw [if_pos h4, decide_eq_true h4]; simp; decide
        · rw [if_neg h4]
          by_cases h5 : e.kind = 5
          · rw [if_pos h5, decide_eq_true h5]; simp; decide
          · rw [if_neg h5, decide_eq_false h1, decide_eq_false h2, decide_eq_false h3, decide_eq_false h4, decide_eq_false h5]
            split <;> rfl
end Go.Proofs.YtmdjkeplfdkoeaaDoor
namespace Go.Proofs.YtmdjkeplfdkoeaaDoor
set_option linter.unusedVariables false
set_option linter.unusedSimpArgs false
open Go.RowKit Go.Maps
attribute [local go_sem ↓] fold_E fold_SE

theorem law_u64 : Keyed Tryd.prog 38 := int_keyed Tryd.underlying38
theorem zero_u64 (w : World) : (zeroValue 38).run Tryd.prog w = .ok (.int .u64 0) w := by kernel_rfl
theorem wpStill_lookup {P : Program} {ops : Array Oper} {w : World} {Q : Act → Prop} {a : Act} {o : Oper} {rest : List Oper} {t : TypeId} (m x : Operand) (mv xv v : Value) (hw : Region.wanted o (yielded ops a.tmps) = true) (ho : o.op = .lookup t m x false) (hm : a.eval m = mv) (hx : a.eval x = xv)
    (hr : (Instr.lookup t mv xv false).run P w = .ok v w) (k : wpStill P ops w Q rest (a.put o.dst v)) : wpStill P ops w Q (o :: rest) a := by
  refine wpStill_val v hw ?_ k
  unfold execOp
  rw [ho]
  simp only [hm, hx, Sem.run_bind, hr, Result.andThen_ok]
  rfl
theorem push_old (w : World) (o : Obj) (n : Nat) (x : Obj) (h : w.heap[n]? = some x) : (w.alloc o).heap[n]? = some x := (Below.heap_alloc w o n (Array.getElem?_eq_some_iff.1 h).1).trans h
theorem push_new (w : World) (o : Obj) (n : Nat) (hn : w.heap.size = n) : (w.alloc o).heap[n]? = some o := by subst hn; exact Array.getElem?_push_size
theorem store_cand {ops : Array Oper} {rest : List Oper} {o : Oper} {a : Act} {w : World} {Q : Exit → Act → World → Prop} {n : Nat} {cs0 : Array Value} (H : w.heap[n]? = some (.cells cs0 26 (0, 0))) (hcs : cs0.size = 4) (a0 a1 a2 a3 : Option Addr) (n0 n1 n2 n3 c0 c1 c2 c3 : Nat) (hgd : o.guard = none) (x y : Operand) (ho : o.op = .store 26 x y)
    (hx : a.eval x = .pointer (some ⟨n, 0, none⟩)) (hy : a.eval y = .agg #[.slice a0 n0 c0, .slice a1 n1 c1, .slice a2 n2 c2, .slice a3 n3 c3])
    (k : ∀ w1, w1.heap[n]? = some (.cells #[.slice a0 n0 c0, .slice a1 n1 c1, .slice a2 n2 c2, .slice a3 n3 c3] 26 (0, 0)) → (∀ j, j ≠ n → w1.heap[j]? = w.heap[j]?) → Below n w w1 → w1.heap.size = w.heap.size → wpList Tryd.prog ops Q rest (a.put o.dst undef) w1) : wpList Tryd.prog ops Q (o :: rest) a w := by
  refine wpList_store_row hgd _ x y ho n #[.slice a0 n0 c0, .slice a1 n1 c1, .slice a2 n2 c2, .slice a3 n3 c3] hx hy _ _ H (by as_aux_lemma => kernel_rfl) (by rw [hcs]; rfl) (by simp [Value.oneCell']) (k _ ?_ ?_ ?_ (by simp))
  · exact setRow_heap w n _ _ _ _ H
  · exact fun j hj => setRow_other w n j _ hj
  · exact (Below.refl _ _).trans ⟨rfl, rfl, rfl, by simp, fun j hj => setRow_other _ _ _ _ (by omega)⟩
theorem may_found {c : Cd} (h : c.may = true) : c.fr.length = c.N ∧ foundL c c.N = true := by
  rw [may_is] at h
  simp only [Bool.and_eq_true] at h
  have := h.2.2.2.2.2.1
  unfold foundB at this
  rw [Bool.and_eq_true, decide_eq_true_eq] at this
  exact this
def encC (x : Int × Int) : List Value := [.int .u64 x.1, .int .u64 x.2]
def flatC (l : List (Int × Int)) : List Value := l.flatMap encC
theorem flatC_len (l : List (Int × Int)) : (flatC l).length = l.length * 2 := by
  induction l with
  | nil => rfl
  | cons e es ih => unfold flatC at *; rw [List.flatMap_cons, List.length_append, ih]; simp [encC]; omega
theorem flatC_at : ∀ (l : List (Int × Int)) (j i : Nat), j < l.length → i < 2 → (flatC l)[j * 2 + i]? = some (if i = 0 then .int .u64 (fA l j) else .int .u64 (fV l j))
  | [], j, i, h, _ => by simp at h
  | p :: r, 0, i, _, hi => by
    unfold flatC
    rw [List.flatMap_cons, List.getElem?_append_left (by simp [encC]; omega)]
    rcases i with _ | _ | i
    · simp [encC, fA]
    · simp [encC, fV]
    · omega
  | p :: r, j + 1, i, hj, hi => by
    have ih := flatC_at r j i (by simpa using hj) hi
    unfold flatC at ih ⊢
    rw [List.flatMap_cons, List.getElem?_append_right (by simp [encC]; omega), show (j + 1) * 2 + i - (encC p).length = j * 2 + i by simp [encC]; omega, ih]
    simp [fA, fV]
theorem infoCell : (Tryd.prog.info? 97).map (fun i => (i.zero, i.size, i.bytes)) = some (some (.agg #[.int .u64 0, .int .u64 0]), 2, 16) := by kernel_rfl
theorem Lw.lt {c : Cd} (h : Lw c) (he : ∀ h, h < c.nh → ∀ k, k < c.len h → WordE (c.ev h k)) (hf : ∀ j, j < c.fs.length → (0 ≤ fA c.fs j ∧ fA c.fs j < 18446744073709551616) ∧ (0 ≤ fV c.fs j ∧ fV c.fs j < 18446744073709551616)) : Lt c :=
  ⟨he, h.nh, h.n, h.small, h.fs, h.fr, h.od, hf⟩
end Go.Proofs.YtmdjkeplfdkoeaaDoor
