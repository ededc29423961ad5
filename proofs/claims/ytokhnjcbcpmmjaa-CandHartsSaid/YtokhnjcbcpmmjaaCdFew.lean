/-
  Proved here: a few small facts that many texts want: maps of words, a look-up among skipped operations, a block just made, cells in a row. No condition.
  (With it: Proved here: the document's Reads, Writes, Memory of an event tell what event's do; nothing that was there is changed. No condition.)
-/
import Derived.Test.YtokhnjcbcpmmjaaCdPlain
import Derived.Test.YtokhnjcbcpmmjaaCdLook
import Derived.Test.YtokhnjcbcpmmjaaCdNumber
import Derived.Test.YtokhnjcbcpmmjaaCdFresh
import Derived.Maps.OwnOps
import Derived.Maps.OwnSet
import Derived.Maps.RangeWalk
namespace Go.Proofs.Ytokhnjcbcpmmjaa
set_option linter.unusedVariables false
set_option linter.unusedSimpArgs false
open Go.RowKit
attribute [local go_sem ↓] fold_E fold_SE

end Go.Proofs.Ytokhnjcbcpmmjaa
namespace Go.Proofs.Ytokhnjcbcpmmjaa
set_option linter.unusedVariables false
set_option linter.unusedSimpArgs false
open Go.RowKit Go.Maps
attribute [local go_sem ↓] fold_E fold_SE

theorem law_u64 : Keyed Try.prog 33 := int_keyed Try.underlying33
theorem zero_u64 (w : World) : (zeroValue 33).run Try.prog w = .ok (.int .u64 0) w := by kernel_rfl
theorem push_old (w : World) (o : Obj) (n : Nat) (x : Obj) (h : w.heap[n]? = some x) : (w.alloc o).heap[n]? = some x := (Below.heap_alloc w o n (Array.getElem?_eq_some_iff.1 h).1).trans h
theorem push_new (w : World) (o : Obj) (n : Nat) (hn : w.heap.size = n) : (w.alloc o).heap[n]? = some o := by subst hn; exact Array.getElem?_push_size
theorem store_cand {ops : Array Oper} {rest : List Oper} {o : Oper} {a : Act} {w : World} {Q : Exit → Act → World → Prop} {n : Nat} {cs0 : Array Value} (H : w.heap[n]? = some (.cells cs0 26 (0, 0))) (hcs : cs0.size = 4) (a0 a1 a2 a3 : Option Addr) (n0 n1 n2 n3 c0 c1 c2 c3 : Nat) (hgd : o.guard = none) (x y : Operand) (ho : o.op = .store 26 x y)
    (hx : a.eval x = .pointer (some ⟨n, 0, none⟩)) (hy : a.eval y = .agg #[.slice a0 n0 c0, .slice a1 n1 c1, .slice a2 n2 c2, .slice a3 n3 c3])
    (k : ∀ w1, w1.heap[n]? = some (.cells #[.slice a0 n0 c0, .slice a1 n1 c1, .slice a2 n2 c2, .slice a3 n3 c3] 26 (0, 0)) → (∀ j, j ≠ n → w1.heap[j]? = w.heap[j]?) → Below n w w1 → w1.heap.size = w.heap.size → wpList Try.prog ops Q rest (a.put o.dst undef) w1) : wpList Try.prog ops Q (o :: rest) a w := by
  refine wpList_store_row hgd _ x y ho n #[.slice a0 n0 c0, .slice a1 n1 c1, .slice a2 n2 c2, .slice a3 n3 c3] hx hy _ _ H (by as_aux_lemma => kernel_rfl) (by rw [hcs]; rfl) (by simp [Value.oneCell']) (k _ ?_ ?_ ?_ (by simp))
  · exact setRow_heap w n _ _ _ _ H
  · exact fun j hj => setRow_other w n j _ hj
  · exact (Below.refl _ _).trans ⟨rfl, rfl, rfl, by simp, fun j hj => setRow_other _ _ _ _ (by omega)⟩
theorem may_found {c : Cd} (h : c.may = true) : c.fr.length = c.N ∧ foundL c c.N = true := by
  rw [may_is] at h
  simp only [Bool.and_eq_true] at h
  have := h.2.2.2.2.2.1
  unfold foundB at this
  rw [Bool.and_eq_true, decide_eq_true_eq] at this
  exact this
def encC (x : Int × Int) : List Value := [.int .u64 x.1, .int .u64 x.2]
def flatC (l : List (Int × Int)) : List Value := l.flatMap encC
theorem flatC_len (l : List (Int × Int)) : (flatC l).length = l.length * 2 := by
  induction l with
  | nil => rfl
  | cons e es ih => unfold flatC at *; rw [List.flatMap_cons, List.length_append, ih]; simp [encC]; omega
theorem flatC_at : ∀ (l : List (Int × Int)) (j i : Nat), j < l.length → i < 2 → (flatC l)[j * 2 + i]? = some (if i = 0 then .int .u64 (fA l j) else .int .u64 (fV l j))
  | [], j, i, h, _ => by simp at h
  | p :: r, 0, i, _, hi => by
    unfold flatC
    rw [List.flatMap_cons, List.getElem?_append_left (by simp [encC]; omega)]
    rcases i with _ | _ | i
    · simp [encC, fA]
    · simp [encC, fV]
    · omega
  | p :: r, j + 1, i, hj, hi => by
    have ih := flatC_at r j i (by simpa using hj) hi
    unfold flatC at ih ⊢
    rw [List.flatMap_cons, List.getElem?_append_right (by simp [encC]; omega), show (j + 1) * 2 + i - (encC p).length = j * 2 + i by simp [encC]; omega, ih]
    simp [fA, fV]
theorem infoCell : (Try.prog.info? 35).map (fun i => (i.zero, i.size, i.bytes)) = some (some (.agg #[.int .u64 0, .int .u64 0]), 2, 16) := by kernel_rfl
theorem Lw.lt {c : Cd} (h : Lw c) (he : ∀ h, h < c.nh → ∀ k, k < c.len h → WordE (c.ev h k)) (hf : ∀ j, j < c.fs.length → (0 ≤ fA c.fs j ∧ fA c.fs j < 18446744073709551616) ∧ (0 ≤ fV c.fs j ∧ fV c.fs j < 18446744073709551616)) : Lt c :=
  ⟨he, h.nh, h.n, h.small, h.fs, h.fr, h.od, hf⟩
end Go.Proofs.Ytokhnjcbcpmmjaa
