/-
  Proved here: slices.Repeat of one number, cand's Places: the place in the order of each number; nothing that was there is changed. Condition: a light candidate that may be.
-/
import Derived.Test.YtokhnjcbcpmmjaaCdFew
import Derived.Test.YtokhnjcbcpmmjaaShelf
namespace Go.Proofs.Ytokhnjcbcpmmjaa
set_option linter.unusedVariables false
set_option linter.unusedSimpArgs false
open Go.RowKit
attribute [local go_sem ↓] fold_E fold_SE
attribute [local irreducible] wpStill

/-- a row of ints in a block -/
def intsOf (f : Nat → Int) (N : Nat) : List Value := (List.range N).map fun k => .int .i64 (f k)
def IntsAt (f : Nat → Int) (N M : Nat) (w : World) : Prop := w.heap[M]? = some (.cells (intsOf f N).toArray 3 (0, 0))
theorem IntsAt.lt {f : Nat → Int} {N M : Nat} {w : World} (h : IntsAt f N M w) : M < w.heap.size := (Array.getElem?_eq_some_iff.1 h).1
theorem IntsAt.cell {f : Nat → Int} {N M : Nat} {w : World} (h : IntsAt f N M w) (n : Nat) (hn : n < N) : w.cell? ⟨M, n, none⟩ = some (.int .i64 (f n)) := by
  rw [cell_of_row w M n _ _ _ h]; simp [intsOf, hn]
theorem IntsAt.free {f : Nat → Int} {N M : Nat} {w : World} (h : IntsAt f N M w) (n : Nat) : w.frozen? ⟨M, n, none⟩ = false := frozen_of_row w M n _ _ h
theorem IntsAt.on {f : Nat → Int} {N M : Nat} {w w' : World} (h : IntsAt f N M w) (hb : Below w.heap.size w w') : IntsAt f N M w' := (hb.block M h.lt).trans h
theorem intsOf_len (f : Nat → Int) (N : Nat) : (intsOf f N).length = N := by simp [intsOf]
theorem intsOf_ext {f f2 : Nat → Int} {N : Nat} (he : ∀ k, k < N → f k = f2 k) : intsOf f N = intsOf f2 N := by
  unfold intsOf
  exact List.map_congr_left (fun k hk => by rw [he k (List.mem_range.1 hk)])
theorem intsOf_set {f f2 : Nat → Int} {N : Nat} (n : Nat) (b : Int) (he : ∀ k, k < N → f2 k = if k = n then b else f k) : (intsOf f N).set n (.int .i64 b) = intsOf f2 N := by
  apply List.ext_getElem?
  intro j
  rw [List.getElem?_set]
  by_cases hj : j < N
  · have h2 := he j hj
    have e1 : (intsOf f2 N)[j]? = some (.int .i64 (f2 j)) := by simp [intsOf, hj]
    have e2 : (intsOf f N)[j]? = some (.int .i64 (f j)) := by simp [intsOf, hj]
    rw [e1, e2, h2]
    by_cases hjn : n = j
    · subst hjn
      rw [if_pos rfl, if_pos (by rw [intsOf_len]; exact hj), if_pos rfl]
    · rw [if_neg hjn, if_neg (fun e => hjn e.symm)]
  · have e1 : (intsOf f2 N)[j]? = none := by simp [intsOf]; omega
    have e2 : (intsOf f N)[j]? = none := by simp [intsOf]; omega
    rw [e1, e2]
    split
    · rw [if_neg (by rw [intsOf_len]; omega)]
    · rfl
theorem IntsAt.set {f f2 : Nat → Int} {N M : Nat} {w : World} (h : IntsAt f N M w) (n : Nat) (b : Int) (he : ∀ k, k < N → f2 k = if k = n then b else f k) : IntsAt f2 N M (w.setCell ⟨M, n, none⟩ (.int .i64 b)) := by
  have := set_at w M n (.int .i64 b) _ _ _ h
  unfold IntsAt
  rw [this]
  simp only [List.setIfInBounds_toArray]
  rw [intsOf_set n b he]
theorem made_ints (n : Nat) : (madeCells (Value.int .i64 0).cells (n * 1)) = (intsOf (fun _ => 0) n).toArray := by
  apply Array.ext'
  simp only [madeCells, intsOf, Nat.mul_one, Array.toList_map, Array.toList_range]
  apply List.map_congr_left
  intro k _
  simp [Value.cells, Nat.mod_one]
theorem make_ints (n : Nat) (hn : n ≤ 60) (w : World) : (Instr.makeSlice 24 (.int .i64 (n : Int)) (.int .i64 (n : Int))).run Try.prog w = .ok (.slice (some ⟨w.heap.size, 0, none⟩) n n) (w.alloc (.cells (intsOf (fun _ => 0) n).toArray 3)) := by
  obtain ⟨i0, hi, hz0, hz1, hz2⟩ := info_parts infoInt
  have := run_make (P := Try.prog) w 24 3 i0 (.int .i64 0) Try.underlying24 hi hz0 .i64 .i64 (n : Int) (n : Int) (by omega) (Int.le_refl _) (by rw [hz2]; omega) (by omega)
  rw [this, hz1]
  simp only [Int.toNat_natCast]
  rw [made_ints]
theorem may_ord {c : Cd} (h : c.may = true) : ordL c c.od.length = true ∧ countW (waitsL c c.od.length) c.N = 0 := by
  rw [may_is] at h
  simp only [Bool.and_eq_true] at h
  have := h.2.2.2.2.2.2
  unfold orderedB at this
  rw [Bool.and_eq_true, decide_eq_true_eq] at this
  exact this
theorem may_in {c : Cd} (h : c.may = true) (k : Nat) (hk : k < c.od.length) : 0 ≤ atI c.od k ∧ atI c.od k < c.N := by
  have := all_at _ _ (may_ord h).1 k hk
  unfold ordAt at this
  rw [Bool.and_eq_true] at this
  exact withinB_yes this.1
theorem may_rise {c : Cd} (h : c.may = true) : riseL c.fs c.fs.length = true := by
  rw [may_is] at h
  simp only [Bool.and_eq_true] at h
  exact h.2.2.2.1
theorem may_rows {c : Cd} (h : c.may = true) : rowsL c c.nh = true := by
  rw [may_is] at h
  simp only [Bool.and_eq_true] at h
  exact h.2.2.2.2.1
theorem may_nh {c : Cd} (h : c.may = true) : 0 < c.nh ∧ c.nh ≤ 8 := by
  rw [may_is] at h
  simp only [Bool.and_eq_true, decide_eq_true_eq] at h
  exact ⟨h.1, h.2.1⟩
end Go.Proofs.Ytokhnjcbcpmmjaa
