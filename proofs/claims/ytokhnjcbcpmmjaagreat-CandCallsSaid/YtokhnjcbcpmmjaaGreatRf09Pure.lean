/-
  Words: which numbers of an order were met; what of a candidate may be, part by part; what a mark asks of rules. No condition.
  (With it: Words: what a candidate that may be tells of each event: its hart, its place, that it may be. No condition.)
-/
import Derived.Test.YtokhnjcbcpmmjaaGreatRf07Below
import Derived.Test.YtokhnjcbcpmmjaaGreatCdNumber2
namespace Go.Proofs.YtokhnjcbcpmmjaaGreat
set_option linter.unusedVariables false
set_option linter.unusedSimpArgs false
open Go.RowKit

end Go.Proofs.YtokhnjcbcpmmjaaGreat
namespace Go.Proofs.YtokhnjcbcpmmjaaGreat
set_option linter.unusedVariables false
set_option linter.unusedSimpArgs false
open Go.RowKit

/-- which numbers were met, so many of the order gone through -/
def seenL (c : Cd) : Nat → Nat → Bool
  | 0, _ => false
  | k + 1, n => seenL c k n || decide ((n : Int) = atI c.od k)
theorem waits_seen (c : Cd) : ∀ (k n : Nat), waitsL c k n = (memE (c.at n).1 && !seenL c k n)
  | 0, n => by simp [waitsL, seenL]
  | k + 1, n => by
    show (waitsL c k n && decide ((n : Int) ≠ atI c.od k)) = (memE (c.at n).1 && !(seenL c k n || decide ((n : Int) = atI c.od k)))
    rw [waits_seen c k n]
    by_cases h : (n : Int) = atI c.od k
    · simp [h]
    · simp [h]
theorem seen_set (c : Cd) (k x n : Nat) (h : atI c.od k = (x : Int)) : seenL c (k + 1) n = if n = x then true else seenL c k n := by
  show (seenL c k n || decide ((n : Int) = atI c.od k)) = _
  rw [h]
  by_cases hn : n = x
  · subst hn; simp
  · rw [if_neg hn]
    have : decide ((n : Int) = (x : Int)) = false := by simp; omega
    rw [this, Bool.or_false]
theorem ord_seen (c : Cd) (k x : Nat) (h : atI c.od k = (x : Int)) (hx : x < c.N) : ordAt c k = (memE (c.at x).1 && !seenL c k x) := by
  rw [ordAt_in c k x h hx, waits_seen]
theorem ord_out (c : Cd) (k : Nat) (h : atI c.od k < 0 ∨ (c.N : Int) ≤ atI c.od k) : ordAt c k = false := by
  refine ordAt_out c k ?_
  unfold withinB
  rcases h with h | h
  · rw [decide_eq_false (by omega)]; rfl
  · rw [decide_eq_false (show ¬ atI c.od k < (c.N : Int) by omega), Bool.and_false]
theorem ord_sum (c : Cd) : ∀ (k : Nat), ordL c k = true → countW (waitsL c k) c.N + k = countW (waitsL c 0) c.N
  | 0, _ => rfl
  | k + 1, h => by
    have h2 : ((List.range (k + 1)).all (ordAt c)) = true := h
    rw [all_succ, Bool.and_eq_true] at h2
    have := ord_sum c k h2.1
    have := ord_step c k h2.2
    omega
theorem ordered_is (c : Cd) (h : ordL c c.od.length = true) : orderedB c = decide ((c.od.length : Int) = (countW (waitsL c 0) c.N : Nat)) := by
  have := ord_sum c c.od.length h
  unfold orderedB
  rw [h, Bool.true_and]
  apply decide_eq_decide.2
  omega
theorem ordered_no (c : Cd) (k : Nat) (hk : k < c.od.length) (h : ordAt c k = false) : orderedB c = false := by
  unfold orderedB
  rw [show ordL c c.od.length = false from all_stop (ordAt c) k c.od.length hk h]
  rfl
/-! ### what may not be -/
theorem may_no_rise {c : Cd} (h : riseL c.fs c.fs.length = false) : c.may = false := by rw [may_is, h]; simp
theorem may_no_few {c : Cd} (h : c.nh < 1) : c.may = false := by rw [may_is, decide_eq_false (show ¬ 0 < c.nh by omega)]; rfl
theorem may_no_many {c : Cd} (h : 8 < c.nh) : c.may = false := by rw [may_is, decide_eq_false (show ¬ c.nh ≤ 8 by omega)]; simp
theorem may_no_row {c : Cd} (k : Nat) (hk : k < c.nh) (h : rowB c k = false) : c.may = false := by
  rw [may_is, show rowsL c c.nh = false from all_stop (rowB c) k c.nh hk h]; simp
theorem may_no_len {c : Cd} (h : c.fr.length ≠ c.N) : c.may = false := by
  rw [may_is]; unfold foundB; rw [decide_eq_false h]; simp
theorem may_no_from {c : Cd} (k : Nat) (hk : k < c.N) (h : findB c k = false) : c.may = false := by
  rw [may_is]; unfold foundB; rw [show foundL c c.N = false from all_stop (findB c) k c.N hk h]; simp
theorem may_no_ord {c : Cd} (h : orderedB c = false) : c.may = false := by rw [may_is, h]; simp
theorem may_yes {c : Cd} (h0 : 0 < c.nh) (h8 : c.nh ≤ 8) (hN : c.N ≤ 60) (hf : riseL c.fs c.fs.length = true) (hr : rowsL c c.nh = true) (hl : c.fr.length = c.N) (hd : foundL c c.N = true) (r : Bool) (ho : orderedB c = r) : c.may = r := by
  rw [may_is, hf, hr]; unfold foundB
  rw [hd, ho, decide_eq_true h0, decide_eq_true h8, decide_eq_true hl, decide_eq_true (show c.N ≤ 4096 by omega)]; rfl
/-! ### marks -/
end Go.Proofs.YtokhnjcbcpmmjaaGreat
