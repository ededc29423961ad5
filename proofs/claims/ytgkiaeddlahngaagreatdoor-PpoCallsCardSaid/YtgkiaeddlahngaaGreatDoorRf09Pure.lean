/-
  Words: which numbers of an order were met; what of a candidate may be, part by part; what a mark asks of rules. No condition.
  (With it: Words: what a candidate that may be tells of each event: its hart, its place, that it may be. No condition.)
-/
import Derived.Test.YtgkiaeddlahngaaGreatDoorPpView
import Derived.Test.YtgkiaeddlahngaaGreatDoorCdLook
namespace Go.Proofs.YtgkiaeddlahngaaGreatDoor
set_option linter.unusedVariables false
set_option linter.unusedSimpArgs false
open Go.RowKit

theorem rowL_all {hart : Int} {ev : Nat → Ev} {el : Nat → El} : ∀ (n : Nat), (rowL hart ev el n).isSome = true → ∀ k, k < n → (ev k).hart = hart ∧ (ev k).pos = k ∧ chkE (ev k) (el k) = true
  | 0, _, k, hk => by omega
  | n + 1, h, k, hk => by
    unfold rowL at h
    cases hr : rowL hart ev el n with
    | none => rw [hr] at h; simp at h
    | some last =>
      by_cases hkn : k = n
      · subst hkn
        rw [hr] at h
        simp only [Option.bind_some] at h
        unfold rowStep at h
        by_cases h1 : (ev k).hart ≠ hart
        · rw [if_pos h1] at h; cases h
        rw [if_neg h1] at h
        by_cases h2 : (ev k).pos ≠ k
        · rw [if_pos h2] at h; cases h
        rw [if_neg h2] at h
        by_cases h3 : chkE (ev k) (el k) = false
        · rw [if_pos h3] at h; cases h
        exact ⟨by simpa using h1, by simpa using h2, by simpa using h3⟩
      · exact rowL_all n (by rw [hr]; rfl) k (by omega)
theorem may_row {c : Cd} (hm : c.may = true) (h j : Nat) (hh : h < c.nh) (hj : j < c.len h) : (c.ev h j).hart = h ∧ (c.ev h j).pos = j ∧ chkE (c.ev h j) (c.el h j) = true := by
  have hm2 : (decide (0 < c.nh) && (decide (c.nh ≤ 8) && (decide (c.N ≤ 4096) && (riseL c.fs c.fs.length && (rowsL c c.nh && ((decide (c.fr.length = c.N) && foundL c c.N) && (ordL c c.od.length && decide (countW (waitsL c c.od.length) c.N = 0)))))))) = true := hm
  simp only [Bool.and_eq_true] at hm2
  have hr := all_at _ _ hm2.2.2.2.2.1 h hh
  exact rowL_all _ hr j hj
/-- of a number: whose it is -/
theorem may_num {c : Cd} (hm : c.may = true) (n : Nat) (hn : n < c.N) : ∃ h j, h < c.nh ∧ j < c.len h ∧ n = baseL c.len h + j ∧ c.at n = (c.ev h j, c.el h j) ∧ (c.at n).1.hart = h ∧ (c.at n).1.pos = j ∧ chkE (c.at n).1 (c.at n).2 = true := by
  obtain ⟨h, j, hh, hj, rfl⟩ := num_of c.len c.nh n hn
  have e := c.at_is h j hh hj
  obtain ⟨m1, m2, m3⟩ := may_row hm h j hh hj
  exact ⟨h, j, hh, hj, rfl, e, by rw [e]; exact m1, by rw [e]; exact m2, by rw [e]; exact m3⟩
theorem chk_parts {e : Ev} {l : El} (h : chkE e l = true) : (0 ≤ e.pred ∧ e.pred < 16) ∧ (0 ≤ e.succ ∧ e.succ < 16) := by
  unfold chkE at h
  simp only [Bool.and_eq_true] at h
  exact ⟨withinB_yes h.2.2.2.2.2.1, withinB_yes h.2.2.2.2.2.2.1⟩
theorem chk_kind {e : Ev} {l : El} (h : chkE e l = true) : 1 ≤ e.kind ∧ e.kind ≤ 6 := by
  unfold chkE at h
  simp only [Bool.and_eq_true] at h
  have h1 := h.1
  by_cases hk : 1 ≤ e.kind ∧ e.kind ≤ 6
  · exact hk
  · exfalso
    have h0 : fieldsOf e.kind = 0 := by
      unfold fieldsOf
      repeat (first | rw [if_neg (by omega)] | rfl)
    rw [h0] at h1
    exact absurd h1 (by decide)
theorem and_small : ∀ (x : Fin 16) (s : Fin 4), bits BinOp.and IntKind.i64 ((x.val : Nat) : Int) ((s.val : Nat) : Int) = (((x.val &&& s.val : Nat)) : Int) := by decide +kernel
theorem and_is (x : Int) (hx : 0 ≤ x ∧ x < 16) (s : Nat) (hs : s < 4) : bits BinOp.and IntKind.i64 x (s : Int) = ((x.toNat &&& s : Nat) : Int) := by
  have := and_small ⟨x.toNat, by omega⟩ ⟨s, hs⟩
  simp only at this
  rw [← this]
  congr 1
  omega
theorem meet_is (x : Int) (hx : 0 ≤ x ∧ x < 16) (s : Nat) (hs : s < 4) : ((bits BinOp.and IntKind.i64 x (s : Int)) != 0) = meetS x s := by
  rw [and_is x hx s hs]
  unfold meetS
  by_cases h : (x.toNat &&& s) = 0
  · rw [h]; rfl
  · have h2 : (((x.toNat &&& s : Nat)) : Int) ≠ 0 := by omega
    simp [h]
end Go.Proofs.YtgkiaeddlahngaaGreatDoor
namespace Go.Proofs.YtgkiaeddlahngaaGreatDoor
set_option linter.unusedVariables false
set_option linter.unusedSimpArgs false
open Go.RowKit

/-- which numbers were met, so many of the order gone through -/
def seenL (c : Cd) : Nat → Nat → Bool
  | 0, _ => false
  | k + 1, n => seenL c k n || decide ((n : Int) = atI c.od k)
theorem waits_seen (c : Cd) : ∀ (k n : Nat), waitsL c k n = (memE (c.at n).1 && !seenL c k n)
  | 0, n => by simp [waitsL, seenL]
  | k + 1, n => by
    show (waitsL c k n && decide ((n : Int) ≠ atI c.od k)) = (memE (c.at n).1 && !(seenL c k n || decide ((n : Int) = atI c.od k)))
    rw [waits_seen c k n]
    by_cases h : (n : Int) = atI c.od k
    · simp [h]
    · simp [h]
theorem seen_set (c : Cd) (k x n : Nat) (h : atI c.od k = (x : Int)) : seenL c (k + 1) n = if n = x then true else seenL c k n := by
  show (seenL c k n || decide ((n : Int) = atI c.od k)) = _
  rw [h]
  by_cases hn : n = x
  · subst hn; simp
  · rw [if_neg hn]
    have : decide ((n : Int) = (x : Int)) = false := by simp; omega
    rw [this, Bool.or_false]
theorem ord_seen (c : Cd) (k x : Nat) (h : atI c.od k = (x : Int)) (hx : x < c.N) : ordAt c k = (memE (c.at x).1 && !seenL c k x) := by
  rw [ordAt_in c k x h hx, waits_seen]
theorem ord_out (c : Cd) (k : Nat) (h : atI c.od k < 0 ∨ (c.N : Int) ≤ atI c.od k) : ordAt c k = false := by
  refine ordAt_out c k ?_
  unfold withinB
  rcases h with h | h
  · rw [decide_eq_false (by omega)]; rfl
  · rw [decide_eq_false (show ¬ atI c.od k < (c.N : Int) by omega), Bool.and_false]
theorem ord_sum (c : Cd) : ∀ (k : Nat), ordL c k = true → countW (waitsL c k) c.N + k = countW (waitsL c 0) c.N
  | 0, _ => rfl
  | k + 1, h => by
    have h2 : ((List.range (k + 1)).all (ordAt c)) = true := h
    rw [all_succ, Bool.and_eq_true] at h2
    have := ord_sum c k h2.1
    have := ord_step c k h2.2
    omega
theorem ordered_is (c : Cd) (h : ordL c c.od.length = true) : orderedB c = decide ((c.od.length : Int) = (countW (waitsL c 0) c.N : Nat)) := by
  have := ord_sum c c.od.length h
  unfold orderedB
  rw [h, Bool.true_and]
  apply decide_eq_decide.2
  omega
theorem ordered_no (c : Cd) (k : Nat) (hk : k < c.od.length) (h : ordAt c k = false) : orderedB c = false := by
  unfold orderedB
  rw [show ordL c c.od.length = false from all_stop (ordAt c) k c.od.length hk h]
  rfl
/-! ### what may not be -/
theorem may_no_rise {c : Cd} (h : riseL c.fs c.fs.length = false) : c.may = false := by rw [may_is, h]; simp
theorem may_no_few {c : Cd} (h : c.nh < 1) : c.may = false := by rw [may_is, decide_eq_false (show ¬ 0 < c.nh by omega)]; rfl
theorem may_no_many {c : Cd} (h : 8 < c.nh) : c.may = false := by rw [may_is, decide_eq_false (show ¬ c.nh ≤ 8 by omega)]; simp
theorem may_no_row {c : Cd} (k : Nat) (hk : k < c.nh) (h : rowB c k = false) : c.may = false := by
  rw [may_is, show rowsL c c.nh = false from all_stop (rowB c) k c.nh hk h]; simp
theorem may_no_len {c : Cd} (h : c.fr.length ≠ c.N) : c.may = false := by
  rw [may_is]; unfold foundB; rw [decide_eq_false h]; simp
theorem may_no_from {c : Cd} (k : Nat) (hk : k < c.N) (h : findB c k = false) : c.may = false := by
  rw [may_is]; unfold foundB; rw [show foundL c c.N = false from all_stop (findB c) k c.N hk h]; simp
theorem may_no_ord {c : Cd} (h : orderedB c = false) : c.may = false := by rw [may_is, h]; simp
theorem may_yes {c : Cd} (h0 : 0 < c.nh) (h8 : c.nh ≤ 8) (hN : c.N ≤ 60) (hf : riseL c.fs c.fs.length = true) (hr : rowsL c c.nh = true) (hl : c.fr.length = c.N) (hd : foundL c c.N = true) (r : Bool) (ho : orderedB c = r) : c.may = r := by
  rw [may_is, hf, hr]; unfold foundB
  rw [hd, ho, decide_eq_true h0, decide_eq_true h8, decide_eq_true hl, decide_eq_true (show c.N ≤ 4096 by omega)]; rfl
/-! ### marks -/
/-- what the law asks of two -/
def mustB (x y : Ev) : Bool := x.aq || (y.rl || ((x.rl && y.aq) || ((writesE y && (x.addr == y.addr)) || ((y.kind == 4) && (y.pair == x.pos)))))
theorem must_rule {c : Cd} {a b : Nat} (h : mustB (c.at a).1 (c.at b).1 = true) : firstL c a b ≠ 0 := by
  unfold mustB at h
  simp only [Bool.or_eq_true, Bool.and_eq_true, beq_iff_eq] at h
  rcases h with h | h | ⟨h1, h2⟩ | ⟨h1, h2⟩ | ⟨h1, h2⟩
  · exact firstL_pos c a b 4 (by omega) h
  · exact firstL_pos c a b 5 (by omega) h
  · exact firstL_pos c a b 6 (by omega) (by show ((_ || _) && (_ || _)) = true; rw [h1, h2]; simp)
  · exact firstL_pos c a b 0 (by omega) (by show (_ && _) = true; rw [h1]; simp [h2])
  · exact firstL_pos c a b 7 (by omega) (by show (_ && _) = true; rw [decide_eq_true h1]; simp [h2])
end Go.Proofs.YtgkiaeddlahngaaGreatDoor
