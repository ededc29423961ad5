/-
  Words: a candidate as lists; what of it may be; its events by number. No condition.
  (With it: Proved here: event's Same tells that an event is the same as itself; nothing that was there is changed. Condition: lists of at most 100,000 numbers.)
-/
import Derived.Test.YtokhnjcbcpmmjaaEvDeps
import Derived.Test.YtokhnjcbcpmmjaaEvMade
import Derived.Deep.RegionHeld3
import Derived.Test.YtokhnjcbcpmmjaaEvRowsPlain
import Derived.Test.YtokhnjcbcpmmjaaEvMakesWords
namespace Go.Proofs.Ytokhnjcbcpmmjaa
set_option linter.unusedVariables false
set_option linter.unusedSimpArgs false
open Go.RowKit
attribute [local go_sem ↓] fold_E fold_SE

end Go.Proofs.Ytokhnjcbcpmmjaa
namespace Go.Proofs.Ytokhnjcbcpmmjaa
set_option linter.unusedVariables false
set_option linter.unusedSimpArgs false
open Go.RowKit

/-- a candidate -/
structure Cd where
  nh : Nat
  len : Nat → Nat
  ev : Nat → Nat → Ev
  el : Nat → Nat → El
  fs : List (Int × Int)
  fr : List Int
  od : List Int
def baseL (len : Nat → Nat) : Nat → Nat
  | 0 => 0
  | h + 1 => baseL len h + len h
theorem baseL_mono (len : Nat → Nat) (a b : Nat) (h : a ≤ b) : baseL len a ≤ baseL len b := by
  induction b with
  | zero => obtain rfl : a = 0 := by omega
            exact Nat.le_refl _
  | succ b ih =>
    rcases Nat.lt_or_ge a (b + 1) with h1 | h1
    · have := ih (by omega)
      show baseL len a ≤ baseL len b + len b
      omega
    · obtain rfl : a = b + 1 := by omega
      exact Nat.le_refl _
theorem baseL_lt (len : Nat → Nat) (a b : Nat) (h : a < b) : baseL len a + len a ≤ baseL len b := baseL_mono len (a + 1) b h
/-- a row's events -/
def rowP (c : Cd) (h : Nat) : List (Ev × El) := (List.range (c.len h)).map fun j => (c.ev h j, c.el h j)
/-- the events of so many harts, by number -/
def allP (c : Cd) : Nat → List (Ev × El)
  | 0 => []
  | h + 1 => allP c h ++ rowP c h
def Cd.N (c : Cd) : Nat := baseL c.len c.nh
theorem rowP_len (c : Cd) (h : Nat) : (rowP c h).length = c.len h := by simp [rowP]
theorem allP_len (c : Cd) (h : Nat) : (allP c h).length = baseL c.len h := by
  induction h with
  | zero => rfl
  | succ h ih => simp [allP, baseL, ih, rowP_len]
theorem allP_at (c : Cd) (k h j : Nat) (hk : h < k) (hj : j < c.len h) : (allP c k)[baseL c.len h + j]? = some (c.ev h j, c.el h j) := by
  induction k with
  | zero => omega
  | succ k ih =>
    unfold allP
    rcases Nat.lt_or_ge h k with h1 | h1
    · have h2 := ih h1
      have := (List.getElem?_eq_some_iff.1 h2).1
      rw [List.getElem?_append_left this]
      exact h2
    · obtain rfl : h = k := by omega
      rw [List.getElem?_append_right (by rw [allP_len]; omega), allP_len, show baseL c.len h + j - baseL c.len h = j by omega]
      simp [rowP, hj]
/-- the event of a number -/
def Cd.at (c : Cd) (n : Nat) : Ev × El := (allP c c.nh).getD n (zeroEv, nilL)
theorem Cd.at_is (c : Cd) (h j : Nat) (hh : h < c.nh) (hj : j < c.len h) : c.at (baseL c.len h + j) = (c.ev h j, c.el h j) := by
  unfold Cd.at
  rw [List.getD_eq_getElem?_getD, allP_at c c.nh h j hh hj]; rfl
/-- each number is some hart's -/
theorem num_of (len : Nat → Nat) (k n : Nat) (h : n < baseL len k) : ∃ h j, h < k ∧ j < len h ∧ n = baseL len h + j := by
  induction k with
  | zero => simp [baseL] at h
  | succ k ih =>
    rcases Nat.lt_or_ge n (baseL len k) with h1 | h1
    · obtain ⟨a, j, h2, h3, h4⟩ := ih h1
      exact ⟨a, j, by omega, h3, h4⟩
    · unfold baseL at h
      exact ⟨k, n - baseL len k, by omega, by omega, by omega⟩
theorem Cd.at_mem (c : Cd) (n : Nat) (hn : n < c.N) : (allP c c.nh)[n]? = some (c.at n) := by
  unfold Cd.at
  have : n < (allP c c.nh).length := by rw [allP_len]; exact hn
  rw [List.getD_eq_getElem?_getD, List.getElem?_eq_getElem this]; rfl
def readsE (e : Ev) : Bool := hasB (fieldsOf e.kind) 16
def writesE (e : Ev) : Bool := hasB (fieldsOf e.kind) 32
def memE (e : Ev) : Bool := hasB (fieldsOf e.kind) 8
/-- what cells have at an address -/
def valL : List (Int × Int) → Int → Int
  | [], _ => 0
  | p :: r, x => if p.1 = x then p.2 else valL r x
/-- do cells rise? -/
def riseAt (fs : List (Int × Int)) (k : Nat) : Bool := decide ((fs.getD k (0, 0)).1 % 8 = 0) && (k == 0 || decide ((fs.getD (k - 1) (0, 0)).1 < (fs.getD k (0, 0)).1))
def riseL (fs : List (Int × Int)) (k : Nat) : Bool := (List.range k).all (riseAt fs)
/-- may a number's From be this one? -/
def findB (c : Cd) (n : Nat) : Bool :=
  if readsE (c.at n).1 = false then atI c.fr n == -1
  else if atI c.fr n = -1 then (c.at n).1.load == valL c.fs (c.at n).1.addr
  else if atI c.fr n = n ∨ withinB (atI c.fr n) c.N = false then false
  else writesE (c.at (atI c.fr n).toNat).1 && ((c.at (atI c.fr n).toNat).1.addr == (c.at n).1.addr && (c.at (atI c.fr n).toNat).1.store == (c.at n).1.load)
def foundL (c : Cd) (k : Nat) : Bool := (List.range k).all (findB c)
/-- which numbers wait, so many of the order gone through -/
def waitsL (c : Cd) : Nat → Nat → Bool
  | 0, n => memE (c.at n).1
  | k + 1, n => waitsL c k n && decide ((n : Int) ≠ atI c.od k)
def ordAt (c : Cd) (k : Nat) : Bool := withinB (atI c.od k) c.N && waitsL c k (atI c.od k).toNat
def ordL (c : Cd) (k : Nat) : Bool := (List.range k).all (ordAt c)
def oneN : Bool → Nat
  | true => 1
  | false => 0
/-- how many wait -/
def countW (f : Nat → Bool) : Nat → Nat
  | 0 => 0
  | n + 1 => countW f n + oneN (f n)
def rowB (c : Cd) (h : Nat) : Bool := (rowL h (c.ev h) (c.el h) (c.len h)).isSome
def rowsL (c : Cd) (k : Nat) : Bool := (List.range k).all (rowB c)
/-- may a candidate be? -/
def Cd.may (c : Cd) : Bool :=
  decide (0 < c.nh) && (decide (c.nh ≤ 8) && (decide (c.N ≤ 4096) && (riseL c.fs c.fs.length && (rowsL c c.nh && ((decide (c.fr.length = c.N) && foundL c c.N) && (ordL c c.od.length && decide (countW (waitsL c c.od.length) c.N = 0)))))))
/-! ### for all below -/
theorem all_succ (f : Nat → Bool) (k : Nat) : (List.range (k + 1)).all f = ((List.range k).all f && f k) := by
  rw [List.range_succ, List.all_append]; simp
theorem all_pre (f : Nat → Bool) (k n : Nat) (hk : k ≤ n) (h : (List.range k).all f = false) : (List.range n).all f = false := by
  induction n with
  | zero => obtain rfl : k = 0 := by omega
            exact h
  | succ n ih =>
    rcases Nat.lt_or_ge k (n + 1) with h1 | h1
    · rw [all_succ, ih (by omega)]; rfl
    · obtain rfl : k = n + 1 := by omega
      exact h
theorem all_stop (f : Nat → Bool) (k n : Nat) (hk : k < n) (h : f k = false) : (List.range n).all f = false :=
  all_pre f (k + 1) n hk (by rw [all_succ, h]; simp)
theorem all_at (f : Nat → Bool) (n : Nat) (h : (List.range n).all f = true) (k : Nat) (hk : k < n) : f k = true := by
  rw [List.all_eq_true] at h
  exact h k (List.mem_range.2 hk)
theorem all_next (f : Nat → Bool) (k : Nat) (h : (List.range k).all f = true) (h2 : f k = true) : (List.range (k + 1)).all f = true := by rw [all_succ, h, h2]; rfl
/-! ### counting -/
theorem countW_ext (f g : Nat → Bool) (n : Nat) (h : ∀ k, k < n → f k = g k) : countW f n = countW g n := by
  induction n with
  | zero => rfl
  | succ n ih => simp only [countW]; rw [ih (fun k hk => h k (by omega)), h n (by omega)]
theorem countW_le (f : Nat → Bool) (n : Nat) : countW f n ≤ n := by
  induction n with
  | zero => exact Nat.le_refl _
  | succ n ih => simp only [countW]; cases f n <;> simp only [oneN] <;> omega
theorem countW_zero (f : Nat → Bool) (n : Nat) (h : countW f n = 0) (k : Nat) (hk : k < n) : f k = false := by
  induction n with
  | zero => omega
  | succ n ih =>
    simp only [countW] at h
    rcases Nat.lt_or_ge k n with h1 | h1
    · exact ih (by omega) h1
    · obtain rfl : k = n := by omega
      cases hf : f k with
      | false => rfl
      | true => rw [hf] at h; simp [oneN] at h
theorem countW_off (f : Nat → Bool) (x n : Nat) (hx : x < n) (hf : f x = true) : countW (fun k => f k && decide ((k : Int) ≠ (x : Int))) n + 1 = countW f n := by
  induction n with
  | zero => omega
  | succ n ih =>
    simp only [countW]
    rcases Nat.lt_or_ge x n with h1 | h1
    · have := ih h1
      have hne : decide ((n : Int) ≠ (x : Int)) = true := by simp; omega
      rw [hne, Bool.and_true]
      omega
    · obtain rfl : x = n := by omega
      rw [hf, countW_ext (fun k => f k && decide ((k : Int) ≠ (x : Int))) f x (fun k hk => by
        have : decide ((k : Int) ≠ (x : Int)) = true := by simp; omega
        rw [this, Bool.and_true])]
      simp [oneN]
theorem withinB_yes {x m : Int} (h : withinB x m = true) : 0 ≤ x ∧ x < m := by
  unfold withinB at h
  simp only [Bool.and_eq_true, decide_eq_true_eq] at h
  exact h
theorem ord_step (c : Cd) (k : Nat) (h : ordAt c k = true) : countW (waitsL c (k + 1)) c.N + 1 = countW (waitsL c k) c.N := by
  unfold ordAt at h
  rw [Bool.and_eq_true] at h
  obtain ⟨h1, h2⟩ := h
  obtain ⟨h3, h4⟩ := withinB_yes h1
  have := countW_off (waitsL c k) (atI c.od k).toNat c.N (by omega) h2
  rw [← this]
  congr 1
  refine countW_ext _ _ _ (fun j hj => ?_)
  show (waitsL c k j && _) = (waitsL c k j && _)
  rw [show (((atI c.od k).toNat : Nat) : Int) = atI c.od k by omega]
end Go.Proofs.Ytokhnjcbcpmmjaa
