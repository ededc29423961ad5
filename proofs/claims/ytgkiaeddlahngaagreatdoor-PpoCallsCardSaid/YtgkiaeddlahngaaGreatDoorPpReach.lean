/-
  Words: what leads to what by preserved steps, as a relation and as a plain function. No condition.
-/
import Derived.Test.YtgkiaeddlahngaaGreatDoorPpAny
import Derived.Test.YtgkiaeddlahngaaGreatDoorPpSets
namespace Go.Proofs.YtgkiaeddlahngaaGreatDoor
set_option linter.unusedVariables false
set_option linter.unusedSimpArgs false
open Go.RowKit

/-- one step -/
def edge (c : Cd) (x y : Nat) : Bool := decide (ruleL c x y ≠ 0)
theorem edge_in {c : Cd} {x y : Nat} (h : edge c x y = true) : x < y ∧ y < c.N := by
  unfold edge at h
  have h1 : ruleL c x y ≠ 0 := by simpa using h
  cases ha : aheadP c x y with
  | false => exfalso; apply h1; unfold ruleL; rw [ha]; rfl
  | true => have := aheadP_in ha; omega
/-- by steps, one or more -/
inductive Reach (c : Cd) (a : Nat) : Nat → Prop
  | one {y : Nat} (h : edge c a y = true) : Reach c a y
  | more {x y : Nat} (h : Reach c a x) (h2 : edge c x y = true) : Reach c a y
theorem Reach.lt {c : Cd} {a y : Nat} (h : Reach c a y) : a < y ∧ y < c.N := by
  induction h with
  | one h => exact edge_in h
  | more h h2 ih => have := edge_in h2; omega
theorem Reach.trans {c : Cd} {a x y : Nat} (h : Reach c a x) (h2 : Reach c x y) : Reach c a y := by
  induction h2 with
  | one h3 => exact .more h h3
  | more _ h4 ih => exact .more ih h4
/-- what of the numbers below n is reached from a -/
def rch (c : Cd) (a : Nat) : Nat → Nat → Bool
  | 0, _ => false
  | n + 1, x => if x = n then (List.range n).any (fun m => (decide (m = a) || rch c a n m) && edge c m n) else rch c a n x
theorem rch_iff (c : Cd) (a : Nat) : ∀ (n x : Nat), x < n → (rch c a n x = true ↔ Reach c a x)
  | 0, x, h => by omega
  | n + 1, x, h => by
    show (if x = n then (List.range n).any (fun m => (decide (m = a) || rch c a n m) && edge c m n) else rch c a n x) = true ↔ _
    by_cases hx : x = n
    · subst hx
      rw [if_pos rfl, List.any_eq_true]
      constructor
      · rintro ⟨m, hm, h2⟩
        rw [List.mem_range] at hm
        simp only [Bool.and_eq_true, Bool.or_eq_true, decide_eq_true_eq] at h2
        obtain ⟨h3, h4⟩ := h2
        rcases h3 with rfl | h3
        · exact .one h4
        · exact .more ((rch_iff c a x m hm).1 h3) h4
      · intro hr
        cases hr with
        | one h3 => exact ⟨a, List.mem_range.2 (edge_in h3).1, by simp [h3]⟩
        | more h3 h4 =>
          rename_i m
          have hm := (edge_in h4).1
          exact ⟨m, List.mem_range.2 hm, by simp [(rch_iff c a x m hm).2 h3, h4]⟩
    · rw [if_neg hx]
      exact rch_iff c a n x (by omega)
def reachB (c : Cd) (a b : Nat) : Bool := rch c a (b + 1) b
theorem reachB_iff (c : Cd) (a b : Nat) : reachB c a b = true ↔ Reach c a b := rch_iff c a (b + 1) b (Nat.lt_succ_self _)
/-- what Whole answers -/
def wholeW (c : Cd) (a b : Int) : Bool := c.may && (aheadP c a b && reachB c a.toNat b.toNat)
end Go.Proofs.YtgkiaeddlahngaaGreatDoor
