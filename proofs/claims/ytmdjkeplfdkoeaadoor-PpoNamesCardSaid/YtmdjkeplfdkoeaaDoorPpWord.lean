/-
  Words: a word as a set of numbers. No condition.
-/
import Derived.WalkKit
import Derived.Lib.TrailingZeros
namespace Go.Proofs.YtmdjkeplfdkoeaaDoor
set_option linter.unusedVariables false
set_option linter.unusedSimpArgs false
open Go.RowKit

/-! ### words as sets -/
theorem bit_div (x n : Nat) : decide (x / 2 ^ n % 2 = 1) = x.testBit n := (Nat.testBit_eq_decide_div_mod_eq).symm
theorem bit_put (x n m : Nat) : (x ||| 2 ^ n).testBit m = (x.testBit m || decide (n = m)) := by rw [Nat.testBit_or, Nat.testBit_two_pow]
theorem low_parts (x : Nat) (h0 : x ≠ 0) (h : x < 2 ^ 64) : ∃ t, x = 2 ^ Lib.ctz 64 x * (2 * t + 1) ∧ Lib.ctz 64 x < 64 := by
  obtain ⟨m, hm, hk⟩ := Lib.ctzFrom_spec 64 x (by omega) h
  have e : Lib.ctz 64 x = Lib.ctzFrom 64 x := by simp [Lib.ctz, h0]
  rw [e]; exact ⟨m, hm, hk⟩
theorem low_set (x : Nat) (h0 : x ≠ 0) (h : x < 2 ^ 64) : x.testBit (Lib.ctz 64 x) = true ∧ ∀ m, m < Lib.ctz 64 x → x.testBit m = false := by
  obtain ⟨t, ht, hk⟩ := low_parts x h0 h
  obtain ⟨k, hk2⟩ : ∃ k, Lib.ctz 64 x = k := ⟨_, rfl⟩
  rw [hk2] at ht ⊢
  refine ⟨?_, fun m hm => ?_⟩
  · rw [ht, Nat.testBit_two_pow_mul]; simp
  · rw [ht, Nat.testBit_two_pow_mul]; simp; omega
theorem clear_low (x : Nat) (h0 : x ≠ 0) (h : x < 2 ^ 64) (m : Nat) : (x &&& (x - 1)).testBit m = (x.testBit m && decide (m ≠ Lib.ctz 64 x)) := by
  obtain ⟨t, ht, hk⟩ := low_parts x h0 h
  obtain ⟨k, hk2⟩ : ∃ k, Lib.ctz 64 x = k := ⟨_, rfl⟩
  rw [hk2] at ht ⊢
  have hp : 0 < 2 ^ k := Nat.two_pow_pos k
  have h1 : x - 1 = 2 ^ k * (2 * t) + (2 ^ k - 1) := by
    rw [ht, Nat.mul_add, Nat.mul_one]; omega
  rw [Nat.testBit_and, h1, Nat.testBit_two_pow_mul_add _ (by omega)]
  rw [ht, Nat.testBit_two_pow_mul]
  by_cases hm : m < k
  · simp [show ¬ k ≤ m by omega]
  · rw [if_neg hm]
    rcases Nat.lt_or_ge k m with h2 | h2
    · obtain ⟨j, rfl⟩ : ∃ j, m = k + (j + 1) := ⟨m - k - 1, by omega⟩
      rw [show k + (j + 1) - k = j + 1 by omega, Nat.testBit_succ, Nat.testBit_succ]
      rw [show (2 * t + 1) / 2 = t by omega, show 2 * t / 2 = t by omega]
      simp
    · obtain rfl : m = k := by omega
      simp
theorem clear_lt (x : Nat) (h0 : x ≠ 0) : x &&& (x - 1) < x := by
  have := Nat.and_le_right (n := x) (m := x - 1)
  omega
end Go.Proofs.YtmdjkeplfdkoeaaDoor
