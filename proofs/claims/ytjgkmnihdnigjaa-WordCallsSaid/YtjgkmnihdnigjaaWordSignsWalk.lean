/-
  Proved here: the law WordSigns returns true at every word, every signed word and every number of bits, and leaves the world as it was. No condition.
-/
import Derived.Test.YtjgkmnihdnigjaaWordPutsWalk
namespace Go.Proofs.Ytjgkmnihdnigjaa
open Go.RowKit

theorem ofInt_shl (a : BitVec 64) (k : Nat) : BitVec.ofInt 64 (S a * 2 ^ k) = a <<< k := by
  have h1 : BitVec.ofInt 64 (U a * 2 ^ k) = a <<< k := by
    have := shl_U a k
    rw [wrapU] at this
    exact U_inj this
  rw [BitVec.ofInt_mul, ofInt_S, ← h1, BitVec.ofInt_mul, ofInt_U]
theorem pow_pos_int (k : Nat) : (0 : Int) < 2 ^ k := Int.pow_pos (by decide)
theorem pow_split (n : Nat) (h : n ≤ 63) : (2 : Int) ^ n * 2 ^ (63 - n) = 9223372036854775808 := by
  rw [← Int.pow_add, show n + (63 - n) = 63 by omega]; rfl
theorem sign_bounds (x : BitVec 64) (n : Nat) (h : n ≤ 63) : -(2 : Int) ^ n ≤ S (sign x (n + 1)) ∧ S (sign x (n + 1)) < 2 ^ n := by
  unfold sign
  rw [← shr_S, show 64 - (n + 1) = 63 - n by omega]
  have hp := pow_split n h
  have h0 := pow_pos_int (63 - n)
  have l := S_lo (x <<< (63 - n))
  have u := S_hi (x <<< (63 - n))
  constructor
  · rw [Int.le_ediv_iff_mul_le h0, Int.neg_mul, hp]; exact l
  · rw [Int.ediv_lt_iff_lt_mul h0, hp]; omega
theorem sign_same (v : BitVec 64) (n : Nat) (h : n ≤ 63) (h1 : -(2 : Int) ^ n ≤ S v) (h2 : S v < 2 ^ n) : sign v (n + 1) = v := by
  apply S_inj
  unfold sign
  rw [← shr_S, show 64 - (n + 1) = 63 - n by omega, ← ofInt_shl, ← wrapS]
  have hp := pow_split n h
  have h0 := pow_pos_int (63 - n)
  have e : wrap64 (S v * 2 ^ (63 - n)) = S v * 2 ^ (63 - n) := by
    have a1 : -9223372036854775808 ≤ S v * 2 ^ (63 - n) := by
      rw [← hp, ← Int.neg_mul]; exact Int.mul_le_mul_of_nonneg_right h1 (by omega)
    have a2 : S v * 2 ^ (63 - n) < 9223372036854775808 := by
      rw [← hp]; exact Int.mul_lt_mul_of_pos_right h2 h0
    unfold wrap64; omega
  rw [e, Int.mul_ediv_cancel _ (by omega)]
theorem sign_sign (x : BitVec 64) (k : Nat) (h : k ≤ 64) : sign (sign x k) k = sign x k := by
  apply bits_ext
  intro i hi
  rw [bit_sign _ _ _ h hi, bit_sign _ _ _ h hi]
  split
  · rfl
  · split
    · rfl
    · rw [bit_sign _ _ _ h (by omega), if_neg (by assumption), if_pos (by omega)]
theorem low_sign (x : BitVec 64) (k : Nat) (h : k ≤ 64) : low (sign x k) k = low x k := by
  apply bits_ext
  intro i hi
  rw [bit_low, bit_low]
  by_cases h0 : i < k
  · rw [bit_sign _ _ _ h hi, if_neg (by omega), if_pos h0]
  · simp [h0]
theorem sign_64 (x : BitVec 64) : sign x 64 = x := by
  apply bits_ext
  intro i hi
  rw [bit_sign _ _ _ (by omega) hi, if_neg (by omega), if_pos hi]
theorem ck_one (n : Nat) (h : n ≤ 63) : ck (1 + (n : Int)) = n + 1 := by rw [ck_in _ (by omega) (by omega)]; omega
/-- the half of what n + 1 bits hold; a name of its own, since the kernel must not open a power inside a wrap -/
def hi (n : Nat) : Int := 2 ^ n
theorem hi_lo (n : Nat) : 1 ≤ hi n := by have := pow_pos_int n; unfold hi; omega
theorem hi_hi (n : Nat) (h : n ≤ 62) : hi n ≤ 4611686018427387904 := by
  have : (2 : Int) ^ n * 2 ^ (62 - n) = 4611686018427387904 := by rw [← Int.pow_add, show n + (62 - n) = 62 by omega]; rfl
  have h0 := pow_pos_int n
  have h2 := pow_pos_int (62 - n)
  have h3 : (2 : Int) ^ n * 1 ≤ 2 ^ n * 2 ^ (62 - n) := Int.mul_le_mul_of_nonneg_left (by omega) (by omega)
  unfold hi; omega
theorem hi_wrap (n : Nat) (h : n ≤ 62) : wrap64 (2 ^ n) = hi n := by
  have h0 := hi_lo n
  have h1 := hi_hi n h
  show wrap64 (hi n) = hi n
  unfold wrap64; omega
theorem signs_1 (x : BitVec 64) (n : Nat) (h : n ≤ 62) : -hi n ≤ signI (U x) (1 + (n : Int)) ∧ signI (U x) (1 + (n : Int)) < hi n := by
  rw [signI_S, ck_one n (by omega)]
  exact sign_bounds x n (by omega)
theorem signs_2 (x : BitVec 64) (n : Nat) (h : n ≤ 62) : fitsI (signI (U x) (1 + (n : Int))) (1 + (n : Int)) = true := by
  rw [signI_S, fitsI_S, ck_one n (by omega), sign_sign x (n + 1) (by omega)]; simp
theorem signs_3 (x : BitVec 64) (n : Nat) (h : n ≤ 62) : (lowI (IntKind.u64.wrap (signI (U x) (1 + (n : Int)))) (1 + (n : Int)) != lowI (U x) (1 + (n : Int))) = false := by
  rw [signI_S, wrapU_S, lowI_U, lowI_U, ck_one n (by omega), low_sign x (n + 1) (by omega)]; simp
theorem signs_in (v : BitVec 64) (n : Nat) (h : n ≤ 62) (h1 : -hi n ≤ S v) (h2 : S v < hi n) :
    fitsI (S v) (1 + (n : Int)) = true ∧ fitsI (S v) (1 + (n : Int) + 1) = true ∧ (signI (IntKind.u64.wrap (S v)) (1 + (n : Int)) == S v) = true := by
  have a := sign_same v n (by omega) h1 h2
  unfold hi at h1 h2
  have hp : (2 : Int) ^ (n + 1) = 2 ^ n * 2 := Int.pow_succ _ _
  have h0 := pow_pos_int n
  have b := sign_same v (n + 1) (by omega) (by omega) (by omega)
  refine ⟨?_, ?_, ?_⟩
  · rw [fitsI_S, ck_one n (by omega), a]; simp
  · rw [fitsI_S, show (1 + (n : Int) + 1) = 1 + ((n + 1 : Nat) : Int) by omega, ck_one (n + 1) (by omega), b]; simp
  · rw [wrapU_S, signI_S, ck_one n (by omega), a]; simp
theorem signs_out (v : BitVec 64) (n : Nat) (h : n ≤ 62) (h1 : ¬ (-hi n ≤ S v ∧ S v < hi n)) : fitsI (S v) (1 + (n : Int)) = false := by
  rw [fitsI_S, ck_one n (by omega)]
  have := sign_bounds v n (by omega)
  by_cases e : S (sign v (n + 1)) = S v
  · rw [e] at this; exact absurd this h1
  · simp [e]
theorem signs_4 (x : BitVec 64) : (signI (U x) 64 == wrap64 (U x)) = true := by
  rw [signI_S, wrapS_U, show ck 64 = 64 by decide +kernel, sign_64]; simp

set_option maxHeartbeats 1000000 in
theorem signs_w1 (x v : BitVec 64) (a : BitVec 64) (n : Nat) (hn' : (n : Int) < 63) (HN : Hid (pickI (S a) 63 = (n : Int))) (w : World)
    (h1 : -hi n ≤ S v) (h2 : S v < hi n) :
    Calls Try.prog 6 #[.int .u64 (U x), .int .i64 (S v), .int .i64 (S a)] w fun e w' => e = .returned (.bool true) ∧ w = w' := by
  have la := S_lo a
  have ha := S_hi a
  obtain ⟨q1, q2⟩ := signs_1 x n (by omega)
  have q3 := signs_2 x n (by omega)
  have e1 := hi_wrap n (by omega)
  have e2 := hi_lo n
  have e3 := hi_hi n (by omega)
  have q4 := signs_3 x n (by omega)
  have q5 := signs_4 x
  obtain ⟨p1, p2, p3⟩ := signs_in v n (by omega) h1 h2
  go_enter Try.func6, Try.ntmps6
  go_wp2_with (first | (go_at_call 9; (with_reducible refine (lives_any _).mono ?_); rintro e w' ⟨rfl, rfl⟩) | (go_at_call 29; (with_reducible refine (Pick_hid HN (by omega) (by omega) (by omega) _).mono ?_); rintro e w' ⟨rfl, rfl⟩) | (go_at_call 16; (with_reducible refine (Sign_any _ _ _).mono ?_); rintro e w' ⟨rfl, rfl⟩) | (go_at_call 15; (with_reducible refine (Fits_any _ _ _).mono ?_); rintro e w' ⟨rfl, rfl⟩) | (go_at_call 11; (with_reducible refine (Low_any _ _ _).mono ?_); rintro e w' ⟨rfl, rfl⟩))
  go_ret
  exact ⟨rfl, rfl⟩
set_option maxHeartbeats 1000000 in
theorem signs_w2 (x v : BitVec 64) (a : BitVec 64) (n : Nat) (hn' : (n : Int) < 63) (HN : Hid (pickI (S a) 63 = (n : Int))) (w : World)
    (h1 : -hi n ≤ S v) (h2 : ¬ S v < hi n) :
    Calls Try.prog 6 #[.int .u64 (U x), .int .i64 (S v), .int .i64 (S a)] w fun e w' => e = .returned (.bool true) ∧ w = w' := by
  have la := S_lo a
  have ha := S_hi a
  obtain ⟨q1, q2⟩ := signs_1 x n (by omega)
  have q3 := signs_2 x n (by omega)
  have e1 := hi_wrap n (by omega)
  have e2 := hi_lo n
  have e3 := hi_hi n (by omega)
  have q4 := signs_3 x n (by omega)
  have q5 := signs_4 x
  have p1 := signs_out v n (by omega) (fun h => h2 h.2)
  go_enter Try.func6, Try.ntmps6
  go_wp2_with (first | (go_at_call 9; (with_reducible refine (lives_any _).mono ?_); rintro e w' ⟨rfl, rfl⟩) | (go_at_call 29; (with_reducible refine (Pick_hid HN (by omega) (by omega) (by omega) _).mono ?_); rintro e w' ⟨rfl, rfl⟩) | (go_at_call 16; (with_reducible refine (Sign_any _ _ _).mono ?_); rintro e w' ⟨rfl, rfl⟩) | (go_at_call 15; (with_reducible refine (Fits_any _ _ _).mono ?_); rintro e w' ⟨rfl, rfl⟩) | (go_at_call 11; (with_reducible refine (Low_any _ _ _).mono ?_); rintro e w' ⟨rfl, rfl⟩))
  go_ret
  exact ⟨rfl, rfl⟩
set_option maxHeartbeats 1000000 in
theorem signs_w3 (x v : BitVec 64) (a : BitVec 64) (n : Nat) (hn' : (n : Int) < 63) (HN : Hid (pickI (S a) 63 = (n : Int))) (w : World)
    (h1 : ¬ -hi n ≤ S v) :
    Calls Try.prog 6 #[.int .u64 (U x), .int .i64 (S v), .int .i64 (S a)] w fun e w' => e = .returned (.bool true) ∧ w = w' := by
  have la := S_lo a
  have ha := S_hi a
  obtain ⟨q1, q2⟩ := signs_1 x n (by omega)
  have q3 := signs_2 x n (by omega)
  have e1 := hi_wrap n (by omega)
  have e2 := hi_lo n
  have e3 := hi_hi n (by omega)
  have q4 := signs_3 x n (by omega)
  have q5 := signs_4 x
  have p1 := signs_out v n (by omega) (fun h => h1 h.1)
  go_enter Try.func6, Try.ntmps6
  go_wp2_with (first | (go_at_call 9; (with_reducible refine (lives_any _).mono ?_); rintro e w' ⟨rfl, rfl⟩) | (go_at_call 29; (with_reducible refine (Pick_hid HN (by omega) (by omega) (by omega) _).mono ?_); rintro e w' ⟨rfl, rfl⟩) | (go_at_call 16; (with_reducible refine (Sign_any _ _ _).mono ?_); rintro e w' ⟨rfl, rfl⟩) | (go_at_call 15; (with_reducible refine (Fits_any _ _ _).mono ?_); rintro e w' ⟨rfl, rfl⟩) | (go_at_call 11; (with_reducible refine (Low_any _ _ _).mono ?_); rintro e w' ⟨rfl, rfl⟩))
  go_ret
  exact ⟨rfl, rfl⟩
theorem signs_any (x v : BitVec 64) (a : BitVec 64) (w : World) :
    Calls Try.prog 6 #[.int .u64 (U x), .int .i64 (S v), .int .i64 (S a)] w fun e w' => e = .returned (.bool true) ∧ w = w' := by
  obtain ⟨n, hn, hn'⟩ := pick_is (S a) 63 (by omega)
  have HN := Lib.hid hn
  by_cases h1 : -hi n ≤ S v
  · by_cases h2 : S v < hi n
    · exact signs_w1 x v a n hn' HN w h1 h2
    · exact signs_w2 x v a n hn' HN w h1 h2
  · exact signs_w3 x v a n hn' HN w h1
end Go.Proofs.Ytjgkmnihdnigjaa
