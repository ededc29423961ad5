/-
  Proved here: the law WordCuts returns true at every three words and every four places, and leaves the world as it was. No condition.
-/
import Derived.Test.YtjgkmnihdnigjaaWordSignsWalk
namespace Go.Proofs.Ytjgkmnihdnigjaa
open Go.RowKit

theorem cuts_1 (x : BitVec 64) (f n c d : Nat) (h : f + n ≤ 64) (hc : c ≤ n) (hd : d ≤ n - c) : (partI (partI (U x) f n) c d == partI (U x) ((f : Int) + c) d) = true := by
  rw [partI_U, partI_U, partI_U, ck_nat f (by omega), ck_nat n (by omega), ck_nat c (by omega), ck_nat d (by omega)]
  simp only [beq_iff_eq]
  congr 1
  apply bits_ext
  intro i hi
  rw [bit_part, bit_part, bit_part]
  by_cases h0 : i < d
  · have e : ck ((f : Int) + c) = f + c := by rw [ck_in _ (by omega) (by omega)]; omega
    have h1 : c + i < n := by omega
    rw [e, Nat.add_assoc]; simp [h0, h1]
  · simp [h0]
theorem cuts_2 (x : BitVec 64) (n c : Nat) (h : n ≤ 64) (hc : c ≤ n) : (lowI (lowI (U x) n) c == lowI (U x) c) = true := by
  rw [lowI_U, lowI_U, lowI_U, ck_nat n h, ck_nat c (by omega)]
  simp only [beq_iff_eq]
  congr 1
  apply bits_ext
  intro i hi
  rw [bit_low, bit_low, bit_low]
  by_cases h0 : i < c
  · have h1 : i < n := by omega
    simp [h0, h1]
  · simp [h0]
theorem cuts_3 (x v u : BitVec 64) (f n : Nat) (h : f + n ≤ 64) : (putI (putI (U x) f n (U v)) f n (U u) == putI (U x) f n (U u)) = true := by
  rw [putI_U, putI_U, putI_U, ck_nat f (by omega), ck_nat n (by omega)]
  simp only [beq_iff_eq]
  congr 1
  apply bits_ext
  intro i hi
  rw [bit_put _ _ _ _ _ hi, bit_put _ _ _ _ _ hi, bit_put _ _ _ _ _ hi]
  split
  · rfl
  · rfl
theorem cuts_4 (x : BitVec 64) (n : Nat) (h : n ≤ 64) : (signI (IntKind.u64.wrap (signI (U x) n)) n == signI (U x) n) = true := by
  rw [signI_S, wrapU_S, signI_S, ck_nat n h, sign_sign x n h]; simp
theorem cuts_5 (x : BitVec 64) : (shortI (shortI (U x)) == shortI (U x)) = true := by
  rw [shortI_U, shortI_U, sign_sign x 32 (by omega)]; simp

set_option maxHeartbeats 1000000 in
theorem cuts_any (x v u : BitVec 64) (a0 a1 a2 a3 : BitVec 64) (w : World) :
    Calls Try.prog 8 #[.int .u64 (U x), .int .u64 (U v), .int .u64 (U u), .int .i64 (S a0), .int .i64 (S a1), .int .i64 (S a2), .int .i64 (S a3)] w fun e w' => e = .returned (.bool true) ∧ w = w' := by
  obtain ⟨f, hf, hf'⟩ := pick_is (S a0) 64 (by omega)
  obtain ⟨n, hn, hn'⟩ := pick_is (S a1) (65 - (f : Int)) (by omega)
  obtain ⟨c, hc, hc'⟩ := pick_is (S a2) ((n : Int) + 1) (by omega)
  obtain ⟨d, hd, hd'⟩ := pick_is (S a3) ((n : Int) - c + 1) (by omega)
  have H0 := Lib.hid hf
  have H1 := Lib.hid hn
  have H2 := Lib.hid hc
  have H3 := Lib.hid hd
  clear hf hn hc hd
  have l0 := S_lo a0
  have u0 := S_hi a0
  have l1 := S_lo a1
  have u1 := S_hi a1
  have l2 := S_lo a2
  have u2 := S_hi a2
  have l3 := S_lo a3
  have u3 := S_hi a3
  have q1 := cuts_1 x f n c d (by omega) (by omega) (by omega)
  have q2 := cuts_2 x n c (by omega) (by omega)
  have q3 := cuts_3 x v u f n (by omega)
  have q4 := cuts_4 x n (by omega)
  have q5 := cuts_5 x
  go_enter Try.func8, Try.ntmps8
  go_wp2_with (first | (go_at_call 9; (with_reducible refine (lives_any _).mono ?_); rintro e w' ⟨rfl, rfl⟩) | (go_at_call 29; (with_reducible refine (Pick_hid H0 (by omega) (by omega) (by omega) _).mono ?_); rintro e w' ⟨rfl, rfl⟩) | (go_at_call 29; (with_reducible refine (Pick_hid H1 (by omega) (by omega) (by omega) _).mono ?_); rintro e w' ⟨rfl, rfl⟩) | (go_at_call 29; (with_reducible refine (Pick_hid H2 (by omega) (by omega) (by omega) _).mono ?_); rintro e w' ⟨rfl, rfl⟩) | (go_at_call 29; (with_reducible refine (Pick_hid H3 (by omega) (by omega) (by omega) _).mono ?_); rintro e w' ⟨rfl, rfl⟩) | (go_at_call 16; (with_reducible refine (Sign_any _ _ _).mono ?_); rintro e w' ⟨rfl, rfl⟩) | (go_at_call 14; (with_reducible refine (Short_any _ _).mono ?_); rintro e w' ⟨rfl, rfl⟩) | (go_at_call 11; (with_reducible refine (Low_any _ _ _).mono ?_); rintro e w' ⟨rfl, rfl⟩) | (go_at_call 19; (with_reducible refine (Part_any _ _ _ _).mono ?_); rintro e w' ⟨rfl, rfl⟩) | (go_at_call 21; (with_reducible refine (Put_any _ _ _ _ _).mono ?_); rintro e w' ⟨rfl, rfl⟩))
  go_ret
  exact ⟨rfl, rfl⟩
end Go.Proofs.Ytjgkmnihdnigjaa
