/-
  Proved here: the law WordPuts returns true at every two words and every two places, and leaves the world as it was. No condition.
-/
import Derived.Test.YtjgkmnihdnigjaaWordLives
import Derived.LoopTactic
namespace Go.Proofs.Ytjgkmnihdnigjaa
open Go.RowKit

theorem pick_is (a m : Int) (h : 1 ≤ m) : ∃ r : Nat, pickI a m = (r : Int) ∧ (r : Int) < m := by
  refine ⟨(a % m).toNat, ?_, ?_⟩
  · unfold pickI; rw [if_neg (by omega)]; have := Int.emod_nonneg a (b := m) (by omega); omega
  · have := Int.emod_lt_of_pos a (b := m) (by omega); have := Int.emod_nonneg a (b := m) (by omega); omega
theorem Pick_hid {n m r : Int} (h : Hid (pickI n m = r)) (hn : -9223372036854775808 ≤ n) (hn' : n ≤ 9223372036854775807) (hm : m ≤ 9223372036854775807) (w : World) : Calls Try.prog 29 #[.int .i64 n, .int .i64 m] w fun e w' => e = .returned (.int .i64 r) ∧ w = w' :=
  h.out ▸ Pick_any n m hn hn' hm w
theorem S_lo (b : BitVec 64) : -9223372036854775808 ≤ S b := by unfold S; have := BitVec.le_toInt b; omega
theorem S_hi (b : BitVec 64) : S b ≤ 9223372036854775807 := by unfold S; have := BitVec.toInt_lt (x := b); omega

theorem one_U : (1 : Int) = U 1 := by decide +kernel
theorem ck_nat (f : Nat) (h : f ≤ 64) : ck (f : Int) = f := by rw [ck_in _ (by omega) (by omega)]; omega
/-- one bit of what was put -/
theorem puts_bit (x v : BitVec 64) (f n k : Nat) (h : f + n ≤ 64) (hk : k < 64) :
    partI (putI (U x) f n (U v)) k 1 = if f ≤ k ∧ k < f + n then bits .and .u64 (U v / 2 ^ (k - f)) 1 else bits .and .u64 (U x / 2 ^ k) 1 := by
  rw [putI_U, partI_U, one_U, shr_U, shr_U, and_U, and_U, ck_nat f (by omega), ck_nat n (by omega), ck_nat k (by omega), show ck (U 1) = 1 by decide +kernel]
  have e : ∀ (b : BitVec 64) (m i : Nat), i < 64 → ((b >>> m) &&& 1#64).getLsbD i = (b.getLsbD (m + i) && decide (i < 1)) := by
    intro b m i hi
    rw [BitVec.getLsbD_and, BitVec.getLsbD_ushiftRight, BitVec.getLsbD_one]
    by_cases h0 : i = 0 <;> simp [h0]
  split
  · rename_i hin
    congr 1
    apply bits_ext
    intro i hi
    show _ = ((v >>> (k - f)) &&& 1#64).getLsbD i
    rw [bit_part, e v _ i hi]
    by_cases h0 : i < 1
    · obtain rfl : i = 0 := by omega
      rw [bit_put _ _ _ _ _ (by omega), if_pos (by omega)]; rfl
    · simp [h0]
  · rename_i hin
    congr 1
    apply bits_ext
    intro i hi
    show _ = ((x >>> k) &&& 1#64).getLsbD i
    rw [bit_part, e x _ i hi]
    by_cases h0 : i < 1
    · obtain rfl : i = 0 := by omega
      rw [bit_put _ _ _ _ _ (by omega), if_neg (by omega)]
    · simp [h0]
theorem puts_in (x v : BitVec 64) (f n k : Nat) (h : f + n ≤ 64) (hk : k < 64) (h1 : f ≤ k) (h2 : k < f + n) :
    (partI (putI (U x) f n (U v)) k 1 != bits .and .u64 (U v / 2 ^ (k - f)) 1) = false := by
  rw [puts_bit x v f n k h hk, if_pos ⟨h1, h2⟩]; simp
theorem puts_out (x v : BitVec 64) (f n k : Nat) (h : f + n ≤ 64) (hk : k < 64) (h1 : ¬ (f ≤ k ∧ k < f + n)) :
    (partI (putI (U x) f n (U v)) k 1 != bits .and .u64 (U x / 2 ^ k) 1) = false := by
  rw [puts_bit x v f n k h hk, if_neg h1]; simp
theorem puts_1 (x v : BitVec 64) (f n : Nat) (h : f + n ≤ 64) : (partI (putI (U x) f n (U v)) f n == lowI (U v) n) = true := by
  rw [putI_U, partI_U, lowI_U, ck_nat f (by omega), ck_nat n (by omega)]
  simp only [beq_iff_eq]
  congr 1
  apply bits_ext
  intro i hi
  rw [bit_part, bit_low]
  by_cases h0 : i < n
  · rw [bit_put _ _ _ _ _ (by omega), if_pos (by omega), Nat.add_sub_cancel_left]
  · simp [h0]
theorem puts_2 (x v : BitVec 64) (f n : Nat) (h : f + n ≤ 64) : (putI (putI (U x) f n (U v)) f n (U x / 2 ^ f) == U x) = true := by
  rw [putI_U, shr_U, putI_U, ck_nat f (by omega), ck_nat n (by omega)]
  simp only [beq_iff_eq]
  congr 1
  apply bits_ext
  intro i hi
  rw [bit_put _ _ _ _ _ hi, bit_put _ _ _ _ _ hi]
  split
  · rw [BitVec.getLsbD_ushiftRight]; congr 1; omega
  · rfl
theorem puts_3 (x v : BitVec 64) (f : Nat) (h : f ≤ 64) : (putI (U x) f 0 (U v) == U x) = true := by
  rw [putI_U, ck_nat f (by omega), show ck 0 = 0 by decide +kernel]
  simp only [beq_iff_eq]
  congr 1
  apply bits_ext
  intro i hi
  rw [bit_put _ _ _ _ _ hi, if_neg (by omega)]

set_option maxHeartbeats 1000000 in
theorem puts_any (x v : BitVec 64) (a b : BitVec 64) (w : World) :
    Calls Try.prog 5 #[.int .u64 (U x), .int .u64 (U v), .int .i64 (S a), .int .i64 (S b)] w fun e w' => e = .returned (.bool true) ∧ w = w' := by
  obtain ⟨f, hf, hf'⟩ := pick_is (S a) 64 (by omega)
  obtain ⟨n, hn, hn'⟩ := pick_is (S b) (65 - (f : Int)) (by omega)
  have hfn : f + n ≤ 64 := by omega
  have HF := Lib.hid hf
  have HN := Lib.hid hn
  clear hf hn
  have la := S_lo a
  have ha := S_hi a
  have lb := S_lo b
  have hb := S_hi b
  have q1 := puts_1 x v f n hfn
  have q2 := puts_2 x v f n hfn
  have q3 := puts_3 x v f (by omega)
  go_enter Try.func5, Try.ntmps5
  go_wp2_with (first | (go_at_call 9; (with_reducible refine (lives_any _).mono ?_); rintro e w' ⟨rfl, rfl⟩) | (go_at_call 29; (with_reducible refine (Pick_hid HF (by omega) (by omega) (by omega) _).mono ?_); rintro e w' ⟨rfl, rfl⟩) | (go_at_call 29; (with_reducible refine (Pick_hid HN (by omega) (by omega) (by omega) _).mono ?_); rintro e w' ⟨rfl, rfl⟩) | (go_at_call 21; (with_reducible refine (Put_any _ _ _ _ _).mono ?_); rintro e w' ⟨rfl, rfl⟩))
  go_loop [10] (fun i => ∃ k : Nat, k ≤ 64 ∧ i = .int .i64 k) (fun i => 64 - (intOf i).toNat)
  case atStart => exact ⟨0, by omega, rfl⟩
  case round =>
    obtain ⟨k, hk, rfl⟩ := hrel
    by_cases hlt : k < 64
    · by_cases hin : f ≤ k ∧ k < f + n
      · obtain ⟨h1, h2⟩ := hin
        have q := puts_in x v f n k hfn hlt h1 h2
        clear q1 q2 q3
        go_wp2_with (go_at_call 19; (with_reducible refine (Part_any _ _ _ _).mono ?_); rintro e w' ⟨rfl, rfl⟩)
        go_round
        case rel => exact ⟨k + 1, by omega, by go_num⟩
        case measure => simp [intOf]; omega
      · have q := puts_out x v f n k hfn hlt hin
        clear q1 q2 q3
        by_cases h1 : f ≤ k
        all_goals
          go_wp2_with (go_at_call 19; (with_reducible refine (Part_any _ _ _ _).mono ?_); rintro e w' ⟨rfl, rfl⟩)
          go_round
          case rel => exact ⟨k + 1, by omega, by go_num⟩
          case measure => simp [intOf]; omega
    · go_wp2_with (first | (go_at_call 19; (with_reducible refine (Part_any _ _ _ _).mono ?_); rintro e w' ⟨rfl, rfl⟩) | (go_at_call 21; (with_reducible refine (Put_any _ _ _ _ _).mono ?_); rintro e w' ⟨rfl, rfl⟩) | (go_at_call 11; (with_reducible refine (Low_any _ _ _).mono ?_); rintro e w' ⟨rfl, rfl⟩))
      go_ret
      exact ⟨rfl, rfl⟩
end Go.Proofs.Ytjgkmnihdnigjaa
