/-
  Proved here: the contracts of the package word's functions on integers (clamp, Ones, Low, Part, Put, Sign, Fits, Short), in the walk's spelling: each returns the value named and leaves the world as it was. No condition.
-/
import Derived.Test.YtjgkmnihdnigjaaProg
import Derived.Test.YtjgkmnihdnigjaaWordPlain
import Derived.WalkLawsBesides
import Derived.WalkSpells
import Derived.Lib.Hide
namespace Go.Proofs.Ytjgkmnihdnigjaa
open Go.RowKit

theorem ret_int {k : IntKind} {a b : Int} (h : a = b) : Ending.returned (.int k a) = .returned (.int k b) := by rw [h]
theorem ret_bool {a b : Bool} (h : a = b) : Ending.returned (.bool a) = .returned (.bool b) := by rw [h]

theorem clamp_any (n h : Int) (w : World) : Calls Try.prog 30 #[.int .i64 n, .int .i64 h] w fun e w' => e = .returned (.int .i64 (cl n h)) ∧ w = w' := by
  have H := Lib.hid (show cl n h = if n < 0 then 0 else if h < n then h else n from rfl)
  by_cases h1 : n < 0
  · go_enter Try.func30, Try.ntmps30
    go_wp2
    go_ret
    exact ⟨ret_int (by rw [H.out, if_pos h1]), rfl⟩
  · by_cases h2 : h < n
    · go_enter Try.func30, Try.ntmps30
      go_wp2
      go_ret
      exact ⟨ret_int (by rw [H.out, if_neg (by omega), if_pos h2]), rfl⟩
    · go_enter Try.func30, Try.ntmps30
      go_wp2
      go_ret
      exact ⟨ret_int (by rw [H.out, if_neg (by omega), if_neg (by omega)]), rfl⟩

theorem Ones_any (n : Int) (w : World) : Calls Try.prog 10 #[.int .i64 n] w fun e w' => e = .returned (.int .u64 (onesI n)) ∧ w = w' := by
  have hc := cl_lo n 64 (by omega)
  have hc' := cl_hi n 64 (by omega)
  go_enter Try.func10, Try.ntmps10
  go_wp2_with (go_at_call 30; (with_reducible refine (clamp_any _ _ _).mono ?_); rintro e w' ⟨rfl, rfl⟩)
  go_ret
  exact ⟨rfl, rfl⟩

theorem Low_any (x n : Int) (w : World) : Calls Try.prog 11 #[.int .u64 x, .int .i64 n] w fun e w' => e = .returned (.int .u64 (lowI x n)) ∧ w = w' := by
  go_enter Try.func11, Try.ntmps11
  go_wp2_with (go_at_call 10; (with_reducible refine (Ones_any _ _).mono ?_); rintro e w' ⟨rfl, rfl⟩)
  go_ret
  exact ⟨rfl, rfl⟩

theorem Part_any (x f n : Int) (w : World) : Calls Try.prog 19 #[.int .u64 x, .int .i64 f, .int .i64 n] w fun e w' => e = .returned (.int .u64 (partI x f n)) ∧ w = w' := by
  have hc := cl_lo f 64 (by omega)
  have hc' := cl_hi f 64 (by omega)
  go_enter Try.func19, Try.ntmps19
  go_wp2_with (first | (go_at_call 30; (with_reducible refine (clamp_any _ _ _).mono ?_); rintro e w' ⟨rfl, rfl⟩) | (go_at_call 11; (with_reducible refine (Low_any _ _ _).mono ?_); rintro e w' ⟨rfl, rfl⟩))
  go_ret
  exact ⟨rfl, rfl⟩

theorem Put_any (x f n v : Int) (w : World) : Calls Try.prog 21 #[.int .u64 x, .int .i64 f, .int .i64 n, .int .u64 v] w fun e w' => e = .returned (.int .u64 (putI x f n v)) ∧ w = w' := by
  have hc := cl_lo f 64 (by omega)
  have hc' := cl_hi f 64 (by omega)
  go_enter Try.func21, Try.ntmps21
  go_wp2_with (first | (go_at_call 30; (with_reducible refine (clamp_any _ _ _).mono ?_); rintro e w' ⟨rfl, rfl⟩) | (go_at_call 10; (with_reducible refine (Ones_any _ _).mono ?_); rintro e w' ⟨rfl, rfl⟩))
  go_ret
  exact ⟨rfl, rfl⟩

theorem Sign_any (x n : Int) (w : World) : Calls Try.prog 16 #[.int .u64 x, .int .i64 n] w fun e w' => e = .returned (.int .i64 (signI x n)) ∧ w = w' := by
  have hc := cl_lo n 64 (by omega)
  have hc' := cl_hi n 64 (by omega)
  go_enter Try.func16, Try.ntmps16
  go_wp2_with (go_at_call 30; (with_reducible refine (clamp_any _ _ _).mono ?_); rintro e w' ⟨rfl, rfl⟩)
  go_ret
  exact ⟨rfl, rfl⟩

theorem Fits_any (v n : Int) (w : World) : Calls Try.prog 15 #[.int .i64 v, .int .i64 n] w fun e w' => e = .returned (.bool (fitsI v n)) ∧ w = w' := by
  go_enter Try.func15, Try.ntmps15
  go_wp2_with (go_at_call 16; (with_reducible refine (Sign_any _ _ _).mono ?_); rintro e w' ⟨rfl, rfl⟩)
  go_ret
  exact ⟨rfl, rfl⟩

theorem Short_any (x : Int) (w : World) : Calls Try.prog 14 #[.int .u64 x] w fun e w' => e = .returned (.int .u64 (shortI x)) ∧ w = w' := by
  go_enter Try.func14, Try.ntmps14
  go_wp2_with (go_at_call 16; (with_reducible refine (Sign_any _ _ _).mono ?_); rintro e w' ⟨rfl, rfl⟩)
  go_ret
  exact ⟨rfl, rfl⟩

def pickI (n m : Int) : Int := if m < 1 then 0 else n % m
theorem tmod_neg (n m : Int) (_hm : 0 < m) (hn : n < 0) : n.tmod m = - ((-n) % m) := by
  obtain ⟨k, rfl⟩ : ∃ k, n = -k := ⟨-n, by omega⟩
  rw [Int.neg_tmod, Int.neg_neg, Int.tmod_eq_emod_of_nonneg (by omega)]
theorem emod_neg (n m : Int) (hm : 0 < m) : n % m = if (-n) % m = 0 then 0 else m - (-n) % m := by
  have h4 : 0 ≤ (-n) % m := Int.emod_nonneg _ (by omega)
  have h5 : (-n) % m < m := Int.emod_lt_of_pos _ (by omega)
  have h := Int.emod_add_mul_ediv (-n) m
  split
  · rename_i h0
    have e : n = 0 + m * (-((-n) / m)) := by rw [Int.mul_neg]; omega
    rw [e, Int.add_mul_emod_self_left]; rfl
  · have e : n = (m - (-n) % m) + m * (-((-n) / m) - 1) := by rw [Int.mul_sub, Int.mul_neg]; omega
    have e2 : n % m = (m - (-n) % m) % m := by rw (occs := .pos [1]) [e]; rw [Int.add_mul_emod_self_left]
    rw [e2, Int.emod_eq_of_lt (by omega) (by omega)]
theorem Pick_any (n m : Int) (hn : -9223372036854775808 ≤ n) (hn' : n ≤ 9223372036854775807) (_hm : m ≤ 9223372036854775807) (w : World) : Calls Try.prog 29 #[.int .i64 n, .int .i64 m] w fun e w' => e = .returned (.int .i64 (pickI n m)) ∧ w = w' := by
  by_cases h1 : m < 1
  · have H := Lib.hid (show pickI n m = 0 by unfold pickI; rw [if_pos h1])
    go_enter Try.func29, Try.ntmps29
    go_wp2
    go_ret
    exact ⟨ret_int (by rw [H.out]), rfl⟩
  · have H := Lib.hid (show pickI n m = n % m by unfold pickI; rw [if_neg h1])
    by_cases h2 : 0 ≤ n
    · have h3 : 0 ≤ n % m := Int.emod_nonneg _ (by omega)
      go_enter Try.func29, Try.ntmps29
      go_wp2
      go_ret
      exact ⟨ret_int (by rw [H.out]), rfl⟩
    · have h3 := tmod_neg n m (by omega) (by omega)
      have h4 : 0 ≤ (-n) % m := Int.emod_nonneg _ (by omega)
      have h5 : (-n) % m < m := Int.emod_lt_of_pos _ (by omega)
      have h7 := emod_neg n m (by omega)
      have H2 := Lib.hid h7
      clear h7
      by_cases h6 : (-n) % m = 0
      · go_enter Try.func29, Try.ntmps29
        go_wp2
        go_ret
        exact ⟨ret_int (by rw [H.out, H2.out, if_pos h6]), rfl⟩
      · go_enter Try.func29, Try.ntmps29
        go_wp2
        go_ret
        exact ⟨ret_int (by rw [H.out, H2.out, if_neg h6]; omega), rfl⟩
end Go.Proofs.Ytjgkmnihdnigjaa
