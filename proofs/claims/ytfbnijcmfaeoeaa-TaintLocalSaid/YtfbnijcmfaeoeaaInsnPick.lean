/-
  Proved here: what the laws' Pick answers. Condition: the arguments fit their types.
-/
import Derived.Test.YtfbnijcmfaeoeaaInsnReads
namespace Go.Proofs.Ytfbnijcmfaeoeaa
open Go.RowKit

def pickI (n m : Int) : Int := if m < 1 then 0 else n % m
theorem tmod_neg (n m : Int) (_hm : 0 < m) (hn : n < 0) : n.tmod m = - ((-n) % m) := by
  obtain ⟨k, rfl⟩ : ∃ k, n = -k := ⟨-n, by omega⟩
  rw [Int.neg_tmod, Int.neg_neg, Int.tmod_eq_emod_of_nonneg (by omega)]
theorem emod_neg (n m : Int) (hm : 0 < m) : n % m = if (-n) % m = 0 then 0 else m - (-n) % m := by
  have h4 : 0 ≤ (-n) % m := Int.emod_nonneg _ (by omega)
  have h5 : (-n) % m < m := Int.emod_lt_of_pos _ (by omega)
  have h := Int.emod_add_mul_ediv (-n) m
  split
  · rename_i h0
    have e : n = 0 + m * (-((-n) / m)) := by rw [Int.mul_neg]; omega
    rw [e, Int.add_mul_emod_self_left]; rfl
  · have e : n = (m - (-n) % m) + m * (-((-n) / m) - 1) := by rw [Int.mul_sub, Int.mul_neg]; omega
    have e2 : n % m = (m - (-n) % m) % m := by rw (occs := .pos [1]) [e]; rw [Int.add_mul_emod_self_left]
    rw [e2, Int.emod_eq_of_lt (by omega) (by omega)]
theorem Pick_any (n m : Int) (hn : -9223372036854775808 ≤ n) (hn' : n ≤ 9223372036854775807) (_hm : m ≤ 9223372036854775807) (w : World) : Calls Try.prog 19 #[.int .i64 n, .int .i64 m] w fun e w' => e = .returned (.int .i64 (pickI n m)) ∧ w = w' := by
  by_cases h1 : m < 1
  · have H := Lib.hid (show pickI n m = 0 by unfold pickI; rw [if_pos h1])
    go_enter Try.func19, Try.ntmps19
    go_wp2
    go_ret
    exact ⟨ret_int (by rw [H.out]), rfl⟩
  · have H := Lib.hid (show pickI n m = n % m by unfold pickI; rw [if_neg h1])
    by_cases h2 : 0 ≤ n
    · have h3 : 0 ≤ n % m := Int.emod_nonneg _ (by omega)
      go_enter Try.func19, Try.ntmps19
      go_wp2
      go_ret
      exact ⟨ret_int (by rw [H.out]), rfl⟩
    · have h3 := tmod_neg n m (by omega) (by omega)
      have h4 : 0 ≤ (-n) % m := Int.emod_nonneg _ (by omega)
      have h5 : (-n) % m < m := Int.emod_lt_of_pos _ (by omega)
      have h7 := emod_neg n m (by omega)
      have H2 := Lib.hid h7
      clear h7
      by_cases h6 : (-n) % m = 0
      · go_enter Try.func19, Try.ntmps19
        go_wp2
        go_ret
        exact ⟨ret_int (by rw [H.out, H2.out, if_pos h6]), rfl⟩
      · go_enter Try.func19, Try.ntmps19
        go_wp2
        go_ret
        exact ⟨ret_int (by rw [H.out, H2.out, if_neg h6]; omega), rfl⟩
end Go.Proofs.Ytfbnijcmfaeoeaa
