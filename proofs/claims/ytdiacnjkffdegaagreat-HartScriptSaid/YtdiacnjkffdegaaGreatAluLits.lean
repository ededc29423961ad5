/-
  Proved here: what each function literal of alu's table reckons answers of two words, and what the functions answer that it calls; the world is left as it was. No condition.
-/
import Derived.Test.YtdiacnjkffdegaaGreatAluWord
import Derived.Test.YtdiacnjkffdegaaGreatShelf
import Derived.IntWalk
import Derived.Lib.Hide
namespace Go.Proofs.YtdiacnjkffdegaaGreat
open Go.RowKit

theorem ck5 : ck 5 = 5 := by decide +kernel
theorem ck6 : ck 6 = 6 := by decide +kernel
theorem ck32 : ck 32 = 32 := by decide +kernel
theorem long_any (b : BitVec 64) (w : World) : Calls Tryz.prog 92 #[.int .u64 (U b)] w fun e w' => e = .returned (.int .u64 (far6 b)) ∧ w = w' := by
  go_enter Tryz.func92, Tryz.ntmps92
  go_wp2_with (go_at_call 136; (with_reducible refine (Low_any _ _ _).mono ?_); rintro e w' ⟨rfl, rfl⟩)
  go_ret
  exact ⟨ret_int (by rw [lowI_U, ck6]; rfl), rfl⟩
theorem short_any (b : BitVec 64) (w : World) : Calls Tryz.prog 104 #[.int .u64 (U b)] w fun e w' => e = .returned (.int .u64 (far5 b)) ∧ w = w' := by
  go_enter Tryz.func104, Tryz.ntmps104
  go_wp2_with (go_at_call 136; (with_reducible refine (Low_any _ _ _).mono ?_); rintro e w' ⟨rfl, rfl⟩)
  go_ret
  exact ⟨ret_int (by rw [lowI_U, ck5]; rfl), rfl⟩
theorem bit_any (p : Bool) (w : World) : Calls Tryz.prog 94 #[.bool p] w fun e w' => e = .returned (.int .u64 (U (bitV p))) ∧ w = w' := by
  cases p
  · go_enter Tryz.func94, Tryz.ntmps94
    go_wp2
    go_ret
    exact ⟨ret_int (by decide +kernel), rfl⟩
  · go_enter Tryz.func94, Tryz.ntmps94
    go_wp2
    go_ret
    exact ⟨ret_int (by decide +kernel), rfl⟩
theorem above_any (a b : BitVec 64) (w : World) : Calls Tryz.prog 110 #[.int .u64 (U a), .int .u64 (U b)] w fun e w' => e = .returned (.int .u64 (U (abV a b))) ∧ w = w' := by
  have e1 := wrapS_U a
  by_cases h : S a < 0
  · have H := Lib.hid (show abV a b = b by unfold abV; rw [if_pos h])
    go_enter Tryz.func110, Tryz.ntmps110
    go_wp2
    go_ret
    exact ⟨ret_int (by rw [H.out]), rfl⟩
  · have H := Lib.hid (show abV a b = 0 by unfold abV; rw [if_neg h])
    go_enter Tryz.func110, Tryz.ntmps110
    go_wp2
    go_ret
    exact ⟨ret_int (by rw [H.out]; decide +kernel), rfl⟩
theorem hiV_int (a b : BitVec 64) : ((a.toNat * b.toNat / 18446744073709551616 : Nat) : Int) = U (hiV a b) := by
  have h1 : a.toNat * b.toNat < 18446744073709551616 * 18446744073709551616 := Nat.mul_lt_mul_of_lt_of_lt a.isLt b.isLt
  have h2 : a.toNat * b.toNat / 18446744073709551616 < 18446744073709551616 := Nat.div_lt_of_lt_mul h1
  unfold U hiV; rw [BitVec.toNat_ofNat, Nat.mod_eq_of_lt h2]
theorem mul64_any (a b : BitVec 64) (w : World) : Calls Tryz.prog 137 #[.int .u64 (U a), .int .u64 (U b)] w fun e w' => e = .returned (.tuple #[.int .u64 (U (hiV a b)), .int .u64 (U (a * b))]) ∧ w = w' := by
  have h := Tryz.bits_Mul64 a.toNat b.toNat a.isLt b.isLt w
  have e : ((a.toNat * b.toNat % 18446744073709551616 : Nat) : Int) = U (a * b) := by unfold U; rw [BitVec.toNat_mul]
  rw [hiV_int, e] at h
  exact h.mono fun _ _ h => ⟨h.1, h.2.symm⟩
theorem high_any (a b : BitVec 64) (w : World) : Calls Tryz.prog 109 #[.int .u64 (U a), .int .u64 (U b)] w fun e w' => e = .returned (.int .u64 (U (hiV a b))) ∧ w = w' := by
  go_enter Tryz.func109, Tryz.ntmps109
  go_wp2_with (go_at_call 137; (with_reducible refine (mul64_any _ _ _).mono ?_); rintro e w' ⟨rfl, rfl⟩)
  go_ret
  exact ⟨rfl, rfl⟩
/-- quotient and rest, in the walk's spelling -/
def quoI (wr : Int → Int) (all x y : Int) : Int := if y = 0 then all else wr (x.tdiv y)
def remI (x y : Int) : Int := if y = 0 then x else x.tmod y

theorem quo_i64 (x y : Int) (w : World) : Calls Tryz.prog 114 #[.int .i64 x, .int .i64 y] w fun e w' => e = .returned (.int .i64 (quoI wrap64 (-1) x y)) ∧ w = w' := by
  by_cases h : y = 0
  · have h1 : (y == 0) = true := by simp [h]
    have H := Lib.hid (show quoI wrap64 (-1) x y = -1 by unfold quoI; rw [if_pos h])
    clear h
    go_enter Tryz.func114, Tryz.ntmps114
    go_wp2
    go_ret
    exact ⟨ret_int (by rw [H.out]; decide +kernel), rfl⟩
  · have h1 : (y == 0) = false := by simp [h]
    have H := Lib.hid (show quoI wrap64 (-1) x y = wrap64 (x.tdiv y) by unfold quoI; rw [if_neg h])
    go_enter Tryz.func114, Tryz.ntmps114
    go_wp2
    go_ret
    exact ⟨ret_int (by rw [H.out]), rfl⟩
theorem rem_i64 (x y : Int) (w : World) : Calls Tryz.prog 118 #[.int .i64 x, .int .i64 y] w fun e w' => e = .returned (.int .i64 (remI x y)) ∧ w = w' := by
  by_cases h : y = 0
  · have h1 : (y == 0) = true := by simp [h]
    have H := Lib.hid (show remI x y = x by unfold remI; rw [if_pos h])
    clear h
    go_enter Tryz.func118, Tryz.ntmps118
    go_wp2
    go_ret
    exact ⟨ret_int (by rw [H.out]), rfl⟩
  · have h1 : (y == 0) = false := by simp [h]
    have H := Lib.hid (show remI x y = x.tmod y by unfold remI; rw [if_neg h])
    go_enter Tryz.func118, Tryz.ntmps118
    go_wp2
    go_ret
    exact ⟨ret_int (by rw [H.out]), rfl⟩

theorem quo_u64 (x y : Int) (w : World) : Calls Tryz.prog 116 #[.int .u64 x, .int .u64 y] w fun e w' => e = .returned (.int .u64 (quoI IntKind.u64.wrap (18446744073709551615) x y)) ∧ w = w' := by
  by_cases h : y = 0
  · have h1 : (y == 0) = true := by simp [h]
    have H := Lib.hid (show quoI IntKind.u64.wrap (18446744073709551615) x y = 18446744073709551615 by unfold quoI; rw [if_pos h])
    clear h
    go_enter Tryz.func116, Tryz.ntmps116
    go_wp2
    go_ret
    exact ⟨ret_int (by rw [H.out]; decide +kernel), rfl⟩
  · have h1 : (y == 0) = false := by simp [h]
    have H := Lib.hid (show quoI IntKind.u64.wrap (18446744073709551615) x y = IntKind.u64.wrap (x.tdiv y) by unfold quoI; rw [if_neg h])
    go_enter Tryz.func116, Tryz.ntmps116
    go_wp2
    go_ret
    exact ⟨ret_int (by rw [H.out]), rfl⟩
theorem rem_u64 (x y : Int) (w : World) : Calls Tryz.prog 120 #[.int .u64 x, .int .u64 y] w fun e w' => e = .returned (.int .u64 (remI x y)) ∧ w = w' := by
  by_cases h : y = 0
  · have h1 : (y == 0) = true := by simp [h]
    have H := Lib.hid (show remI x y = x by unfold remI; rw [if_pos h])
    clear h
    go_enter Tryz.func120, Tryz.ntmps120
    go_wp2
    go_ret
    exact ⟨ret_int (by rw [H.out]), rfl⟩
  · have h1 : (y == 0) = false := by simp [h]
    have H := Lib.hid (show remI x y = x.tmod y by unfold remI; rw [if_neg h])
    go_enter Tryz.func120, Tryz.ntmps120
    go_wp2
    go_ret
    exact ⟨ret_int (by rw [H.out]), rfl⟩

theorem quo_i32 (x y : Int) (w : World) : Calls Tryz.prog 123 #[.int .i32 x, .int .i32 y] w fun e w' => e = .returned (.int .i32 (quoI wrap32 (-1) x y)) ∧ w = w' := by
  by_cases h : y = 0
  · have h1 : (y == 0) = true := by simp [h]
    have H := Lib.hid (show quoI wrap32 (-1) x y = -1 by unfold quoI; rw [if_pos h])
    clear h
    go_enter Tryz.func123, Tryz.ntmps123
    go_wp2
    go_ret
    exact ⟨ret_int (by rw [H.out]; decide +kernel), rfl⟩
  · have h1 : (y == 0) = false := by simp [h]
    have H := Lib.hid (show quoI wrap32 (-1) x y = wrap32 (x.tdiv y) by unfold quoI; rw [if_neg h])
    go_enter Tryz.func123, Tryz.ntmps123
    go_wp2
    go_ret
    exact ⟨ret_int (by rw [H.out]), rfl⟩
theorem rem_i32 (x y : Int) (w : World) : Calls Tryz.prog 127 #[.int .i32 x, .int .i32 y] w fun e w' => e = .returned (.int .i32 (remI x y)) ∧ w = w' := by
  by_cases h : y = 0
  · have h1 : (y == 0) = true := by simp [h]
    have H := Lib.hid (show remI x y = x by unfold remI; rw [if_pos h])
    clear h
    go_enter Tryz.func127, Tryz.ntmps127
    go_wp2
    go_ret
    exact ⟨ret_int (by rw [H.out]), rfl⟩
  · have h1 : (y == 0) = false := by simp [h]
    have H := Lib.hid (show remI x y = x.tmod y by unfold remI; rw [if_neg h])
    go_enter Tryz.func127, Tryz.ntmps127
    go_wp2
    go_ret
    exact ⟨ret_int (by rw [H.out]), rfl⟩

theorem quo_u32 (x y : Int) (w : World) : Calls Tryz.prog 125 #[.int .u32 x, .int .u32 y] w fun e w' => e = .returned (.int .u32 (quoI IntKind.u32.wrap (4294967295) x y)) ∧ w = w' := by
  by_cases h : y = 0
  · have h1 : (y == 0) = true := by simp [h]
    have H := Lib.hid (show quoI IntKind.u32.wrap (4294967295) x y = 4294967295 by unfold quoI; rw [if_pos h])
    clear h
    go_enter Tryz.func125, Tryz.ntmps125
    go_wp2
    go_ret
    exact ⟨ret_int (by rw [H.out]; decide +kernel), rfl⟩
  · have h1 : (y == 0) = false := by simp [h]
    have H := Lib.hid (show quoI IntKind.u32.wrap (4294967295) x y = IntKind.u32.wrap (x.tdiv y) by unfold quoI; rw [if_neg h])
    go_enter Tryz.func125, Tryz.ntmps125
    go_wp2
    go_ret
    exact ⟨ret_int (by rw [H.out, IntKind.wrap_u32]), rfl⟩
theorem rem_u32 (x y : Int) (w : World) : Calls Tryz.prog 129 #[.int .u32 x, .int .u32 y] w fun e w' => e = .returned (.int .u32 (remI x y)) ∧ w = w' := by
  by_cases h : y = 0
  · have h1 : (y == 0) = true := by simp [h]
    have H := Lib.hid (show remI x y = x by unfold remI; rw [if_pos h])
    clear h
    go_enter Tryz.func129, Tryz.ntmps129
    go_wp2
    go_ret
    exact ⟨ret_int (by rw [H.out]), rfl⟩
  · have h1 : (y == 0) = false := by simp [h]
    have H := Lib.hid (show remI x y = x.tmod y by unfold remI; rw [if_neg h])
    go_enter Tryz.func129, Tryz.ntmps129
    go_wp2
    go_ret
    exact ⟨ret_int (by rw [H.out]), rfl⟩

theorem wrap32_S (x : BitVec 64) : wrap32 (U x) = S (sh x) := by rw [← Go.IntWalk.i32_left, wrap32_U]
theorem ofInt_wrap64 (n : Int) : BitVec.ofInt 64 (wrap64 n) = BitVec.ofInt 64 n := by rw [wrapS, ofInt_S]
theorem quo64_V (a b : BitVec 64) : IntKind.u64.wrap (quoI wrap64 (-1) (S a) (S b)) = U (quoV a b) := by
  rw [wrapU]
  refine congrArg U ?_
  unfold quoI quoV
  by_cases h : S b = 0
  · rw [if_pos h, if_pos ((S_zero_iff b).1 h)]; decide +kernel
  · rw [if_neg h, if_neg fun hb => h ((S_zero_iff b).2 hb), ofInt_wrap64]
theorem rem64_V (a b : BitVec 64) : IntKind.u64.wrap (remI (S a) (S b)) = U (remV a b) := by
  rw [wrapU]
  refine congrArg U ?_
  unfold remI remV
  by_cases h : S b = 0
  · rw [if_pos h, if_pos ((S_zero_iff b).1 h), ofInt_S]
  · rw [if_neg h, if_neg fun hb => h ((S_zero_iff b).2 hb)]
theorem quo64_U (a b : BitVec 64) : quoI IntKind.u64.wrap 18446744073709551615 (U a) (U b) = U (quoU a b) := by
  unfold quoI quoU
  by_cases h : U b = 0
  · rw [if_pos h, if_pos ((U_zero_iff b).1 h)]; decide +kernel
  · rw [if_neg h, if_neg fun hb => h ((U_zero_iff b).2 hb), Int.tdiv_eq_ediv_of_nonneg (U_lo a), div_U, wrapU_U]
theorem rem64_U (a b : BitVec 64) : remI (U a) (U b) = U (remU a b) := by
  unfold remI remU
  by_cases h : U b = 0
  · rw [if_pos h, if_pos ((U_zero_iff b).1 h)]
  · rw [if_neg h, if_neg fun hb => h ((U_zero_iff b).2 hb), Int.tmod_eq_emod_of_nonneg (U_lo a), mod_U]
theorem quo32_V (a b : BitVec 64) : IntKind.u64.wrap (quoI wrap32 (-1) (S (sh a)) (S (sh b))) = U (sh (quoV (sh a) (sh b))) := by
  rw [wrapU]
  refine congrArg U ?_
  unfold quoI quoV
  by_cases h : S (sh b) = 0
  · rw [if_pos h, if_pos ((S_zero_iff _).1 h)]; decide +kernel
  · rw [if_neg h, if_neg fun hb => h ((S_zero_iff _).2 hb), sh_of_S, Go.IntWalk.i32_left]
theorem rem32_V (a b : BitVec 64) : IntKind.u64.wrap (remI (S (sh a)) (S (sh b))) = U (sh (remV (sh a) (sh b))) := by
  rw [wrapU]
  refine congrArg U ?_
  unfold remI remV
  by_cases h : S (sh b) = 0
  · rw [if_pos h, if_pos ((S_zero_iff _).1 h), ofInt_S, sh_sh]
  · rw [if_neg h, if_neg fun hb => h ((S_zero_iff _).2 hb), sh_of_S]
    refine congrArg (BitVec.ofInt 64) ?_
    have hb := S_sh b
    have l : -2147483648 ≤ S (sh b) ∧ S (sh b) ≤ 2147483647 := by omega
    have h1 : ((S (sh a)).tmod (S (sh b))).natAbs < (S (sh b)).natAbs := by rw [Int.natAbs_tmod]; exact Nat.mod_lt _ (by omega)
    rw [IntKind.wrap_i32]; omega
theorem quo32_U (a b : BitVec 64) : shortI (IntKind.u64.wrap (quoI IntKind.u32.wrap 4294967295 (U (lo a)) (U (lo b)))) = U (sh (quoU (lo a) (lo b))) := by
  unfold quoI quoU
  by_cases h : U (lo b) = 0
  · rw [if_pos h, if_pos ((U_zero_iff _).1 h)]; decide +kernel
  · rw [if_neg h, if_neg fun hb => h ((U_zero_iff _).2 hb), Int.tdiv_eq_ediv_of_nonneg (U_lo _), div_U, wrapu32_U, wrapU_U, shortI_U]
    exact congrArg U (sh_lo _)
theorem rem32_U (a b : BitVec 64) : shortI (IntKind.u64.wrap (remI (U (lo a)) (U (lo b)))) = U (sh (remU (lo a) (lo b))) := by
  unfold remI remU
  by_cases h : U (lo b) = 0
  · rw [if_pos h, if_pos ((U_zero_iff _).1 h), wrapU_U, shortI_U]; rfl
  · rw [if_neg h, if_neg fun hb => h ((U_zero_iff _).2 hb), Int.tmod_eq_emod_of_nonneg (U_lo _), mod_U, wrapU_U, shortI_U]; rfl
theorem shr32_U (a : BitVec 64) (k : Nat) : shortI (IntKind.u64.wrap (U (lo a) / 2 ^ k)) = U (sh (lo a >>> k)) := by rw [shr_U, wrapU_U, shortI_U]; rfl
theorem lit_1 (a b : BitVec 64) (w : World) : Calls Tryz.prog 87 #[.int .u64 (U a), .int .u64 (U b)] w fun e w' => e = .returned (.int .u64 (U (sh (b <<< 12)))) ∧ w = w' := by
  go_enter Tryz.func87, Tryz.ntmps87
  go_wp2_with (go_at_call 88; (with_reducible refine (Short_any _ _).mono ?_); rintro e w' ⟨rfl, rfl⟩)
  go_ret
  exact ⟨ret_int (by rw [show (4096 : Int) = 2 ^ 12 from rfl, shl_U, shortI_U]; rfl), rfl⟩
theorem lit_2 (a b : BitVec 64) (w : World) : Calls Tryz.prog 89 #[.int .u64 (U a), .int .u64 (U b)] w fun e w' => e = .returned (.int .u64 (U (a + b))) ∧ w = w' := by
  go_enter Tryz.func89, Tryz.ntmps89
  go_wp2
  go_ret
  exact ⟨ret_int (by rw [add_U]), rfl⟩
theorem lit_3 (a b : BitVec 64) (w : World) : Calls Tryz.prog 90 #[.int .u64 (U a), .int .u64 (U b)] w fun e w' => e = .returned (.int .u64 (U (a - b))) ∧ w = w' := by
  go_enter Tryz.func90, Tryz.ntmps90
  go_wp2
  go_ret
  exact ⟨ret_int (by rw [sub_U]), rfl⟩
theorem lit_4 (a b : BitVec 64) (w : World) : Calls Tryz.prog 91 #[.int .u64 (U a), .int .u64 (U b)] w fun e w' => e = .returned (.int .u64 (U (a <<< far6 b))) ∧ w = w' := by
  have M := Lib.hid (Nat.min_eq_left (Nat.le_of_lt (far6_lt b)))
  go_enter Tryz.func91, Tryz.ntmps91
  go_wp2_with (go_at_call 92; (with_reducible refine (long_any _ _).mono ?_); rintro e w' ⟨rfl, rfl⟩)
  go_ret
  exact ⟨ret_int (by rw [M.out, shl_U]), rfl⟩
theorem lit_5 (a b : BitVec 64) (w : World) : Calls Tryz.prog 93 #[.int .u64 (U a), .int .u64 (U b)] w fun e w' => e = .returned (.int .u64 (U (bitV (decide (S a < S b))))) ∧ w = w' := by
  have e1 := wrapS_U a
  have e2 := wrapS_U b
  go_enter Tryz.func93, Tryz.ntmps93
  go_wp2_with (go_at_call 94; (with_reducible refine (bit_any _ _).mono ?_); rintro e w' ⟨rfl, rfl⟩)
  go_ret
  exact ⟨ret_int (by rfl), rfl⟩
theorem lit_6 (a b : BitVec 64) (w : World) : Calls Tryz.prog 95 #[.int .u64 (U a), .int .u64 (U b)] w fun e w' => e = .returned (.int .u64 (U (bitV (decide (U a < U b))))) ∧ w = w' := by
  go_enter Tryz.func95, Tryz.ntmps95
  go_wp2_with (go_at_call 94; (with_reducible refine (bit_any _ _).mono ?_); rintro e w' ⟨rfl, rfl⟩)
  go_ret
  exact ⟨ret_int (by rfl), rfl⟩
theorem lit_7 (a b : BitVec 64) (w : World) : Calls Tryz.prog 96 #[.int .u64 (U a), .int .u64 (U b)] w fun e w' => e = .returned (.int .u64 (U (a ^^^ b))) ∧ w = w' := by
  go_enter Tryz.func96, Tryz.ntmps96
  go_wp2
  go_ret
  exact ⟨ret_int (by rw [xor_U]), rfl⟩
theorem lit_8 (a b : BitVec 64) (w : World) : Calls Tryz.prog 97 #[.int .u64 (U a), .int .u64 (U b)] w fun e w' => e = .returned (.int .u64 (U (a >>> far6 b))) ∧ w = w' := by
  have M := Lib.hid (Nat.min_eq_left (Nat.le_of_lt (far6_lt b)))
  go_enter Tryz.func97, Tryz.ntmps97
  go_wp2_with (go_at_call 92; (with_reducible refine (long_any _ _).mono ?_); rintro e w' ⟨rfl, rfl⟩)
  go_ret
  exact ⟨ret_int (by rw [M.out, shr_U]), rfl⟩
theorem lit_9 (a b : BitVec 64) (w : World) : Calls Tryz.prog 98 #[.int .u64 (U a), .int .u64 (U b)] w fun e w' => e = .returned (.int .u64 (U (a.sshiftRight (far6 b)))) ∧ w = w' := by
  have e1 := wrapS_U a
  have M := Lib.hid (Nat.min_eq_left (Nat.le_of_lt (far6_lt b)))
  go_enter Tryz.func98, Tryz.ntmps98
  go_wp2_with (go_at_call 92; (with_reducible refine (long_any _ _).mono ?_); rintro e w' ⟨rfl, rfl⟩)
  go_ret
  exact ⟨ret_int (by rw [M.out, shr_S, wrapU_S]), rfl⟩
theorem lit_10 (a b : BitVec 64) (w : World) : Calls Tryz.prog 99 #[.int .u64 (U a), .int .u64 (U b)] w fun e w' => e = .returned (.int .u64 (U (a ||| b))) ∧ w = w' := by
  go_enter Tryz.func99, Tryz.ntmps99
  go_wp2
  go_ret
  exact ⟨ret_int (by rw [or_U]), rfl⟩
theorem lit_11 (a b : BitVec 64) (w : World) : Calls Tryz.prog 100 #[.int .u64 (U a), .int .u64 (U b)] w fun e w' => e = .returned (.int .u64 (U (a &&& b))) ∧ w = w' := by
  go_enter Tryz.func100, Tryz.ntmps100
  go_wp2
  go_ret
  exact ⟨ret_int (by rw [and_U]), rfl⟩
theorem lit_12 (a b : BitVec 64) (w : World) : Calls Tryz.prog 101 #[.int .u64 (U a), .int .u64 (U b)] w fun e w' => e = .returned (.int .u64 (U (sh (a + b)))) ∧ w = w' := by
  go_enter Tryz.func101, Tryz.ntmps101
  go_wp2_with (go_at_call 88; (with_reducible refine (Short_any _ _).mono ?_); rintro e w' ⟨rfl, rfl⟩)
  go_ret
  exact ⟨ret_int (by rw [add_U, shortI_U]; rfl), rfl⟩
theorem lit_13 (a b : BitVec 64) (w : World) : Calls Tryz.prog 102 #[.int .u64 (U a), .int .u64 (U b)] w fun e w' => e = .returned (.int .u64 (U (sh (a - b)))) ∧ w = w' := by
  go_enter Tryz.func102, Tryz.ntmps102
  go_wp2_with (go_at_call 88; (with_reducible refine (Short_any _ _).mono ?_); rintro e w' ⟨rfl, rfl⟩)
  go_ret
  exact ⟨ret_int (by rw [sub_U, shortI_U]; rfl), rfl⟩
theorem lit_14 (a b : BitVec 64) (w : World) : Calls Tryz.prog 103 #[.int .u64 (U a), .int .u64 (U b)] w fun e w' => e = .returned (.int .u64 (U (sh (a <<< far5 b)))) ∧ w = w' := by
  have M := Lib.hid (Nat.min_eq_left (show far5 b ≤ 64 by have := far5_lt b; omega))
  go_enter Tryz.func103, Tryz.ntmps103
  go_wp2_with (first | (go_at_call 88; (with_reducible refine (Short_any _ _).mono ?_); rintro e w' ⟨rfl, rfl⟩) | (go_at_call 104; (with_reducible refine (short_any _ _).mono ?_); rintro e w' ⟨rfl, rfl⟩))
  go_ret
  exact ⟨ret_int (by rw [M.out, shl_U, shortI_U]; rfl), rfl⟩
theorem lit_15 (a b : BitVec 64) (w : World) : Calls Tryz.prog 105 #[.int .u64 (U a), .int .u64 (U b)] w fun e w' => e = .returned (.int .u64 (U (sh (lo a >>> far5 b)))) ∧ w = w' := by
  have e1 := wrapu32_U a
  have M := Lib.hid (Nat.min_eq_left (show far5 b ≤ 32 by have := far5_lt b; omega))
  go_enter Tryz.func105, Tryz.ntmps105
  go_wp2_with (first | (go_at_call 88; (with_reducible refine (Short_any _ _).mono ?_); rintro e w' ⟨rfl, rfl⟩) | (go_at_call 104; (with_reducible refine (short_any _ _).mono ?_); rintro e w' ⟨rfl, rfl⟩))
  go_ret
  exact ⟨ret_int (by rw [M.out, shr32_U]), rfl⟩
theorem lit_16 (a b : BitVec 64) (w : World) : Calls Tryz.prog 106 #[.int .u64 (U a), .int .u64 (U b)] w fun e w' => e = .returned (.int .u64 (U ((sh a).sshiftRight (far5 b)))) ∧ w = w' := by
  have e1 := wrap32_S a
  have M := Lib.hid (Nat.min_eq_left (show far5 b ≤ 32 by have := far5_lt b; omega))
  go_enter Tryz.func106, Tryz.ntmps106
  go_wp2_with (go_at_call 104; (with_reducible refine (short_any _ _).mono ?_); rintro e w' ⟨rfl, rfl⟩)
  go_ret
  exact ⟨ret_int (by rw [M.out, shr_S, wrapU_S]), rfl⟩
theorem lit_17 (a b : BitVec 64) (w : World) : Calls Tryz.prog 107 #[.int .u64 (U a), .int .u64 (U b)] w fun e w' => e = .returned (.int .u64 (U (a * b))) ∧ w = w' := by
  go_enter Tryz.func107, Tryz.ntmps107
  go_wp2
  go_ret
  exact ⟨ret_int (by rw [mul_U]), rfl⟩
theorem lit_18 (a b : BitVec 64) (w : World) : Calls Tryz.prog 108 #[.int .u64 (U a), .int .u64 (U b)] w fun e w' => e = .returned (.int .u64 (U (hiV a b - abV a b - abV b a))) ∧ w = w' := by
  go_enter Tryz.func108, Tryz.ntmps108
  go_wp2_with (first | (go_at_call 109; (with_reducible refine (high_any _ _ _).mono ?_); rintro e w' ⟨rfl, rfl⟩) | (go_at_call 110; (with_reducible refine (above_any _ _ _).mono ?_); rintro e w' ⟨rfl, rfl⟩))
  go_ret
  exact ⟨ret_int (by rw [sub_U, sub_U]), rfl⟩
theorem lit_19 (a b : BitVec 64) (w : World) : Calls Tryz.prog 111 #[.int .u64 (U a), .int .u64 (U b)] w fun e w' => e = .returned (.int .u64 (U (hiV a b - abV a b))) ∧ w = w' := by
  go_enter Tryz.func111, Tryz.ntmps111
  go_wp2_with (first | (go_at_call 109; (with_reducible refine (high_any _ _ _).mono ?_); rintro e w' ⟨rfl, rfl⟩) | (go_at_call 110; (with_reducible refine (above_any _ _ _).mono ?_); rintro e w' ⟨rfl, rfl⟩))
  go_ret
  exact ⟨ret_int (by rw [sub_U]), rfl⟩
theorem lit_20 (a b : BitVec 64) (w : World) : Calls Tryz.prog 112 #[.int .u64 (U a), .int .u64 (U b)] w fun e w' => e = .returned (.int .u64 (U (hiV a b))) ∧ w = w' := by
  go_enter Tryz.func112, Tryz.ntmps112
  go_wp2_with (go_at_call 109; (with_reducible refine (high_any _ _ _).mono ?_); rintro e w' ⟨rfl, rfl⟩)
  go_ret
  exact ⟨ret_int (by rfl), rfl⟩
theorem lit_21 (a b : BitVec 64) (w : World) : Calls Tryz.prog 113 #[.int .u64 (U a), .int .u64 (U b)] w fun e w' => e = .returned (.int .u64 (U (quoV a b))) ∧ w = w' := by
  have e1 := wrapS_U a
  have e2 := wrapS_U b
  go_enter Tryz.func113, Tryz.ntmps113
  go_wp2_with (go_at_call 114; (with_reducible refine (quo_i64 _ _ _).mono ?_); rintro e w' ⟨rfl, rfl⟩)
  go_ret
  exact ⟨ret_int (by rw [quo64_V]), rfl⟩
theorem lit_22 (a b : BitVec 64) (w : World) : Calls Tryz.prog 115 #[.int .u64 (U a), .int .u64 (U b)] w fun e w' => e = .returned (.int .u64 (U (quoU a b))) ∧ w = w' := by
  go_enter Tryz.func115, Tryz.ntmps115
  go_wp2_with (go_at_call 116; (with_reducible refine (quo_u64 _ _ _).mono ?_); rintro e w' ⟨rfl, rfl⟩)
  go_ret
  exact ⟨ret_int (by rw [quo64_U]), rfl⟩
theorem lit_23 (a b : BitVec 64) (w : World) : Calls Tryz.prog 117 #[.int .u64 (U a), .int .u64 (U b)] w fun e w' => e = .returned (.int .u64 (U (remV a b))) ∧ w = w' := by
  have e1 := wrapS_U a
  have e2 := wrapS_U b
  go_enter Tryz.func117, Tryz.ntmps117
  go_wp2_with (go_at_call 118; (with_reducible refine (rem_i64 _ _ _).mono ?_); rintro e w' ⟨rfl, rfl⟩)
  go_ret
  exact ⟨ret_int (by rw [rem64_V]), rfl⟩
theorem lit_24 (a b : BitVec 64) (w : World) : Calls Tryz.prog 119 #[.int .u64 (U a), .int .u64 (U b)] w fun e w' => e = .returned (.int .u64 (U (remU a b))) ∧ w = w' := by
  go_enter Tryz.func119, Tryz.ntmps119
  go_wp2_with (go_at_call 120; (with_reducible refine (rem_u64 _ _ _).mono ?_); rintro e w' ⟨rfl, rfl⟩)
  go_ret
  exact ⟨ret_int (by rw [rem64_U]), rfl⟩
theorem lit_25 (a b : BitVec 64) (w : World) : Calls Tryz.prog 121 #[.int .u64 (U a), .int .u64 (U b)] w fun e w' => e = .returned (.int .u64 (U (sh (a * b)))) ∧ w = w' := by
  go_enter Tryz.func121, Tryz.ntmps121
  go_wp2_with (go_at_call 88; (with_reducible refine (Short_any _ _).mono ?_); rintro e w' ⟨rfl, rfl⟩)
  go_ret
  exact ⟨ret_int (by rw [mul_U, shortI_U]; rfl), rfl⟩
theorem lit_26 (a b : BitVec 64) (w : World) : Calls Tryz.prog 122 #[.int .u64 (U a), .int .u64 (U b)] w fun e w' => e = .returned (.int .u64 (U (sh (quoV (sh a) (sh b))))) ∧ w = w' := by
  have e1 := wrap32_S a
  have e2 := wrap32_S b
  go_enter Tryz.func122, Tryz.ntmps122
  go_wp2_with (go_at_call 123; (with_reducible refine (quo_i32 _ _ _).mono ?_); rintro e w' ⟨rfl, rfl⟩)
  go_ret
  exact ⟨ret_int (by rw [quo32_V]), rfl⟩
theorem lit_27 (a b : BitVec 64) (w : World) : Calls Tryz.prog 124 #[.int .u64 (U a), .int .u64 (U b)] w fun e w' => e = .returned (.int .u64 (U (sh (quoU (lo a) (lo b))))) ∧ w = w' := by
  have e1 := wrapu32_U a
  have e2 := wrapu32_U b
  go_enter Tryz.func124, Tryz.ntmps124
  go_wp2_with (first | (go_at_call 88; (with_reducible refine (Short_any _ _).mono ?_); rintro e w' ⟨rfl, rfl⟩) | (go_at_call 125; (with_reducible refine (quo_u32 _ _ _).mono ?_); rintro e w' ⟨rfl, rfl⟩))
  go_ret
  exact ⟨ret_int (by rw [quo32_U]), rfl⟩
theorem lit_28 (a b : BitVec 64) (w : World) : Calls Tryz.prog 126 #[.int .u64 (U a), .int .u64 (U b)] w fun e w' => e = .returned (.int .u64 (U (sh (remV (sh a) (sh b))))) ∧ w = w' := by
  have e1 := wrap32_S a
  have e2 := wrap32_S b
  go_enter Tryz.func126, Tryz.ntmps126
  go_wp2_with (go_at_call 127; (with_reducible refine (rem_i32 _ _ _).mono ?_); rintro e w' ⟨rfl, rfl⟩)
  go_ret
  exact ⟨ret_int (by rw [rem32_V]), rfl⟩
theorem lit_29 (a b : BitVec 64) (w : World) : Calls Tryz.prog 128 #[.int .u64 (U a), .int .u64 (U b)] w fun e w' => e = .returned (.int .u64 (U (sh (remU (lo a) (lo b))))) ∧ w = w' := by
  have e1 := wrapu32_U a
  have e2 := wrapu32_U b
  go_enter Tryz.func128, Tryz.ntmps128
  go_wp2_with (first | (go_at_call 88; (with_reducible refine (Short_any _ _).mono ?_); rintro e w' ⟨rfl, rfl⟩) | (go_at_call 129; (with_reducible refine (rem_u32 _ _ _).mono ?_); rintro e w' ⟨rfl, rfl⟩))
  go_ret
  exact ⟨ret_int (by rw [rem32_U]), rfl⟩
end Go.Proofs.YtdiacnjkffdegaaGreat
