/-
  Proved here: what the package word's functions, and the document's own answers for them, return on integers, in the walk's spelling, for the programs of layer 4. Conditions: the arguments fit their types.
-/
import Derived.Test.YtdiacnjkffdegaaGreatProg
import Derived.Test.YtdiacnjkffdegaaGreatAluPlain
import Derived.Test.YtdiacnjkffdegaaGreatInsnShape
import Derived.WalkLawsBesides
import Derived.WalkSpells
import Derived.LoopTactic
import Derived.Lib.Hide
namespace Go.Proofs.YtdiacnjkffdegaaGreat
open Go.RowKit

theorem Ones_any (n : Int) (w : World) : Calls Tryz.prog 138 #[.int .i64 n] w fun e w' => e = .returned (.int .u64 (onesI n)) ∧ w = w' := by
  have hc := cl_lo n 64 (by omega)
  have hc' := cl_hi n 64 (by omega)
  go_enter Tryz.func138, Tryz.ntmps138
  go_wp2_with (go_at_call 85; (with_reducible refine (clamp_any _ _ _).mono ?_); rintro e w' ⟨rfl, rfl⟩)
  go_ret
  exact ⟨rfl, rfl⟩
theorem Low_any (x n : Int) (w : World) : Calls Tryz.prog 136 #[.int .u64 x, .int .i64 n] w fun e w' => e = .returned (.int .u64 (lowI x n)) ∧ w = w' := by
  go_enter Tryz.func136, Tryz.ntmps136
  go_wp2_with (go_at_call 138; (with_reducible refine (Ones_any _ _).mono ?_); rintro e w' ⟨rfl, rfl⟩)
  go_ret
  exact ⟨rfl, rfl⟩
theorem Short_any (x : Int) (w : World) : Calls Tryz.prog 88 #[.int .u64 x] w fun e w' => e = .returned (.int .u64 (shortI x)) ∧ w = w' := by
  go_enter Tryz.func88, Tryz.ntmps88
  go_wp2_with (go_at_call 78; (with_reducible refine (Sign_any _ _ _).mono ?_); rintro e w' ⟨rfl, rfl⟩)
  go_ret
  exact ⟨rfl, rfl⟩
def pickI (n m : Int) : Int := if m < 1 then 0 else n % m
theorem tmod_neg (n m : Int) (_hm : 0 < m) (hn : n < 0) : n.tmod m = - ((-n) % m) := by
  obtain ⟨k, rfl⟩ : ∃ k, n = -k := ⟨-n, by omega⟩
  rw [Int.neg_tmod, Int.neg_neg, Int.tmod_eq_emod_of_nonneg (by omega)]
theorem emod_neg (n m : Int) (hm : 0 < m) : n % m = if (-n) % m = 0 then 0 else m - (-n) % m := by
  have h4 : 0 ≤ (-n) % m := Int.emod_nonneg _ (by omega)
  have h5 : (-n) % m < m := Int.emod_lt_of_pos _ (by omega)
  have h := Int.emod_add_mul_ediv (-n) m
  split
  · rename_i h0
    have e : n = 0 + m * (-((-n) / m)) := by rw [Int.mul_neg]; omega
    rw [e, Int.add_mul_emod_self_left]; rfl
  · have e : n = (m - (-n) % m) + m * (-((-n) / m) - 1) := by rw [Int.mul_sub, Int.mul_neg]; omega
    have e2 : n % m = (m - (-n) % m) % m := by rw (occs := .pos [1]) [e]; rw [Int.add_mul_emod_self_left]
    rw [e2, Int.emod_eq_of_lt (by omega) (by omega)]
theorem pick_is (a m : Int) (h : 1 ≤ m) : ∃ r : Nat, pickI a m = (r : Int) ∧ (r : Int) < m := by
  refine ⟨(a % m).toNat, ?_, ?_⟩
  · unfold pickI; rw [if_neg (by omega)]; have := Int.emod_nonneg a (b := m) (by omega); omega
  · have := Int.emod_lt_of_pos a (b := m) (by omega); have := Int.emod_nonneg a (b := m) (by omega); omega
theorem bound_any (n b : Int) (hb : 0 ≤ b) (w : World) : Calls Tryz.prog 72 #[.int .i64 n, .int .i64 0, .int .i64 b] w fun e w' => e = .returned (.int .i64 (cl n b)) ∧ w = w' := by
  have H := Lib.hid (show cl n b = if n < 0 then 0 else if b < n then b else n from rfl)
  go_enter Tryz.func72, Tryz.ntmps72
  go_wp2
  all_goals
    go_ret
    refine ⟨ret_int ?_, rfl⟩
    rw [H.out]
    repeat' split
    all_goals omega
theorem cl_cl (n : Int) : cl (cl n 64) 64 = cl n 64 := cl_in _ _ (cl_lo n 64 (by omega)) (cl_hi n 64 (by omega))
theorem ck_cl (n : Int) : ck (cl n 64) = ck n := by unfold ck; rw [cl_cl]
theorem ck_int (n : Int) : (ck n : Int) = cl n 64 := by have := cl_lo n 64 (by omega); unfold ck; omega
theorem ones_step : ∀ k : Fin 64, IntKind.u64.wrap (IntKind.u64.wrap (U (ones k) * 2) + 1) = U (ones (k + 1)) := by decide +kernel
theorem ones_0 : U (ones 0) = 0 := by decide +kernel
theorem refOnes_any (n : Int) (w : World) : Calls Tryz.prog 58 #[.int .i64 n] w fun e w' => e = .returned (.int .u64 (onesI n)) ∧ w = w' := by
  have HK := Lib.hid (ck_int n)
  have HE := Lib.hid (onesI_U n)
  have HZ := Lib.hid ones_0
  go_enter Tryz.func58, Tryz.ntmps58
  go_wp2_with fail
  go_loop [3, 4] (fun x i => ∃ k : Nat, k ≤ ck n ∧ i = .int .i64 k ∧ x = .int .u64 (U (ones k))) (fun _ i => ck n - (intOf i).toNat)
  case atStart => exact ⟨0, by omega, rfl, by rw [HZ.out]⟩
  case round =>
    obtain ⟨k, hk, rfl, rfl⟩ := hrel
    have hk64 := ck_hi n
    by_cases hlt : k < ck n
    · have h1 : (k : Int) < cl n 64 := by rw [← HK.out]; omega
      have hs := ones_step ⟨k, by omega⟩
      go_wp2_with (go_at_call 72; (with_reducible refine (bound_any _ _ (by omega) _).mono ?_); rintro e w' ⟨rfl, rfl⟩)
      go_round
      case rel => exact ⟨k + 1, by omega, by go_num, rfl⟩
      case measure => simp [intOf]; omega
    · have h1 : ¬ (k : Int) < cl n 64 := by rw [← HK.out]; omega
      go_wp2_with (go_at_call 72; (with_reducible refine (bound_any _ _ (by omega) _).mono ?_); rintro e w' ⟨rfl, rfl⟩)
      go_ret
      exact ⟨ret_int (by rw [HE.out, show k = ck n by omega]), rfl⟩
theorem refLow_any (x n : Int) (w : World) : Calls Tryz.prog 56 #[.int .u64 x, .int .i64 n] w fun e w' => e = .returned (.int .u64 (lowI x n)) ∧ w = w' := by
  go_enter Tryz.func56, Tryz.ntmps56
  go_wp2_with (go_at_call 58; (with_reducible refine (refOnes_any _ _).mono ?_); rintro e w' ⟨rfl, rfl⟩)
  go_ret
  exact ⟨rfl, rfl⟩
theorem shr_64 (x : BitVec 64) : x >>> 64 = 0 := by
  apply bits_ext
  intro i hi
  rw [BitVec.getLsbD_ushiftRight, BitVec.getLsbD_of_ge _ _ (by omega)]; simp
theorem part_far (x : BitVec 64) (f n : Int) (h : 63 < f) : partI (U x) f n = 0 := by
  have e : cl f 64 = 64 := by unfold cl; rw [if_neg (by omega)]; split <;> omega
  unfold partI; rw [e, shr_U]
  show lowI (U (x >>> 64)) n = 0
  rw [shr_64, lowI_U]
  show U (0#64 &&& _) = 0
  rw [BitVec.zero_and]; rfl
theorem part_neg (x f n : Int) (h : f < 0) : partI x f n = lowI x n := by
  have e : cl f 64 = 0 := by unfold cl; rw [if_pos h]
  unfold partI; rw [e]
  show lowI (x / 2 ^ 0) n = _
  rw [Int.pow_zero, Int.ediv_one]
theorem part_near (x f n : Int) (h : 0 ≤ f) (h2 : f ≤ 63) : partI x f n = lowI (x / 2 ^ f.toNat) n := by
  unfold partI; rw [cl_in f 64 h (by omega)]
theorem refPart_any (x : BitVec 64) (f n : Int) (w : World) : Calls Tryz.prog 73 #[.int .u64 (U x), .int .i64 f, .int .i64 n] w fun e w' => e = .returned (.int .u64 (partI (U x) f n)) ∧ w = w' := by
  by_cases h1 : 63 < f
  · have H := Lib.hid (part_far x f n h1)
    go_enter Tryz.func73, Tryz.ntmps73
    go_wp2_with fail
    go_ret
    exact ⟨ret_int (by rw [H.out]), rfl⟩
  · by_cases h2 : f < 0
    · have H := Lib.hid (part_neg (U x) f n h2)
      go_enter Tryz.func73, Tryz.ntmps73
      go_wp2_with (go_at_call 56; (with_reducible refine (refLow_any _ _ _).mono ?_); rintro e w' ⟨rfl, rfl⟩)
      go_ret
      exact ⟨ret_int (by rw [H.out]), rfl⟩
    · have H := Lib.hid (part_near (U x) f n (by omega) (by omega))
      go_enter Tryz.func73, Tryz.ntmps73
      go_wp2_with (go_at_call 56; (with_reducible refine (refLow_any _ _ _).mono ?_); rintro e w' ⟨rfl, rfl⟩)
      all_goals
        go_ret
        exact ⟨ret_int (by rw [H.out]), rfl⟩
theorem sref_0 (x : BitVec 64) (n : Int) (h : cl n 64 = 0) : wrap64 (lowI (U x) 0) = signI (U x) n := by
  have e : ck n = 0 := by unfold ck; rw [h]; rfl
  rw [lowI_U, wrapS_U, signI_S, e]
  refine congrArg S ?_
  apply bits_ext
  intro i hi
  rw [show ck 0 = 0 by decide +kernel, bit_low, bit_sign _ _ _ (by omega) hi]; simp
theorem bit_at (x : BitVec 64) (n : Int) (h : cl n 64 ≠ 0) : partI (U x) (cl n 64 - 1) 1 = U (if x.getLsbD (ck n - 1) then 1 else 0) := by
  have h0 := cl_lo n 64 (by omega)
  have h1 := cl_hi n 64 (by omega)
  have hk : (cl n 64 - 1).toNat = ck n - 1 := by unfold ck; omega
  rw [partI_U, ck_in _ (by omega) (by omega), hk, show ck 1 = 1 by decide +kernel]
  congr 1
  apply bits_ext
  intro i hi
  rw [bit_part]
  by_cases h2 : i = 0
  · subst h2
    rw [Nat.add_zero]
    cases x.getLsbD (ck n - 1) <;> rfl
  · have h3 : ¬ i < 1 := by omega
    cases x.getLsbD (ck n - 1) <;> simp [h2, h3]
theorem sref_1 (x : BitVec 64) (n : Int) (h : cl n 64 ≠ 0) (hb : x.getLsbD (ck n - 1) = false) : wrap64 (lowI (U x) (cl n 64)) = signI (U x) n := by
  have h0 := cl_lo n 64 (by omega)
  have hk : ck n ≠ 0 := by unfold ck; omega
  rw [lowI_U, wrapS_U, signI_S, ck_cl]
  congr 1
  apply bits_ext
  intro i hi
  rw [bit_low, bit_sign _ _ _ (ck_hi n) hi, if_neg hk, hb]
  by_cases h3 : i < ck n <;> simp [h3]
theorem sref_2 (x : BitVec 64) (n : Int) (h : cl n 64 ≠ 0) (hb : x.getLsbD (ck n - 1) = true) :
    wrap64 (bits .or .u64 (U x) (bits .xor .u64 IntKind.u64.max (onesI (cl n 64)))) = signI (U x) n := by
  have h0 := cl_lo n 64 (by omega)
  have hk : ck n ≠ 0 := by unfold ck; omega
  rw [onesI_U, max_U, xor_U, or_U, wrapS_U, signI_S, ck_cl]
  congr 1
  apply bits_ext
  intro i hi
  rw [BitVec.getLsbD_or, BitVec.getLsbD_xor, bit_ones _ _ hi, BitVec.getLsbD_allOnes, bit_sign _ _ _ (ck_hi n) hi, if_neg hk, hb]
  by_cases h3 : i < ck n <;> simp [h3, hi]
theorem refSign_any (x : BitVec 64) (n : Int) (w : World) : Calls Tryz.prog 55 #[.int .u64 (U x), .int .i64 n] w fun e w' => e = .returned (.int .i64 (signI (U x) n)) ∧ w = w' := by
  have l0 := cl_lo n 64 (by omega)
  have l1 := cl_hi n 64 (by omega)
  by_cases h0 : cl n 64 = 0
  · have H := Lib.hid (sref_0 x n h0)
    have h1 : (cl n 64 == 0) = true := by simp [h0]
    go_enter Tryz.func55, Tryz.ntmps55
    go_wp2_with (first | (go_at_call 72; (with_reducible refine (bound_any _ _ (by omega) _).mono ?_); rintro e w' ⟨rfl, rfl⟩) | (go_at_call 56; (with_reducible refine (refLow_any _ _ _).mono ?_); rintro e w' ⟨rfl, rfl⟩))
    go_ret
    exact ⟨ret_int (by rw [← H.out]), rfl⟩
  · have h1 : (cl n 64 == 0) = false := by simp [h0]
    cases hb : x.getLsbD (ck n - 1)
    · have H := Lib.hid (sref_1 x n h0 hb)
      have h2 : (partI (U x) (cl n 64 - 1) 1 == 0) = true := by rw [bit_at x n h0, hb]; decide +kernel
      clear hb
      go_enter Tryz.func55, Tryz.ntmps55
      go_wp2_with (first | (go_at_call 72; (with_reducible refine (bound_any _ _ (by omega) _).mono ?_); rintro e w' ⟨rfl, rfl⟩) | (go_at_call 56; (with_reducible refine (refLow_any _ _ _).mono ?_); rintro e w' ⟨rfl, rfl⟩) | (go_at_call 73; (with_reducible refine (refPart_any _ _ _ _).mono ?_); rintro e w' ⟨rfl, rfl⟩))
      go_ret
      exact ⟨ret_int (by rw [← H.out]), rfl⟩
    · have H := Lib.hid (sref_2 x n h0 hb)
      have h2 : (partI (U x) (cl n 64 - 1) 1 == 0) = false := by rw [bit_at x n h0, hb]; decide +kernel
      clear hb
      go_enter Tryz.func55, Tryz.ntmps55
      go_wp2_with (first | (go_at_call 72; (with_reducible refine (bound_any _ _ (by omega) _).mono ?_); rintro e w' ⟨rfl, rfl⟩) | (go_at_call 58; (with_reducible refine (refOnes_any _ _).mono ?_); rintro e w' ⟨rfl, rfl⟩) | (go_at_call 73; (with_reducible refine (refPart_any _ _ _ _).mono ?_); rintro e w' ⟨rfl, rfl⟩))
      go_ret
      exact ⟨ret_int (by rw [← H.out]), rfl⟩
theorem refShort_any (x : BitVec 64) (w : World) : Calls Tryz.prog 34 #[.int .u64 (U x)] w fun e w' => e = .returned (.int .u64 (shortI (U x))) ∧ w = w' := by
  go_enter Tryz.func34, Tryz.ntmps34
  go_wp2_with (go_at_call 55; (with_reducible refine (refSign_any _ _ _).mono ?_); rintro e w' ⟨rfl, rfl⟩)
  go_ret
  exact ⟨rfl, rfl⟩
end Go.Proofs.YtdiacnjkffdegaaGreat
