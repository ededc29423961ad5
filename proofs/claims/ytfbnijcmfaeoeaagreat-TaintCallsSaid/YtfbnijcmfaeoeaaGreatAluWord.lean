/-
  Proved here: what the package word's functions, and the document's own answers for them, return on integers, in the walk's spelling, for the programs of layer 4. Conditions: the arguments fit their types.
-/
import Derived.Test.YtfbnijcmfaeoeaaGreatProg
import Derived.Test.YtfbnijcmfaeoeaaGreatAluPlain
import Derived.Test.YtfbnijcmfaeoeaaGreatInsnShape
import Derived.WalkLawsBesides
import Derived.WalkSpells
import Derived.LoopTactic
import Derived.Lib.Hide
namespace Go.Proofs.YtfbnijcmfaeoeaaGreat
open Go.RowKit

theorem bound_any (n b : Int) (hb : 0 ≤ b) (w : World) : Calls Tryz.prog 77 #[.int .i64 n, .int .i64 0, .int .i64 b] w fun e w' => e = .returned (.int .i64 (cl n b)) ∧ w = w' := by
  have H := Lib.hid (show cl n b = if n < 0 then 0 else if b < n then b else n from rfl)
  go_enter Tryz.func77, Tryz.ntmps77
  go_wp2
  all_goals
    go_ret
    refine ⟨ret_int ?_, rfl⟩
    rw [H.out]
    repeat' split
    all_goals omega
theorem cl_cl (n : Int) : cl (cl n 64) 64 = cl n 64 := cl_in _ _ (cl_lo n 64 (by omega)) (cl_hi n 64 (by omega))
theorem ck_cl (n : Int) : ck (cl n 64) = ck n := by unfold ck; rw [cl_cl]
theorem ck_int (n : Int) : (ck n : Int) = cl n 64 := by have := cl_lo n 64 (by omega); unfold ck; omega
theorem ones_step : ∀ k : Fin 64, IntKind.u64.wrap (IntKind.u64.wrap (U (ones k) * 2) + 1) = U (ones (k + 1)) := by decide +kernel
theorem ones_0 : U (ones 0) = 0 := by decide +kernel
theorem refOnes_any (n : Int) (w : World) : Calls Tryz.prog 80 #[.int .i64 n] w fun e w' => e = .returned (.int .u64 (onesI n)) ∧ w = w' := by
  have HK := Lib.hid (ck_int n)
  have HE := Lib.hid (onesI_U n)
  have HZ := Lib.hid ones_0
  go_enter Tryz.func80, Tryz.ntmps80
  go_wp2_with fail
  go_loop [3, 4] (fun x i => ∃ k : Nat, k ≤ ck n ∧ i = .int .i64 k ∧ x = .int .u64 (U (ones k))) (fun _ i => ck n - (intOf i).toNat)
  case atStart => exact ⟨0, by omega, rfl, by rw [HZ.out]⟩
  case round =>
    obtain ⟨k, hk, rfl, rfl⟩ := hrel
    have hk64 := ck_hi n
    by_cases hlt : k < ck n
    · have h1 : (k : Int) < cl n 64 := by rw [← HK.out]; omega
      have hs := ones_step ⟨k, by omega⟩
      go_wp2_with (go_at_call 77; (with_reducible refine (bound_any _ _ (by omega) _).mono ?_); rintro e w' ⟨rfl, rfl⟩)
      go_round
      case rel => exact ⟨k + 1, by omega, by go_num, rfl⟩
      case measure => simp [intOf]; omega
    · have h1 : ¬ (k : Int) < cl n 64 := by rw [← HK.out]; omega
      go_wp2_with (go_at_call 77; (with_reducible refine (bound_any _ _ (by omega) _).mono ?_); rintro e w' ⟨rfl, rfl⟩)
      go_ret
      exact ⟨ret_int (by rw [HE.out, show k = ck n by omega]), rfl⟩
theorem refLow_any (x n : Int) (w : World) : Calls Tryz.prog 79 #[.int .u64 x, .int .i64 n] w fun e w' => e = .returned (.int .u64 (lowI x n)) ∧ w = w' := by
  go_enter Tryz.func79, Tryz.ntmps79
  go_wp2_with (go_at_call 80; (with_reducible refine (refOnes_any _ _).mono ?_); rintro e w' ⟨rfl, rfl⟩)
  go_ret
  exact ⟨rfl, rfl⟩
theorem shr_64 (x : BitVec 64) : x >>> 64 = 0 := by
  apply bits_ext
  intro i hi
  rw [BitVec.getLsbD_ushiftRight, BitVec.getLsbD_of_ge _ _ (by omega)]; simp
theorem part_far (x : BitVec 64) (f n : Int) (h : 63 < f) : partI (U x) f n = 0 := by
  have e : cl f 64 = 64 := by unfold cl; rw [if_neg (by omega)]; split <;> omega
  unfold partI; rw [e, shr_U]
  show lowI (U (x >>> 64)) n = 0
  rw [shr_64, lowI_U]
  show U (0#64 &&& _) = 0
  rw [BitVec.zero_and]; rfl
theorem part_neg (x f n : Int) (h : f < 0) : partI x f n = lowI x n := by
  have e : cl f 64 = 0 := by unfold cl; rw [if_pos h]
  unfold partI; rw [e]
  show lowI (x / 2 ^ 0) n = _
  rw [Int.pow_zero, Int.ediv_one]
theorem part_near (x f n : Int) (h : 0 ≤ f) (h2 : f ≤ 63) : partI x f n = lowI (x / 2 ^ f.toNat) n := by
  unfold partI; rw [cl_in f 64 h (by omega)]
theorem refPart_any (x : BitVec 64) (f n : Int) (w : World) : Calls Tryz.prog 78 #[.int .u64 (U x), .int .i64 f, .int .i64 n] w fun e w' => e = .returned (.int .u64 (partI (U x) f n)) ∧ w = w' := by
  by_cases h1 : 63 < f
  · have H := Lib.hid (part_far x f n h1)
    go_enter Tryz.func78, Tryz.ntmps78
    go_wp2_with fail
    go_ret
    exact ⟨ret_int (by rw [H.out]), rfl⟩
  · by_cases h2 : f < 0
    · have H := Lib.hid (part_neg (U x) f n h2)
      go_enter Tryz.func78, Tryz.ntmps78
      go_wp2_with (go_at_call 79; (with_reducible refine (refLow_any _ _ _).mono ?_); rintro e w' ⟨rfl, rfl⟩)
      go_ret
      exact ⟨ret_int (by rw [H.out]), rfl⟩
    · have H := Lib.hid (part_near (U x) f n (by omega) (by omega))
      go_enter Tryz.func78, Tryz.ntmps78
      go_wp2_with (go_at_call 79; (with_reducible refine (refLow_any _ _ _).mono ?_); rintro e w' ⟨rfl, rfl⟩)
      all_goals
        go_ret
        exact ⟨ret_int (by rw [H.out]), rfl⟩
theorem sref_0 (x : BitVec 64) (n : Int) (h : cl n 64 = 0) : wrap64 (lowI (U x) 0) = signI (U x) n := by
  have e : ck n = 0 := by unfold ck; rw [h]; rfl
  rw [lowI_U, wrapS_U, signI_S, e]
  refine congrArg S ?_
  apply bits_ext
  intro i hi
  rw [show ck 0 = 0 by decide +kernel, bit_low, bit_sign _ _ _ (by omega) hi]; simp
theorem bit_at (x : BitVec 64) (n : Int) (h : cl n 64 ≠ 0) : partI (U x) (cl n 64 - 1) 1 = U (if x.getLsbD (ck n - 1) then 1 else 0) := by
  have h0 := cl_lo n 64 (by omega)
  have h1 := cl_hi n 64 (by omega)
  have hk : (cl n 64 - 1).toNat = ck n - 1 := by unfold ck; omega
  rw [partI_U, ck_in _ (by omega) (by omega), hk, show ck 1 = 1 by decide +kernel]
  congr 1
  apply bits_ext
  intro i hi
  rw [bit_part]
  by_cases h2 : i = 0
  · subst h2
    rw [Nat.add_zero]
    cases x.getLsbD (ck n - 1) <;> rfl
  · have h3 : ¬ i < 1 := by omega
    cases x.getLsbD (ck n - 1) <;> simp [h2, h3]
theorem sref_1 (x : BitVec 64) (n : Int) (h : cl n 64 ≠ 0) (hb : x.getLsbD (ck n - 1) = false) : wrap64 (lowI (U x) (cl n 64)) = signI (U x) n := by
  have h0 := cl_lo n 64 (by omega)
  have hk : ck n ≠ 0 := by unfold ck; omega
  rw [lowI_U, wrapS_U, signI_S, ck_cl]
  congr 1
  apply bits_ext
  intro i hi
  rw [bit_low, bit_sign _ _ _ (ck_hi n) hi, if_neg hk, hb]
  by_cases h3 : i < ck n <;> simp [h3]
theorem sref_2 (x : BitVec 64) (n : Int) (h : cl n 64 ≠ 0) (hb : x.getLsbD (ck n - 1) = true) :
    wrap64 (bits .or .u64 (U x) (bits .xor .u64 IntKind.u64.max (onesI (cl n 64)))) = signI (U x) n := by
  have h0 := cl_lo n 64 (by omega)
  have hk : ck n ≠ 0 := by unfold ck; omega
  rw [onesI_U, max_U, xor_U, or_U, wrapS_U, signI_S, ck_cl]
  congr 1
  apply bits_ext
  intro i hi
  rw [BitVec.getLsbD_or, BitVec.getLsbD_xor, bit_ones _ _ hi, BitVec.getLsbD_allOnes, bit_sign _ _ _ (ck_hi n) hi, if_neg hk, hb]
  by_cases h3 : i < ck n <;> simp [h3, hi]
theorem refSign_any (x : BitVec 64) (n : Int) (w : World) : Calls Tryz.prog 70 #[.int .u64 (U x), .int .i64 n] w fun e w' => e = .returned (.int .i64 (signI (U x) n)) ∧ w = w' := by
  have l0 := cl_lo n 64 (by omega)
  have l1 := cl_hi n 64 (by omega)
  by_cases h0 : cl n 64 = 0
  · have H := Lib.hid (sref_0 x n h0)
    have h1 : (cl n 64 == 0) = true := by simp [h0]
    go_enter Tryz.func70, Tryz.ntmps70
    go_wp2_with (first | (go_at_call 77; (with_reducible refine (bound_any _ _ (by omega) _).mono ?_); rintro e w' ⟨rfl, rfl⟩) | (go_at_call 79; (with_reducible refine (refLow_any _ _ _).mono ?_); rintro e w' ⟨rfl, rfl⟩))
    go_ret
    exact ⟨ret_int (by rw [← H.out]), rfl⟩
  · have h1 : (cl n 64 == 0) = false := by simp [h0]
    cases hb : x.getLsbD (ck n - 1)
    · have H := Lib.hid (sref_1 x n h0 hb)
      have h2 : (partI (U x) (cl n 64 - 1) 1 == 0) = true := by rw [bit_at x n h0, hb]; decide +kernel
      clear hb
      go_enter Tryz.func70, Tryz.ntmps70
      go_wp2_with (first | (go_at_call 77; (with_reducible refine (bound_any _ _ (by omega) _).mono ?_); rintro e w' ⟨rfl, rfl⟩) | (go_at_call 79; (with_reducible refine (refLow_any _ _ _).mono ?_); rintro e w' ⟨rfl, rfl⟩) | (go_at_call 78; (with_reducible refine (refPart_any _ _ _ _).mono ?_); rintro e w' ⟨rfl, rfl⟩))
      go_ret
      exact ⟨ret_int (by rw [← H.out]), rfl⟩
    · have H := Lib.hid (sref_2 x n h0 hb)
      have h2 : (partI (U x) (cl n 64 - 1) 1 == 0) = false := by rw [bit_at x n h0, hb]; decide +kernel
      clear hb
      go_enter Tryz.func70, Tryz.ntmps70
      go_wp2_with (first | (go_at_call 77; (with_reducible refine (bound_any _ _ (by omega) _).mono ?_); rintro e w' ⟨rfl, rfl⟩) | (go_at_call 80; (with_reducible refine (refOnes_any _ _).mono ?_); rintro e w' ⟨rfl, rfl⟩) | (go_at_call 78; (with_reducible refine (refPart_any _ _ _ _).mono ?_); rintro e w' ⟨rfl, rfl⟩))
      go_ret
      exact ⟨ret_int (by rw [← H.out]), rfl⟩
end Go.Proofs.YtfbnijcmfaeoeaaGreat
