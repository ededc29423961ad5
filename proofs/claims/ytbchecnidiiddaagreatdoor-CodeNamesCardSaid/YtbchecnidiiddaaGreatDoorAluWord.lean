/-
  Proved here: what the package word's functions, and the document's own answers for them, return on integers, in the walk's spelling, for the programs of layer 4. Conditions: the arguments fit their types.
  (With it: Proved here: plain facts on words of 64 bits under the operations of layer 4: what ops answer, as operations on bit vectors. No condition; no Go text is named.)
-/
import Derived.Test.YtbchecnidiiddaaGreatDoorWordPlain
import Derived.Lib.Mul64
import Derived.Laws.BitsLemmas
import Derived.Test.YtbchecnidiiddaaGreatDoorProg
import Derived.Test.YtbchecnidiiddaaGreatDoorInsnShape
import Derived.WalkLawsBesides
import Derived.WalkSpells
import Derived.LoopTactic
import Derived.Lib.Hide
namespace Go.Proofs.YtbchecnidiiddaaGreatDoor
open Go.RowKit

theorem S_lo (b : BitVec 64) : -9223372036854775808 ≤ S b := by unfold S; have := BitVec.le_toInt b; omega
theorem S_hi (b : BitVec 64) : S b ≤ 9223372036854775807 := by unfold S; have := BitVec.toInt_lt (x := b); omega
theorem S_U (b : BitVec 64) : S b = if U b < 9223372036854775808 then U b else U b - 18446744073709551616 := by
  unfold S U; rw [BitVec.toInt_eq_toNat_cond]
  split <;> split <;> omega

/-! ### sums, differences, products go round -/
theorem add_U (a b : BitVec 64) : IntKind.u64.wrap (U a + U b) = U (a + b) := by rw [wrapU, BitVec.ofInt_add, ofInt_U, ofInt_U]
theorem mul_U (a b : BitVec 64) : IntKind.u64.wrap (U a * U b) = U (a * b) := by rw [wrapU, BitVec.ofInt_mul, ofInt_U, ofInt_U]
theorem sub_U (a b : BitVec 64) : IntKind.u64.wrap (U a - U b) = U (a - b) := by
  rw [wrapU]
  congr 1
  rw [Int.sub_eq_add_neg, BitVec.ofInt_add, BitVec.ofInt_neg, ofInt_U, ofInt_U, BitVec.sub_eq_add_neg]
theorem neg_U (a : BitVec 64) : IntKind.u64.wrap (-U a) = U (-a) := by rw [wrapU, BitVec.ofInt_neg, ofInt_U]
theorem zero_U : (0 : Int) = U 0 := by decide +kernel
theorem one_U : (1 : Int) = U 1 := by decide +kernel

/-! ### what ops answer -/
def bitV (p : Bool) : BitVec 64 := if p then 1 else 0
def far6 (b : BitVec 64) : Nat := (low b 6).toNat
def far5 (b : BitVec 64) : Nat := (low b 5).toNat
def hiV (a b : BitVec 64) : BitVec 64 := BitVec.ofNat 64 (a.toNat * b.toNat / 18446744073709551616)
def abV (a b : BitVec 64) : BitVec 64 := if S a < 0 then b else 0
def quoV (a b : BitVec 64) : BitVec 64 := if b = 0 then BitVec.allOnes 64 else BitVec.ofInt 64 ((S a).tdiv (S b))
def remV (a b : BitVec 64) : BitVec 64 := if b = 0 then a else BitVec.ofInt 64 ((S a).tmod (S b))
def quoU (a b : BitVec 64) : BitVec 64 := if b = 0 then BitVec.allOnes 64 else a / b
def remU (a b : BitVec 64) : BitVec 64 := if b = 0 then a else a % b
def sh (x : BitVec 64) : BitVec 64 := sign x 32
def lo (x : BitVec 64) : BitVec 64 := low x 32

/-- what the op of each number answers; 0 of one that answers nothing -/
def doL : List (BitVec 64 → BitVec 64 → BitVec 64) :=
  let n : BitVec 64 → BitVec 64 → BitVec 64 := fun _ _ => 0
  [n, fun (_ b : BitVec 64) => sh (b <<< 12), n, n, n, n, n, n, n, n, n, n, n, n, n, n, n, n, n, n, n, n, n, n, n, n, n, n, n, n, n, n, n, n, n,
   fun (a b : BitVec 64) => a + b, fun (a b : BitVec 64) => a - b, fun (a b : BitVec 64) => a <<< far6 b, fun (a b : BitVec 64) => bitV (decide (S a < S b)), fun (a b : BitVec 64) => bitV (decide (U a < U b)), fun (a b : BitVec 64) => a ^^^ b,
   fun (a b : BitVec 64) => a >>> far6 b, fun (a b : BitVec 64) => a.sshiftRight (far6 b), fun (a b : BitVec 64) => a ||| b, fun (a b : BitVec 64) => a &&& b,
   fun (a b : BitVec 64) => sh (a + b), fun (a b : BitVec 64) => sh (a - b), fun (a b : BitVec 64) => sh (a <<< far5 b), fun (a b : BitVec 64) => sh (lo a >>> far5 b), fun (a b : BitVec 64) => (sh a).sshiftRight (far5 b),
   fun (a b : BitVec 64) => a * b, fun (a b : BitVec 64) => hiV a b - abV a b - abV b a, fun (a b : BitVec 64) => hiV a b - abV a b, fun (a b : BitVec 64) => hiV a b,
   fun (a b : BitVec 64) => quoV a b, fun (a b : BitVec 64) => quoU a b, fun (a b : BitVec 64) => remV a b, fun (a b : BitVec 64) => remU a b,
   fun (a b : BitVec 64) => sh (a * b), fun (a b : BitVec 64) => sh (quoV (sh a) (sh b)), fun (a b : BitVec 64) => sh (quoU (lo a) (lo b)), fun (a b : BitVec 64) => sh (remV (sh a) (sh b)), fun (a b : BitVec 64) => sh (remU (lo a) (lo b))]
theorem do_len : doL.length = 63 := rfl
def doV (op : Nat) (a b : BitVec 64) : BitVec 64 := (doL.getD op fun _ _ => 0) a b
/-- the ops that answer, of registers alone -/
def doOk (op : Int) : Bool := op == 1 || decide (35 ≤ op && op ≤ 62)
/-- the op without a number in it -/
def plainL : List Int := [0,0,0,0,0,0,0,0,0,0,0,0,0,0,0,0,0,0,0,0,0,0, 35,38,39,40,43,44,37,41,42,45,47,48,49]
def plainI (op : Int) : Int := if 35 ≤ op ∧ op ≤ 62 then op else if op < 0 then 0 else plainL.getD op.toNat 0
def brL : List (BitVec 64 → BitVec 64 → Bool) :=
  let n : BitVec 64 → BitVec 64 → Bool := fun _ _ => false
  [n, n, n, n, n, fun (a b : BitVec 64) => a == b, fun (a b : BitVec 64) => a != b, fun (a b : BitVec 64) => decide (S a < S b), fun (a b : BitVec 64) => decide (S b ≤ S a), fun (a b : BitVec 64) => decide (U a < U b), fun (a b : BitVec 64) => decide (U b ≤ U a)]
def brV (op : Nat) (a b : BitVec 64) : Bool := (brL.getD op fun _ _ => false) a b
def minSV (a b : BitVec 64) : BitVec 64 := if S a < S b then a else b
def maxSV (a b : BitVec 64) : BitVec 64 := if S a < S b then b else a
def minUV (a b : BitVec 64) : BitVec 64 := if U a < U b then a else b
def maxUV (a b : BitVec 64) : BitVec 64 := if U a < U b then b else a
theorem minSV_l {a b : BitVec 64} (h : S a ≤ S b) : minSV a b = a := by
  unfold minSV; split; rfl; exact S_inj (by omega)
theorem minSV_r {a b : BitVec 64} (h : S b ≤ S a) : minSV a b = b := by
  unfold minSV; rw [if_neg (by omega)]
theorem maxSV_l {a b : BitVec 64} (h : S b ≤ S a) : maxSV a b = a := by
  unfold maxSV; rw [if_neg (by omega)]
theorem maxSV_r {a b : BitVec 64} (h : S a ≤ S b) : maxSV a b = b := by
  unfold maxSV; split; rfl; exact S_inj (by omega)
theorem minUV_l {a b : BitVec 64} (h : U a ≤ U b) : minUV a b = a := by
  unfold minUV; split; rfl; exact U_inj (by omega)
theorem minUV_r {a b : BitVec 64} (h : U b ≤ U a) : minUV a b = b := by
  unfold minUV; rw [if_neg (by omega)]
theorem maxUV_l {a b : BitVec 64} (h : U b ≤ U a) : maxUV a b = a := by
  unfold maxUV; rw [if_neg (by omega)]
theorem maxUV_r {a b : BitVec 64} (h : U a ≤ U b) : maxUV a b = b := by
  unfold maxUV; split; rfl; exact U_inj (by omega)
/-- what the amo of doubles of each number stores, from swap on -/
def amL : List (BitVec 64 → BitVec 64 → BitVec 64) :=
  [fun (_ b : BitVec 64) => b, fun (a b : BitVec 64) => a + b, fun (a b : BitVec 64) => a ^^^ b, fun (a b : BitVec 64) => a &&& b, fun (a b : BitVec 64) => a ||| b,
   minSV, maxSV, minUV, maxUV]

/-! ### bits of a short one -/
theorem sign_sign (x : BitVec 64) (k : Nat) (h : k ≤ 64) : sign (sign x k) k = sign x k := by
  apply bits_ext
  intro i hi
  rw [bit_sign _ _ _ h hi, bit_sign _ _ _ h hi]
  split
  · rfl
  · split
    · rfl
    · rw [bit_sign _ _ _ h (by omega), if_neg (by assumption), if_pos (by omega)]
theorem low_sign (x : BitVec 64) (k : Nat) (h : k ≤ 64) : low (sign x k) k = low x k := by
  apply bits_ext
  intro i hi
  rw [bit_low, bit_low]
  by_cases h0 : i < k
  · rw [bit_sign _ _ _ h hi, if_neg (by omega), if_pos h0]
  · simp [h0]
theorem sign_low (x : BitVec 64) (k : Nat) (h : k ≤ 64) : sign (low x k) k = sign x k := by
  apply bits_ext
  intro i hi
  rw [bit_sign _ _ _ h hi, bit_sign _ _ _ h hi]
  split
  · rfl
  · split
    · rename_i h1; rw [bit_low]; simp [h1]
    · rw [bit_low]
      have : k - 1 < k := by omega
      simp [this]
/-- the lowest k bits, as a number -/
theorem low_nat (x : BitVec 64) (k : Nat) : (low x k).toNat = x.toNat % 2 ^ k := by
  have e : low x k = BitVec.ofNat 64 (x.toNat % 2 ^ k) := by
    apply bits_ext
    intro i hi
    rw [bit_low, BitVec.getLsbD_ofNat, Nat.testBit_mod_two_pow]
    simp [hi, BitVec.getLsbD, Bool.and_comm]
  rw [e, BitVec.toNat_ofNat]
  have h1 : x.toNat % 2 ^ k < 2 ^ 64 := Nat.lt_of_le_of_lt (Nat.mod_le _ _) x.isLt
  exact Nat.mod_eq_of_lt h1
theorem far6_lt (b : BitVec 64) : far6 b < 64 := by unfold far6; rw [low_nat b 6]; omega
theorem far5_lt (b : BitVec 64) : far5 b < 32 := by unfold far5; rw [low_nat b 5]; omega
theorem lo_nat (x : BitVec 64) : (lo x).toNat = x.toNat % 4294967296 := low_nat x 32
theorem U_lo32 (x : BitVec 64) : U (lo x) = U x % 4294967296 := by unfold U; rw [lo_nat]; omega
/-- the lowest 32 bits, signed, as a number -/
theorem S_sh (x : BitVec 64) : S (sh x) = (U x + 2147483648) % 4294967296 - 2147483648 := by
  have h1 : S (sh x) = S (x <<< 32) / 4294967296 := by
    unfold sh sign; rw [← shr_S]; rfl
  have h2 : S (x <<< 32) = wrap64 (U x * 4294967296) := by
    have := shl_U x 32
    rw [← wrapS_U, ← this, IntKind.wrap_u64]; unfold wrap64
    have e : (2 : Int) ^ 32 = 4294967296 := rfl
    rw [e]; omega
  rw [h1, h2]; unfold wrap64; omega
theorem wrap32_U (x : BitVec 64) : IntKind.i32.wrap (U x) = S (sh x) := by rw [IntKind.wrap_i32, S_sh]
theorem wrapu32_U (x : BitVec 64) : IntKind.u32.wrap (U x) = U (lo x) := by rw [IntKind.wrap_u32, U_lo32]
theorem sh_lo (x : BitVec 64) : sh (lo x) = sh x := sign_low x 32 (by omega)
theorem sh_sh (x : BitVec 64) : sh (sh x) = sh x := sign_sign x 32 (by omega)
theorem lo_sh (x : BitVec 64) : lo (sh x) = lo x := low_sign x 32 (by omega)
theorem sh_of_S (n : Int) : sh (BitVec.ofInt 64 n) = BitVec.ofInt 64 (IntKind.i32.wrap n) := by
  apply S_inj
  have l : -9223372036854775808 ≤ IntKind.i32.wrap n := by rw [IntKind.wrap_i32]; omega
  have h : IntKind.i32.wrap n ≤ 9223372036854775807 := by rw [IntKind.wrap_i32]; omega
  rw [S_sh, ← wrapS, ← wrapU, IntKind.wrap_u64]; unfold wrap64; rw [IntKind.wrap_i32] at *; omega

/-! ### S and U of the least kind -/
theorem S_zero_iff (b : BitVec 64) : S b = 0 ↔ b = 0 := ⟨fun h => S_inj (by rw [h]; decide +kernel), fun h => by rw [h]; decide +kernel⟩
theorem U_zero_iff (b : BitVec 64) : U b = 0 ↔ b = 0 := ⟨fun h => U_inj (by rw [h]; decide +kernel), fun h => by rw [h]; decide +kernel⟩
theorem div_U (a b : BitVec 64) : U a / U b = U (a / b) := by unfold U; rw [BitVec.toNat_udiv]; exact (Int.natCast_ediv _ _).symm
theorem mod_U (a b : BitVec 64) : U a % U b = U (a % b) := by unfold U; rw [BitVec.toNat_umod]; exact (Int.natCast_emod _ _).symm
end Go.Proofs.YtbchecnidiiddaaGreatDoor
namespace Go.Proofs.YtbchecnidiiddaaGreatDoor
open Go.RowKit

theorem bound_any (n b : Int) (hb : 0 ≤ b) (w : World) : Calls Tryz.prog 138 #[.int .i64 n, .int .i64 0, .int .i64 b] w fun e w' => e = .returned (.int .i64 (cl n b)) ∧ w = w' := by
  have H := Lib.hid (show cl n b = if n < 0 then 0 else if b < n then b else n from rfl)
  go_enter Tryz.func138, Tryz.ntmps138
  go_wp2
  all_goals
    go_ret
    refine ⟨ret_int ?_, rfl⟩
    rw [H.out]
    repeat' split
    all_goals omega
theorem cl_cl (n : Int) : cl (cl n 64) 64 = cl n 64 := cl_in _ _ (cl_lo n 64 (by omega)) (cl_hi n 64 (by omega))
theorem ck_cl (n : Int) : ck (cl n 64) = ck n := by unfold ck; rw [cl_cl]
theorem ck_int (n : Int) : (ck n : Int) = cl n 64 := by have := cl_lo n 64 (by omega); unfold ck; omega
theorem ones_step : ∀ k : Fin 64, IntKind.u64.wrap (IntKind.u64.wrap (U (ones k) * 2) + 1) = U (ones (k + 1)) := by decide +kernel
theorem ones_0 : U (ones 0) = 0 := by decide +kernel
theorem refOnes_any (n : Int) (w : World) : Calls Tryz.prog 128 #[.int .i64 n] w fun e w' => e = .returned (.int .u64 (onesI n)) ∧ w = w' := by
  have HK := Lib.hid (ck_int n)
  have HE := Lib.hid (onesI_U n)
  have HZ := Lib.hid ones_0
  go_enter Tryz.func128, Tryz.ntmps128
  go_wp2_with fail
  go_loop [3, 4] (fun x i => ∃ k : Nat, k ≤ ck n ∧ i = .int .i64 k ∧ x = .int .u64 (U (ones k))) (fun _ i => ck n - (intOf i).toNat)
  case atStart => exact ⟨0, by omega, rfl, by rw [HZ.out]⟩
  case round =>
    obtain ⟨k, hk, rfl, rfl⟩ := hrel
    have hk64 := ck_hi n
    by_cases hlt : k < ck n
    · have h1 : (k : Int) < cl n 64 := by rw [← HK.out]; omega
      have hs := ones_step ⟨k, by omega⟩
      go_wp2_with (go_at_call 138; (with_reducible refine (bound_any _ _ (by omega) _).mono ?_); rintro e w' ⟨rfl, rfl⟩)
      go_round
      case rel => exact ⟨k + 1, by omega, by go_num, rfl⟩
      case measure => simp [intOf]; omega
    · have h1 : ¬ (k : Int) < cl n 64 := by rw [← HK.out]; omega
      go_wp2_with (go_at_call 138; (with_reducible refine (bound_any _ _ (by omega) _).mono ?_); rintro e w' ⟨rfl, rfl⟩)
      go_ret
      exact ⟨ret_int (by rw [HE.out, show k = ck n by omega]), rfl⟩
theorem refLow_any (x n : Int) (w : World) : Calls Tryz.prog 120 #[.int .u64 x, .int .i64 n] w fun e w' => e = .returned (.int .u64 (lowI x n)) ∧ w = w' := by
  go_enter Tryz.func120, Tryz.ntmps120
  go_wp2_with (go_at_call 128; (with_reducible refine (refOnes_any _ _).mono ?_); rintro e w' ⟨rfl, rfl⟩)
  go_ret
  exact ⟨rfl, rfl⟩
theorem shr_64 (x : BitVec 64) : x >>> 64 = 0 := by
  apply bits_ext
  intro i hi
  rw [BitVec.getLsbD_ushiftRight, BitVec.getLsbD_of_ge _ _ (by omega)]; simp
theorem part_far (x : BitVec 64) (f n : Int) (h : 63 < f) : partI (U x) f n = 0 := by
  have e : cl f 64 = 64 := by unfold cl; rw [if_neg (by omega)]; split <;> omega
  unfold partI; rw [e, shr_U]
  show lowI (U (x >>> 64)) n = 0
  rw [shr_64, lowI_U]
  show U (0#64 &&& _) = 0
  rw [BitVec.zero_and]; rfl
theorem part_neg (x f n : Int) (h : f < 0) : partI x f n = lowI x n := by
  have e : cl f 64 = 0 := by unfold cl; rw [if_pos h]
  unfold partI; rw [e]
  show lowI (x / 2 ^ 0) n = _
  rw [Int.pow_zero, Int.ediv_one]
theorem part_near (x f n : Int) (h : 0 ≤ f) (h2 : f ≤ 63) : partI x f n = lowI (x / 2 ^ f.toNat) n := by
  unfold partI; rw [cl_in f 64 h (by omega)]
theorem refPart_any (x : BitVec 64) (f n : Int) (w : World) : Calls Tryz.prog 101 #[.int .u64 (U x), .int .i64 f, .int .i64 n] w fun e w' => e = .returned (.int .u64 (partI (U x) f n)) ∧ w = w' := by
  by_cases h1 : 63 < f
  · have H := Lib.hid (part_far x f n h1)
    go_enter Tryz.func101, Tryz.ntmps101
    go_wp2_with fail
    go_ret
    exact ⟨ret_int (by rw [H.out]), rfl⟩
  · by_cases h2 : f < 0
    · have H := Lib.hid (part_neg (U x) f n h2)
      go_enter Tryz.func101, Tryz.ntmps101
      go_wp2_with (go_at_call 120; (with_reducible refine (refLow_any _ _ _).mono ?_); rintro e w' ⟨rfl, rfl⟩)
      go_ret
      exact ⟨ret_int (by rw [H.out]), rfl⟩
    · have H := Lib.hid (part_near (U x) f n (by omega) (by omega))
      go_enter Tryz.func101, Tryz.ntmps101
      go_wp2_with (go_at_call 120; (with_reducible refine (refLow_any _ _ _).mono ?_); rintro e w' ⟨rfl, rfl⟩)
      all_goals
        go_ret
        exact ⟨ret_int (by rw [H.out]), rfl⟩
theorem sref_0 (x : BitVec 64) (n : Int) (h : cl n 64 = 0) : wrap64 (lowI (U x) 0) = signI (U x) n := by
  have e : ck n = 0 := by unfold ck; rw [h]; rfl
  rw [lowI_U, wrapS_U, signI_S, e]
  refine congrArg S ?_
  apply bits_ext
  intro i hi
  rw [show ck 0 = 0 by decide +kernel, bit_low, bit_sign _ _ _ (by omega) hi]; simp
theorem bit_at (x : BitVec 64) (n : Int) (h : cl n 64 ≠ 0) : partI (U x) (cl n 64 - 1) 1 = U (if x.getLsbD (ck n - 1) then 1 else 0) := by
  have h0 := cl_lo n 64 (by omega)
  have h1 := cl_hi n 64 (by omega)
  have hk : (cl n 64 - 1).toNat = ck n - 1 := by unfold ck; omega
  rw [partI_U, ck_in _ (by omega) (by omega), hk, show ck 1 = 1 by decide +kernel]
  congr 1
  apply bits_ext
  intro i hi
  rw [bit_part]
  by_cases h2 : i = 0
  · subst h2
    rw [Nat.add_zero]
    cases x.getLsbD (ck n - 1) <;> rfl
  · have h3 : ¬ i < 1 := by omega
    cases x.getLsbD (ck n - 1) <;> simp [h2, h3]
theorem sref_1 (x : BitVec 64) (n : Int) (h : cl n 64 ≠ 0) (hb : x.getLsbD (ck n - 1) = false) : wrap64 (lowI (U x) (cl n 64)) = signI (U x) n := by
  have h0 := cl_lo n 64 (by omega)
  have hk : ck n ≠ 0 := by unfold ck; omega
  rw [lowI_U, wrapS_U, signI_S, ck_cl]
  congr 1
  apply bits_ext
  intro i hi
  rw [bit_low, bit_sign _ _ _ (ck_hi n) hi, if_neg hk, hb]
  by_cases h3 : i < ck n <;> simp [h3]
theorem sref_2 (x : BitVec 64) (n : Int) (h : cl n 64 ≠ 0) (hb : x.getLsbD (ck n - 1) = true) :
    wrap64 (bits .or .u64 (U x) (bits .xor .u64 IntKind.u64.max (onesI (cl n 64)))) = signI (U x) n := by
  have h0 := cl_lo n 64 (by omega)
  have hk : ck n ≠ 0 := by unfold ck; omega
  rw [onesI_U, max_U, xor_U, or_U, wrapS_U, signI_S, ck_cl]
  congr 1
  apply bits_ext
  intro i hi
  rw [BitVec.getLsbD_or, BitVec.getLsbD_xor, bit_ones _ _ hi, BitVec.getLsbD_allOnes, bit_sign _ _ _ (ck_hi n) hi, if_neg hk, hb]
  by_cases h3 : i < ck n <;> simp [h3, hi]
theorem refSign_any (x : BitVec 64) (n : Int) (w : World) : Calls Tryz.prog 129 #[.int .u64 (U x), .int .i64 n] w fun e w' => e = .returned (.int .i64 (signI (U x) n)) ∧ w = w' := by
  have l0 := cl_lo n 64 (by omega)
  have l1 := cl_hi n 64 (by omega)
  by_cases h0 : cl n 64 = 0
  · have H := Lib.hid (sref_0 x n h0)
    have h1 : (cl n 64 == 0) = true := by simp [h0]
    go_enter Tryz.func129, Tryz.ntmps129
    go_wp2_with (first | (go_at_call 138; (with_reducible refine (bound_any _ _ (by omega) _).mono ?_); rintro e w' ⟨rfl, rfl⟩) | (go_at_call 120; (with_reducible refine (refLow_any _ _ _).mono ?_); rintro e w' ⟨rfl, rfl⟩))
    go_ret
    exact ⟨ret_int (by rw [← H.out]), rfl⟩
  · have h1 : (cl n 64 == 0) = false := by simp [h0]
    cases hb : x.getLsbD (ck n - 1)
    · have H := Lib.hid (sref_1 x n h0 hb)
      have h2 : (partI (U x) (cl n 64 - 1) 1 == 0) = true := by rw [bit_at x n h0, hb]; decide +kernel
      clear hb
      go_enter Tryz.func129, Tryz.ntmps129
      go_wp2_with (first | (go_at_call 138; (with_reducible refine (bound_any _ _ (by omega) _).mono ?_); rintro e w' ⟨rfl, rfl⟩) | (go_at_call 120; (with_reducible refine (refLow_any _ _ _).mono ?_); rintro e w' ⟨rfl, rfl⟩) | (go_at_call 101; (with_reducible refine (refPart_any _ _ _ _).mono ?_); rintro e w' ⟨rfl, rfl⟩))
      go_ret
      exact ⟨ret_int (by rw [← H.out]), rfl⟩
    · have H := Lib.hid (sref_2 x n h0 hb)
      have h2 : (partI (U x) (cl n 64 - 1) 1 == 0) = false := by rw [bit_at x n h0, hb]; decide +kernel
      clear hb
      go_enter Tryz.func129, Tryz.ntmps129
      go_wp2_with (first | (go_at_call 138; (with_reducible refine (bound_any _ _ (by omega) _).mono ?_); rintro e w' ⟨rfl, rfl⟩) | (go_at_call 128; (with_reducible refine (refOnes_any _ _).mono ?_); rintro e w' ⟨rfl, rfl⟩) | (go_at_call 101; (with_reducible refine (refPart_any _ _ _ _).mono ?_); rintro e w' ⟨rfl, rfl⟩))
      go_ret
      exact ⟨ret_int (by rw [← H.out]), rfl⟩
end Go.Proofs.YtbchecnidiiddaaGreatDoor
