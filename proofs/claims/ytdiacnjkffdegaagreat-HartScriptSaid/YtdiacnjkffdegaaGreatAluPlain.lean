/-
  Proved here: plain facts on words of 64 bits under the operations of layer 4: what ops answer, as operations on bit vectors. No condition; no Go text is named.
-/
import Derived.Test.YtdiacnjkffdegaaGreatWordPlain
import Derived.Lib.Mul64
import Derived.Laws.BitsLemmas
namespace Go.Proofs.YtdiacnjkffdegaaGreat
open Go.RowKit

theorem S_lo (b : BitVec 64) : -9223372036854775808 ≤ S b := by unfold S; have := BitVec.le_toInt b; omega
theorem S_hi (b : BitVec 64) : S b ≤ 9223372036854775807 := by unfold S; have := BitVec.toInt_lt (x := b); omega
theorem S_U (b : BitVec 64) : S b = if U b < 9223372036854775808 then U b else U b - 18446744073709551616 := by
  unfold S U; rw [BitVec.toInt_eq_toNat_cond]
  split <;> split <;> omega

/-! ### sums, differences, products go round -/
theorem add_U (a b : BitVec 64) : IntKind.u64.wrap (U a + U b) = U (a + b) := by rw [wrapU, BitVec.ofInt_add, ofInt_U, ofInt_U]
theorem mul_U (a b : BitVec 64) : IntKind.u64.wrap (U a * U b) = U (a * b) := by rw [wrapU, BitVec.ofInt_mul, ofInt_U, ofInt_U]
theorem sub_U (a b : BitVec 64) : IntKind.u64.wrap (U a - U b) = U (a - b) := by
  rw [wrapU]
  congr 1
  rw [Int.sub_eq_add_neg, BitVec.ofInt_add, BitVec.ofInt_neg, ofInt_U, ofInt_U, BitVec.sub_eq_add_neg]
theorem neg_U (a : BitVec 64) : IntKind.u64.wrap (-U a) = U (-a) := by rw [wrapU, BitVec.ofInt_neg, ofInt_U]
theorem zero_U : (0 : Int) = U 0 := by decide +kernel
theorem one_U : (1 : Int) = U 1 := by decide +kernel

/-! ### what ops answer -/
def bitV (p : Bool) : BitVec 64 := if p then 1 else 0
def far6 (b : BitVec 64) : Nat := (low b 6).toNat
def far5 (b : BitVec 64) : Nat := (low b 5).toNat
def hiV (a b : BitVec 64) : BitVec 64 := BitVec.ofNat 64 (a.toNat * b.toNat / 18446744073709551616)
def abV (a b : BitVec 64) : BitVec 64 := if S a < 0 then b else 0
def quoV (a b : BitVec 64) : BitVec 64 := if b = 0 then BitVec.allOnes 64 else BitVec.ofInt 64 ((S a).tdiv (S b))
def remV (a b : BitVec 64) : BitVec 64 := if b = 0 then a else BitVec.ofInt 64 ((S a).tmod (S b))
def quoU (a b : BitVec 64) : BitVec 64 := if b = 0 then BitVec.allOnes 64 else a / b
def remU (a b : BitVec 64) : BitVec 64 := if b = 0 then a else a % b
def sh (x : BitVec 64) : BitVec 64 := sign x 32
def lo (x : BitVec 64) : BitVec 64 := low x 32

/-- what the op of each number answers; 0 of one that answers nothing -/
def doL : List (BitVec 64 → BitVec 64 → BitVec 64) :=
  let n : BitVec 64 → BitVec 64 → BitVec 64 := fun _ _ => 0
  [n, fun (_ b : BitVec 64) => sh (b <<< 12), n, n, n, n, n, n, n, n, n, n, n, n, n, n, n, n, n, n, n, n, n, n, n, n, n, n, n, n, n, n, n, n, n,
   fun (a b : BitVec 64) => a + b, fun (a b : BitVec 64) => a - b, fun (a b : BitVec 64) => a <<< far6 b, fun (a b : BitVec 64) => bitV (decide (S a < S b)), fun (a b : BitVec 64) => bitV (decide (U a < U b)), fun (a b : BitVec 64) => a ^^^ b,
   fun (a b : BitVec 64) => a >>> far6 b, fun (a b : BitVec 64) => a.sshiftRight (far6 b), fun (a b : BitVec 64) => a ||| b, fun (a b : BitVec 64) => a &&& b,
   fun (a b : BitVec 64) => sh (a + b), fun (a b : BitVec 64) => sh (a - b), fun (a b : BitVec 64) => sh (a <<< far5 b), fun (a b : BitVec 64) => sh (lo a >>> far5 b), fun (a b : BitVec 64) => (sh a).sshiftRight (far5 b),
   fun (a b : BitVec 64) => a * b, fun (a b : BitVec 64) => hiV a b - abV a b - abV b a, fun (a b : BitVec 64) => hiV a b - abV a b, fun (a b : BitVec 64) => hiV a b,
   fun (a b : BitVec 64) => quoV a b, fun (a b : BitVec 64) => quoU a b, fun (a b : BitVec 64) => remV a b, fun (a b : BitVec 64) => remU a b,
   fun (a b : BitVec 64) => sh (a * b), fun (a b : BitVec 64) => sh (quoV (sh a) (sh b)), fun (a b : BitVec 64) => sh (quoU (lo a) (lo b)), fun (a b : BitVec 64) => sh (remV (sh a) (sh b)), fun (a b : BitVec 64) => sh (remU (lo a) (lo b))]
theorem do_len : doL.length = 63 := rfl
def doV (op : Nat) (a b : BitVec 64) : BitVec 64 := (doL.getD op fun _ _ => 0) a b
/-- the ops that answer, of registers alone -/
def doOk (op : Int) : Bool := op == 1 || decide (35 ≤ op && op ≤ 62)
/-- the op without a number in it -/
def plainL : List Int := [0,0,0,0,0,0,0,0,0,0,0,0,0,0,0,0,0,0,0,0,0,0, 35,38,39,40,43,44,37,41,42,45,47,48,49]
def plainI (op : Int) : Int := if 35 ≤ op ∧ op ≤ 62 then op else if op < 0 then 0 else plainL.getD op.toNat 0
def brL : List (BitVec 64 → BitVec 64 → Bool) :=
  let n : BitVec 64 → BitVec 64 → Bool := fun _ _ => false
  [n, n, n, n, n, fun (a b : BitVec 64) => a == b, fun (a b : BitVec 64) => a != b, fun (a b : BitVec 64) => decide (S a < S b), fun (a b : BitVec 64) => decide (S b ≤ S a), fun (a b : BitVec 64) => decide (U a < U b), fun (a b : BitVec 64) => decide (U b ≤ U a)]
def brV (op : Nat) (a b : BitVec 64) : Bool := (brL.getD op fun _ _ => false) a b
def minSV (a b : BitVec 64) : BitVec 64 := if S a < S b then a else b
def maxSV (a b : BitVec 64) : BitVec 64 := if S a < S b then b else a
def minUV (a b : BitVec 64) : BitVec 64 := if U a < U b then a else b
def maxUV (a b : BitVec 64) : BitVec 64 := if U a < U b then b else a
theorem minSV_l {a b : BitVec 64} (h : S a ≤ S b) : minSV a b = a := by
  unfold minSV; split; rfl; exact S_inj (by omega)
theorem minSV_r {a b : BitVec 64} (h : S b ≤ S a) : minSV a b = b := by
  unfold minSV; rw [if_neg (by omega)]
theorem maxSV_l {a b : BitVec 64} (h : S b ≤ S a) : maxSV a b = a := by
  unfold maxSV; rw [if_neg (by omega)]
theorem maxSV_r {a b : BitVec 64} (h : S a ≤ S b) : maxSV a b = b := by
  unfold maxSV; split; rfl; exact S_inj (by omega)
theorem minUV_l {a b : BitVec 64} (h : U a ≤ U b) : minUV a b = a := by
  unfold minUV; split; rfl; exact U_inj (by omega)
theorem minUV_r {a b : BitVec 64} (h : U b ≤ U a) : minUV a b = b := by
  unfold minUV; rw [if_neg (by omega)]
theorem maxUV_l {a b : BitVec 64} (h : U b ≤ U a) : maxUV a b = a := by
  unfold maxUV; rw [if_neg (by omega)]
theorem maxUV_r {a b : BitVec 64} (h : U a ≤ U b) : maxUV a b = b := by
  unfold maxUV; split; rfl; exact U_inj (by omega)
/-- what the amo of doubles of each number stores, from swap on -/
def amL : List (BitVec 64 → BitVec 64 → BitVec 64) :=
  [fun (_ b : BitVec 64) => b, fun (a b : BitVec 64) => a + b, fun (a b : BitVec 64) => a ^^^ b, fun (a b : BitVec 64) => a &&& b, fun (a b : BitVec 64) => a ||| b,
   minSV, maxSV, minUV, maxUV]

/-! ### bits of a short one -/
theorem sign_sign (x : BitVec 64) (k : Nat) (h : k ≤ 64) : sign (sign x k) k = sign x k := by
  apply bits_ext
  intro i hi
  rw [bit_sign _ _ _ h hi, bit_sign _ _ _ h hi]
  split
  · rfl
  · split
    · rfl
    · rw [bit_sign _ _ _ h (by omega), if_neg (by assumption), if_pos (by omega)]
theorem low_sign (x : BitVec 64) (k : Nat) (h : k ≤ 64) : low (sign x k) k = low x k := by
  apply bits_ext
  intro i hi
  rw [bit_low, bit_low]
  by_cases h0 : i < k
  · rw [bit_sign _ _ _ h hi, if_neg (by omega), if_pos h0]
  · simp [h0]
theorem sign_low (x : BitVec 64) (k : Nat) (h : k ≤ 64) : sign (low x k) k = sign x k := by
  apply bits_ext
  intro i hi
  rw [bit_sign _ _ _ h hi, bit_sign _ _ _ h hi]
  split
  · rfl
  · split
    · rename_i h1; rw [bit_low]; simp [h1]
    · rw [bit_low]
      have : k - 1 < k := by omega
      simp [this]
/-- the lowest k bits, as a number -/
theorem low_nat (x : BitVec 64) (k : Nat) : (low x k).toNat = x.toNat % 2 ^ k := by
  have e : low x k = BitVec.ofNat 64 (x.toNat % 2 ^ k) := by
    apply bits_ext
    intro i hi
    rw [bit_low, BitVec.getLsbD_ofNat, Nat.testBit_mod_two_pow]
    simp [hi, BitVec.getLsbD, Bool.and_comm]
  rw [e, BitVec.toNat_ofNat]
  have h1 : x.toNat % 2 ^ k < 2 ^ 64 := Nat.lt_of_le_of_lt (Nat.mod_le _ _) x.isLt
  exact Nat.mod_eq_of_lt h1
theorem far6_lt (b : BitVec 64) : far6 b < 64 := by unfold far6; rw [low_nat b 6]; omega
theorem far5_lt (b : BitVec 64) : far5 b < 32 := by unfold far5; rw [low_nat b 5]; omega
theorem lo_nat (x : BitVec 64) : (lo x).toNat = x.toNat % 4294967296 := low_nat x 32
theorem U_lo32 (x : BitVec 64) : U (lo x) = U x % 4294967296 := by unfold U; rw [lo_nat]; omega
/-- the lowest 32 bits, signed, as a number -/
theorem S_sh (x : BitVec 64) : S (sh x) = (U x + 2147483648) % 4294967296 - 2147483648 := by
  have h1 : S (sh x) = S (x <<< 32) / 4294967296 := by
    unfold sh sign; rw [← shr_S]; rfl
  have h2 : S (x <<< 32) = wrap64 (U x * 4294967296) := by
    have := shl_U x 32
    rw [← wrapS_U, ← this, IntKind.wrap_u64]; unfold wrap64
    have e : (2 : Int) ^ 32 = 4294967296 := rfl
    rw [e]; omega
  rw [h1, h2]; unfold wrap64; omega
theorem wrap32_U (x : BitVec 64) : IntKind.i32.wrap (U x) = S (sh x) := by rw [IntKind.wrap_i32, S_sh]
theorem wrapu32_U (x : BitVec 64) : IntKind.u32.wrap (U x) = U (lo x) := by rw [IntKind.wrap_u32, U_lo32]
theorem sh_lo (x : BitVec 64) : sh (lo x) = sh x := sign_low x 32 (by omega)
theorem sh_sh (x : BitVec 64) : sh (sh x) = sh x := sign_sign x 32 (by omega)
theorem lo_sh (x : BitVec 64) : lo (sh x) = lo x := low_sign x 32 (by omega)
theorem sh_of_S (n : Int) : sh (BitVec.ofInt 64 n) = BitVec.ofInt 64 (IntKind.i32.wrap n) := by
  apply S_inj
  have l : -9223372036854775808 ≤ IntKind.i32.wrap n := by rw [IntKind.wrap_i32]; omega
  have h : IntKind.i32.wrap n ≤ 9223372036854775807 := by rw [IntKind.wrap_i32]; omega
  rw [S_sh, ← wrapS, ← wrapU, IntKind.wrap_u64]; unfold wrap64; rw [IntKind.wrap_i32] at *; omega

/-! ### S and U of the least kind -/
theorem S_zero_iff (b : BitVec 64) : S b = 0 ↔ b = 0 := ⟨fun h => S_inj (by rw [h]; decide +kernel), fun h => by rw [h]; decide +kernel⟩
theorem U_zero_iff (b : BitVec 64) : U b = 0 ↔ b = 0 := ⟨fun h => U_inj (by rw [h]; decide +kernel), fun h => by rw [h]; decide +kernel⟩
theorem div_U (a b : BitVec 64) : U a / U b = U (a / b) := by unfold U; rw [BitVec.toNat_udiv]; exact (Int.natCast_ediv _ _).symm
theorem mod_U (a b : BitVec 64) : U a % U b = U (a % b) := by unfold U; rw [BitVec.toNat_umod]; exact (Int.natCast_emod _ _).symm
end Go.Proofs.YtdiacnjkffdegaaGreat
