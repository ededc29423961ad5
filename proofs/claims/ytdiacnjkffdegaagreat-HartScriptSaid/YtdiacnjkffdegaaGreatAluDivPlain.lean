/-
  Proved here: plain facts under the law AluDivides: quotient by divisor and rest is the dividend, the rest is smaller and has its sign, of 64 bits and of 32. No condition; no Go text is named.
-/
import Derived.Test.YtdiacnjkffdegaaGreatAluPlain
namespace Go.Proofs.YtdiacnjkffdegaaGreat
open Go.RowKit

theorem quoU_0 (a b : BitVec 64) (h : b = 0) : quoU a b = BitVec.allOnes 64 ∧ remU a b = a := by
  unfold quoU remU; rw [if_pos h, if_pos h]; exact ⟨rfl, rfl⟩
theorem quoV_0 (a b : BitVec 64) (h : b = 0) : quoV a b = BitVec.allOnes 64 ∧ remV a b = a := by
  unfold quoV remV; rw [if_pos h, if_pos h]; exact ⟨rfl, rfl⟩
theorem quoU_mul (a b : BitVec 64) (h : b ≠ 0) : quoU a b * b + remU a b = a := by
  unfold quoU remU; rw [if_neg h, if_neg h]
  apply BitVec.eq_of_toNat_eq
  rw [BitVec.toNat_add, BitVec.toNat_mul, BitVec.toNat_udiv, BitVec.toNat_umod]
  have h1 := Nat.div_add_mod' a.toNat b.toNat
  have h2 := a.isLt
  omega
theorem remU_lt (a b : BitVec 64) (h : b ≠ 0) : U (remU a b) < U b := by
  unfold remU; rw [if_neg h]; unfold U; rw [BitVec.toNat_umod]
  have : b.toNat ≠ 0 := fun e => h (BitVec.eq_of_toNat_eq e)
  have := Nat.mod_lt a.toNat (show 0 < b.toNat by omega)
  omega
theorem quoV_mul (a b : BitVec 64) (h : b ≠ 0) : quoV a b * b + remV a b = a := by
  unfold quoV remV; rw [if_neg h, if_neg h]
  have e : BitVec.ofInt 64 ((S a).tdiv (S b)) * b = BitVec.ofInt 64 ((S a).tdiv (S b) * S b) := by rw [BitVec.ofInt_mul, ofInt_S]
  rw [e, ← BitVec.ofInt_add, Int.mul_comm, Int.mul_tdiv_add_tmod, ofInt_S]
theorem tmod_abs (x y : Int) (hy : y ≠ 0) : (x.tmod y).natAbs < y.natAbs := by
  rw [Int.natAbs_tmod]; exact Nat.mod_lt _ (by omega)
theorem S_remV (a b : BitVec 64) (h : b ≠ 0) : S (remV a b) = (S a).tmod (S b) := by
  have hb : S b ≠ 0 := fun e => h ((S_zero_iff b).1 e)
  have h1 := tmod_abs (S a) (S b) hb
  have h2 := S_lo b
  have h3 := S_hi b
  unfold remV; rw [if_neg h, ← wrapS]; unfold wrap64; omega
theorem tmod_sign (x y : Int) (h : x.tmod y ≠ 0) : decide (x.tmod y < 0) = decide (x < 0) := by
  by_cases hx : x < 0
  · have : 0 ≤ (-x).tmod y := Int.tmod_nonneg _ (by omega)
    rw [Int.neg_tmod] at this
    rw [decide_eq_true hx, decide_eq_true (by omega)]
  · have : 0 ≤ x.tmod y := Int.tmod_nonneg _ (by omega)
    rw [decide_eq_false hx, decide_eq_false (by omega)]
theorem remV_sign (a b : BitVec 64) (h : b ≠ 0) (hr : S (remV a b) ≠ 0) : decide (S (remV a b) < 0) = decide (S a < 0) := by
  rw [S_remV a b h] at hr ⊢; exact tmod_sign _ _ hr
/-- how great a signed number is -/
def sizeV (n : BitVec 64) : BitVec 64 := if S n < 0 then -n else n
theorem U_sizeV (n : BitVec 64) : U (sizeV n) = (S n).natAbs := by
  have h := S_U n
  have h1 := U_lo n
  have h2 := U_hi n
  unfold sizeV
  split
  · rename_i hn
    rw [← neg_U, IntKind.wrap_u64]
    split at h <;> omega
  · split at h <;> omega
theorem sizeV_lt (a b : BitVec 64) (h : b ≠ 0) : U (sizeV (remV a b)) < U (sizeV b) := by
  rw [U_sizeV, U_sizeV, S_remV a b h]
  have hb : S b ≠ 0 := fun e => h ((S_zero_iff b).1 e)
  have := tmod_abs (S a) (S b) hb
  omega

/-! ### of 32 bits -/
theorem sh_eq_iff (x y : BitVec 64) : sh x = sh y ↔ x.setWidth 32 = y.setWidth 32 := by
  have e : ∀ z : BitVec 64, S (sh z) = (((z.setWidth 32).toNat : Int) + 2147483648) % 4294967296 - 2147483648 := by
    intro z; rw [S_sh, BitVec.toNat_setWidth]; unfold U; omega
  constructor
  · intro h
    have h1 := congrArg S h
    rw [e, e] at h1
    apply BitVec.eq_of_toNat_eq
    have l1 := (x.setWidth 32).isLt
    have l2 := (y.setWidth 32).isLt
    omega
  · intro h; apply S_inj; rw [e, e, h]
theorem sh_width (x : BitVec 64) : (sh x).setWidth 32 = x.setWidth 32 := (sh_eq_iff _ _).1 (sh_sh x)
theorem sh_mul_add (p y s : BitVec 64) : sh (sh p * y + sh s) = sh (p * y + s) := by
  rw [sh_eq_iff, BitVec.setWidth_add _ _ (by omega), BitVec.setWidth_add _ _ (by omega), BitVec.setWidth_mul _ _ (by omega), BitVec.setWidth_mul _ _ (by omega), sh_width, sh_width]
theorem short_mul (a b : BitVec 64) (h : sh b ≠ 0) : sh (sh (quoV (sh a) (sh b)) * sh b + sh (remV (sh a) (sh b))) = sh a := by
  rw [sh_mul_add, quoV_mul _ _ h, sh_sh]
theorem lo_small (x : BitVec 64) (h : U x < 4294967296) : lo x = x := by
  apply U_inj; rw [U_lo32]; have := U_lo x; omega
theorem lo_div (a b : BitVec 64) (h : lo b ≠ 0) : lo (sh (quoU (lo a) (lo b))) = lo a / lo b := by
  rw [lo_sh]; unfold quoU; rw [if_neg h]
  apply lo_small
  rw [← div_U]
  have h1 : U (lo a) < 4294967296 := by rw [U_lo32]; omega
  have h2 := U_lo (lo a)
  exact Int.lt_of_le_of_lt (Int.ediv_le_self _ h2) h1
theorem lo_mod (a b : BitVec 64) (h : lo b ≠ 0) : lo (sh (remU (lo a) (lo b))) = lo a % lo b := by
  rw [lo_sh]
  have h3 := remU_lt (lo a) (lo b) h
  have h1 : U (lo b) < 4294967296 := by rw [U_lo32]; omega
  rw [lo_small _ (by omega)]; unfold remU; rw [if_neg h]
theorem sh_zero_iff (b : BitVec 64) : sh b = 0 ↔ lo b = 0 := by
  constructor
  · intro h; rw [← lo_sh, h]; decide +kernel
  · intro h; rw [← sh_lo, h]; decide +kernel
end Go.Proofs.YtdiacnjkffdegaaGreat
