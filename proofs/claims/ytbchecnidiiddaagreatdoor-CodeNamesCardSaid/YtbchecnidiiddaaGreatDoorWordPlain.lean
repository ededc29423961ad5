/-
  Proved here: plain facts on words of 64 bits: what the walk's operations on integers are, as operations on bit vectors. No condition; no Go text is named.
-/
import Derived.WalkKit
namespace Go.Proofs.YtbchecnidiiddaaGreatDoor
open Go.RowKit

/-- a word, as the walk's integer -/
def U (b : BitVec 64) : Int := (b.toNat : Int)
/-- a signed word, as the walk's integer -/
def S (b : BitVec 64) : Int := b.toInt

theorem U_lo (b : BitVec 64) : 0 ≤ U b := by unfold U; omega
theorem U_hi (b : BitVec 64) : U b < 18446744073709551616 := by unfold U; have := b.isLt; omega
theorem ofInt_U (b : BitVec 64) : BitVec.ofInt 64 (U b) = b := by unfold U; rw [BitVec.ofInt_natCast, BitVec.ofNat_toNat, BitVec.setWidth_eq]
theorem ofInt_S (b : BitVec 64) : BitVec.ofInt 64 (S b) = b := BitVec.ofInt_toInt
theorem U_inj {a b : BitVec 64} (h : U a = U b) : a = b := by rw [← ofInt_U a, ← ofInt_U b, h]
theorem S_inj {a b : BitVec 64} (h : S a = S b) : a = b := by rw [← ofInt_S a, ← ofInt_S b, h]
theorem wrapU (n : Int) : IntKind.u64.wrap n = U (BitVec.ofInt 64 n) := by
  rw [IntKind.wrap_u64]; unfold U; rw [BitVec.toNat_ofInt]; omega
theorem wrapS (n : Int) : wrap64 n = S (BitVec.ofInt 64 n) := by
  unfold wrap64 S; rw [BitVec.toInt_ofInt, Int.bmod_def]; omega
theorem wrapU_U (b : BitVec 64) : IntKind.u64.wrap (U b) = U b := by rw [wrapU, ofInt_U]
theorem wrapU_S (b : BitVec 64) : IntKind.u64.wrap (S b) = U b := by rw [wrapU, ofInt_S]
theorem wrapS_U (b : BitVec 64) : wrap64 (U b) = S b := by rw [wrapS, ofInt_U]
theorem wf_U {a : Int} (w : (Lit.int .u64 a).wf = true) : ∃ b, a = U b := by
  refine ⟨BitVec.ofInt 64 a, ?_⟩
  rw [← wrapU, IntKind.wrap_u64]; simp [Lit.wf, IntKind.min, IntKind.max, IntKind.bits, IntKind.signed] at w; omega
theorem wf_S {a : Int} (w : (Lit.int .i64 a).wf = true) : ∃ b, a = S b := by
  refine ⟨BitVec.ofInt 64 a, ?_⟩
  rw [← wrapS]; unfold wrap64; simp [Lit.wf, IntKind.min, IntKind.max, IntKind.bits, IntKind.signed] at w; omega

theorem and_U (a b : BitVec 64) : bits .and .u64 (U a) (U b) = U (a &&& b) := by
  show IntKind.u64.wrap ((BitVec.ofInt 64 (U a) &&& BitVec.ofInt 64 (U b)).toNat : Int) = _
  rw [ofInt_U, ofInt_U]; exact wrapU_U _
theorem or_U (a b : BitVec 64) : bits .or .u64 (U a) (U b) = U (a ||| b) := by
  show IntKind.u64.wrap ((BitVec.ofInt 64 (U a) ||| BitVec.ofInt 64 (U b)).toNat : Int) = _
  rw [ofInt_U, ofInt_U]; exact wrapU_U _
theorem xor_U (a b : BitVec 64) : bits .xor .u64 (U a) (U b) = U (a ^^^ b) := by
  show IntKind.u64.wrap ((BitVec.ofInt 64 (U a) ^^^ BitVec.ofInt 64 (U b)).toNat : Int) = _
  rw [ofInt_U, ofInt_U]; exact wrapU_U _
theorem andNot_U (a b : BitVec 64) : bits .andNot .u64 (U a) (U b) = U (a &&& ~~~b) := by
  show IntKind.u64.wrap ((BitVec.ofInt 64 (U a) &&& ~~~BitVec.ofInt 64 (U b)).toNat : Int) = _
  rw [ofInt_U, ofInt_U]; exact wrapU_U _
theorem max_U : IntKind.u64.max = U (BitVec.allOnes 64) := by decide +kernel
theorem lit_U : (18446744073709551615 : Int) = U (BitVec.allOnes 64) := by decide +kernel
theorem shl_U (a : BitVec 64) (k : Nat) : IntKind.u64.wrap (U a * 2 ^ k) = U (a <<< k) := by
  rw [wrapU]
  congr 1
  apply BitVec.eq_of_toNat_eq
  rw [BitVec.toNat_ofInt, BitVec.toNat_shiftLeft, Nat.shiftLeft_eq]
  unfold U
  have : ((a.toNat : Int) * 2 ^ k) = ((a.toNat * 2 ^ k : Nat) : Int) := by simp
  rw [this]; omega
theorem shr_U (a : BitVec 64) (k : Nat) : U a / 2 ^ k = U (a >>> k) := by
  unfold U; rw [BitVec.toNat_ushiftRight, Nat.shiftRight_eq_div_pow]; simp
theorem shr_S (a : BitVec 64) (k : Nat) : S a / 2 ^ k = S (a.sshiftRight k) := by
  unfold S; rw [BitVec.toInt_sshiftRight, Int.shiftRight_eq_div_pow]; simp

/-! ### clamp, and the functions of the package, in the walk's spelling -/
def cl (n h : Int) : Int := if n < 0 then 0 else if h < n then h else n
theorem cl_lo (n h : Int) (hh : 0 ≤ h) : 0 ≤ cl n h := by unfold cl; split; omega; split <;> omega
theorem cl_hi (n h : Int) (hh : 0 ≤ h) : cl n h ≤ h := by unfold cl; split; omega; split <;> omega
theorem cl_in (n h : Int) (h0 : 0 ≤ n) (h1 : n ≤ h) : cl n h = n := by unfold cl; rw [if_neg (by omega), if_neg (by omega)]
/-- the bits that are meant -/
def ck (n : Int) : Nat := (cl n 64).toNat
theorem ck_hi (n : Int) : ck n ≤ 64 := by have := cl_hi n 64 (by omega); unfold ck; omega
theorem ck_in (n : Int) (h0 : 0 ≤ n) (h1 : n ≤ 64) : ck n = n.toNat := by unfold ck; rw [cl_in n 64 h0 h1]

def onesI (n : Int) : Int := bits .xor .u64 IntKind.u64.max (IntKind.u64.wrap (18446744073709551615 * 2 ^ (cl n 64).toNat))
def lowI (x n : Int) : Int := bits .and .u64 x (onesI n)
def partI (x f n : Int) : Int := lowI (x / 2 ^ (cl f 64).toNat) n
def putI (x f n v : Int) : Int :=
  bits .or .u64 (bits .andNot .u64 x (IntKind.u64.wrap (onesI n * 2 ^ (cl f 64).toNat)))
    (bits .and .u64 (IntKind.u64.wrap (v * 2 ^ (cl f 64).toNat)) (IntKind.u64.wrap (onesI n * 2 ^ (cl f 64).toNat)))
def signI (x n : Int) : Int := wrap64 (IntKind.u64.wrap (x * 2 ^ (64 - cl n 64).toNat)) / 2 ^ (64 - cl n 64).toNat
def fitsI (v n : Int) : Bool := signI (IntKind.u64.wrap v) n == v
def shortI (x : Int) : Int := IntKind.u64.wrap (signI x 32)

/-! ### the same of bit vectors -/
def ones (k : Nat) : BitVec 64 := ~~~(BitVec.allOnes 64 <<< k)
def low (x : BitVec 64) (k : Nat) : BitVec 64 := x &&& ones k
def part (x : BitVec 64) (f k : Nat) : BitVec 64 := low (x >>> f) k
def put (x : BitVec 64) (f k : Nat) (v : BitVec 64) : BitVec 64 := (x &&& ~~~(ones k <<< f)) ||| ((v <<< f) &&& (ones k <<< f))
def sign (x : BitVec 64) (k : Nat) : BitVec 64 := (x <<< (64 - k)).sshiftRight (64 - k)

theorem onesI_U (n : Int) : onesI n = U (ones (ck n)) := by
  unfold onesI ones ck
  rw [lit_U, max_U, shl_U, xor_U]
  congr 1
theorem lowI_U (x : BitVec 64) (n : Int) : lowI (U x) n = U (low x (ck n)) := by
  unfold lowI low; rw [onesI_U, and_U]
theorem partI_U (x : BitVec 64) (f n : Int) : partI (U x) f n = U (part x (ck f) (ck n)) := by
  unfold partI part; rw [shr_U, lowI_U]; rfl
theorem putI_U (x : BitVec 64) (f n : Int) (v : BitVec 64) : putI (U x) f n (U v) = U (put x (ck f) (ck n) v) := by
  unfold putI put; rw [onesI_U, shl_U, shl_U, andNot_U, and_U, or_U]; rfl
theorem signI_S (x : BitVec 64) (n : Int) : signI (U x) n = S (sign x (ck n)) := by
  unfold signI sign; rw [shl_U, wrapS_U, shr_S]
  have := cl_lo n 64 (by omega)
  have e : (64 - cl n 64).toNat = 64 - ck n := by unfold ck; omega
  rw [e]
theorem fitsI_S (v : BitVec 64) (n : Int) : fitsI (S v) n = (S (sign v (ck n)) == S v) := by
  unfold fitsI; rw [wrapU_S, signI_S]
theorem shortI_U (x : BitVec 64) : shortI (U x) = U (sign x 32) := by
  unfold shortI; rw [signI_S, wrapU_S]; rfl

/-! ### bit by bit -/
theorem bit_ones (k i : Nat) (hi : i < 64) : (ones k).getLsbD i = decide (i < k) := by
  unfold ones
  rw [BitVec.getLsbD_not, BitVec.getLsbD_shiftLeft, BitVec.getLsbD_allOnes]
  by_cases h : i < k <;> simp [h, hi] <;> omega
theorem bit_low (x : BitVec 64) (k i : Nat) : (low x k).getLsbD i = (x.getLsbD i && decide (i < k)) := by
  unfold low
  by_cases hi : i < 64
  · rw [BitVec.getLsbD_and, bit_ones k i hi]
  · rw [BitVec.getLsbD_of_ge _ i (by omega), BitVec.getLsbD_of_ge _ i (by omega)]; rfl
theorem bit_part (x : BitVec 64) (f k i : Nat) : (part x f k).getLsbD i = (x.getLsbD (f + i) && decide (i < k)) := by
  unfold part; rw [bit_low, BitVec.getLsbD_ushiftRight]
theorem bit_put (x : BitVec 64) (f k : Nat) (v : BitVec 64) (i : Nat) (hi : i < 64) :
    (put x f k v).getLsbD i = if f ≤ i ∧ i < f + k then v.getLsbD (i - f) else x.getLsbD i := by
  unfold put
  rw [BitVec.getLsbD_or, BitVec.getLsbD_and, BitVec.getLsbD_and, BitVec.getLsbD_not, BitVec.getLsbD_shiftLeft, BitVec.getLsbD_shiftLeft]
  by_cases h : f ≤ i
  · rw [bit_ones k (i - f) (by omega)]
    by_cases h2 : i < f + k
    · have : i - f < k := by omega
      have h' : ¬ i < f := by omega
      simp [h, h', h2, hi, this]
    · have : ¬ i - f < k := by omega
      have h' : ¬ i < f := by omega
      simp [h, h', h2, hi, this]
  · have h2 : i < f := by omega
    simp [h, hi, h2]
theorem bit_sign (x : BitVec 64) (k i : Nat) (hk : k ≤ 64) (hi : i < 64) :
    (sign x k).getLsbD i = if k = 0 then false else if i < k then x.getLsbD i else x.getLsbD (k - 1) := by
  unfold sign
  rw [BitVec.getLsbD_sshiftRight, BitVec.msb_shiftLeft, BitVec.getMsbD_eq_getLsbD, BitVec.getLsbD_shiftLeft]
  by_cases h0 : k = 0
  · subst h0; simp [hi]
  · by_cases h : i < k
    · have e : 64 - k + i - (64 - k) = i := by omega
      have e1 : 64 - k + i < 64 := by omega
      have e2 : ¬ 64 - k + i < 64 - k := by omega
      have e4 : ¬ 64 ≤ i := by omega
      simp [h0, h, e, e1, e2, e4, hi]
    · have e1 : ¬ 64 - k + i < 64 := by omega
      have e2 : 64 - 1 - (64 - k) = k - 1 := by omega
      have e3 : 64 - k < 64 := by omega
      have e4 : ¬ 64 ≤ i := by omega
      simp [h0, h, e1, e2, e3, e4]
theorem bits_ext {a b : BitVec 64} (h : ∀ i, i < 64 → a.getLsbD i = b.getLsbD i) : a = b := BitVec.eq_of_getLsbD_eq h
end Go.Proofs.YtbchecnidiiddaaGreatDoor
