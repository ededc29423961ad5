/-
  Proved here: the law AluShort returns true at every op and every four words, and what was there is as it was. No condition.
-/
import Derived.Test.YtdapbaakcpjafaaAluLives
import Derived.Test.YtdapbaakcpjafaaAluRefs
import Derived.Test.YtdapbaakcpjafaaAluDivPlain
namespace Go.Proofs.Ytdapbaakcpjafaa
open Go.RowKit
theorem plain_in : ∀ r : Fin 41, plainI (22 + (r.val : Int)) = ((plainI (22 + (r.val : Int))).toNat : Int) ∧ 35 ≤ (plainI (22 + (r.val : Int))).toNat ∧ (plainI (22 + (r.val : Int))).toNat ≤ 62 := by decide +kernel
theorem lo_width {x y : BitVec 64} (h : lo x = lo y) : x.setWidth 32 = y.setWidth 32 := by
  rw [← sh_eq_iff, ← sh_lo x, h, sh_lo]
theorem lo_far5 {x y : BitVec 64} (h : lo x = lo y) : far5 x = far5 y := by
  have h1 := congrArg BitVec.toNat h
  rw [lo_nat, lo_nat] at h1
  unfold far5; rw [low_nat, low_nat]
  show x.toNat % 32 = y.toNat % 32
  omega
theorem lo_sh' {x y : BitVec 64} (h : lo x = lo y) : sh x = sh y := by rw [← sh_lo x, h, sh_lo]
theorem shl_mul (a : BitVec 64) (r : Nat) : a <<< r = a * (1#64 <<< r) := by
  apply BitVec.eq_of_toNat_eq
  rw [BitVec.toNat_mul, BitVec.toNat_shiftLeft, BitVec.toNat_shiftLeft, Nat.shiftLeft_eq, Nat.shiftLeft_eq, Nat.mul_mod_mod]
  show _ = a.toNat * (1 * 2 ^ r) % 2 ^ 64
  rw [Nat.one_mul]
theorem sh_add' {a b c d : BitVec 64} (h : a.setWidth 32 = c.setWidth 32) (h' : b.setWidth 32 = d.setWidth 32) : sh (a + b) = sh (c + d) := by
  rw [sh_eq_iff, BitVec.setWidth_add _ _ (by omega), BitVec.setWidth_add _ _ (by omega), h, h']
theorem sh_mul' {a b c d : BitVec 64} (h : a.setWidth 32 = c.setWidth 32) (h' : b.setWidth 32 = d.setWidth 32) : sh (a * b) = sh (c * d) := by
  rw [sh_eq_iff, BitVec.setWidth_mul _ _ (by omega), BitVec.setWidth_mul _ _ (by omega), h, h']
theorem sub_mul (a b : BitVec 64) : a - b = a + b * BitVec.allOnes 64 := by
  have e : b * BitVec.allOnes 64 = -b := by
    rw [← BitVec.neg_one_eq_allOnes, BitVec.mul_neg, BitVec.mul_one]
  rw [e, BitVec.sub_eq_add_neg]
theorem sh_small (x : BitVec 64) (h : -2147483648 ≤ S x) (h' : S x ≤ 2147483647) : sh x = x := by
  apply S_inj; rw [S_sh]
  have h1 := S_U x
  have h2 := U_lo x
  have h3 := U_hi x
  split at h1 <;> omega
theorem sh_sra (x : BitVec 64) (k : Nat) : sh ((sh x).sshiftRight k) = (sh x).sshiftRight k := by
  have h := S_sh x
  have hp : (0 : Int) < 2 ^ k := Int.pow_pos (by decide)
  have l : -2147483648 ≤ S (sh x) ∧ S (sh x) ≤ 2147483647 := by omega
  apply sh_small
  · rw [← shr_S, Int.le_ediv_iff_mul_le hp]
    have : (2147483648 : Int) * 1 ≤ 2147483648 * 2 ^ k := Int.mul_le_mul_of_nonneg_left hp (by omega)
    omega
  · rw [← shr_S]
    by_cases h0 : 0 ≤ S (sh x)
    · exact Int.le_trans (Int.ediv_le_self _ h0) l.2
    · have : S (sh x) / 2 ^ k < 0 := Int.ediv_neg_of_neg_of_pos (by omega) hp
      omega
/-- a short op hangs on the lowest 32 bits, and answers 32, signed -/
theorem short_op (k : Nat) (hk : (k = 45 ∨ k = 46 ∨ k = 47 ∨ k = 48 ∨ k = 49) ∨ (k = 58 ∨ k = 59 ∨ k = 60 ∨ k = 61 ∨ k = 62)) {a b c d : BitVec 64} (h : lo a = lo c) (h' : lo b = lo d) :
    doV k a b = doV k c d ∧ sh (doV k a b) = doV k a b := by
  have w1 := lo_width h
  have w2 := lo_width h'
  have f := lo_far5 h'
  have s1 := lo_sh' h
  have s2 := lo_sh' h'
  rcases hk with (rfl | rfl | rfl | rfl | rfl) | (rfl | rfl | rfl | rfl | rfl)
  · exact ⟨sh_add' w1 w2, sh_sh _⟩
  · refine ⟨?_, sh_sh _⟩
    show sh (a - b) = sh (c - d)
    rw [sub_mul, sub_mul]
    refine sh_add' w1 ?_
    rw [BitVec.setWidth_mul _ _ (by omega), BitVec.setWidth_mul _ _ (by omega), w2]
  · refine ⟨?_, sh_sh _⟩
    show sh (a <<< far5 b) = sh (c <<< far5 d)
    rw [f, shl_mul, shl_mul c]
    exact sh_mul' w1 rfl
  · refine ⟨?_, sh_sh _⟩
    show sh (lo a >>> far5 b) = sh (lo c >>> far5 d)
    rw [f, h]
  · refine ⟨?_, sh_sra _ _⟩
    show (sh a).sshiftRight (far5 b) = (sh c).sshiftRight (far5 d)
    rw [f, s1]
  · exact ⟨sh_mul' w1 w2, sh_sh _⟩
  · refine ⟨?_, sh_sh _⟩
    show sh (quoV (sh a) (sh b)) = sh (quoV (sh c) (sh d))
    rw [s1, s2]
  · refine ⟨?_, sh_sh _⟩
    show sh (quoU (lo a) (lo b)) = sh (quoU (lo c) (lo d))
    rw [h, h']
  · refine ⟨?_, sh_sh _⟩
    show sh (remV (sh a) (sh b)) = sh (remV (sh c) (sh d))
    rw [s1, s2]
  · refine ⟨?_, sh_sh _⟩
    show sh (remU (lo a) (lo b)) = sh (remU (lo c) (lo d))
    rw [h, h']
theorem lo_or (a c : BitVec 64) : lo (lo a ||| c <<< 32) = lo a := by
  unfold lo
  apply bits_ext
  intro i hi
  rw [bit_low, BitVec.getLsbD_or, bit_low, BitVec.getLsbD_shiftLeft]
  by_cases h : i < 32 <;> simp [h]
theorem lo_lo (a : BitVec 64) : lo (lo a) = lo a := lo_sh a ▸ by
  rw [← lo_sh, sh_lo, lo_sh]
theorem and_lo (a : BitVec 64) : bits .and .u64 (U a) 4294967295 = U (lo a) := by
  have e : (4294967295 : Int) = U (ones 32) := by decide +kernel
  rw [e, and_U]; rfl
theorem shl_32 (c : BitVec 64) : IntKind.u64.wrap (U c * 4294967296) = U (c <<< 32) := shl_U c 32
set_option maxRecDepth 100000 in
set_option maxHeartbeats 1000000 in
theorem short_A (o a b c d : BitVec 64) (r k : Nat) (hr : pickI (S o) 41 = (r : Int)) (hr' : r < 41) (hk : plainI (22 + (r : Int)) = k) (h35 : 35 ≤ k) (h62 : k ≤ 62) (h45 : 45 ≤ k) (h49 : k ≤ 49) (w : World) :
    Calls Try.prog 7 #[.int .i64 (S o), .int .u64 (U a), .int .u64 (U b), .int .u64 (U c), .int .u64 (U d)] w fun e w' => e = .returned (.bool true) ∧ Below w.heap.size w w' := by
  have HB := Lib.hid (Below.refl w.heap.size w)
  have HP := Lib.hid hr
  have lk := S_lo o
  have uk := S_hi o
  have HD1 := Lib.hid (Do_own (22 + (r : Int)) k a b hk h35 h62)
  have HD2 := Lib.hid (Do_own (k : Int) k a b (plain_own k h35 h62) h35 h62)
  have HP1 := Lib.hid (show ∀ w, Calls Try.prog 16 #[.int .i64 (22 + (r : Int))] w fun e w' => e = .returned (.int .i64 (k : Int)) ∧ Below w.heap.size w w' from hk ▸ Plain_any _)
  have HP2 := Lib.hid (show ∀ w, Calls Try.prog 16 #[.int .i64 (k : Int)] w fun e w' => e = .returned (.int .i64 (k : Int)) ∧ Below w.heap.size w w' by
    have h := Plain_any (k : Int); rw [plain_own k h35 h62] at h; exact h)
  have HD3 := Lib.hid (do_own k h35 h62 (lo a ||| c <<< 32) (lo b ||| d <<< 32))
  have g1 : decide ((k : Int) < 35) = false := by simp; omega
  have g2 : decide (62 < (k : Int)) = false := by simp; omega
  have a1 := and_lo a
  have a2 := and_lo b
  have a3 := shl_32 c
  have a4 := shl_32 d
  have a5 := or_U (lo a) (c <<< 32)
  have a6 := or_U (lo b) (d <<< 32)
  obtain ⟨t1, t2⟩ := short_op k (by omega) (show lo a = lo (lo a ||| c <<< 32) from (lo_or a c).symm) (show lo b = lo (lo b ||| d <<< 32) from (lo_or b d).symm)
  have z1 : U (doV k (lo a ||| c <<< 32) (lo b ||| d <<< 32)) = U (doV k a b) := by rw [← t1]
  have z2 : U (sh (doV k a b)) = U (doV k a b) := by rw [t2]
  clear t1 t2
  have g3 : decide (45 ≤ (k : Int)) = true := by simp; omega
  have g4 : decide ((k : Int) ≤ 49) = true := by simp; omega
  clear h45 h49
  clear hr hk h35 h62
  go_enter Try.func7, Try.ntmps7
  go_wp2_with (first | (go_at_call 14; (with_reducible refine (lives_any _).mono ?_); rintro e w' ⟨rfl, hb⟩; have HB := Lib.hid (HB.out.trans (hb.mono HB.out.size)); clear hb) | (go_at_call 24; (with_reducible refine (Pick_hid HP (by omega) (by omega) (by omega) _).mono ?_); rintro e w' ⟨rfl, rfl⟩) | (go_at_call 10; (with_reducible refine (HD1.out _).mono ?_); rintro e w' ⟨rfl, hb⟩; have HB := Lib.hid (HB.out.trans (hb.mono HB.out.size)); clear hb) | (go_at_call 10; (with_reducible refine (HD2.out _).mono ?_); rintro e w' ⟨rfl, hb⟩; have HB := Lib.hid (HB.out.trans (hb.mono HB.out.size)); clear hb) | (go_at_call 16; (with_reducible refine (HP1.out _).mono ?_); rintro e w' ⟨rfl, hb⟩; have HB := Lib.hid (HB.out.trans (hb.mono HB.out.size)); clear hb) | (go_at_call 16; (with_reducible refine (HP2.out _).mono ?_); rintro e w' ⟨rfl, hb⟩; have HB := Lib.hid (HB.out.trans (hb.mono HB.out.size)); clear hb) | (go_at_call 15; (with_reducible refine (HD3.out _).mono ?_); rintro e w' ⟨rfl, hb⟩; have HB := Lib.hid (HB.out.trans (hb.mono HB.out.size)); clear hb) | (go_at_call 22; (with_reducible refine (rshort_U _ _).mono ?_); rintro e w' ⟨rfl, rfl⟩))
  go_ret
  exact ⟨rfl, HB.out⟩
set_option maxRecDepth 100000 in
set_option maxHeartbeats 1000000 in
theorem short_B (o a b c d : BitVec 64) (r k : Nat) (hr : pickI (S o) 41 = (r : Int)) (hr' : r < 41) (hk : plainI (22 + (r : Int)) = k) (h35 : 35 ≤ k) (h62 : k ≤ 62) (h58 : 58 ≤ k) (w : World) :
    Calls Try.prog 7 #[.int .i64 (S o), .int .u64 (U a), .int .u64 (U b), .int .u64 (U c), .int .u64 (U d)] w fun e w' => e = .returned (.bool true) ∧ Below w.heap.size w w' := by
  have HB := Lib.hid (Below.refl w.heap.size w)
  have HP := Lib.hid hr
  have lk := S_lo o
  have uk := S_hi o
  have HD1 := Lib.hid (Do_own (22 + (r : Int)) k a b hk h35 h62)
  have HD2 := Lib.hid (Do_own (k : Int) k a b (plain_own k h35 h62) h35 h62)
  have HP1 := Lib.hid (show ∀ w, Calls Try.prog 16 #[.int .i64 (22 + (r : Int))] w fun e w' => e = .returned (.int .i64 (k : Int)) ∧ Below w.heap.size w w' from hk ▸ Plain_any _)
  have HP2 := Lib.hid (show ∀ w, Calls Try.prog 16 #[.int .i64 (k : Int)] w fun e w' => e = .returned (.int .i64 (k : Int)) ∧ Below w.heap.size w w' by
    have h := Plain_any (k : Int); rw [plain_own k h35 h62] at h; exact h)
  have HD3 := Lib.hid (do_own k h35 h62 (lo a ||| c <<< 32) (lo b ||| d <<< 32))
  have g1 : decide ((k : Int) < 35) = false := by simp; omega
  have g2 : decide (62 < (k : Int)) = false := by simp; omega
  have a1 := and_lo a
  have a2 := and_lo b
  have a3 := shl_32 c
  have a4 := shl_32 d
  have a5 := or_U (lo a) (c <<< 32)
  have a6 := or_U (lo b) (d <<< 32)
  obtain ⟨t1, t2⟩ := short_op k (by omega) (show lo a = lo (lo a ||| c <<< 32) from (lo_or a c).symm) (show lo b = lo (lo b ||| d <<< 32) from (lo_or b d).symm)
  have z1 : U (doV k (lo a ||| c <<< 32) (lo b ||| d <<< 32)) = U (doV k a b) := by rw [← t1]
  have z2 : U (sh (doV k a b)) = U (doV k a b) := by rw [t2]
  clear t1 t2
  have g3 : decide (45 ≤ (k : Int)) = true := by simp; omega
  have g4 : decide ((k : Int) ≤ 49) = false := by simp; omega
  have g5 : decide (58 ≤ (k : Int)) = true := by simp; omega
  clear h58
  clear hr hk h35 h62
  go_enter Try.func7, Try.ntmps7
  go_wp2_with (first | (go_at_call 14; (with_reducible refine (lives_any _).mono ?_); rintro e w' ⟨rfl, hb⟩; have HB := Lib.hid (HB.out.trans (hb.mono HB.out.size)); clear hb) | (go_at_call 24; (with_reducible refine (Pick_hid HP (by omega) (by omega) (by omega) _).mono ?_); rintro e w' ⟨rfl, rfl⟩) | (go_at_call 10; (with_reducible refine (HD1.out _).mono ?_); rintro e w' ⟨rfl, hb⟩; have HB := Lib.hid (HB.out.trans (hb.mono HB.out.size)); clear hb) | (go_at_call 10; (with_reducible refine (HD2.out _).mono ?_); rintro e w' ⟨rfl, hb⟩; have HB := Lib.hid (HB.out.trans (hb.mono HB.out.size)); clear hb) | (go_at_call 16; (with_reducible refine (HP1.out _).mono ?_); rintro e w' ⟨rfl, hb⟩; have HB := Lib.hid (HB.out.trans (hb.mono HB.out.size)); clear hb) | (go_at_call 16; (with_reducible refine (HP2.out _).mono ?_); rintro e w' ⟨rfl, hb⟩; have HB := Lib.hid (HB.out.trans (hb.mono HB.out.size)); clear hb) | (go_at_call 15; (with_reducible refine (HD3.out _).mono ?_); rintro e w' ⟨rfl, hb⟩; have HB := Lib.hid (HB.out.trans (hb.mono HB.out.size)); clear hb) | (go_at_call 22; (with_reducible refine (rshort_U _ _).mono ?_); rintro e w' ⟨rfl, rfl⟩))
  go_ret
  exact ⟨rfl, HB.out⟩
set_option maxRecDepth 100000 in
set_option maxHeartbeats 1000000 in
theorem short_C (o a b c d : BitVec 64) (r k : Nat) (hr : pickI (S o) 41 = (r : Int)) (hr' : r < 41) (hk : plainI (22 + (r : Int)) = k) (h35 : 35 ≤ k) (h62 : k ≤ 62) (h49 : 49 < k) (h58 : k < 58) (w : World) :
    Calls Try.prog 7 #[.int .i64 (S o), .int .u64 (U a), .int .u64 (U b), .int .u64 (U c), .int .u64 (U d)] w fun e w' => e = .returned (.bool true) ∧ Below w.heap.size w w' := by
  have HB := Lib.hid (Below.refl w.heap.size w)
  have HP := Lib.hid hr
  have lk := S_lo o
  have uk := S_hi o
  have HD1 := Lib.hid (Do_own (22 + (r : Int)) k a b hk h35 h62)
  have HD2 := Lib.hid (Do_own (k : Int) k a b (plain_own k h35 h62) h35 h62)
  have HP1 := Lib.hid (show ∀ w, Calls Try.prog 16 #[.int .i64 (22 + (r : Int))] w fun e w' => e = .returned (.int .i64 (k : Int)) ∧ Below w.heap.size w w' from hk ▸ Plain_any _)
  have HP2 := Lib.hid (show ∀ w, Calls Try.prog 16 #[.int .i64 (k : Int)] w fun e w' => e = .returned (.int .i64 (k : Int)) ∧ Below w.heap.size w w' by
    have h := Plain_any (k : Int); rw [plain_own k h35 h62] at h; exact h)
  have HD3 := Lib.hid (do_own k h35 h62 (lo a ||| c <<< 32) (lo b ||| d <<< 32))
  have g1 : decide ((k : Int) < 35) = false := by simp; omega
  have g2 : decide (62 < (k : Int)) = false := by simp; omega
  have a1 := and_lo a
  have a2 := and_lo b
  have a3 := shl_32 c
  have a4 := shl_32 d
  have a5 := or_U (lo a) (c <<< 32)
  have a6 := or_U (lo b) (d <<< 32)
  have g3 : decide (45 ≤ (k : Int)) = true := by simp; omega
  have g4 : decide ((k : Int) ≤ 49) = false := by simp; omega
  have g5 : decide (58 ≤ (k : Int)) = false := by simp; omega
  clear h49 h58
  clear hr hk h35 h62
  go_enter Try.func7, Try.ntmps7
  go_wp2_with (first | (go_at_call 14; (with_reducible refine (lives_any _).mono ?_); rintro e w' ⟨rfl, hb⟩; have HB := Lib.hid (HB.out.trans (hb.mono HB.out.size)); clear hb) | (go_at_call 24; (with_reducible refine (Pick_hid HP (by omega) (by omega) (by omega) _).mono ?_); rintro e w' ⟨rfl, rfl⟩) | (go_at_call 10; (with_reducible refine (HD1.out _).mono ?_); rintro e w' ⟨rfl, hb⟩; have HB := Lib.hid (HB.out.trans (hb.mono HB.out.size)); clear hb) | (go_at_call 10; (with_reducible refine (HD2.out _).mono ?_); rintro e w' ⟨rfl, hb⟩; have HB := Lib.hid (HB.out.trans (hb.mono HB.out.size)); clear hb) | (go_at_call 16; (with_reducible refine (HP1.out _).mono ?_); rintro e w' ⟨rfl, hb⟩; have HB := Lib.hid (HB.out.trans (hb.mono HB.out.size)); clear hb) | (go_at_call 16; (with_reducible refine (HP2.out _).mono ?_); rintro e w' ⟨rfl, hb⟩; have HB := Lib.hid (HB.out.trans (hb.mono HB.out.size)); clear hb) | (go_at_call 15; (with_reducible refine (HD3.out _).mono ?_); rintro e w' ⟨rfl, hb⟩; have HB := Lib.hid (HB.out.trans (hb.mono HB.out.size)); clear hb) | (go_at_call 22; (with_reducible refine (rshort_U _ _).mono ?_); rintro e w' ⟨rfl, rfl⟩))
  go_ret
  exact ⟨rfl, HB.out⟩
set_option maxRecDepth 100000 in
set_option maxHeartbeats 1000000 in
theorem short_D (o a b c d : BitVec 64) (r k : Nat) (hr : pickI (S o) 41 = (r : Int)) (hr' : r < 41) (hk : plainI (22 + (r : Int)) = k) (h35 : 35 ≤ k) (h62 : k ≤ 62) (h45 : k < 45) (w : World) :
    Calls Try.prog 7 #[.int .i64 (S o), .int .u64 (U a), .int .u64 (U b), .int .u64 (U c), .int .u64 (U d)] w fun e w' => e = .returned (.bool true) ∧ Below w.heap.size w w' := by
  have HB := Lib.hid (Below.refl w.heap.size w)
  have HP := Lib.hid hr
  have lk := S_lo o
  have uk := S_hi o
  have HD1 := Lib.hid (Do_own (22 + (r : Int)) k a b hk h35 h62)
  have HD2 := Lib.hid (Do_own (k : Int) k a b (plain_own k h35 h62) h35 h62)
  have HP1 := Lib.hid (show ∀ w, Calls Try.prog 16 #[.int .i64 (22 + (r : Int))] w fun e w' => e = .returned (.int .i64 (k : Int)) ∧ Below w.heap.size w w' from hk ▸ Plain_any _)
  have HP2 := Lib.hid (show ∀ w, Calls Try.prog 16 #[.int .i64 (k : Int)] w fun e w' => e = .returned (.int .i64 (k : Int)) ∧ Below w.heap.size w w' by
    have h := Plain_any (k : Int); rw [plain_own k h35 h62] at h; exact h)
  have HD3 := Lib.hid (do_own k h35 h62 (lo a ||| c <<< 32) (lo b ||| d <<< 32))
  have g1 : decide ((k : Int) < 35) = false := by simp; omega
  have g2 : decide (62 < (k : Int)) = false := by simp; omega
  have a1 := and_lo a
  have a2 := and_lo b
  have a3 := shl_32 c
  have a4 := shl_32 d
  have a5 := or_U (lo a) (c <<< 32)
  have a6 := or_U (lo b) (d <<< 32)
  have g3 : decide (45 ≤ (k : Int)) = false := by simp; omega
  have g5 : decide (58 ≤ (k : Int)) = false := by simp; omega
  clear h45
  clear hr hk h35 h62
  go_enter Try.func7, Try.ntmps7
  go_wp2_with (first | (go_at_call 14; (with_reducible refine (lives_any _).mono ?_); rintro e w' ⟨rfl, hb⟩; have HB := Lib.hid (HB.out.trans (hb.mono HB.out.size)); clear hb) | (go_at_call 24; (with_reducible refine (Pick_hid HP (by omega) (by omega) (by omega) _).mono ?_); rintro e w' ⟨rfl, rfl⟩) | (go_at_call 10; (with_reducible refine (HD1.out _).mono ?_); rintro e w' ⟨rfl, hb⟩; have HB := Lib.hid (HB.out.trans (hb.mono HB.out.size)); clear hb) | (go_at_call 10; (with_reducible refine (HD2.out _).mono ?_); rintro e w' ⟨rfl, hb⟩; have HB := Lib.hid (HB.out.trans (hb.mono HB.out.size)); clear hb) | (go_at_call 16; (with_reducible refine (HP1.out _).mono ?_); rintro e w' ⟨rfl, hb⟩; have HB := Lib.hid (HB.out.trans (hb.mono HB.out.size)); clear hb) | (go_at_call 16; (with_reducible refine (HP2.out _).mono ?_); rintro e w' ⟨rfl, hb⟩; have HB := Lib.hid (HB.out.trans (hb.mono HB.out.size)); clear hb) | (go_at_call 15; (with_reducible refine (HD3.out _).mono ?_); rintro e w' ⟨rfl, hb⟩; have HB := Lib.hid (HB.out.trans (hb.mono HB.out.size)); clear hb) | (go_at_call 22; (with_reducible refine (rshort_U _ _).mono ?_); rintro e w' ⟨rfl, rfl⟩))
  go_ret
  exact ⟨rfl, HB.out⟩
theorem short_law (o a b c d : BitVec 64) (w : World) :
    Calls Try.prog 7 #[.int .i64 (S o), .int .u64 (U a), .int .u64 (U b), .int .u64 (U c), .int .u64 (U d)] w fun e w' => e = .returned (.bool true) ∧ Below w.heap.size w w' := by
  obtain ⟨r, hr, hr'⟩ := pick_is (S o) 41 (by omega)
  obtain ⟨h1, h2, h3⟩ := plain_in ⟨r, by omega⟩
  by_cases h : (plainI (22 + (r : Int))).toNat < 45
  · exact short_D o a b c d r _ hr (by omega) h1 h2 h3 h w
  · by_cases h' : (plainI (22 + (r : Int))).toNat ≤ 49
    · exact short_A o a b c d r _ hr (by omega) h1 h2 h3 (Nat.le_of_not_lt h) h' w
    · by_cases h'' : (plainI (22 + (r : Int))).toNat < 58
      · exact short_C o a b c d r _ hr (by omega) h1 h2 h3 (Nat.lt_of_not_le h') h'' w
      · exact short_B o a b c d r _ hr (by omega) h1 h2 h3 (Nat.le_of_not_lt h'') w
end Go.Proofs.Ytdapbaakcpjafaa
