/-
  Proved here: the law AluRing returns true at every three words and every place, and what was there is as it was. No condition.
-/
import Derived.Test.YtdapbaakcpjafaaAluLives
import Derived.Test.YtdapbaakcpjafaaAluRefs
namespace Go.Proofs.Ytdapbaakcpjafaa
open Go.RowKit
theorem or_split (a b : BitVec 64) : a ||| b = (a &&& b) + (a ^^^ b) := by
  have e : (a &&& b) &&& (a ^^^ b) = 0#64 := by
    apply bits_ext
    intro i hi
    rw [BitVec.getLsbD_and, BitVec.getLsbD_and, BitVec.getLsbD_xor, BitVec.getLsbD_zero]
    cases a.getLsbD i <;> cases b.getLsbD i <;> rfl
  rw [BitVec.add_eq_or_of_and_eq_zero _ _ e]
  apply bits_ext
  intro i hi
  rw [BitVec.getLsbD_or, BitVec.getLsbD_or, BitVec.getLsbD_and, BitVec.getLsbD_xor]
  cases a.getLsbD i <;> cases b.getLsbD i <;> rfl
theorem far6_nat (r : Nat) (h : r < 64) : far6 (BitVec.ofNat 64 r) = r := by
  unfold far6; rw [low_nat, BitVec.toNat_ofNat]; omega
theorem far6_64 (r : Nat) (h : r < 64) : far6 (BitVec.ofNat 64 (r + 64)) = r := by
  unfold far6; rw [low_nat, BitVec.toNat_ofNat]; omega
theorem U_ofNat (r : Nat) (h : r < 18446744073709551616) : U (BitVec.ofNat 64 r) = (r : Int) := by
  unfold U; rw [BitVec.toNat_ofNat, Nat.mod_eq_of_lt h]
theorem shl_mul (a : BitVec 64) (r : Nat) : a <<< r = a * (1#64 <<< r) := by
  apply BitVec.eq_of_toNat_eq
  rw [BitVec.toNat_mul, BitVec.toNat_shiftLeft, BitVec.toNat_shiftLeft, Nat.shiftLeft_eq, Nat.shiftLeft_eq, Nat.mul_mod_mod]
  show _ = a.toNat * (1 * 2 ^ r) % 2 ^ 64
  rw [Nat.one_mul]
theorem shr_div (a : BitVec 64) (r : Nat) (h : r < 64) : a >>> r = quoU a (1#64 <<< r) := by
  have e : (1#64 <<< r).toNat = 2 ^ r := by
    rw [BitVec.toNat_shiftLeft, Nat.shiftLeft_eq]
    show 1 * 2 ^ r % 2 ^ 64 = _
    rw [Nat.one_mul, Nat.mod_eq_of_lt (Nat.pow_lt_pow_right (by omega) h)]
  have h0 : 1#64 <<< r ≠ 0 := by
    intro hz
    have h1 := congrArg BitVec.toNat hz
    rw [e] at h1
    have h2 : 0 < 2 ^ r := Nat.two_pow_pos r
    have h3 : (0 : BitVec 64).toNat = 0 := rfl
    omega
  unfold quoU; rw [if_neg h0]
  apply BitVec.eq_of_toNat_eq
  rw [BitVec.toNat_ushiftRight, BitVec.toNat_udiv, e, Nat.shiftRight_eq_div_pow]
theorem sra_pos (a : BitVec 64) (r : Nat) (h : 0 ≤ S a) : a.sshiftRight r = a >>> r := by
  have hm : a.msb = false := by
    rw [BitVec.msb_eq_false_iff_two_mul_lt]
    have h1 := S_U a
    have h2 := U_lo a
    have h3 : U a = a.toNat := rfl
    split at h1 <;> omega
  exact BitVec.sshiftRight_eq_of_msb_false hm
theorem sra_not (a : BitVec 64) (r : Nat) : (a ^^^ BitVec.allOnes 64).sshiftRight r ^^^ BitVec.allOnes 64 = a.sshiftRight r := by
  apply bits_ext
  intro i hi
  have hm : (a ^^^ BitVec.allOnes 64).msb = !a.msb := by
    rw [BitVec.msb_xor, BitVec.msb_allOnes (by omega)]; simp
  rw [BitVec.getLsbD_xor, BitVec.getLsbD_sshiftRight, BitVec.getLsbD_sshiftRight, BitVec.getLsbD_allOnes, hm, BitVec.getLsbD_xor, BitVec.getLsbD_allOnes]
  have h64 : ¬ 64 ≤ i := by omega
  by_cases h : r + i < 64 <;> simp [h, hi, h64]
theorem ne_same (x : Int) : (x != x) = false := by simp
theorem eq_same (x : Int) : (x == x) = true := by simp
theorem ne_of (a b : BitVec 64) (h : a = b) : (U a != U b) = false := by rw [h]; simp
theorem do_40m (a : BitVec 64) (w : World) : Calls Try.prog 15 #[.int .i64 40, .int .u64 (U a), .int .u64 18446744073709551615] w fun x w' => x = .returned (.int .u64 (U (a ^^^ 18446744073709551615#64))) ∧ Below w.heap.size w w' := lit_do (do_40 a (BitVec.allOnes 64)) rfl (by decide +kernel) rfl w
set_option maxRecDepth 100000 in
set_option maxHeartbeats 1000000 in
theorem ring_pos (a b c k : BitVec 64) (hs : 0 ≤ S a) (w : World) : Calls Try.prog 9 #[.int .u64 (U a), .int .u64 (U b), .int .u64 (U c), .int .i64 (S k)] w fun e w' => e = .returned (.bool true) ∧ Below w.heap.size w w' := by
  have HB := Lib.hid (Below.refl w.heap.size w)
  obtain ⟨r, hr, hr'⟩ := pick_is (S k) 64 (by omega)
  have hr64 : r < 64 := by omega
  have HP := Lib.hid hr
  have lk := S_lo k
  have hk := S_hi k
  obtain ⟨n, hn⟩ : ∃ n, n = BitVec.ofNat 64 r := ⟨_, rfl⟩
  obtain ⟨n2, hn2⟩ : ∃ n, n = BitVec.ofNat 64 (r + 64) := ⟨_, rfl⟩
  obtain ⟨p, hp⟩ : ∃ p, p = 1#64 <<< r := ⟨_, rfl⟩
  have f1 : far6 n = r := by rw [hn]; exact far6_nat r hr64
  have f2 : far6 n2 = r := by rw [hn2]; exact far6_64 r hr64
  have u0 : U n = (r : Int) := by rw [hn]; exact U_ofNat r (by omega)
  have u2 : U n2 = (r : Int) + 64 := by rw [hn2, U_ofNat _ (by omega)]; omega
  have e1 : IntKind.u64.wrap (r : Int) = U n := by rw [u0, IntKind.wrap_u64]; omega
  have e2 : IntKind.u64.wrap (U n + 64) = U n2 := by rw [u0, u2, IntKind.wrap_u64]; omega
  have g1 := ne_of (a + b - b) a (BitVec.add_sub_cancel a b)
  have g2 := ne_of (b + a) (a + b) (BitVec.add_comm b a)
  have g3 := ne_of (a + b + c) (a + (b + c)) (BitVec.add_assoc a b c)
  have g4 := ne_of ((a + b) * c) (a * c + b * c) (by rw [BitVec.mul_comm, BitVec.mul_add, BitVec.mul_comm c a, BitVec.mul_comm c b])
  have g5 := ne_of (a <<< far6 n) (a * p) (by rw [f1, hp]; exact shl_mul a r)
  have g6 := ne_of (a ^^^ b ^^^ b) a (by rw [BitVec.xor_assoc, BitVec.xor_self, BitVec.xor_zero])
  have g7 := ne_of (a ||| b) ((a &&& b) + (a ^^^ b)) (or_split a b)
  have g8 := ne_of (a >>> far6 n) (quoU a p) (by rw [f1, hp]; exact shr_div a r hr64)
  have g9 := ne_of (a <<< far6 n2) (a <<< far6 n) (by rw [f1, f2])
  have g10 : (U ((a ^^^ 18446744073709551615#64).sshiftRight (far6 n) ^^^ 18446744073709551615#64) == U (a.sshiftRight (far6 n))) = true := by have h := sra_not a (far6 n); rw [show BitVec.allOnes 64 = 18446744073709551615#64 by decide +kernel] at h; rw [h]; simp
  have e0 := wrapS_U a
  have g11 := ne_of (a.sshiftRight (far6 n)) (a >>> far6 n) (by rw [f1]; exact sra_pos a r hs)
  clear hr hn hn2 f1 f2 u2
  have e3 : IntKind.u64.wrap (2 ^ min (U n).toNat 64) = U p := by
    have hm : min (U n).toNat 64 = r := by rw [u0]; omega
    have h1 := shl_U 1 r
    rw [← one_U, Int.one_mul] at h1
    rw [hm, h1, hp]; rfl
  clear hp u0
  have ln := U_lo n
  go_enter Try.func9, Try.ntmps9
  go_wp2_with (first | (go_at_call 14; (with_reducible refine (lives_any _).mono ?_); rintro e w' ⟨rfl, hb⟩; have HB := Lib.hid (HB.out.trans (hb.mono HB.out.size)); clear hb) | (go_at_call 24; (with_reducible refine (Pick_hid HP (by omega) (by omega) (by omega) _).mono ?_); rintro e w' ⟨rfl, rfl⟩) | (go_at_call 15; (with_reducible refine (do_40m _ _).mono ?_); rintro e w' ⟨rfl, hb⟩; have HB := Lib.hid (HB.out.trans (hb.mono HB.out.size)); clear hb) | (go_at_call 15; (with_reducible refine (do_35 _ _ _).mono ?_); rintro e w' ⟨rfl, hb⟩; have HB := Lib.hid (HB.out.trans (hb.mono HB.out.size)); clear hb) | (go_at_call 15; (with_reducible refine (do_36 _ _ _).mono ?_); rintro e w' ⟨rfl, hb⟩; have HB := Lib.hid (HB.out.trans (hb.mono HB.out.size)); clear hb) | (go_at_call 15; (with_reducible refine (do_37 _ _ _).mono ?_); rintro e w' ⟨rfl, hb⟩; have HB := Lib.hid (HB.out.trans (hb.mono HB.out.size)); clear hb) | (go_at_call 15; (with_reducible refine (do_40 _ _ _).mono ?_); rintro e w' ⟨rfl, hb⟩; have HB := Lib.hid (HB.out.trans (hb.mono HB.out.size)); clear hb) | (go_at_call 15; (with_reducible refine (do_41 _ _ _).mono ?_); rintro e w' ⟨rfl, hb⟩; have HB := Lib.hid (HB.out.trans (hb.mono HB.out.size)); clear hb) | (go_at_call 15; (with_reducible refine (do_42 _ _ _).mono ?_); rintro e w' ⟨rfl, hb⟩; have HB := Lib.hid (HB.out.trans (hb.mono HB.out.size)); clear hb) | (go_at_call 15; (with_reducible refine (do_43 _ _ _).mono ?_); rintro e w' ⟨rfl, hb⟩; have HB := Lib.hid (HB.out.trans (hb.mono HB.out.size)); clear hb) | (go_at_call 15; (with_reducible refine (do_44 _ _ _).mono ?_); rintro e w' ⟨rfl, hb⟩; have HB := Lib.hid (HB.out.trans (hb.mono HB.out.size)); clear hb) | (go_at_call 15; (with_reducible refine (do_50 _ _ _).mono ?_); rintro e w' ⟨rfl, hb⟩; have HB := Lib.hid (HB.out.trans (hb.mono HB.out.size)); clear hb) | (go_at_call 15; (with_reducible refine (do_55 _ _ _).mono ?_); rintro e w' ⟨rfl, hb⟩; have HB := Lib.hid (HB.out.trans (hb.mono HB.out.size)); clear hb))
  go_ret
  exact ⟨rfl, HB.out⟩
set_option maxRecDepth 100000 in
set_option maxHeartbeats 1000000 in
theorem ring_neg (a b c k : BitVec 64) (hs : S a < 0) (w : World) : Calls Try.prog 9 #[.int .u64 (U a), .int .u64 (U b), .int .u64 (U c), .int .i64 (S k)] w fun e w' => e = .returned (.bool true) ∧ Below w.heap.size w w' := by
  have HB := Lib.hid (Below.refl w.heap.size w)
  obtain ⟨r, hr, hr'⟩ := pick_is (S k) 64 (by omega)
  have hr64 : r < 64 := by omega
  have HP := Lib.hid hr
  have lk := S_lo k
  have hk := S_hi k
  obtain ⟨n, hn⟩ : ∃ n, n = BitVec.ofNat 64 r := ⟨_, rfl⟩
  obtain ⟨n2, hn2⟩ : ∃ n, n = BitVec.ofNat 64 (r + 64) := ⟨_, rfl⟩
  obtain ⟨p, hp⟩ : ∃ p, p = 1#64 <<< r := ⟨_, rfl⟩
  have f1 : far6 n = r := by rw [hn]; exact far6_nat r hr64
  have f2 : far6 n2 = r := by rw [hn2]; exact far6_64 r hr64
  have u0 : U n = (r : Int) := by rw [hn]; exact U_ofNat r (by omega)
  have u2 : U n2 = (r : Int) + 64 := by rw [hn2, U_ofNat _ (by omega)]; omega
  have e1 : IntKind.u64.wrap (r : Int) = U n := by rw [u0, IntKind.wrap_u64]; omega
  have e2 : IntKind.u64.wrap (U n + 64) = U n2 := by rw [u0, u2, IntKind.wrap_u64]; omega
  have g1 := ne_of (a + b - b) a (BitVec.add_sub_cancel a b)
  have g2 := ne_of (b + a) (a + b) (BitVec.add_comm b a)
  have g3 := ne_of (a + b + c) (a + (b + c)) (BitVec.add_assoc a b c)
  have g4 := ne_of ((a + b) * c) (a * c + b * c) (by rw [BitVec.mul_comm, BitVec.mul_add, BitVec.mul_comm c a, BitVec.mul_comm c b])
  have g5 := ne_of (a <<< far6 n) (a * p) (by rw [f1, hp]; exact shl_mul a r)
  have g6 := ne_of (a ^^^ b ^^^ b) a (by rw [BitVec.xor_assoc, BitVec.xor_self, BitVec.xor_zero])
  have g7 := ne_of (a ||| b) ((a &&& b) + (a ^^^ b)) (or_split a b)
  have g8 := ne_of (a >>> far6 n) (quoU a p) (by rw [f1, hp]; exact shr_div a r hr64)
  have g9 := ne_of (a <<< far6 n2) (a <<< far6 n) (by rw [f1, f2])
  have g10 : (U ((a ^^^ 18446744073709551615#64).sshiftRight (far6 n) ^^^ 18446744073709551615#64) == U (a.sshiftRight (far6 n))) = true := by have h := sra_not a (far6 n); rw [show BitVec.allOnes 64 = 18446744073709551615#64 by decide +kernel] at h; rw [h]; simp
  have e0 := wrapS_U a
  clear hr hn hn2 f1 f2 u2
  have e3 : IntKind.u64.wrap (2 ^ min (U n).toNat 64) = U p := by
    have hm : min (U n).toNat 64 = r := by rw [u0]; omega
    have h1 := shl_U 1 r
    rw [← one_U, Int.one_mul] at h1
    rw [hm, h1, hp]; rfl
  clear hp u0
  have ln := U_lo n
  go_enter Try.func9, Try.ntmps9
  go_wp2_with (first | (go_at_call 14; (with_reducible refine (lives_any _).mono ?_); rintro e w' ⟨rfl, hb⟩; have HB := Lib.hid (HB.out.trans (hb.mono HB.out.size)); clear hb) | (go_at_call 24; (with_reducible refine (Pick_hid HP (by omega) (by omega) (by omega) _).mono ?_); rintro e w' ⟨rfl, rfl⟩) | (go_at_call 15; (with_reducible refine (do_40m _ _).mono ?_); rintro e w' ⟨rfl, hb⟩; have HB := Lib.hid (HB.out.trans (hb.mono HB.out.size)); clear hb) | (go_at_call 15; (with_reducible refine (do_35 _ _ _).mono ?_); rintro e w' ⟨rfl, hb⟩; have HB := Lib.hid (HB.out.trans (hb.mono HB.out.size)); clear hb) | (go_at_call 15; (with_reducible refine (do_36 _ _ _).mono ?_); rintro e w' ⟨rfl, hb⟩; have HB := Lib.hid (HB.out.trans (hb.mono HB.out.size)); clear hb) | (go_at_call 15; (with_reducible refine (do_37 _ _ _).mono ?_); rintro e w' ⟨rfl, hb⟩; have HB := Lib.hid (HB.out.trans (hb.mono HB.out.size)); clear hb) | (go_at_call 15; (with_reducible refine (do_40 _ _ _).mono ?_); rintro e w' ⟨rfl, hb⟩; have HB := Lib.hid (HB.out.trans (hb.mono HB.out.size)); clear hb) | (go_at_call 15; (with_reducible refine (do_41 _ _ _).mono ?_); rintro e w' ⟨rfl, hb⟩; have HB := Lib.hid (HB.out.trans (hb.mono HB.out.size)); clear hb) | (go_at_call 15; (with_reducible refine (do_42 _ _ _).mono ?_); rintro e w' ⟨rfl, hb⟩; have HB := Lib.hid (HB.out.trans (hb.mono HB.out.size)); clear hb) | (go_at_call 15; (with_reducible refine (do_43 _ _ _).mono ?_); rintro e w' ⟨rfl, hb⟩; have HB := Lib.hid (HB.out.trans (hb.mono HB.out.size)); clear hb) | (go_at_call 15; (with_reducible refine (do_44 _ _ _).mono ?_); rintro e w' ⟨rfl, hb⟩; have HB := Lib.hid (HB.out.trans (hb.mono HB.out.size)); clear hb) | (go_at_call 15; (with_reducible refine (do_50 _ _ _).mono ?_); rintro e w' ⟨rfl, hb⟩; have HB := Lib.hid (HB.out.trans (hb.mono HB.out.size)); clear hb) | (go_at_call 15; (with_reducible refine (do_55 _ _ _).mono ?_); rintro e w' ⟨rfl, hb⟩; have HB := Lib.hid (HB.out.trans (hb.mono HB.out.size)); clear hb))
  go_ret
  exact ⟨rfl, HB.out⟩
theorem ring_any (a b c k : BitVec 64) (w : World) : Calls Try.prog 9 #[.int .u64 (U a), .int .u64 (U b), .int .u64 (U c), .int .i64 (S k)] w fun e w' => e = .returned (.bool true) ∧ Below w.heap.size w w' := by
  by_cases h : 0 ≤ S a
  · exact ring_pos a b c k h w
  · exact ring_neg a b c k (by omega) w
end Go.Proofs.Ytdapbaakcpjafaa
