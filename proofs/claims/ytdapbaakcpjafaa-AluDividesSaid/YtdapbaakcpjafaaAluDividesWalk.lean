/-
  Proved here: the law AluDivides returns true at every two words, and what was there is as it was. No condition.
-/
import Derived.Test.YtdapbaakcpjafaaAluLives
import Derived.Test.YtdapbaakcpjafaaAluDivPlain
import Derived.Test.YtdapbaakcpjafaaAluRefs
import Derived.Deep.QuietTactic
import Derived.BigQuiet
namespace Go.Proofs.Ytdapbaakcpjafaa
open Go.RowKit
theorem mulz (z : BitVec 64) : z * 0 = 0 := BitVec.mul_zero
theorem addz (z : BitVec 64) : 0 + z = z := BitVec.zero_add z
theorem size_any (n : BitVec 64) (w : World) : Calls Try.prog 21 #[.int .u64 (U n)] w fun e w' => e = .returned (.int .u64 (U (sizeV n))) ∧ w = w' := by
  have e1 := wrapS_U n
  have e2 := neg_U n
  by_cases h : S n < 0
  · have H := Lib.hid (show sizeV n = -n by unfold sizeV; rw [if_pos h])
    go_enter Try.func21, Try.ntmps21
    go_wp2
    go_ret
    exact ⟨ret_int (by rw [H.out]), rfl⟩
  · have H := Lib.hid (show sizeV n = n by unfold sizeV; rw [if_neg h])
    go_enter Try.func21, Try.ntmps21
    go_wp2
    go_ret
    exact ⟨ret_int (by rw [H.out]), rfl⟩
set_option maxRecDepth 100000 in
set_option maxHeartbeats 1000000 in
theorem divides_b0 (a b : BitVec 64) (h : b = 0) (w : World) : Calls Try.prog 5 #[.int .u64 (U a), .int .u64 (U b)] w fun e w' => e = .returned (.bool true) ∧ Below w.heap.size w w' := by
  have HB := Lib.hid (Below.refl w.heap.size w)
  have c1 : (U b == 0) = true := by subst h; decide +kernel
  have c2 : (U b != 0) = false := by subst h; decide +kernel
  have t1 : (U (quoU a b) != 18446744073709551615) = false := by rw [(quoU_0 a b h).1]; decide +kernel
  have t2 : (U (remU a b) != U a) = false := by rw [(quoU_0 a b h).2]; simp
  have t3 : (U (quoV a b) != 18446744073709551615) = false := by rw [(quoV_0 a b h).1]; decide +kernel
  have t4 : (U (remV a b) != U a) = false := by rw [(quoV_0 a b h).2]; simp
  have hl : lo b = 0 := by subst h; decide +kernel
  have hs : sh b = 0 := (sh_zero_iff b).2 hl
  have c3 : (U (sh b) == 0) = true := by rw [hs]; decide +kernel
  have c4 : (U (sh b) != 0) = false := by rw [hs]; decide +kernel
  have c5 : (U (lo b) == 0) = true := by rw [hl]; decide +kernel
  have c6 : (U (lo b) != 0) = false := by rw [hl]; decide +kernel
  have m5 := mul_U (sh (quoV (sh a) (sh b))) (sh b)
  have m6 := add_U (sh (quoV (sh a) (sh b)) * sh b) (sh (remV (sh a) (sh b)))
  have t5 : (U (sh (quoV (sh a) (sh b))) != 18446744073709551615) = false := by rw [(quoV_0 _ _ hs).1]; decide +kernel
  have t6 : (U (sh (remV (sh a) (sh b))) != U (sh a)) = false := by rw [(quoV_0 _ _ hs).2, sh_sh]; simp
  have t9 : (U (sh (sh (quoV (sh a) (sh b)) * sh b + sh (remV (sh a) (sh b)))) != U (sh a)) = false := by rw [sh_mul_add, (quoV_0 _ _ hs).2, hs, mulz, addz, sh_sh]; simp
  have t7 : (U (sh (quoU (lo a) (lo b))) == 18446744073709551615) = true := by rw [(quoU_0 _ _ hl).1]; decide +kernel
  have t8 : (U (sh (remU (lo a) (lo b))) == U (sh a)) = true := by rw [(quoU_0 _ _ hl).2, sh_lo]; simp
  clear hs
  clear h hl
  go_enter Try.func5, Try.ntmps5
  go_wp2_with (first | (go_at_call 14; (with_reducible refine (lives_any _).mono ?_); rintro e w' ⟨rfl, hb⟩; have HB := Lib.hid (HB.out.trans (hb.mono HB.out.size)); clear hb) | (go_at_call 15; (with_reducible refine (do_54 _ _ _).mono ?_); rintro e w' ⟨rfl, hb⟩; have HB := Lib.hid (HB.out.trans (hb.mono HB.out.size)); clear hb) | (go_at_call 15; (with_reducible refine (do_55 _ _ _).mono ?_); rintro e w' ⟨rfl, hb⟩; have HB := Lib.hid (HB.out.trans (hb.mono HB.out.size)); clear hb) | (go_at_call 15; (with_reducible refine (do_56 _ _ _).mono ?_); rintro e w' ⟨rfl, hb⟩; have HB := Lib.hid (HB.out.trans (hb.mono HB.out.size)); clear hb) | (go_at_call 15; (with_reducible refine (do_57 _ _ _).mono ?_); rintro e w' ⟨rfl, hb⟩; have HB := Lib.hid (HB.out.trans (hb.mono HB.out.size)); clear hb) | (go_at_call 15; (with_reducible refine (do_59 _ _ _).mono ?_); rintro e w' ⟨rfl, hb⟩; have HB := Lib.hid (HB.out.trans (hb.mono HB.out.size)); clear hb) | (go_at_call 15; (with_reducible refine (do_60 _ _ _).mono ?_); rintro e w' ⟨rfl, hb⟩; have HB := Lib.hid (HB.out.trans (hb.mono HB.out.size)); clear hb) | (go_at_call 15; (with_reducible refine (do_61 _ _ _).mono ?_); rintro e w' ⟨rfl, hb⟩; have HB := Lib.hid (HB.out.trans (hb.mono HB.out.size)); clear hb) | (go_at_call 15; (with_reducible refine (do_62 _ _ _).mono ?_); rintro e w' ⟨rfl, hb⟩; have HB := Lib.hid (HB.out.trans (hb.mono HB.out.size)); clear hb) | (go_at_call 22; (with_reducible refine (rshort_U _ _).mono ?_); rintro e w' ⟨rfl, rfl⟩) | (go_at_call 23; (with_reducible refine (rlow_U _ _).mono ?_); rintro e w' ⟨rfl, rfl⟩) | (go_at_call 21; (with_reducible refine (size_any _ _).mono ?_); rintro e w' ⟨rfl, rfl⟩))
  go_quiet (first | (go_at_call 23; exact Calls.quiet_of_same (sameq (rlow_U _ _))))
  go_wp2
  go_ret
  exact ⟨rfl, HB.out.trans (drewN_below _ _ _)⟩
set_option maxRecDepth 100000 in
set_option maxHeartbeats 1000000 in
theorem divides_r0_l0 (a b : BitVec 64) (h : b ≠ 0) (hr : remV a b = 0) (hl : lo b = 0) (w : World) : Calls Try.prog 5 #[.int .u64 (U a), .int .u64 (U b)] w fun e w' => e = .returned (.bool true) ∧ Below w.heap.size w w' := by
  have HB := Lib.hid (Below.refl w.heap.size w)
  have c1 : (U b == 0) = false := by simpa using fun e => h ((U_zero_iff b).1 e)
  have c2 : (U b != 0) = true := by simpa using fun e => h ((U_zero_iff b).1 e)
  have m1 := mul_U (quoU a b) b
  have m2 : IntKind.u64.wrap (U (quoU a b * b) + U (remU a b)) = U a := by rw [add_U, quoU_mul a b h]
  have m3 := mul_U (quoV a b) b
  have m4 : IntKind.u64.wrap (U (quoV a b * b) + U (remV a b)) = U a := by rw [add_U, quoV_mul a b h]
  have l1 : decide (U b ≤ U (remU a b)) = false := by have := remU_lt a b h; simpa using this
  have l2 : decide (U (sizeV b) ≤ U (sizeV (remV a b))) = false := by have := sizeV_lt a b h; simpa using this
  have s1 := wrapS_U (remV a b)
  have s2 := wrapS_U a
  have r1 : (U (remV a b) != 0) = false := by simpa using (U_zero_iff _).2 hr
  have hs : sh b = 0 := (sh_zero_iff b).2 hl
  have c3 : (U (sh b) == 0) = true := by rw [hs]; decide +kernel
  have c4 : (U (sh b) != 0) = false := by rw [hs]; decide +kernel
  have c5 : (U (lo b) == 0) = true := by rw [hl]; decide +kernel
  have c6 : (U (lo b) != 0) = false := by rw [hl]; decide +kernel
  have m5 := mul_U (sh (quoV (sh a) (sh b))) (sh b)
  have m6 := add_U (sh (quoV (sh a) (sh b)) * sh b) (sh (remV (sh a) (sh b)))
  have t5 : (U (sh (quoV (sh a) (sh b))) != 18446744073709551615) = false := by rw [(quoV_0 _ _ hs).1]; decide +kernel
  have t6 : (U (sh (remV (sh a) (sh b))) != U (sh a)) = false := by rw [(quoV_0 _ _ hs).2, sh_sh]; simp
  have t9 : (U (sh (sh (quoV (sh a) (sh b)) * sh b + sh (remV (sh a) (sh b)))) != U (sh a)) = false := by rw [sh_mul_add, (quoV_0 _ _ hs).2, hs, mulz, addz, sh_sh]; simp
  have t7 : (U (sh (quoU (lo a) (lo b))) == 18446744073709551615) = true := by rw [(quoU_0 _ _ hl).1]; decide +kernel
  have t8 : (U (sh (remU (lo a) (lo b))) == U (sh a)) = true := by rw [(quoU_0 _ _ hl).2, sh_lo]; simp
  clear hs
  clear h hr hl
  go_enter Try.func5, Try.ntmps5
  go_wp2_with (first | (go_at_call 14; (with_reducible refine (lives_any _).mono ?_); rintro e w' ⟨rfl, hb⟩; have HB := Lib.hid (HB.out.trans (hb.mono HB.out.size)); clear hb) | (go_at_call 15; (with_reducible refine (do_54 _ _ _).mono ?_); rintro e w' ⟨rfl, hb⟩; have HB := Lib.hid (HB.out.trans (hb.mono HB.out.size)); clear hb) | (go_at_call 15; (with_reducible refine (do_55 _ _ _).mono ?_); rintro e w' ⟨rfl, hb⟩; have HB := Lib.hid (HB.out.trans (hb.mono HB.out.size)); clear hb) | (go_at_call 15; (with_reducible refine (do_56 _ _ _).mono ?_); rintro e w' ⟨rfl, hb⟩; have HB := Lib.hid (HB.out.trans (hb.mono HB.out.size)); clear hb) | (go_at_call 15; (with_reducible refine (do_57 _ _ _).mono ?_); rintro e w' ⟨rfl, hb⟩; have HB := Lib.hid (HB.out.trans (hb.mono HB.out.size)); clear hb) | (go_at_call 15; (with_reducible refine (do_59 _ _ _).mono ?_); rintro e w' ⟨rfl, hb⟩; have HB := Lib.hid (HB.out.trans (hb.mono HB.out.size)); clear hb) | (go_at_call 15; (with_reducible refine (do_60 _ _ _).mono ?_); rintro e w' ⟨rfl, hb⟩; have HB := Lib.hid (HB.out.trans (hb.mono HB.out.size)); clear hb) | (go_at_call 15; (with_reducible refine (do_61 _ _ _).mono ?_); rintro e w' ⟨rfl, hb⟩; have HB := Lib.hid (HB.out.trans (hb.mono HB.out.size)); clear hb) | (go_at_call 15; (with_reducible refine (do_62 _ _ _).mono ?_); rintro e w' ⟨rfl, hb⟩; have HB := Lib.hid (HB.out.trans (hb.mono HB.out.size)); clear hb) | (go_at_call 22; (with_reducible refine (rshort_U _ _).mono ?_); rintro e w' ⟨rfl, rfl⟩) | (go_at_call 23; (with_reducible refine (rlow_U _ _).mono ?_); rintro e w' ⟨rfl, rfl⟩) | (go_at_call 21; (with_reducible refine (size_any _ _).mono ?_); rintro e w' ⟨rfl, rfl⟩))
  go_quiet (first | (go_at_call 23; exact Calls.quiet_of_same (sameq (rlow_U _ _))))
  go_wp2
  go_ret
  exact ⟨rfl, HB.out.trans (drewN_below _ _ _)⟩
set_option maxRecDepth 100000 in
set_option maxHeartbeats 1000000 in
theorem divides_r1_l0 (a b : BitVec 64) (h : b ≠ 0) (hr : remV a b ≠ 0) (hsg : S a < 0) (hl : lo b = 0) (w : World) : Calls Try.prog 5 #[.int .u64 (U a), .int .u64 (U b)] w fun e w' => e = .returned (.bool true) ∧ Below w.heap.size w w' := by
  have HB := Lib.hid (Below.refl w.heap.size w)
  have c1 : (U b == 0) = false := by simpa using fun e => h ((U_zero_iff b).1 e)
  have c2 : (U b != 0) = true := by simpa using fun e => h ((U_zero_iff b).1 e)
  have m1 := mul_U (quoU a b) b
  have m2 : IntKind.u64.wrap (U (quoU a b * b) + U (remU a b)) = U a := by rw [add_U, quoU_mul a b h]
  have m3 := mul_U (quoV a b) b
  have m4 : IntKind.u64.wrap (U (quoV a b * b) + U (remV a b)) = U a := by rw [add_U, quoV_mul a b h]
  have l1 : decide (U b ≤ U (remU a b)) = false := by have := remU_lt a b h; simpa using this
  have l2 : decide (U (sizeV b) ≤ U (sizeV (remV a b))) = false := by have := sizeV_lt a b h; simpa using this
  have s1 := wrapS_U (remV a b)
  have s2 := wrapS_U a
  have rs := remV_sign a b h fun e => hr ((S_zero_iff _).1 e)
  have r1 : (U (remV a b) != 0) = true := by simpa using fun e => hr ((U_zero_iff _).1 e)
  have r2 : S (remV a b) < 0 := by rw [decide_eq_true hsg] at rs; exact of_decide_eq_true rs
  have hs : sh b = 0 := (sh_zero_iff b).2 hl
  have c3 : (U (sh b) == 0) = true := by rw [hs]; decide +kernel
  have c4 : (U (sh b) != 0) = false := by rw [hs]; decide +kernel
  have c5 : (U (lo b) == 0) = true := by rw [hl]; decide +kernel
  have c6 : (U (lo b) != 0) = false := by rw [hl]; decide +kernel
  have m5 := mul_U (sh (quoV (sh a) (sh b))) (sh b)
  have m6 := add_U (sh (quoV (sh a) (sh b)) * sh b) (sh (remV (sh a) (sh b)))
  have t5 : (U (sh (quoV (sh a) (sh b))) != 18446744073709551615) = false := by rw [(quoV_0 _ _ hs).1]; decide +kernel
  have t6 : (U (sh (remV (sh a) (sh b))) != U (sh a)) = false := by rw [(quoV_0 _ _ hs).2, sh_sh]; simp
  have t9 : (U (sh (sh (quoV (sh a) (sh b)) * sh b + sh (remV (sh a) (sh b)))) != U (sh a)) = false := by rw [sh_mul_add, (quoV_0 _ _ hs).2, hs, mulz, addz, sh_sh]; simp
  have t7 : (U (sh (quoU (lo a) (lo b))) == 18446744073709551615) = true := by rw [(quoU_0 _ _ hl).1]; decide +kernel
  have t8 : (U (sh (remU (lo a) (lo b))) == U (sh a)) = true := by rw [(quoU_0 _ _ hl).2, sh_lo]; simp
  clear hs
  clear h hr hl rs
  go_enter Try.func5, Try.ntmps5
  go_wp2_with (first | (go_at_call 14; (with_reducible refine (lives_any _).mono ?_); rintro e w' ⟨rfl, hb⟩; have HB := Lib.hid (HB.out.trans (hb.mono HB.out.size)); clear hb) | (go_at_call 15; (with_reducible refine (do_54 _ _ _).mono ?_); rintro e w' ⟨rfl, hb⟩; have HB := Lib.hid (HB.out.trans (hb.mono HB.out.size)); clear hb) | (go_at_call 15; (with_reducible refine (do_55 _ _ _).mono ?_); rintro e w' ⟨rfl, hb⟩; have HB := Lib.hid (HB.out.trans (hb.mono HB.out.size)); clear hb) | (go_at_call 15; (with_reducible refine (do_56 _ _ _).mono ?_); rintro e w' ⟨rfl, hb⟩; have HB := Lib.hid (HB.out.trans (hb.mono HB.out.size)); clear hb) | (go_at_call 15; (with_reducible refine (do_57 _ _ _).mono ?_); rintro e w' ⟨rfl, hb⟩; have HB := Lib.hid (HB.out.trans (hb.mono HB.out.size)); clear hb) | (go_at_call 15; (with_reducible refine (do_59 _ _ _).mono ?_); rintro e w' ⟨rfl, hb⟩; have HB := Lib.hid (HB.out.trans (hb.mono HB.out.size)); clear hb) | (go_at_call 15; (with_reducible refine (do_60 _ _ _).mono ?_); rintro e w' ⟨rfl, hb⟩; have HB := Lib.hid (HB.out.trans (hb.mono HB.out.size)); clear hb) | (go_at_call 15; (with_reducible refine (do_61 _ _ _).mono ?_); rintro e w' ⟨rfl, hb⟩; have HB := Lib.hid (HB.out.trans (hb.mono HB.out.size)); clear hb) | (go_at_call 15; (with_reducible refine (do_62 _ _ _).mono ?_); rintro e w' ⟨rfl, hb⟩; have HB := Lib.hid (HB.out.trans (hb.mono HB.out.size)); clear hb) | (go_at_call 22; (with_reducible refine (rshort_U _ _).mono ?_); rintro e w' ⟨rfl, rfl⟩) | (go_at_call 23; (with_reducible refine (rlow_U _ _).mono ?_); rintro e w' ⟨rfl, rfl⟩) | (go_at_call 21; (with_reducible refine (size_any _ _).mono ?_); rintro e w' ⟨rfl, rfl⟩))
  go_quiet (first | (go_at_call 23; exact Calls.quiet_of_same (sameq (rlow_U _ _))))
  go_wp2
  go_ret
  exact ⟨rfl, HB.out.trans (drewN_below _ _ _)⟩
set_option maxRecDepth 100000 in
set_option maxHeartbeats 1000000 in
theorem divides_r2_l0 (a b : BitVec 64) (h : b ≠ 0) (hr : remV a b ≠ 0) (hsg : ¬ S a < 0) (hl : lo b = 0) (w : World) : Calls Try.prog 5 #[.int .u64 (U a), .int .u64 (U b)] w fun e w' => e = .returned (.bool true) ∧ Below w.heap.size w w' := by
  have HB := Lib.hid (Below.refl w.heap.size w)
  have c1 : (U b == 0) = false := by simpa using fun e => h ((U_zero_iff b).1 e)
  have c2 : (U b != 0) = true := by simpa using fun e => h ((U_zero_iff b).1 e)
  have m1 := mul_U (quoU a b) b
  have m2 : IntKind.u64.wrap (U (quoU a b * b) + U (remU a b)) = U a := by rw [add_U, quoU_mul a b h]
  have m3 := mul_U (quoV a b) b
  have m4 : IntKind.u64.wrap (U (quoV a b * b) + U (remV a b)) = U a := by rw [add_U, quoV_mul a b h]
  have l1 : decide (U b ≤ U (remU a b)) = false := by have := remU_lt a b h; simpa using this
  have l2 : decide (U (sizeV b) ≤ U (sizeV (remV a b))) = false := by have := sizeV_lt a b h; simpa using this
  have s1 := wrapS_U (remV a b)
  have s2 := wrapS_U a
  have rs := remV_sign a b h fun e => hr ((S_zero_iff _).1 e)
  have r1 : (U (remV a b) != 0) = true := by simpa using fun e => hr ((U_zero_iff _).1 e)
  have r2 : decide (S (remV a b) < 0) = false := by rw [rs]; exact decide_eq_false hsg
  have r3 : decide (S a < 0) = false := decide_eq_false hsg
  have hs : sh b = 0 := (sh_zero_iff b).2 hl
  have c3 : (U (sh b) == 0) = true := by rw [hs]; decide +kernel
  have c4 : (U (sh b) != 0) = false := by rw [hs]; decide +kernel
  have c5 : (U (lo b) == 0) = true := by rw [hl]; decide +kernel
  have c6 : (U (lo b) != 0) = false := by rw [hl]; decide +kernel
  have m5 := mul_U (sh (quoV (sh a) (sh b))) (sh b)
  have m6 := add_U (sh (quoV (sh a) (sh b)) * sh b) (sh (remV (sh a) (sh b)))
  have t5 : (U (sh (quoV (sh a) (sh b))) != 18446744073709551615) = false := by rw [(quoV_0 _ _ hs).1]; decide +kernel
  have t6 : (U (sh (remV (sh a) (sh b))) != U (sh a)) = false := by rw [(quoV_0 _ _ hs).2, sh_sh]; simp
  have t9 : (U (sh (sh (quoV (sh a) (sh b)) * sh b + sh (remV (sh a) (sh b)))) != U (sh a)) = false := by rw [sh_mul_add, (quoV_0 _ _ hs).2, hs, mulz, addz, sh_sh]; simp
  have t7 : (U (sh (quoU (lo a) (lo b))) == 18446744073709551615) = true := by rw [(quoU_0 _ _ hl).1]; decide +kernel
  have t8 : (U (sh (remU (lo a) (lo b))) == U (sh a)) = true := by rw [(quoU_0 _ _ hl).2, sh_lo]; simp
  clear hs
  clear h hr hl rs hsg
  go_enter Try.func5, Try.ntmps5
  go_wp2_with (first | (go_at_call 14; (with_reducible refine (lives_any _).mono ?_); rintro e w' ⟨rfl, hb⟩; have HB := Lib.hid (HB.out.trans (hb.mono HB.out.size)); clear hb) | (go_at_call 15; (with_reducible refine (do_54 _ _ _).mono ?_); rintro e w' ⟨rfl, hb⟩; have HB := Lib.hid (HB.out.trans (hb.mono HB.out.size)); clear hb) | (go_at_call 15; (with_reducible refine (do_55 _ _ _).mono ?_); rintro e w' ⟨rfl, hb⟩; have HB := Lib.hid (HB.out.trans (hb.mono HB.out.size)); clear hb) | (go_at_call 15; (with_reducible refine (do_56 _ _ _).mono ?_); rintro e w' ⟨rfl, hb⟩; have HB := Lib.hid (HB.out.trans (hb.mono HB.out.size)); clear hb) | (go_at_call 15; (with_reducible refine (do_57 _ _ _).mono ?_); rintro e w' ⟨rfl, hb⟩; have HB := Lib.hid (HB.out.trans (hb.mono HB.out.size)); clear hb) | (go_at_call 15; (with_reducible refine (do_59 _ _ _).mono ?_); rintro e w' ⟨rfl, hb⟩; have HB := Lib.hid (HB.out.trans (hb.mono HB.out.size)); clear hb) | (go_at_call 15; (with_reducible refine (do_60 _ _ _).mono ?_); rintro e w' ⟨rfl, hb⟩; have HB := Lib.hid (HB.out.trans (hb.mono HB.out.size)); clear hb) | (go_at_call 15; (with_reducible refine (do_61 _ _ _).mono ?_); rintro e w' ⟨rfl, hb⟩; have HB := Lib.hid (HB.out.trans (hb.mono HB.out.size)); clear hb) | (go_at_call 15; (with_reducible refine (do_62 _ _ _).mono ?_); rintro e w' ⟨rfl, hb⟩; have HB := Lib.hid (HB.out.trans (hb.mono HB.out.size)); clear hb) | (go_at_call 22; (with_reducible refine (rshort_U _ _).mono ?_); rintro e w' ⟨rfl, rfl⟩) | (go_at_call 23; (with_reducible refine (rlow_U _ _).mono ?_); rintro e w' ⟨rfl, rfl⟩) | (go_at_call 21; (with_reducible refine (size_any _ _).mono ?_); rintro e w' ⟨rfl, rfl⟩))
  go_quiet (first | (go_at_call 23; exact Calls.quiet_of_same (sameq (rlow_U _ _))))
  go_wp2
  go_ret
  exact ⟨rfl, HB.out.trans (drewN_below _ _ _)⟩
set_option maxRecDepth 100000 in
set_option maxHeartbeats 1000000 in
theorem divides_r0_l1 (a b : BitVec 64) (h : b ≠ 0) (hr : remV a b = 0) (hl : lo b ≠ 0) (w : World) : Calls Try.prog 5 #[.int .u64 (U a), .int .u64 (U b)] w fun e w' => e = .returned (.bool true) ∧ Below w.heap.size w w' := by
  have HB := Lib.hid (Below.refl w.heap.size w)
  have c1 : (U b == 0) = false := by simpa using fun e => h ((U_zero_iff b).1 e)
  have c2 : (U b != 0) = true := by simpa using fun e => h ((U_zero_iff b).1 e)
  have m1 := mul_U (quoU a b) b
  have m2 : IntKind.u64.wrap (U (quoU a b * b) + U (remU a b)) = U a := by rw [add_U, quoU_mul a b h]
  have m3 := mul_U (quoV a b) b
  have m4 : IntKind.u64.wrap (U (quoV a b * b) + U (remV a b)) = U a := by rw [add_U, quoV_mul a b h]
  have l1 : decide (U b ≤ U (remU a b)) = false := by have := remU_lt a b h; simpa using this
  have l2 : decide (U (sizeV b) ≤ U (sizeV (remV a b))) = false := by have := sizeV_lt a b h; simpa using this
  have s1 := wrapS_U (remV a b)
  have s2 := wrapS_U a
  have r1 : (U (remV a b) != 0) = false := by simpa using (U_zero_iff _).2 hr
  have hs : sh b ≠ 0 := fun e => hl ((sh_zero_iff b).1 e)
  have c3 : (U (sh b) == 0) = false := by simpa using fun e => hs ((U_zero_iff _).1 e)
  have c4 : (U (sh b) != 0) = true := by simpa using fun e => hs ((U_zero_iff _).1 e)
  have c5 : (U (lo b) == 0) = false := by simpa using fun e => hl ((U_zero_iff _).1 e)
  have c6 : (U (lo b) != 0) = true := by simpa using fun e => hl ((U_zero_iff _).1 e)
  have m5 := mul_U (sh (quoV (sh a) (sh b))) (sh b)
  have m6 := add_U (sh (quoV (sh a) (sh b)) * sh b) (sh (remV (sh a) (sh b)))
  have t9 : (U (sh (sh (quoV (sh a) (sh b)) * sh b + sh (remV (sh a) (sh b)))) != U (sh a)) = false := by rw [short_mul a b hs]; simp
  have v1 := U_lo (lo a)
  have t7 : (U (lo (sh (quoU (lo a) (lo b)))) == IntKind.u64.wrap ((U (lo a)).tdiv (U (lo b)))) = true := by rw [lo_div a b hl, Int.tdiv_eq_ediv_of_nonneg v1, div_U, wrapU_U]; simp
  have t8 : (U (lo (sh (remU (lo a) (lo b)))) == (U (lo a)).tmod (U (lo b))) = true := by rw [lo_mod a b hl, Int.tmod_eq_emod_of_nonneg v1, mod_U]; simp
  have v3 : ¬ U (lo b) = 0 := by exact fun e => hl ((U_zero_iff _).1 e)
  clear hs v1
  clear h hr hl
  go_enter Try.func5, Try.ntmps5
  go_wp2_with (first | (go_at_call 14; (with_reducible refine (lives_any _).mono ?_); rintro e w' ⟨rfl, hb⟩; have HB := Lib.hid (HB.out.trans (hb.mono HB.out.size)); clear hb) | (go_at_call 15; (with_reducible refine (do_54 _ _ _).mono ?_); rintro e w' ⟨rfl, hb⟩; have HB := Lib.hid (HB.out.trans (hb.mono HB.out.size)); clear hb) | (go_at_call 15; (with_reducible refine (do_55 _ _ _).mono ?_); rintro e w' ⟨rfl, hb⟩; have HB := Lib.hid (HB.out.trans (hb.mono HB.out.size)); clear hb) | (go_at_call 15; (with_reducible refine (do_56 _ _ _).mono ?_); rintro e w' ⟨rfl, hb⟩; have HB := Lib.hid (HB.out.trans (hb.mono HB.out.size)); clear hb) | (go_at_call 15; (with_reducible refine (do_57 _ _ _).mono ?_); rintro e w' ⟨rfl, hb⟩; have HB := Lib.hid (HB.out.trans (hb.mono HB.out.size)); clear hb) | (go_at_call 15; (with_reducible refine (do_59 _ _ _).mono ?_); rintro e w' ⟨rfl, hb⟩; have HB := Lib.hid (HB.out.trans (hb.mono HB.out.size)); clear hb) | (go_at_call 15; (with_reducible refine (do_60 _ _ _).mono ?_); rintro e w' ⟨rfl, hb⟩; have HB := Lib.hid (HB.out.trans (hb.mono HB.out.size)); clear hb) | (go_at_call 15; (with_reducible refine (do_61 _ _ _).mono ?_); rintro e w' ⟨rfl, hb⟩; have HB := Lib.hid (HB.out.trans (hb.mono HB.out.size)); clear hb) | (go_at_call 15; (with_reducible refine (do_62 _ _ _).mono ?_); rintro e w' ⟨rfl, hb⟩; have HB := Lib.hid (HB.out.trans (hb.mono HB.out.size)); clear hb) | (go_at_call 22; (with_reducible refine (rshort_U _ _).mono ?_); rintro e w' ⟨rfl, rfl⟩) | (go_at_call 23; (with_reducible refine (rlow_U _ _).mono ?_); rintro e w' ⟨rfl, rfl⟩) | (go_at_call 21; (with_reducible refine (size_any _ _).mono ?_); rintro e w' ⟨rfl, rfl⟩))
  go_quiet (first | (go_at_call 23; exact Calls.quiet_of_same (sameq (rlow_U _ _))))
  go_wp2
  go_ret
  exact ⟨rfl, HB.out.trans (drewN_below _ _ _)⟩
set_option maxRecDepth 100000 in
set_option maxHeartbeats 1000000 in
theorem divides_r1_l1 (a b : BitVec 64) (h : b ≠ 0) (hr : remV a b ≠ 0) (hsg : S a < 0) (hl : lo b ≠ 0) (w : World) : Calls Try.prog 5 #[.int .u64 (U a), .int .u64 (U b)] w fun e w' => e = .returned (.bool true) ∧ Below w.heap.size w w' := by
  have HB := Lib.hid (Below.refl w.heap.size w)
  have c1 : (U b == 0) = false := by simpa using fun e => h ((U_zero_iff b).1 e)
  have c2 : (U b != 0) = true := by simpa using fun e => h ((U_zero_iff b).1 e)
  have m1 := mul_U (quoU a b) b
  have m2 : IntKind.u64.wrap (U (quoU a b * b) + U (remU a b)) = U a := by rw [add_U, quoU_mul a b h]
  have m3 := mul_U (quoV a b) b
  have m4 : IntKind.u64.wrap (U (quoV a b * b) + U (remV a b)) = U a := by rw [add_U, quoV_mul a b h]
  have l1 : decide (U b ≤ U (remU a b)) = false := by have := remU_lt a b h; simpa using this
  have l2 : decide (U (sizeV b) ≤ U (sizeV (remV a b))) = false := by have := sizeV_lt a b h; simpa using this
  have s1 := wrapS_U (remV a b)
  have s2 := wrapS_U a
  have rs := remV_sign a b h fun e => hr ((S_zero_iff _).1 e)
  have r1 : (U (remV a b) != 0) = true := by simpa using fun e => hr ((U_zero_iff _).1 e)
  have r2 : S (remV a b) < 0 := by rw [decide_eq_true hsg] at rs; exact of_decide_eq_true rs
  have hs : sh b ≠ 0 := fun e => hl ((sh_zero_iff b).1 e)
  have c3 : (U (sh b) == 0) = false := by simpa using fun e => hs ((U_zero_iff _).1 e)
  have c4 : (U (sh b) != 0) = true := by simpa using fun e => hs ((U_zero_iff _).1 e)
  have c5 : (U (lo b) == 0) = false := by simpa using fun e => hl ((U_zero_iff _).1 e)
  have c6 : (U (lo b) != 0) = true := by simpa using fun e => hl ((U_zero_iff _).1 e)
  have m5 := mul_U (sh (quoV (sh a) (sh b))) (sh b)
  have m6 := add_U (sh (quoV (sh a) (sh b)) * sh b) (sh (remV (sh a) (sh b)))
  have t9 : (U (sh (sh (quoV (sh a) (sh b)) * sh b + sh (remV (sh a) (sh b)))) != U (sh a)) = false := by rw [short_mul a b hs]; simp
  have v1 := U_lo (lo a)
  have t7 : (U (lo (sh (quoU (lo a) (lo b)))) == IntKind.u64.wrap ((U (lo a)).tdiv (U (lo b)))) = true := by rw [lo_div a b hl, Int.tdiv_eq_ediv_of_nonneg v1, div_U, wrapU_U]; simp
  have t8 : (U (lo (sh (remU (lo a) (lo b)))) == (U (lo a)).tmod (U (lo b))) = true := by rw [lo_mod a b hl, Int.tmod_eq_emod_of_nonneg v1, mod_U]; simp
  have v3 : ¬ U (lo b) = 0 := by exact fun e => hl ((U_zero_iff _).1 e)
  clear hs v1
  clear h hr hl rs
  go_enter Try.func5, Try.ntmps5
  go_wp2_with (first | (go_at_call 14; (with_reducible refine (lives_any _).mono ?_); rintro e w' ⟨rfl, hb⟩; have HB := Lib.hid (HB.out.trans (hb.mono HB.out.size)); clear hb) | (go_at_call 15; (with_reducible refine (do_54 _ _ _).mono ?_); rintro e w' ⟨rfl, hb⟩; have HB := Lib.hid (HB.out.trans (hb.mono HB.out.size)); clear hb) | (go_at_call 15; (with_reducible refine (do_55 _ _ _).mono ?_); rintro e w' ⟨rfl, hb⟩; have HB := Lib.hid (HB.out.trans (hb.mono HB.out.size)); clear hb) | (go_at_call 15; (with_reducible refine (do_56 _ _ _).mono ?_); rintro e w' ⟨rfl, hb⟩; have HB := Lib.hid (HB.out.trans (hb.mono HB.out.size)); clear hb) | (go_at_call 15; (with_reducible refine (do_57 _ _ _).mono ?_); rintro e w' ⟨rfl, hb⟩; have HB := Lib.hid (HB.out.trans (hb.mono HB.out.size)); clear hb) | (go_at_call 15; (with_reducible refine (do_59 _ _ _).mono ?_); rintro e w' ⟨rfl, hb⟩; have HB := Lib.hid (HB.out.trans (hb.mono HB.out.size)); clear hb) | (go_at_call 15; (with_reducible refine (do_60 _ _ _).mono ?_); rintro e w' ⟨rfl, hb⟩; have HB := Lib.hid (HB.out.trans (hb.mono HB.out.size)); clear hb) | (go_at_call 15; (with_reducible refine (do_61 _ _ _).mono ?_); rintro e w' ⟨rfl, hb⟩; have HB := Lib.hid (HB.out.trans (hb.mono HB.out.size)); clear hb) | (go_at_call 15; (with_reducible refine (do_62 _ _ _).mono ?_); rintro e w' ⟨rfl, hb⟩; have HB := Lib.hid (HB.out.trans (hb.mono HB.out.size)); clear hb) | (go_at_call 22; (with_reducible refine (rshort_U _ _).mono ?_); rintro e w' ⟨rfl, rfl⟩) | (go_at_call 23; (with_reducible refine (rlow_U _ _).mono ?_); rintro e w' ⟨rfl, rfl⟩) | (go_at_call 21; (with_reducible refine (size_any _ _).mono ?_); rintro e w' ⟨rfl, rfl⟩))
  go_quiet (first | (go_at_call 23; exact Calls.quiet_of_same (sameq (rlow_U _ _))))
  go_wp2
  go_ret
  exact ⟨rfl, HB.out.trans (drewN_below _ _ _)⟩
set_option maxRecDepth 100000 in
set_option maxHeartbeats 1000000 in
theorem divides_r2_l1 (a b : BitVec 64) (h : b ≠ 0) (hr : remV a b ≠ 0) (hsg : ¬ S a < 0) (hl : lo b ≠ 0) (w : World) : Calls Try.prog 5 #[.int .u64 (U a), .int .u64 (U b)] w fun e w' => e = .returned (.bool true) ∧ Below w.heap.size w w' := by
  have HB := Lib.hid (Below.refl w.heap.size w)
  have c1 : (U b == 0) = false := by simpa using fun e => h ((U_zero_iff b).1 e)
  have c2 : (U b != 0) = true := by simpa using fun e => h ((U_zero_iff b).1 e)
  have m1 := mul_U (quoU a b) b
  have m2 : IntKind.u64.wrap (U (quoU a b * b) + U (remU a b)) = U a := by rw [add_U, quoU_mul a b h]
  have m3 := mul_U (quoV a b) b
  have m4 : IntKind.u64.wrap (U (quoV a b * b) + U (remV a b)) = U a := by rw [add_U, quoV_mul a b h]
  have l1 : decide (U b ≤ U (remU a b)) = false := by have := remU_lt a b h; simpa using this
  have l2 : decide (U (sizeV b) ≤ U (sizeV (remV a b))) = false := by have := sizeV_lt a b h; simpa using this
  have s1 := wrapS_U (remV a b)
  have s2 := wrapS_U a
  have rs := remV_sign a b h fun e => hr ((S_zero_iff _).1 e)
  have r1 : (U (remV a b) != 0) = true := by simpa using fun e => hr ((U_zero_iff _).1 e)
  have r2 : decide (S (remV a b) < 0) = false := by rw [rs]; exact decide_eq_false hsg
  have r3 : decide (S a < 0) = false := decide_eq_false hsg
  have hs : sh b ≠ 0 := fun e => hl ((sh_zero_iff b).1 e)
  have c3 : (U (sh b) == 0) = false := by simpa using fun e => hs ((U_zero_iff _).1 e)
  have c4 : (U (sh b) != 0) = true := by simpa using fun e => hs ((U_zero_iff _).1 e)
  have c5 : (U (lo b) == 0) = false := by simpa using fun e => hl ((U_zero_iff _).1 e)
  have c6 : (U (lo b) != 0) = true := by simpa using fun e => hl ((U_zero_iff _).1 e)
  have m5 := mul_U (sh (quoV (sh a) (sh b))) (sh b)
  have m6 := add_U (sh (quoV (sh a) (sh b)) * sh b) (sh (remV (sh a) (sh b)))
  have t9 : (U (sh (sh (quoV (sh a) (sh b)) * sh b + sh (remV (sh a) (sh b)))) != U (sh a)) = false := by rw [short_mul a b hs]; simp
  have v1 := U_lo (lo a)
  have t7 : (U (lo (sh (quoU (lo a) (lo b)))) == IntKind.u64.wrap ((U (lo a)).tdiv (U (lo b)))) = true := by rw [lo_div a b hl, Int.tdiv_eq_ediv_of_nonneg v1, div_U, wrapU_U]; simp
  have t8 : (U (lo (sh (remU (lo a) (lo b)))) == (U (lo a)).tmod (U (lo b))) = true := by rw [lo_mod a b hl, Int.tmod_eq_emod_of_nonneg v1, mod_U]; simp
  have v3 : ¬ U (lo b) = 0 := by exact fun e => hl ((U_zero_iff _).1 e)
  clear hs v1
  clear h hr hl rs hsg
  go_enter Try.func5, Try.ntmps5
  go_wp2_with (first | (go_at_call 14; (with_reducible refine (lives_any _).mono ?_); rintro e w' ⟨rfl, hb⟩; have HB := Lib.hid (HB.out.trans (hb.mono HB.out.size)); clear hb) | (go_at_call 15; (with_reducible refine (do_54 _ _ _).mono ?_); rintro e w' ⟨rfl, hb⟩; have HB := Lib.hid (HB.out.trans (hb.mono HB.out.size)); clear hb) | (go_at_call 15; (with_reducible refine (do_55 _ _ _).mono ?_); rintro e w' ⟨rfl, hb⟩; have HB := Lib.hid (HB.out.trans (hb.mono HB.out.size)); clear hb) | (go_at_call 15; (with_reducible refine (do_56 _ _ _).mono ?_); rintro e w' ⟨rfl, hb⟩; have HB := Lib.hid (HB.out.trans (hb.mono HB.out.size)); clear hb) | (go_at_call 15; (with_reducible refine (do_57 _ _ _).mono ?_); rintro e w' ⟨rfl, hb⟩; have HB := Lib.hid (HB.out.trans (hb.mono HB.out.size)); clear hb) | (go_at_call 15; (with_reducible refine (do_59 _ _ _).mono ?_); rintro e w' ⟨rfl, hb⟩; have HB := Lib.hid (HB.out.trans (hb.mono HB.out.size)); clear hb) | (go_at_call 15; (with_reducible refine (do_60 _ _ _).mono ?_); rintro e w' ⟨rfl, hb⟩; have HB := Lib.hid (HB.out.trans (hb.mono HB.out.size)); clear hb) | (go_at_call 15; (with_reducible refine (do_61 _ _ _).mono ?_); rintro e w' ⟨rfl, hb⟩; have HB := Lib.hid (HB.out.trans (hb.mono HB.out.size)); clear hb) | (go_at_call 15; (with_reducible refine (do_62 _ _ _).mono ?_); rintro e w' ⟨rfl, hb⟩; have HB := Lib.hid (HB.out.trans (hb.mono HB.out.size)); clear hb) | (go_at_call 22; (with_reducible refine (rshort_U _ _).mono ?_); rintro e w' ⟨rfl, rfl⟩) | (go_at_call 23; (with_reducible refine (rlow_U _ _).mono ?_); rintro e w' ⟨rfl, rfl⟩) | (go_at_call 21; (with_reducible refine (size_any _ _).mono ?_); rintro e w' ⟨rfl, rfl⟩))
  go_quiet (first | (go_at_call 23; exact Calls.quiet_of_same (sameq (rlow_U _ _))))
  go_wp2
  go_ret
  exact ⟨rfl, HB.out.trans (drewN_below _ _ _)⟩
theorem divides_any (a b : BitVec 64) (w : World) : Calls Try.prog 5 #[.int .u64 (U a), .int .u64 (U b)] w fun e w' => e = .returned (.bool true) ∧ Below w.heap.size w w' := by
  by_cases h : b = 0
  · exact divides_b0 a b h w
  · by_cases hr : remV a b = 0 <;> by_cases hl : lo b = 0
    · exact divides_r0_l0 a b h hr hl w
    · exact divides_r0_l1 a b h hr hl w
    · by_cases hsg : S a < 0
      · exact divides_r1_l0 a b h hr hsg hl w
      · exact divides_r2_l0 a b h hr hsg hl w
    · by_cases hsg : S a < 0
      · exact divides_r1_l1 a b h hr hsg hl w
      · exact divides_r2_l1 a b h hr hsg hl w
end Go.Proofs.Ytdapbaakcpjafaa
