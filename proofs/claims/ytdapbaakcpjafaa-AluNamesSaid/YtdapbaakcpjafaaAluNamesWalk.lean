/-
  Proved here: the law AluNames returns true, and what was there is as it was. No condition.
-/
import Derived.Test.YtdapbaakcpjafaaAluLives
import Derived.Test.YtdapbaakcpjafaaAluRefs
namespace Go.Proofs.Ytdapbaakcpjafaa
open Go.RowKit
theorem at_lits {f : Nat} {op x y : Int} {a b : BitVec 64} {v v' : Value} (h : ∀ w, Calls Try.prog f #[.int .i64 op, .int .u64 (U a), .int .u64 (U b)] w fun e w' => e = .returned v ∧ Below w.heap.size w w') (hx : U a = x) (hy : U b = y) (hv : v = v') (w : World) :
    Calls Try.prog f #[.int .i64 op, .int .u64 x, .int .u64 y] w fun e w' => e = .returned v' ∧ Below w.heap.size w w' := by
  subst hx hy hv; exact h w
theorem U_at {a : BitVec 64} {n : Int} (h : U a = n) : Value.int .u64 (U a) = .int .u64 n := by rw [h]
theorem tup_at {a : BitVec 64} {n e : Int} (h : U a = n) : Value.tuple #[.int .u64 (U a), .int .i64 e] = .tuple #[.int .u64 n, .int .i64 e] := by rw [h]
theorem n_do14 (w : World) : Calls Try.prog 10 #[.int .i64 14, .int .u64 1, .int .u64 1] w fun e w' => e = .returned (.tuple #[.int .u64 0, .int .i64 2]) ∧ Below w.heap.size w w' := at_lits (Do_nil 14 1#64 1#64 (by decide +kernel) (by decide) (by decide)) (by decide +kernel) (by decide +kernel) rfl w
theorem n_tk9 (w : World) : Calls Try.prog 11 #[.int .i64 9, .int .u64 1, .int .u64 18446744073709551615] w fun e w' => e = .returned (.tuple #[.bool true, .int .i64 0]) ∧ Below w.heap.size w w' := at_lits (Takes_hit 9 1#64 18446744073709551615#64 (by decide) (by decide)) (by decide +kernel) (by decide +kernel) (by rw [show brV 9 1#64 18446744073709551615#64 = true by decide +kernel]) w
theorem n_tk35 (w : World) : Calls Try.prog 11 #[.int .i64 35, .int .u64 1, .int .u64 1] w fun e w' => e = .returned (.tuple #[.bool false, .int .i64 2]) ∧ Below w.heap.size w w' := at_lits (Takes_out 35 1#64 1#64 (by decide)) (by decide +kernel) (by decide +kernel) rfl w
theorem n_am84 (w : World) : Calls Try.prog 13 #[.int .i64 84, .int .u64 3, .int .u64 18446744073709551614] w fun e w' => e = .returned (.tuple #[.int .u64 18446744073709551614, .int .i64 0]) ∧ Below w.heap.size w w' := at_lits (Amo_long 84 3#64 18446744073709551614#64 (by decide) (by decide)) (by decide +kernel) (by decide +kernel) (tup_at (by decide +kernel)) w
theorem n_am69 (w : World) : Calls Try.prog 13 #[.int .i64 69, .int .u64 3, .int .u64 2] w fun e w' => e = .returned (.tuple #[.int .u64 0, .int .i64 2]) ∧ Below w.heap.size w w' := at_lits (Amo_nil 69 3#64 2#64 (by decide)) (by decide +kernel) (by decide +kernel) rfl w
theorem n_d54 (w : World) : Calls Try.prog 15 #[.int .i64 54, .int .u64 9223372036854775808, .int .u64 18446744073709551615] w fun e w' => e = .returned (.int .u64 9223372036854775808) ∧ Below w.heap.size w w' := lit_do (do_54 9223372036854775808#64 18446744073709551615#64) (by decide +kernel) (by decide +kernel) (by decide +kernel) w
theorem n_d56 (w : World) : Calls Try.prog 15 #[.int .i64 56, .int .u64 9223372036854775808, .int .u64 18446744073709551615] w fun e w' => e = .returned (.int .u64 0) ∧ Below w.heap.size w w' := lit_do (do_56 9223372036854775808#64 18446744073709551615#64) (by decide +kernel) (by decide +kernel) (by decide +kernel) w
theorem n_d1 (w : World) : Calls Try.prog 15 #[.int .i64 1, .int .u64 9, .int .u64 1] w fun e w' => e = .returned (.int .u64 4096) ∧ Below w.heap.size w w' := lit_do (law_do 1 9#64 1#64 _ 0 (Lib.hid (Do_lui 1 rfl 9#64 1#64))) (by decide +kernel) (by decide +kernel) (by decide +kernel) w
theorem n_d22 (w : World) : Calls Try.prog 15 #[.int .i64 22, .int .u64 5, .int .u64 18446744073709551615] w fun e w' => e = .returned (.int .u64 4) ∧ Below w.heap.size w w' := lit_do (law_do 22 5#64 18446744073709551615#64 _ 0 (Lib.hid (Do_own 22 35 5#64 18446744073709551615#64 (by decide +kernel) (by decide) (by decide)))) (by decide +kernel) (by decide +kernel) (by decide +kernel) w
theorem n_p34 (w : World) : Calls Try.prog 16 #[.int .i64 34] w fun e w' => e = .returned (.int .i64 49) ∧ Below w.heap.size w w' := by
  have h := Plain_any 34 w
  rw [show plainI 34 = 49 by decide +kernel] at h
  exact h
theorem n_p50 (w : World) : Calls Try.prog 16 #[.int .i64 50] w fun e w' => e = .returned (.int .i64 50) ∧ Below w.heap.size w w' := by
  have h := Plain_any 50 w
  rw [show plainI 50 = 50 by decide +kernel] at h
  exact h
theorem n_p1 (w : World) : Calls Try.prog 16 #[.int .i64 1] w fun e w' => e = .returned (.int .i64 0) ∧ Below w.heap.size w w' := by
  have h := Plain_any 1 w
  rw [show plainI 1 = 0 by decide +kernel] at h
  exact h
set_option maxRecDepth 100000 in
set_option maxHeartbeats 1000000 in
theorem names_any (w : World) : Calls Try.prog 3 #[] w fun e w' => e = .returned (.bool true) ∧ Below w.heap.size w w' := by
  have n2 : IntKind.u64.wrap (-2) = 18446744073709551614 := by decide +kernel
  have n1 : IntKind.u64.wrap (-1) = 18446744073709551615 := by decide +kernel
  have HB := Lib.hid (Below.refl w.heap.size w)
  go_enter Try.func3, Try.ntmps3
  go_wp2_with (first | (go_at_call 14; (with_reducible refine (lives_any _).mono ?_); rintro e w' ⟨rfl, hb⟩; have HB := Lib.hid (HB.out.trans (hb.mono HB.out.size)); clear hb) | (go_at_call 12; (with_reducible refine (below_any _ _).mono ?_); rintro e w' ⟨rfl, rfl⟩) | (go_at_call 10; (with_reducible refine (n_do14 _).mono ?_); rintro e w' ⟨rfl, hb⟩; have HB := Lib.hid (HB.out.trans (hb.mono HB.out.size)); clear hb) | (go_at_call 11; (with_reducible refine (n_tk9 _).mono ?_); rintro e w' ⟨rfl, hb⟩; have HB := Lib.hid (HB.out.trans (hb.mono HB.out.size)); clear hb) | (go_at_call 11; (with_reducible refine (n_tk35 _).mono ?_); rintro e w' ⟨rfl, hb⟩; have HB := Lib.hid (HB.out.trans (hb.mono HB.out.size)); clear hb) | (go_at_call 13; (with_reducible refine (n_am84 _).mono ?_); rintro e w' ⟨rfl, hb⟩; have HB := Lib.hid (HB.out.trans (hb.mono HB.out.size)); clear hb) | (go_at_call 13; (with_reducible refine (n_am69 _).mono ?_); rintro e w' ⟨rfl, hb⟩; have HB := Lib.hid (HB.out.trans (hb.mono HB.out.size)); clear hb) | (go_at_call 15; (with_reducible refine (n_d54 _).mono ?_); rintro e w' ⟨rfl, hb⟩; have HB := Lib.hid (HB.out.trans (hb.mono HB.out.size)); clear hb) | (go_at_call 15; (with_reducible refine (n_d56 _).mono ?_); rintro e w' ⟨rfl, hb⟩; have HB := Lib.hid (HB.out.trans (hb.mono HB.out.size)); clear hb) | (go_at_call 15; (with_reducible refine (n_d1 _).mono ?_); rintro e w' ⟨rfl, hb⟩; have HB := Lib.hid (HB.out.trans (hb.mono HB.out.size)); clear hb) | (go_at_call 15; (with_reducible refine (n_d22 _).mono ?_); rintro e w' ⟨rfl, hb⟩; have HB := Lib.hid (HB.out.trans (hb.mono HB.out.size)); clear hb) | (go_at_call 16; (with_reducible refine (n_p34 _).mono ?_); rintro e w' ⟨rfl, hb⟩; have HB := Lib.hid (HB.out.trans (hb.mono HB.out.size)); clear hb) | (go_at_call 16; (with_reducible refine (n_p50 _).mono ?_); rintro e w' ⟨rfl, hb⟩; have HB := Lib.hid (HB.out.trans (hb.mono HB.out.size)); clear hb) | (go_at_call 16; (with_reducible refine (n_p1 _).mono ?_); rintro e w' ⟨rfl, hb⟩; have HB := Lib.hid (HB.out.trans (hb.mono HB.out.size)); clear hb))
  go_ret
  exact ⟨rfl, HB.out⟩
end Go.Proofs.Ytdapbaakcpjafaa
