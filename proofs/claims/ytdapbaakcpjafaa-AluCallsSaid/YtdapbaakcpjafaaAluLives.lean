/-
  Proved here: the laws' own do, op by op; their first question, lives, returns true; what was there is as it was. No condition.
-/
import Derived.Test.YtdapbaakcpjafaaAluDo
namespace Go.Proofs.Ytdapbaakcpjafaa
open Go.RowKit

/-- Do, by the op that it comes to -/
theorem law_do (op : Int) (a b : BitVec 64) (r e : Int) (H : Hid (∀ w, Calls Try.prog 10 #[.int .i64 op, .int .u64 (U a), .int .u64 (U b)] w fun x w' => x = .returned (.tuple #[.int .u64 r, .int .i64 e]) ∧ Below w.heap.size w w')) (w : World) :
    Calls Try.prog 15 #[.int .i64 op, .int .u64 (U a), .int .u64 (U b)] w fun x w' => x = .returned (.int .u64 r) ∧ Below w.heap.size w w' := by
  go_enter Try.func15, Try.ntmps15
  go_wp2_with (go_at_call 10; (with_reducible refine (H.out _).mono ?_); rintro x w' ⟨rfl, hb⟩; have HB := Lib.hid hb; clear hb)
  go_ret
  exact ⟨rfl, HB.out⟩
theorem plain_own (k : Nat) (h1 : 35 ≤ k) (h2 : k ≤ 62) : plainI k = k := by unfold plainI; rw [if_pos (by omega)]
theorem do_own (k : Nat) (h1 : 35 ≤ k) (h2 : k ≤ 62) (a b : BitVec 64) (w : World) :
    Calls Try.prog 15 #[.int .i64 (k : Int), .int .u64 (U a), .int .u64 (U b)] w fun x w' => x = .returned (.int .u64 (U (doV k a b))) ∧ Below w.heap.size w w' :=
  law_do k a b _ 0 (Lib.hid (Do_own k k a b (plain_own k h1 h2) h1 h2)) w
theorem do_35 (a b : BitVec 64) (w : World) : Calls Try.prog 15 #[.int .i64 35, .int .u64 (U a), .int .u64 (U b)] w fun x w' => x = .returned (.int .u64 (U (a + b))) ∧ Below w.heap.size w w' := do_own 35 (by omega) (by omega) a b w
theorem do_36 (a b : BitVec 64) (w : World) : Calls Try.prog 15 #[.int .i64 36, .int .u64 (U a), .int .u64 (U b)] w fun x w' => x = .returned (.int .u64 (U (a - b))) ∧ Below w.heap.size w w' := do_own 36 (by omega) (by omega) a b w
theorem do_37 (a b : BitVec 64) (w : World) : Calls Try.prog 15 #[.int .i64 37, .int .u64 (U a), .int .u64 (U b)] w fun x w' => x = .returned (.int .u64 (U (a <<< far6 b))) ∧ Below w.heap.size w w' := do_own 37 (by omega) (by omega) a b w
theorem do_38 (a b : BitVec 64) (w : World) : Calls Try.prog 15 #[.int .i64 38, .int .u64 (U a), .int .u64 (U b)] w fun x w' => x = .returned (.int .u64 (U (bitV (decide (S a < S b))))) ∧ Below w.heap.size w w' := do_own 38 (by omega) (by omega) a b w
theorem do_39 (a b : BitVec 64) (w : World) : Calls Try.prog 15 #[.int .i64 39, .int .u64 (U a), .int .u64 (U b)] w fun x w' => x = .returned (.int .u64 (U (bitV (decide (U a < U b))))) ∧ Below w.heap.size w w' := do_own 39 (by omega) (by omega) a b w
theorem do_40 (a b : BitVec 64) (w : World) : Calls Try.prog 15 #[.int .i64 40, .int .u64 (U a), .int .u64 (U b)] w fun x w' => x = .returned (.int .u64 (U (a ^^^ b))) ∧ Below w.heap.size w w' := do_own 40 (by omega) (by omega) a b w
theorem do_41 (a b : BitVec 64) (w : World) : Calls Try.prog 15 #[.int .i64 41, .int .u64 (U a), .int .u64 (U b)] w fun x w' => x = .returned (.int .u64 (U (a >>> far6 b))) ∧ Below w.heap.size w w' := do_own 41 (by omega) (by omega) a b w
theorem do_42 (a b : BitVec 64) (w : World) : Calls Try.prog 15 #[.int .i64 42, .int .u64 (U a), .int .u64 (U b)] w fun x w' => x = .returned (.int .u64 (U (a.sshiftRight (far6 b)))) ∧ Below w.heap.size w w' := do_own 42 (by omega) (by omega) a b w
theorem do_43 (a b : BitVec 64) (w : World) : Calls Try.prog 15 #[.int .i64 43, .int .u64 (U a), .int .u64 (U b)] w fun x w' => x = .returned (.int .u64 (U (a ||| b))) ∧ Below w.heap.size w w' := do_own 43 (by omega) (by omega) a b w
theorem do_44 (a b : BitVec 64) (w : World) : Calls Try.prog 15 #[.int .i64 44, .int .u64 (U a), .int .u64 (U b)] w fun x w' => x = .returned (.int .u64 (U (a &&& b))) ∧ Below w.heap.size w w' := do_own 44 (by omega) (by omega) a b w
theorem do_45 (a b : BitVec 64) (w : World) : Calls Try.prog 15 #[.int .i64 45, .int .u64 (U a), .int .u64 (U b)] w fun x w' => x = .returned (.int .u64 (U (sh (a + b)))) ∧ Below w.heap.size w w' := do_own 45 (by omega) (by omega) a b w
theorem do_46 (a b : BitVec 64) (w : World) : Calls Try.prog 15 #[.int .i64 46, .int .u64 (U a), .int .u64 (U b)] w fun x w' => x = .returned (.int .u64 (U (sh (a - b)))) ∧ Below w.heap.size w w' := do_own 46 (by omega) (by omega) a b w
theorem do_47 (a b : BitVec 64) (w : World) : Calls Try.prog 15 #[.int .i64 47, .int .u64 (U a), .int .u64 (U b)] w fun x w' => x = .returned (.int .u64 (U (sh (a <<< far5 b)))) ∧ Below w.heap.size w w' := do_own 47 (by omega) (by omega) a b w
theorem do_48 (a b : BitVec 64) (w : World) : Calls Try.prog 15 #[.int .i64 48, .int .u64 (U a), .int .u64 (U b)] w fun x w' => x = .returned (.int .u64 (U (sh (lo a >>> far5 b)))) ∧ Below w.heap.size w w' := do_own 48 (by omega) (by omega) a b w
theorem do_49 (a b : BitVec 64) (w : World) : Calls Try.prog 15 #[.int .i64 49, .int .u64 (U a), .int .u64 (U b)] w fun x w' => x = .returned (.int .u64 (U ((sh a).sshiftRight (far5 b)))) ∧ Below w.heap.size w w' := do_own 49 (by omega) (by omega) a b w
theorem do_50 (a b : BitVec 64) (w : World) : Calls Try.prog 15 #[.int .i64 50, .int .u64 (U a), .int .u64 (U b)] w fun x w' => x = .returned (.int .u64 (U (a * b))) ∧ Below w.heap.size w w' := do_own 50 (by omega) (by omega) a b w
theorem do_51 (a b : BitVec 64) (w : World) : Calls Try.prog 15 #[.int .i64 51, .int .u64 (U a), .int .u64 (U b)] w fun x w' => x = .returned (.int .u64 (U (hiV a b - abV a b - abV b a))) ∧ Below w.heap.size w w' := do_own 51 (by omega) (by omega) a b w
theorem do_52 (a b : BitVec 64) (w : World) : Calls Try.prog 15 #[.int .i64 52, .int .u64 (U a), .int .u64 (U b)] w fun x w' => x = .returned (.int .u64 (U (hiV a b - abV a b))) ∧ Below w.heap.size w w' := do_own 52 (by omega) (by omega) a b w
theorem do_53 (a b : BitVec 64) (w : World) : Calls Try.prog 15 #[.int .i64 53, .int .u64 (U a), .int .u64 (U b)] w fun x w' => x = .returned (.int .u64 (U (hiV a b))) ∧ Below w.heap.size w w' := do_own 53 (by omega) (by omega) a b w
theorem do_54 (a b : BitVec 64) (w : World) : Calls Try.prog 15 #[.int .i64 54, .int .u64 (U a), .int .u64 (U b)] w fun x w' => x = .returned (.int .u64 (U (quoV a b))) ∧ Below w.heap.size w w' := do_own 54 (by omega) (by omega) a b w
theorem do_55 (a b : BitVec 64) (w : World) : Calls Try.prog 15 #[.int .i64 55, .int .u64 (U a), .int .u64 (U b)] w fun x w' => x = .returned (.int .u64 (U (quoU a b))) ∧ Below w.heap.size w w' := do_own 55 (by omega) (by omega) a b w
theorem do_56 (a b : BitVec 64) (w : World) : Calls Try.prog 15 #[.int .i64 56, .int .u64 (U a), .int .u64 (U b)] w fun x w' => x = .returned (.int .u64 (U (remV a b))) ∧ Below w.heap.size w w' := do_own 56 (by omega) (by omega) a b w
theorem do_57 (a b : BitVec 64) (w : World) : Calls Try.prog 15 #[.int .i64 57, .int .u64 (U a), .int .u64 (U b)] w fun x w' => x = .returned (.int .u64 (U (remU a b))) ∧ Below w.heap.size w w' := do_own 57 (by omega) (by omega) a b w
theorem do_58 (a b : BitVec 64) (w : World) : Calls Try.prog 15 #[.int .i64 58, .int .u64 (U a), .int .u64 (U b)] w fun x w' => x = .returned (.int .u64 (U (sh (a * b)))) ∧ Below w.heap.size w w' := do_own 58 (by omega) (by omega) a b w
theorem do_59 (a b : BitVec 64) (w : World) : Calls Try.prog 15 #[.int .i64 59, .int .u64 (U a), .int .u64 (U b)] w fun x w' => x = .returned (.int .u64 (U (sh (quoV (sh a) (sh b))))) ∧ Below w.heap.size w w' := do_own 59 (by omega) (by omega) a b w
theorem do_60 (a b : BitVec 64) (w : World) : Calls Try.prog 15 #[.int .i64 60, .int .u64 (U a), .int .u64 (U b)] w fun x w' => x = .returned (.int .u64 (U (sh (quoU (lo a) (lo b))))) ∧ Below w.heap.size w w' := do_own 60 (by omega) (by omega) a b w
theorem do_61 (a b : BitVec 64) (w : World) : Calls Try.prog 15 #[.int .i64 61, .int .u64 (U a), .int .u64 (U b)] w fun x w' => x = .returned (.int .u64 (U (sh (remV (sh a) (sh b))))) ∧ Below w.heap.size w w' := do_own 61 (by omega) (by omega) a b w
theorem do_62 (a b : BitVec 64) (w : World) : Calls Try.prog 15 #[.int .i64 62, .int .u64 (U a), .int .u64 (U b)] w fun x w' => x = .returned (.int .u64 (U (sh (remU (lo a) (lo b))))) ∧ Below w.heap.size w w' := do_own 62 (by omega) (by omega) a b w
theorem below_any (n : Int) (w : World) : Calls Try.prog 12 #[.int .u64 n] w fun e w' => e = .returned (.int .u64 (IntKind.u64.wrap (-n))) ∧ w = w' := by
  go_enter Try.func12, Try.ntmps12
  go_wp2
  go_ret
  exact ⟨rfl, rfl⟩
theorem lit_do {op x y r : Int} {a b c : BitVec 64} (h : ∀ w, Calls Try.prog 15 #[.int .i64 op, .int .u64 (U a), .int .u64 (U b)] w fun x w' => x = .returned (.int .u64 (U c)) ∧ Below w.heap.size w w') (hx : U a = x) (hy : U b = y) (hr : U c = r) (w : World) :
    Calls Try.prog 15 #[.int .i64 op, .int .u64 x, .int .u64 y] w fun x w' => x = .returned (.int .u64 r) ∧ Below w.heap.size w w' := by
  subst hx hy hr; exact h w
theorem live_0 (w : World) : Calls Try.prog 15 #[.int .i64 54, .int .u64 18446744073709551609, .int .u64 2] w fun x w' => x = .returned (.int .u64 18446744073709551613) ∧ Below w.heap.size w w' := lit_do (do_54 18446744073709551609#64 2#64) (by decide +kernel) (by decide +kernel) (by decide +kernel) w
theorem live_1 (w : World) : Calls Try.prog 15 #[.int .i64 56, .int .u64 18446744073709551609, .int .u64 2] w fun x w' => x = .returned (.int .u64 18446744073709551615) ∧ Below w.heap.size w w' := lit_do (do_56 18446744073709551609#64 2#64) (by decide +kernel) (by decide +kernel) (by decide +kernel) w
theorem live_2 (w : World) : Calls Try.prog 15 #[.int .i64 55, .int .u64 5, .int .u64 0] w fun x w' => x = .returned (.int .u64 18446744073709551615) ∧ Below w.heap.size w w' := lit_do (do_55 5#64 0#64) (by decide +kernel) (by decide +kernel) (by decide +kernel) w
theorem live_3 (w : World) : Calls Try.prog 15 #[.int .i64 56, .int .u64 5, .int .u64 0] w fun x w' => x = .returned (.int .u64 5) ∧ Below w.heap.size w w' := lit_do (do_56 5#64 0#64) (by decide +kernel) (by decide +kernel) (by decide +kernel) w
theorem live_4 (w : World) : Calls Try.prog 15 #[.int .i64 49, .int .u64 2147483648, .int .u64 4] w fun x w' => x = .returned (.int .u64 18446744073575333888) ∧ Below w.heap.size w w' := lit_do (do_49 2147483648#64 4#64) (by decide +kernel) (by decide +kernel) (by decide +kernel) w
theorem live_5 (w : World) : Calls Try.prog 15 #[.int .i64 53, .int .u64 9223372036854775808, .int .u64 4] w fun x w' => x = .returned (.int .u64 2) ∧ Below w.heap.size w w' := lit_do (do_53 9223372036854775808#64 4#64) (by decide +kernel) (by decide +kernel) (by decide +kernel) w
theorem lives_any (w : World) : Calls Try.prog 14 #[] w fun e w' => e = .returned (.bool true) ∧ Below w.heap.size w w' := by
  have n7 : IntKind.u64.wrap (-7) = 18446744073709551609 := by decide +kernel
  have n3 : IntKind.u64.wrap (-3) = 18446744073709551613 := by decide +kernel
  have n1 : IntKind.u64.wrap (-1) = 18446744073709551615 := by decide +kernel
  have HB := Lib.hid (Below.refl w.heap.size w)
  go_enter Try.func14, Try.ntmps14
  go_wp2_with (first | (go_at_call 12; (with_reducible refine (below_any _ _).mono ?_); rintro e w' ⟨rfl, rfl⟩) | (go_at_call 15; (with_reducible refine (live_0 _).mono ?_); rintro e w' ⟨rfl, hb⟩; have HB := Lib.hid (HB.out.trans (hb.mono HB.out.size)); clear hb) | (go_at_call 15; (with_reducible refine (live_1 _).mono ?_); rintro e w' ⟨rfl, hb⟩; have HB := Lib.hid (HB.out.trans (hb.mono HB.out.size)); clear hb) | (go_at_call 15; (with_reducible refine (live_2 _).mono ?_); rintro e w' ⟨rfl, hb⟩; have HB := Lib.hid (HB.out.trans (hb.mono HB.out.size)); clear hb) | (go_at_call 15; (with_reducible refine (live_3 _).mono ?_); rintro e w' ⟨rfl, hb⟩; have HB := Lib.hid (HB.out.trans (hb.mono HB.out.size)); clear hb) | (go_at_call 15; (with_reducible refine (live_4 _).mono ?_); rintro e w' ⟨rfl, hb⟩; have HB := Lib.hid (HB.out.trans (hb.mono HB.out.size)); clear hb) | (go_at_call 15; (with_reducible refine (live_5 _).mono ?_); rintro e w' ⟨rfl, hb⟩; have HB := Lib.hid (HB.out.trans (hb.mono HB.out.size)); clear hb))
  go_ret
  exact ⟨rfl, HB.out⟩
end Go.Proofs.Ytdapbaakcpjafaa
