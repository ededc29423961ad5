/-
  Proved here: the law AluCalls returns true at every op and every two words, and what was there is as it was. No condition.
-/
import Derived.Test.YtjdfhohchicgbaaDoorAluDo
namespace Go.Proofs.YtjdfhohchicgbaaDoor
open Go.RowKit
/-! ### what Do, Takes, Amo answer of every op -/
def amX (op : Int) (a b : BitVec 64) : Int := if 70 ≤ op ∧ op ≤ 78 then U (sh (amV (op.toNat + 9) (sh a) (sh b))) else if 79 ≤ op ∧ op ≤ 87 then U (amV op.toNat a b) else 0
def amE (op : Int) : Int := if 70 ≤ op ∧ op ≤ 87 then 0 else 2
theorem tup_int {p q : Int} (h : p = q) : Ending.returned (.tuple #[.int .u64 p, .int .i64 0]) = .returned (.tuple #[.int .u64 q, .int .i64 0]) := by rw [h]
theorem same_below {f : Nat} {args : Array Value} {w : World} {v : Value} (h : Calls Tryd.prog f args w fun e w' => e = .returned v ∧ w = w') : Calls Tryd.prog f args w fun e w' => e = .returned v ∧ Below w.heap.size w w' :=
  h.mono fun _ _ ⟨h1, h2⟩ => ⟨h1, h2 ▸ Below.refl _ _⟩
theorem rshort_U (x : BitVec 64) (w : World) : Calls Tryd.prog 38 #[.int .u64 (U x)] w fun e w' => e = .returned (.int .u64 (U (sh x))) ∧ w = w' := by
  have h := refShort_any x w
  rw [shortI_U] at h
  exact h
theorem pAmo_any (op : Int) (a b : BitVec 64) (w : World) : Calls Tryd.prog 42 #[.int .i64 op, .int .u64 (U a), .int .u64 (U b)] w fun e w' => e = .returned (.tuple #[.int .u64 (amX op a b), .int .i64 (amE op)]) ∧ Below w.heap.size w w' := by
  unfold amX amE
  by_cases h : 70 ≤ op ∧ op ≤ 87
  · rw [if_pos h]
    obtain ⟨k, rfl⟩ : ∃ k : Nat, op = k := ⟨op.toNat, by omega⟩
    by_cases h1 : 70 ≤ (k : Int) ∧ (k : Int) ≤ 78
    · rw [if_pos h1]; exact Amo_short k a b (by omega) (by omega) w
    · rw [if_neg h1, if_pos (by omega)]; exact Amo_long k a b (by omega) (by omega) w
  · rw [if_neg h, if_neg (by omega), if_neg (by omega)]
    by_cases h0 : op < 0 ∨ 87 < op
    · exact Amo_out op a b h0 w
    · obtain ⟨k, rfl⟩ : ∃ k : Nat, op = k := ⟨op.toNat, by omega⟩
      exact Amo_nil k a b (by omega) w
theorem ram_79 (a b : BitVec 64) (w : World) : Calls Tryd.prog 18 #[.int .i64 79, .int .u64 (U a), .int .u64 (U b)] w fun e w' => e = .returned (.tuple #[.int .u64 (U (b)), .int .i64 0]) ∧ w = w' := by
  go_enter Tryd.func18, Tryd.ntmps18
  go_wp2
  go_ret2
  exact ⟨rfl, rfl⟩
theorem ram_80 (a b : BitVec 64) (w : World) : Calls Tryd.prog 18 #[.int .i64 80, .int .u64 (U a), .int .u64 (U b)] w fun e w' => e = .returned (.tuple #[.int .u64 (U (a + b)), .int .i64 0]) ∧ w = w' := by
  have t := add_U a b
  go_enter Tryd.func18, Tryd.ntmps18
  go_wp2
  go_ret2
  exact ⟨rfl, rfl⟩
theorem ram_81 (a b : BitVec 64) (w : World) : Calls Tryd.prog 18 #[.int .i64 81, .int .u64 (U a), .int .u64 (U b)] w fun e w' => e = .returned (.tuple #[.int .u64 (U (a ^^^ b)), .int .i64 0]) ∧ w = w' := by
  have t := xor_U a b
  go_enter Tryd.func18, Tryd.ntmps18
  go_wp2
  go_ret2
  exact ⟨rfl, rfl⟩
theorem ram_82 (a b : BitVec 64) (w : World) : Calls Tryd.prog 18 #[.int .i64 82, .int .u64 (U a), .int .u64 (U b)] w fun e w' => e = .returned (.tuple #[.int .u64 (U (a &&& b)), .int .i64 0]) ∧ w = w' := by
  have t := and_U a b
  go_enter Tryd.func18, Tryd.ntmps18
  go_wp2
  go_ret2
  exact ⟨rfl, rfl⟩
theorem ram_83 (a b : BitVec 64) (w : World) : Calls Tryd.prog 18 #[.int .i64 83, .int .u64 (U a), .int .u64 (U b)] w fun e w' => e = .returned (.tuple #[.int .u64 (U (a ||| b)), .int .i64 0]) ∧ w = w' := by
  have t := or_U a b
  go_enter Tryd.func18, Tryd.ntmps18
  go_wp2
  go_ret2
  exact ⟨rfl, rfl⟩
theorem ram_84 (a b : BitVec 64) (w : World) : Calls Tryd.prog 18 #[.int .i64 84, .int .u64 (U a), .int .u64 (U b)] w fun e w' => e = .returned (.tuple #[.int .u64 (U (minSV a b)), .int .i64 0]) ∧ w = w' := by
  have e1 := wrapS_U a
  have e2 := wrapS_U b
  go_enter Tryd.func18, Tryd.ntmps18
  go_wp2
  all_goals
    go_ret2
    exact ⟨tup_int (by first | (rw [minSV_l (by omega)]; rw [wrapU_S]; done) | (rw [minSV_r (by omega)]; rw [wrapU_S]; done)), rfl⟩
theorem ram_85 (a b : BitVec 64) (w : World) : Calls Tryd.prog 18 #[.int .i64 85, .int .u64 (U a), .int .u64 (U b)] w fun e w' => e = .returned (.tuple #[.int .u64 (U (maxSV a b)), .int .i64 0]) ∧ w = w' := by
  have e1 := wrapS_U a
  have e2 := wrapS_U b
  go_enter Tryd.func18, Tryd.ntmps18
  go_wp2
  all_goals
    go_ret2
    exact ⟨tup_int (by first | (rw [maxSV_l (by omega)]; rw [wrapU_S]; done) | (rw [maxSV_r (by omega)]; rw [wrapU_S]; done)), rfl⟩
theorem ram_86 (a b : BitVec 64) (w : World) : Calls Tryd.prog 18 #[.int .i64 86, .int .u64 (U a), .int .u64 (U b)] w fun e w' => e = .returned (.tuple #[.int .u64 (U (minUV a b)), .int .i64 0]) ∧ w = w' := by
  go_enter Tryd.func18, Tryd.ntmps18
  go_wp2
  all_goals
    go_ret2
    exact ⟨tup_int (by first | (rw [minUV_l (by omega)]; done) | (rw [minUV_r (by omega)]; done)), rfl⟩
theorem ram_87 (a b : BitVec 64) (w : World) : Calls Tryd.prog 18 #[.int .i64 87, .int .u64 (U a), .int .u64 (U b)] w fun e w' => e = .returned (.tuple #[.int .u64 (U (maxUV a b)), .int .i64 0]) ∧ w = w' := by
  go_enter Tryd.func18, Tryd.ntmps18
  go_wp2
  all_goals
    go_ret2
    exact ⟨tup_int (by first | (rw [maxUV_l (by omega)]; done) | (rw [maxUV_r (by omega)]; done)), rfl⟩
theorem ram_70 (a b : BitVec 64) (w : World) : Calls Tryd.prog 18 #[.int .i64 70, .int .u64 (U a), .int .u64 (U b)] w fun e w' => e = .returned (.tuple #[.int .u64 (U (sh ((sh b)))), .int .i64 0]) ∧ w = w' := by
  go_enter Tryd.func18, Tryd.ntmps18
  go_wp2_with (first | (go_at_call 38; (with_reducible refine (rshort_U _ _).mono ?_); rintro e w' ⟨rfl, rfl⟩) | (go_at_call 18; (with_reducible refine (ram_79 _ _ _).mono ?_); rintro e w' ⟨rfl, rfl⟩))
  go_ret2
  exact ⟨rfl, rfl⟩
theorem ram_71 (a b : BitVec 64) (w : World) : Calls Tryd.prog 18 #[.int .i64 71, .int .u64 (U a), .int .u64 (U b)] w fun e w' => e = .returned (.tuple #[.int .u64 (U (sh ((sh a) + (sh b)))), .int .i64 0]) ∧ w = w' := by
  go_enter Tryd.func18, Tryd.ntmps18
  go_wp2_with (first | (go_at_call 38; (with_reducible refine (rshort_U _ _).mono ?_); rintro e w' ⟨rfl, rfl⟩) | (go_at_call 18; (with_reducible refine (ram_80 _ _ _).mono ?_); rintro e w' ⟨rfl, rfl⟩))
  go_ret2
  exact ⟨rfl, rfl⟩
theorem ram_72 (a b : BitVec 64) (w : World) : Calls Tryd.prog 18 #[.int .i64 72, .int .u64 (U a), .int .u64 (U b)] w fun e w' => e = .returned (.tuple #[.int .u64 (U (sh ((sh a) ^^^ (sh b)))), .int .i64 0]) ∧ w = w' := by
  go_enter Tryd.func18, Tryd.ntmps18
  go_wp2_with (first | (go_at_call 38; (with_reducible refine (rshort_U _ _).mono ?_); rintro e w' ⟨rfl, rfl⟩) | (go_at_call 18; (with_reducible refine (ram_81 _ _ _).mono ?_); rintro e w' ⟨rfl, rfl⟩))
  go_ret2
  exact ⟨rfl, rfl⟩
theorem ram_73 (a b : BitVec 64) (w : World) : Calls Tryd.prog 18 #[.int .i64 73, .int .u64 (U a), .int .u64 (U b)] w fun e w' => e = .returned (.tuple #[.int .u64 (U (sh ((sh a) &&& (sh b)))), .int .i64 0]) ∧ w = w' := by
  go_enter Tryd.func18, Tryd.ntmps18
  go_wp2_with (first | (go_at_call 38; (with_reducible refine (rshort_U _ _).mono ?_); rintro e w' ⟨rfl, rfl⟩) | (go_at_call 18; (with_reducible refine (ram_82 _ _ _).mono ?_); rintro e w' ⟨rfl, rfl⟩))
  go_ret2
  exact ⟨rfl, rfl⟩
theorem ram_74 (a b : BitVec 64) (w : World) : Calls Tryd.prog 18 #[.int .i64 74, .int .u64 (U a), .int .u64 (U b)] w fun e w' => e = .returned (.tuple #[.int .u64 (U (sh ((sh a) ||| (sh b)))), .int .i64 0]) ∧ w = w' := by
  go_enter Tryd.func18, Tryd.ntmps18
  go_wp2_with (first | (go_at_call 38; (with_reducible refine (rshort_U _ _).mono ?_); rintro e w' ⟨rfl, rfl⟩) | (go_at_call 18; (with_reducible refine (ram_83 _ _ _).mono ?_); rintro e w' ⟨rfl, rfl⟩))
  go_ret2
  exact ⟨rfl, rfl⟩
theorem ram_75 (a b : BitVec 64) (w : World) : Calls Tryd.prog 18 #[.int .i64 75, .int .u64 (U a), .int .u64 (U b)] w fun e w' => e = .returned (.tuple #[.int .u64 (U (sh (minSV (sh a) (sh b)))), .int .i64 0]) ∧ w = w' := by
  go_enter Tryd.func18, Tryd.ntmps18
  go_wp2_with (first | (go_at_call 38; (with_reducible refine (rshort_U _ _).mono ?_); rintro e w' ⟨rfl, rfl⟩) | (go_at_call 18; (with_reducible refine (ram_84 _ _ _).mono ?_); rintro e w' ⟨rfl, rfl⟩))
  go_ret2
  exact ⟨rfl, rfl⟩
theorem ram_76 (a b : BitVec 64) (w : World) : Calls Tryd.prog 18 #[.int .i64 76, .int .u64 (U a), .int .u64 (U b)] w fun e w' => e = .returned (.tuple #[.int .u64 (U (sh (maxSV (sh a) (sh b)))), .int .i64 0]) ∧ w = w' := by
  go_enter Tryd.func18, Tryd.ntmps18
  go_wp2_with (first | (go_at_call 38; (with_reducible refine (rshort_U _ _).mono ?_); rintro e w' ⟨rfl, rfl⟩) | (go_at_call 18; (with_reducible refine (ram_85 _ _ _).mono ?_); rintro e w' ⟨rfl, rfl⟩))
  go_ret2
  exact ⟨rfl, rfl⟩
theorem ram_77 (a b : BitVec 64) (w : World) : Calls Tryd.prog 18 #[.int .i64 77, .int .u64 (U a), .int .u64 (U b)] w fun e w' => e = .returned (.tuple #[.int .u64 (U (sh (minUV (sh a) (sh b)))), .int .i64 0]) ∧ w = w' := by
  go_enter Tryd.func18, Tryd.ntmps18
  go_wp2_with (first | (go_at_call 38; (with_reducible refine (rshort_U _ _).mono ?_); rintro e w' ⟨rfl, rfl⟩) | (go_at_call 18; (with_reducible refine (ram_86 _ _ _).mono ?_); rintro e w' ⟨rfl, rfl⟩))
  go_ret2
  exact ⟨rfl, rfl⟩
theorem ram_78 (a b : BitVec 64) (w : World) : Calls Tryd.prog 18 #[.int .i64 78, .int .u64 (U a), .int .u64 (U b)] w fun e w' => e = .returned (.tuple #[.int .u64 (U (sh (maxUV (sh a) (sh b)))), .int .i64 0]) ∧ w = w' := by
  go_enter Tryd.func18, Tryd.ntmps18
  go_wp2_with (first | (go_at_call 38; (with_reducible refine (rshort_U _ _).mono ?_); rintro e w' ⟨rfl, rfl⟩) | (go_at_call 18; (with_reducible refine (ram_87 _ _ _).mono ?_); rintro e w' ⟨rfl, rfl⟩))
  go_ret2
  exact ⟨rfl, rfl⟩
theorem ram_not (op : Int) (a b : BitVec 64) (h : op < 70 ∨ 87 < op) (w : World) : Calls Tryd.prog 18 #[.int .i64 op, .int .u64 (U a), .int .u64 (U b)] w fun e w' => e = .returned (.tuple #[.int .u64 0, .int .i64 2]) ∧ w = w' := by
  rcases h with h | h
  · have d : decide (op < 70) = true := decide_eq_true h
    clear h
    go_enter Tryd.func18, Tryd.ntmps18
    go_wp2
    go_ret2
    exact ⟨rfl, rfl⟩
  · have d : decide (op < 70) = false := decide_eq_false (by omega)
    have d2 : decide (87 < op) = true := decide_eq_true h
    clear h
    go_enter Tryd.func18, Tryd.ntmps18
    go_wp2
    go_ret2
    exact ⟨rfl, rfl⟩
theorem am_eq_79 (a b : BitVec 64) : amV 79 a b = b := rfl
theorem am_eq_80 (a b : BitVec 64) : amV 80 a b = a + b := rfl
theorem am_eq_81 (a b : BitVec 64) : amV 81 a b = a ^^^ b := rfl
theorem am_eq_82 (a b : BitVec 64) : amV 82 a b = a &&& b := rfl
theorem am_eq_83 (a b : BitVec 64) : amV 83 a b = a ||| b := rfl
theorem am_eq_84 (a b : BitVec 64) : amV 84 a b = minSV a b := rfl
theorem am_eq_85 (a b : BitVec 64) : amV 85 a b = maxSV a b := rfl
theorem am_eq_86 (a b : BitVec 64) : amV 86 a b = minUV a b := rfl
theorem am_eq_87 (a b : BitVec 64) : amV 87 a b = maxUV a b := rfl
theorem ramS_any (k : Nat) (hk : k = 70 ∨ k = 71 ∨ k = 72 ∨ k = 73 ∨ k = 74 ∨ k = 75 ∨ k = 76 ∨ k = 77 ∨ k = 78) (a b : BitVec 64) (w : World) : Calls Tryd.prog 18 #[.int .i64 (k : Int), .int .u64 (U a), .int .u64 (U b)] w fun e w' => e = .returned (.tuple #[.int .u64 (U (sh (amV (k + 9) (sh a) (sh b)))), .int .i64 0]) ∧ w = w' := by
  rcases hk with rfl | rfl | rfl | rfl | rfl | rfl | rfl | rfl | rfl
  · have h := ram_70 a b w
    rw [← am_eq_79 (sh a) (sh b)] at h
    exact h
  · have h := ram_71 a b w
    rw [← am_eq_80 (sh a) (sh b)] at h
    exact h
  · have h := ram_72 a b w
    rw [← am_eq_81 (sh a) (sh b)] at h
    exact h
  · have h := ram_73 a b w
    rw [← am_eq_82 (sh a) (sh b)] at h
    exact h
  · have h := ram_74 a b w
    rw [← am_eq_83 (sh a) (sh b)] at h
    exact h
  · have h := ram_75 a b w
    rw [← am_eq_84 (sh a) (sh b)] at h
    exact h
  · have h := ram_76 a b w
    rw [← am_eq_85 (sh a) (sh b)] at h
    exact h
  · have h := ram_77 a b w
    rw [← am_eq_86 (sh a) (sh b)] at h
    exact h
  · have h := ram_78 a b w
    rw [← am_eq_87 (sh a) (sh b)] at h
    exact h
theorem ramL_any (k : Nat) (hk : k = 79 ∨ k = 80 ∨ k = 81 ∨ k = 82 ∨ k = 83 ∨ k = 84 ∨ k = 85 ∨ k = 86 ∨ k = 87) (a b : BitVec 64) (w : World) : Calls Tryd.prog 18 #[.int .i64 (k : Int), .int .u64 (U a), .int .u64 (U b)] w fun e w' => e = .returned (.tuple #[.int .u64 (U (amV k a b)), .int .i64 0]) ∧ w = w' := by
  rcases hk with rfl | rfl | rfl | rfl | rfl | rfl | rfl | rfl | rfl
  · exact ram_79 a b w
  · exact ram_80 a b w
  · exact ram_81 a b w
  · exact ram_82 a b w
  · exact ram_83 a b w
  · exact ram_84 a b w
  · exact ram_85 a b w
  · exact ram_86 a b w
  · exact ram_87 a b w
theorem rAmo_any (op : Int) (a b : BitVec 64) (w : World) : Calls Tryd.prog 18 #[.int .i64 op, .int .u64 (U a), .int .u64 (U b)] w fun e w' => e = .returned (.tuple #[.int .u64 (amX op a b), .int .i64 (amE op)]) ∧ Below w.heap.size w w' := by
  refine same_below ?_
  unfold amX amE
  by_cases h : 70 ≤ op ∧ op ≤ 87
  · rw [if_pos h]
    obtain ⟨k, rfl⟩ : ∃ k : Nat, op = k := ⟨op.toNat, by omega⟩
    by_cases h1 : 70 ≤ (k : Int) ∧ (k : Int) ≤ 78
    · rw [if_pos h1, Int.toNat_natCast]; exact ramS_any k (by omega) a b w
    · rw [if_neg h1, if_pos (by omega), Int.toNat_natCast]; exact ramL_any k (by omega) a b w
  · rw [if_neg h, if_neg (by omega), if_neg (by omega)]; exact ram_not op a b (by omega) w
theorem U_of (n : Int) (h0 : 0 ≤ n) (h1 : n < 18446744073709551616) : U (BitVec.ofInt 64 n) = n := by
  unfold U
  rw [BitVec.toNat_ofInt]
  omega
/-- what an amo answers, of integers -/
def amI (op x y : Int) : Int := amX op (BitVec.ofInt 64 x) (BitVec.ofInt 64 y)
def AmoIs (w : World) (op x y : Int) (e : Ending) (w' : World) : Prop := e = .returned (.tuple #[.int .u64 (amI op x y), .int .i64 (amE op)]) ∧ Below w.heap.size w w'
theorem amo_any (op x y : Int) (hx0 : 0 ≤ x) (hx : x < 18446744073709551616) (hy0 : 0 ≤ y) (hy : y < 18446744073709551616) (w : World) : Calls Tryd.prog 42 #[.int .i64 op, .int .u64 x, .int .u64 y] w fun e w' => AmoIs w op x y e w' := by
  have h := pAmo_any op (BitVec.ofInt 64 x) (BitVec.ofInt 64 y) w
  rw [U_of x hx0 hx, U_of y hy0 hy] at h
  exact h
theorem rAmo_int (op x y : Int) (hx0 : 0 ≤ x) (hx : x < 18446744073709551616) (hy0 : 0 ≤ y) (hy : y < 18446744073709551616) (w : World) : Calls Tryd.prog 18 #[.int .i64 op, .int .u64 x, .int .u64 y] w fun e w' => AmoIs w op x y e w' := by
  have h := rAmo_any op (BitVec.ofInt 64 x) (BitVec.ofInt 64 y) w
  rw [U_of x hx0 hx, U_of y hy0 hy] at h
  exact h
theorem amX_lt (op : Int) (a b : BitVec 64) : 0 ≤ amX op a b ∧ amX op a b < 18446744073709551616 := by
  unfold amX
  split
  · exact ⟨Int.natCast_nonneg _, by have := (sh (amV (op.toNat + 9) (sh a) (sh b))).isLt; unfold U; omega⟩
  · split
    · exact ⟨Int.natCast_nonneg _, by have := (amV op.toNat a b).isLt; unfold U; omega⟩
    · omega
theorem amI_lt (op x y : Int) : 0 ≤ amI op x y ∧ amI op x y < 18446744073709551616 := amX_lt _ _ _
theorem amE_is (op : Int) : amE op = 0 ∨ amE op = 2 := by unfold amE; split <;> simp
end Go.Proofs.YtjdfhohchicgbaaDoor
