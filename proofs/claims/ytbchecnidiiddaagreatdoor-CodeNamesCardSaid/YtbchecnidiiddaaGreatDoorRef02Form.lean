/-
  Proved here: the document's Form (layer 2), of any number, is the form that the chapter's table has. No condition.
-/
import Derived.Test.YtbchecnidiiddaaGreatDoorProg
import Derived.Test.YtbchecnidiiddaaGreatDoorInsnPlain
import Derived.WalkLawsBesides
import Derived.WalkSpells
import Derived.Lib.Hide
namespace Go.Proofs.YtbchecnidiiddaaGreatDoor
open Go.RowKit
theorem form_span (op : Int) (a b f : Nat) (h1 : (a : Int) ≤ op) (h2 : op ≤ (b : Int)) (hb : b < 88) (h : ∀ k : Fin 88, a ≤ k.1 → k.1 ≤ b → formOf (k.1 : Nat) = (f : Int)) : formOf op = (f : Int) := by
  have h3 := h ⟨op.toNat, by omega⟩ (by simp only; omega) (by simp only; omega)
  simp only at h3
  rw [show ((op.toNat : Nat) : Int) = op by omega] at h3
  exact h3
theorem rform_lo (op : Int) (h2 : op ≤ 0) (w : World) : Calls Tryz.prog 36 #[.int .i64 op] w fun e w' => e = .returned (.int .i64 (0)) ∧ w = w' := by
  have d0 : decide (op < 1) = true := decide_eq_true (by omega)
  have d1 : decide (87 < op) = false := decide_eq_false (by omega)
  have d2 : decide (op ≤ 2) = true := decide_eq_true (by omega)
  have d3 : (op == 3) = false := by simp; omega
  have d4 : (op == 4) = false := by simp; omega
  have d5 : decide (22 ≤ op) = false := decide_eq_false (by omega)
  have d6 : decide (op ≤ 27) = true := decide_eq_true (by omega)
  have d7 : (op == 31) = false := by simp; omega
  have d8 : decide (op ≤ 10) = true := decide_eq_true (by omega)
  have d9 : decide (op ≤ 17) = true := decide_eq_true (by omega)
  have d10 : decide (op ≤ 21) = true := decide_eq_true (by omega)
  have d11 : decide (op ≤ 34) = true := decide_eq_true (by omega)
  have d12 : decide (op ≤ 62) = true := decide_eq_true (by omega)
  have d13 : (op == 63) = false := by simp; omega
  have d14 : decide (op ≤ 65) = true := decide_eq_true (by omega)
  have d15 : decide (op ≤ 67) = true := decide_eq_true (by omega)
  clear h2
  go_enter Tryz.func36, Tryz.ntmps36
  go_wp2
  go_ret
  exact ⟨rfl, rfl⟩
theorem rform_a (op : Int) (h1 : 1 ≤ op) (h2 : op ≤ 2) (w : World) : Calls Tryz.prog 36 #[.int .i64 op] w fun e w' => e = .returned (.int .i64 (1)) ∧ w = w' := by
  have d0 : decide (op < 1) = false := decide_eq_false (by omega)
  have d1 : decide (87 < op) = false := decide_eq_false (by omega)
  have d2 : decide (op ≤ 2) = true := decide_eq_true (by omega)
  have d3 : (op == 3) = false := by simp; omega
  have d4 : (op == 4) = false := by simp; omega
  have d5 : decide (22 ≤ op) = false := decide_eq_false (by omega)
  have d6 : decide (op ≤ 27) = true := decide_eq_true (by omega)
  have d7 : (op == 31) = false := by simp; omega
  have d8 : decide (op ≤ 10) = true := decide_eq_true (by omega)
  have d9 : decide (op ≤ 17) = true := decide_eq_true (by omega)
  have d10 : decide (op ≤ 21) = true := decide_eq_true (by omega)
  have d11 : decide (op ≤ 34) = true := decide_eq_true (by omega)
  have d12 : decide (op ≤ 62) = true := decide_eq_true (by omega)
  have d13 : (op == 63) = false := by simp; omega
  have d14 : decide (op ≤ 65) = true := decide_eq_true (by omega)
  have d15 : decide (op ≤ 67) = true := decide_eq_true (by omega)
  clear h1 h2
  go_enter Tryz.func36, Tryz.ntmps36
  go_wp2
  go_ret
  exact ⟨rfl, rfl⟩
theorem rform_b (op : Int) (h1 : 3 ≤ op) (h2 : op ≤ 3) (w : World) : Calls Tryz.prog 36 #[.int .i64 op] w fun e w' => e = .returned (.int .i64 (2)) ∧ w = w' := by
  have d0 : decide (op < 1) = false := decide_eq_false (by omega)
  have d1 : decide (87 < op) = false := decide_eq_false (by omega)
  have d2 : decide (op ≤ 2) = false := decide_eq_false (by omega)
  have d3 : (op == 3) = true := by simp; omega
  have d4 : (op == 4) = false := by simp; omega
  have d5 : decide (22 ≤ op) = false := decide_eq_false (by omega)
  have d6 : decide (op ≤ 27) = true := decide_eq_true (by omega)
  have d7 : (op == 31) = false := by simp; omega
  have d8 : decide (op ≤ 10) = true := decide_eq_true (by omega)
  have d9 : decide (op ≤ 17) = true := decide_eq_true (by omega)
  have d10 : decide (op ≤ 21) = true := decide_eq_true (by omega)
  have d11 : decide (op ≤ 34) = true := decide_eq_true (by omega)
  have d12 : decide (op ≤ 62) = true := decide_eq_true (by omega)
  have d13 : (op == 63) = false := by simp; omega
  have d14 : decide (op ≤ 65) = true := decide_eq_true (by omega)
  have d15 : decide (op ≤ 67) = true := decide_eq_true (by omega)
  clear h1 h2
  go_enter Tryz.func36, Tryz.ntmps36
  go_wp2
  go_ret
  exact ⟨rfl, rfl⟩
theorem rform_c (op : Int) (h1 : 4 ≤ op) (h2 : op ≤ 4) (w : World) : Calls Tryz.prog 36 #[.int .i64 op] w fun e w' => e = .returned (.int .i64 (3)) ∧ w = w' := by
  have d0 : decide (op < 1) = false := decide_eq_false (by omega)
  have d1 : decide (87 < op) = false := decide_eq_false (by omega)
  have d2 : decide (op ≤ 2) = false := decide_eq_false (by omega)
  have d3 : (op == 3) = false := by simp; omega
  have d4 : (op == 4) = true := by simp; omega
  have d5 : decide (22 ≤ op) = false := decide_eq_false (by omega)
  have d6 : decide (op ≤ 27) = true := decide_eq_true (by omega)
  have d7 : (op == 31) = false := by simp; omega
  have d8 : decide (op ≤ 10) = true := decide_eq_true (by omega)
  have d9 : decide (op ≤ 17) = true := decide_eq_true (by omega)
  have d10 : decide (op ≤ 21) = true := decide_eq_true (by omega)
  have d11 : decide (op ≤ 34) = true := decide_eq_true (by omega)
  have d12 : decide (op ≤ 62) = true := decide_eq_true (by omega)
  have d13 : (op == 63) = false := by simp; omega
  have d14 : decide (op ≤ 65) = true := decide_eq_true (by omega)
  have d15 : decide (op ≤ 67) = true := decide_eq_true (by omega)
  clear h1 h2
  go_enter Tryz.func36, Tryz.ntmps36
  go_wp2
  go_ret
  exact ⟨rfl, rfl⟩
theorem rform_d (op : Int) (h1 : 5 ≤ op) (h2 : op ≤ 10) (w : World) : Calls Tryz.prog 36 #[.int .i64 op] w fun e w' => e = .returned (.int .i64 (6)) ∧ w = w' := by
  have d0 : decide (op < 1) = false := decide_eq_false (by omega)
  have d1 : decide (87 < op) = false := decide_eq_false (by omega)
  have d2 : decide (op ≤ 2) = false := decide_eq_false (by omega)
  have d3 : (op == 3) = false := by simp; omega
  have d4 : (op == 4) = false := by simp; omega
  have d5 : decide (22 ≤ op) = false := decide_eq_false (by omega)
  have d6 : decide (op ≤ 27) = true := decide_eq_true (by omega)
  have d7 : (op == 31) = false := by simp; omega
  have d8 : decide (op ≤ 10) = true := decide_eq_true (by omega)
  have d9 : decide (op ≤ 17) = true := decide_eq_true (by omega)
  have d10 : decide (op ≤ 21) = true := decide_eq_true (by omega)
  have d11 : decide (op ≤ 34) = true := decide_eq_true (by omega)
  have d12 : decide (op ≤ 62) = true := decide_eq_true (by omega)
  have d13 : (op == 63) = false := by simp; omega
  have d14 : decide (op ≤ 65) = true := decide_eq_true (by omega)
  have d15 : decide (op ≤ 67) = true := decide_eq_true (by omega)
  clear h1 h2
  go_enter Tryz.func36, Tryz.ntmps36
  go_wp2
  go_ret
  exact ⟨rfl, rfl⟩
theorem rform_e (op : Int) (h1 : 11 ≤ op) (h2 : op ≤ 17) (w : World) : Calls Tryz.prog 36 #[.int .i64 op] w fun e w' => e = .returned (.int .i64 (4)) ∧ w = w' := by
  have d0 : decide (op < 1) = false := decide_eq_false (by omega)
  have d1 : decide (87 < op) = false := decide_eq_false (by omega)
  have d2 : decide (op ≤ 2) = false := decide_eq_false (by omega)
  have d3 : (op == 3) = false := by simp; omega
  have d4 : (op == 4) = false := by simp; omega
  have d5 : decide (22 ≤ op) = false := decide_eq_false (by omega)
  have d6 : decide (op ≤ 27) = true := decide_eq_true (by omega)
  have d7 : (op == 31) = false := by simp; omega
  have d8 : decide (op ≤ 10) = false := decide_eq_false (by omega)
  have d9 : decide (op ≤ 17) = true := decide_eq_true (by omega)
  have d10 : decide (op ≤ 21) = true := decide_eq_true (by omega)
  have d11 : decide (op ≤ 34) = true := decide_eq_true (by omega)
  have d12 : decide (op ≤ 62) = true := decide_eq_true (by omega)
  have d13 : (op == 63) = false := by simp; omega
  have d14 : decide (op ≤ 65) = true := decide_eq_true (by omega)
  have d15 : decide (op ≤ 67) = true := decide_eq_true (by omega)
  clear h1 h2
  go_enter Tryz.func36, Tryz.ntmps36
  go_wp2
  go_ret
  exact ⟨rfl, rfl⟩
theorem rform_f (op : Int) (h1 : 18 ≤ op) (h2 : op ≤ 21) (w : World) : Calls Tryz.prog 36 #[.int .i64 op] w fun e w' => e = .returned (.int .i64 (5)) ∧ w = w' := by
  have d0 : decide (op < 1) = false := decide_eq_false (by omega)
  have d1 : decide (87 < op) = false := decide_eq_false (by omega)
  have d2 : decide (op ≤ 2) = false := decide_eq_false (by omega)
  have d3 : (op == 3) = false := by simp; omega
  have d4 : (op == 4) = false := by simp; omega
  have d5 : decide (22 ≤ op) = false := decide_eq_false (by omega)
  have d6 : decide (op ≤ 27) = true := decide_eq_true (by omega)
  have d7 : (op == 31) = false := by simp; omega
  have d8 : decide (op ≤ 10) = false := decide_eq_false (by omega)
  have d9 : decide (op ≤ 17) = false := decide_eq_false (by omega)
  have d10 : decide (op ≤ 21) = true := decide_eq_true (by omega)
  have d11 : decide (op ≤ 34) = true := decide_eq_true (by omega)
  have d12 : decide (op ≤ 62) = true := decide_eq_true (by omega)
  have d13 : (op == 63) = false := by simp; omega
  have d14 : decide (op ≤ 65) = true := decide_eq_true (by omega)
  have d15 : decide (op ≤ 67) = true := decide_eq_true (by omega)
  clear h1 h2
  go_enter Tryz.func36, Tryz.ntmps36
  go_wp2
  go_ret
  exact ⟨rfl, rfl⟩
theorem rform_g (op : Int) (h1 : 22 ≤ op) (h2 : op ≤ 27) (w : World) : Calls Tryz.prog 36 #[.int .i64 op] w fun e w' => e = .returned (.int .i64 (3)) ∧ w = w' := by
  have d0 : decide (op < 1) = false := decide_eq_false (by omega)
  have d1 : decide (87 < op) = false := decide_eq_false (by omega)
  have d2 : decide (op ≤ 2) = false := decide_eq_false (by omega)
  have d3 : (op == 3) = false := by simp; omega
  have d4 : (op == 4) = false := by simp; omega
  have d5 : decide (22 ≤ op) = true := decide_eq_true (by omega)
  have d6 : decide (op ≤ 27) = true := decide_eq_true (by omega)
  have d7 : (op == 31) = false := by simp; omega
  have d8 : decide (op ≤ 10) = false := decide_eq_false (by omega)
  have d9 : decide (op ≤ 17) = false := decide_eq_false (by omega)
  have d10 : decide (op ≤ 21) = false := decide_eq_false (by omega)
  have d11 : decide (op ≤ 34) = true := decide_eq_true (by omega)
  have d12 : decide (op ≤ 62) = true := decide_eq_true (by omega)
  have d13 : (op == 63) = false := by simp; omega
  have d14 : decide (op ≤ 65) = true := decide_eq_true (by omega)
  have d15 : decide (op ≤ 67) = true := decide_eq_true (by omega)
  clear h1 h2
  go_enter Tryz.func36, Tryz.ntmps36
  go_wp2
  go_ret
  exact ⟨rfl, rfl⟩
theorem rform_h (op : Int) (h1 : 28 ≤ op) (h2 : op ≤ 30) (w : World) : Calls Tryz.prog 36 #[.int .i64 op] w fun e w' => e = .returned (.int .i64 (7)) ∧ w = w' := by
  have d0 : decide (op < 1) = false := decide_eq_false (by omega)
  have d1 : decide (87 < op) = false := decide_eq_false (by omega)
  have d2 : decide (op ≤ 2) = false := decide_eq_false (by omega)
  have d3 : (op == 3) = false := by simp; omega
  have d4 : (op == 4) = false := by simp; omega
  have d5 : decide (22 ≤ op) = true := decide_eq_true (by omega)
  have d6 : decide (op ≤ 27) = false := decide_eq_false (by omega)
  have d7 : (op == 31) = false := by simp; omega
  have d8 : decide (op ≤ 10) = false := decide_eq_false (by omega)
  have d9 : decide (op ≤ 17) = false := decide_eq_false (by omega)
  have d10 : decide (op ≤ 21) = false := decide_eq_false (by omega)
  have d11 : decide (op ≤ 34) = true := decide_eq_true (by omega)
  have d12 : decide (op ≤ 62) = true := decide_eq_true (by omega)
  have d13 : (op == 63) = false := by simp; omega
  have d14 : decide (op ≤ 65) = true := decide_eq_true (by omega)
  have d15 : decide (op ≤ 67) = true := decide_eq_true (by omega)
  clear h1 h2
  go_enter Tryz.func36, Tryz.ntmps36
  go_wp2
  go_ret
  exact ⟨rfl, rfl⟩
theorem rform_i (op : Int) (h1 : 31 ≤ op) (h2 : op ≤ 31) (w : World) : Calls Tryz.prog 36 #[.int .i64 op] w fun e w' => e = .returned (.int .i64 (3)) ∧ w = w' := by
  have d0 : decide (op < 1) = false := decide_eq_false (by omega)
  have d1 : decide (87 < op) = false := decide_eq_false (by omega)
  have d2 : decide (op ≤ 2) = false := decide_eq_false (by omega)
  have d3 : (op == 3) = false := by simp; omega
  have d4 : (op == 4) = false := by simp; omega
  have d5 : decide (22 ≤ op) = true := decide_eq_true (by omega)
  have d6 : decide (op ≤ 27) = false := decide_eq_false (by omega)
  have d7 : (op == 31) = true := by simp; omega
  have d8 : decide (op ≤ 10) = false := decide_eq_false (by omega)
  have d9 : decide (op ≤ 17) = false := decide_eq_false (by omega)
  have d10 : decide (op ≤ 21) = false := decide_eq_false (by omega)
  have d11 : decide (op ≤ 34) = true := decide_eq_true (by omega)
  have d12 : decide (op ≤ 62) = true := decide_eq_true (by omega)
  have d13 : (op == 63) = false := by simp; omega
  have d14 : decide (op ≤ 65) = true := decide_eq_true (by omega)
  have d15 : decide (op ≤ 67) = true := decide_eq_true (by omega)
  clear h1 h2
  go_enter Tryz.func36, Tryz.ntmps36
  go_wp2
  go_ret
  exact ⟨rfl, rfl⟩
theorem rform_j (op : Int) (h1 : 32 ≤ op) (h2 : op ≤ 34) (w : World) : Calls Tryz.prog 36 #[.int .i64 op] w fun e w' => e = .returned (.int .i64 (7)) ∧ w = w' := by
  have d0 : decide (op < 1) = false := decide_eq_false (by omega)
  have d1 : decide (87 < op) = false := decide_eq_false (by omega)
  have d2 : decide (op ≤ 2) = false := decide_eq_false (by omega)
  have d3 : (op == 3) = false := by simp; omega
  have d4 : (op == 4) = false := by simp; omega
  have d5 : decide (22 ≤ op) = true := decide_eq_true (by omega)
  have d6 : decide (op ≤ 27) = false := decide_eq_false (by omega)
  have d7 : (op == 31) = false := by simp; omega
  have d8 : decide (op ≤ 10) = false := decide_eq_false (by omega)
  have d9 : decide (op ≤ 17) = false := decide_eq_false (by omega)
  have d10 : decide (op ≤ 21) = false := decide_eq_false (by omega)
  have d11 : decide (op ≤ 34) = true := decide_eq_true (by omega)
  have d12 : decide (op ≤ 62) = true := decide_eq_true (by omega)
  have d13 : (op == 63) = false := by simp; omega
  have d14 : decide (op ≤ 65) = true := decide_eq_true (by omega)
  have d15 : decide (op ≤ 67) = true := decide_eq_true (by omega)
  clear h1 h2
  go_enter Tryz.func36, Tryz.ntmps36
  go_wp2
  go_ret
  exact ⟨rfl, rfl⟩
theorem rform_k (op : Int) (h1 : 35 ≤ op) (h2 : op ≤ 62) (w : World) : Calls Tryz.prog 36 #[.int .i64 op] w fun e w' => e = .returned (.int .i64 (8)) ∧ w = w' := by
  have d0 : decide (op < 1) = false := decide_eq_false (by omega)
  have d1 : decide (87 < op) = false := decide_eq_false (by omega)
  have d2 : decide (op ≤ 2) = false := decide_eq_false (by omega)
  have d3 : (op == 3) = false := by simp; omega
  have d4 : (op == 4) = false := by simp; omega
  have d5 : decide (22 ≤ op) = true := decide_eq_true (by omega)
  have d6 : decide (op ≤ 27) = false := decide_eq_false (by omega)
  have d7 : (op == 31) = false := by simp; omega
  have d8 : decide (op ≤ 10) = false := decide_eq_false (by omega)
  have d9 : decide (op ≤ 17) = false := decide_eq_false (by omega)
  have d10 : decide (op ≤ 21) = false := decide_eq_false (by omega)
  have d11 : decide (op ≤ 34) = false := decide_eq_false (by omega)
  have d12 : decide (op ≤ 62) = true := decide_eq_true (by omega)
  have d13 : (op == 63) = false := by simp; omega
  have d14 : decide (op ≤ 65) = true := decide_eq_true (by omega)
  have d15 : decide (op ≤ 67) = true := decide_eq_true (by omega)
  clear h1 h2
  go_enter Tryz.func36, Tryz.ntmps36
  go_wp2
  go_ret
  exact ⟨rfl, rfl⟩
theorem rform_l (op : Int) (h1 : 63 ≤ op) (h2 : op ≤ 63) (w : World) : Calls Tryz.prog 36 #[.int .i64 op] w fun e w' => e = .returned (.int .i64 (9)) ∧ w = w' := by
  have d0 : decide (op < 1) = false := decide_eq_false (by omega)
  have d1 : decide (87 < op) = false := decide_eq_false (by omega)
  have d2 : decide (op ≤ 2) = false := decide_eq_false (by omega)
  have d3 : (op == 3) = false := by simp; omega
  have d4 : (op == 4) = false := by simp; omega
  have d5 : decide (22 ≤ op) = true := decide_eq_true (by omega)
  have d6 : decide (op ≤ 27) = false := decide_eq_false (by omega)
  have d7 : (op == 31) = false := by simp; omega
  have d8 : decide (op ≤ 10) = false := decide_eq_false (by omega)
  have d9 : decide (op ≤ 17) = false := decide_eq_false (by omega)
  have d10 : decide (op ≤ 21) = false := decide_eq_false (by omega)
  have d11 : decide (op ≤ 34) = false := decide_eq_false (by omega)
  have d12 : decide (op ≤ 62) = false := decide_eq_false (by omega)
  have d13 : (op == 63) = true := by simp; omega
  have d14 : decide (op ≤ 65) = true := decide_eq_true (by omega)
  have d15 : decide (op ≤ 67) = true := decide_eq_true (by omega)
  clear h1 h2
  go_enter Tryz.func36, Tryz.ntmps36
  go_wp2
  go_ret
  exact ⟨rfl, rfl⟩
theorem rform_m (op : Int) (h1 : 64 ≤ op) (h2 : op ≤ 65) (w : World) : Calls Tryz.prog 36 #[.int .i64 op] w fun e w' => e = .returned (.int .i64 (10)) ∧ w = w' := by
  have d0 : decide (op < 1) = false := decide_eq_false (by omega)
  have d1 : decide (87 < op) = false := decide_eq_false (by omega)
  have d2 : decide (op ≤ 2) = false := decide_eq_false (by omega)
  have d3 : (op == 3) = false := by simp; omega
  have d4 : (op == 4) = false := by simp; omega
  have d5 : decide (22 ≤ op) = true := decide_eq_true (by omega)
  have d6 : decide (op ≤ 27) = false := decide_eq_false (by omega)
  have d7 : (op == 31) = false := by simp; omega
  have d8 : decide (op ≤ 10) = false := decide_eq_false (by omega)
  have d9 : decide (op ≤ 17) = false := decide_eq_false (by omega)
  have d10 : decide (op ≤ 21) = false := decide_eq_false (by omega)
  have d11 : decide (op ≤ 34) = false := decide_eq_false (by omega)
  have d12 : decide (op ≤ 62) = false := decide_eq_false (by omega)
  have d13 : (op == 63) = false := by simp; omega
  have d14 : decide (op ≤ 65) = true := decide_eq_true (by omega)
  have d15 : decide (op ≤ 67) = true := decide_eq_true (by omega)
  clear h1 h2
  go_enter Tryz.func36, Tryz.ntmps36
  go_wp2
  go_ret
  exact ⟨rfl, rfl⟩
theorem rform_n (op : Int) (h1 : 66 ≤ op) (h2 : op ≤ 67) (w : World) : Calls Tryz.prog 36 #[.int .i64 op] w fun e w' => e = .returned (.int .i64 (11)) ∧ w = w' := by
  have d0 : decide (op < 1) = false := decide_eq_false (by omega)
  have d1 : decide (87 < op) = false := decide_eq_false (by omega)
  have d2 : decide (op ≤ 2) = false := decide_eq_false (by omega)
  have d3 : (op == 3) = false := by simp; omega
  have d4 : (op == 4) = false := by simp; omega
  have d5 : decide (22 ≤ op) = true := decide_eq_true (by omega)
  have d6 : decide (op ≤ 27) = false := decide_eq_false (by omega)
  have d7 : (op == 31) = false := by simp; omega
  have d8 : decide (op ≤ 10) = false := decide_eq_false (by omega)
  have d9 : decide (op ≤ 17) = false := decide_eq_false (by omega)
  have d10 : decide (op ≤ 21) = false := decide_eq_false (by omega)
  have d11 : decide (op ≤ 34) = false := decide_eq_false (by omega)
  have d12 : decide (op ≤ 62) = false := decide_eq_false (by omega)
  have d13 : (op == 63) = false := by simp; omega
  have d14 : decide (op ≤ 65) = false := decide_eq_false (by omega)
  have d15 : decide (op ≤ 67) = true := decide_eq_true (by omega)
  clear h1 h2
  go_enter Tryz.func36, Tryz.ntmps36
  go_wp2
  go_ret
  exact ⟨rfl, rfl⟩
theorem rform_o (op : Int) (h1 : 68 ≤ op) (h2 : op ≤ 87) (w : World) : Calls Tryz.prog 36 #[.int .i64 op] w fun e w' => e = .returned (.int .i64 (12)) ∧ w = w' := by
  have d0 : decide (op < 1) = false := decide_eq_false (by omega)
  have d1 : decide (87 < op) = false := decide_eq_false (by omega)
  have d2 : decide (op ≤ 2) = false := decide_eq_false (by omega)
  have d3 : (op == 3) = false := by simp; omega
  have d4 : (op == 4) = false := by simp; omega
  have d5 : decide (22 ≤ op) = true := decide_eq_true (by omega)
  have d6 : decide (op ≤ 27) = false := decide_eq_false (by omega)
  have d7 : (op == 31) = false := by simp; omega
  have d8 : decide (op ≤ 10) = false := decide_eq_false (by omega)
  have d9 : decide (op ≤ 17) = false := decide_eq_false (by omega)
  have d10 : decide (op ≤ 21) = false := decide_eq_false (by omega)
  have d11 : decide (op ≤ 34) = false := decide_eq_false (by omega)
  have d12 : decide (op ≤ 62) = false := decide_eq_false (by omega)
  have d13 : (op == 63) = false := by simp; omega
  have d14 : decide (op ≤ 65) = false := decide_eq_false (by omega)
  have d15 : decide (op ≤ 67) = false := decide_eq_false (by omega)
  clear h1 h2
  go_enter Tryz.func36, Tryz.ntmps36
  go_wp2
  go_ret
  exact ⟨rfl, rfl⟩
theorem rform_hi (op : Int) (h1 : 88 ≤ op) (w : World) : Calls Tryz.prog 36 #[.int .i64 op] w fun e w' => e = .returned (.int .i64 (0)) ∧ w = w' := by
  have d0 : decide (op < 1) = false := decide_eq_false (by omega)
  have d1 : decide (87 < op) = true := decide_eq_true (by omega)
  have d2 : decide (op ≤ 2) = false := decide_eq_false (by omega)
  have d3 : (op == 3) = false := by simp; omega
  have d4 : (op == 4) = false := by simp; omega
  have d5 : decide (22 ≤ op) = true := decide_eq_true (by omega)
  have d6 : decide (op ≤ 27) = false := decide_eq_false (by omega)
  have d7 : (op == 31) = false := by simp; omega
  have d8 : decide (op ≤ 10) = false := decide_eq_false (by omega)
  have d9 : decide (op ≤ 17) = false := decide_eq_false (by omega)
  have d10 : decide (op ≤ 21) = false := decide_eq_false (by omega)
  have d11 : decide (op ≤ 34) = false := decide_eq_false (by omega)
  have d12 : decide (op ≤ 62) = false := decide_eq_false (by omega)
  have d13 : (op == 63) = false := by simp; omega
  have d14 : decide (op ≤ 65) = false := decide_eq_false (by omega)
  have d15 : decide (op ≤ 67) = false := decide_eq_false (by omega)
  clear h1
  go_enter Tryz.func36, Tryz.ntmps36
  go_wp2
  go_ret
  exact ⟨rfl, rfl⟩
theorem rForm_any (op : Int) (w : World) : Calls Tryz.prog 36 #[.int .i64 op] w fun e w' => e = .returned (.int .i64 (formOf op)) ∧ w = w' := by
  rcases (by omega : op ≤ 0 ∨ 88 ≤ op ∨ (1 ≤ op ∧ op ≤ 2) ∨ (3 ≤ op ∧ op ≤ 3) ∨ (4 ≤ op ∧ op ≤ 4) ∨ (5 ≤ op ∧ op ≤ 10) ∨ (11 ≤ op ∧ op ≤ 17) ∨ (18 ≤ op ∧ op ≤ 21) ∨ (22 ≤ op ∧ op ≤ 27) ∨ (28 ≤ op ∧ op ≤ 30) ∨ (31 ≤ op ∧ op ≤ 31) ∨ (32 ≤ op ∧ op ≤ 34) ∨ (35 ≤ op ∧ op ≤ 62) ∨ (63 ≤ op ∧ op ≤ 63) ∨ (64 ≤ op ∧ op ≤ 65) ∨ (66 ≤ op ∧ op ≤ 67) ∨ (68 ≤ op ∧ op ≤ 87)) with h | h | ⟨h1, h2⟩ | ⟨h1, h2⟩ | ⟨h1, h2⟩ | ⟨h1, h2⟩ | ⟨h1, h2⟩ | ⟨h1, h2⟩ | ⟨h1, h2⟩ | ⟨h1, h2⟩ | ⟨h1, h2⟩ | ⟨h1, h2⟩ | ⟨h1, h2⟩ | ⟨h1, h2⟩ | ⟨h1, h2⟩ | ⟨h1, h2⟩ | ⟨h1, h2⟩
  · have e : formOf op = 0 := by
      by_cases h0 : op < 0
      · unfold formOf; rw [row_none op (Or.inl h0)]; rfl
      · rw [show op = 0 by omega]; decide +kernel
    rw [e]; exact rform_lo op h w
  · have e : formOf op = 0 := by unfold formOf; rw [row_none op (Or.inr h)]; rfl
    rw [e]; exact rform_hi op h w
  · rw [form_span op 1 2 1 h1 h2 (by omega) (by decide +kernel)]; exact rform_a op h1 h2 w
  · rw [form_span op 3 3 2 h1 h2 (by omega) (by decide +kernel)]; exact rform_b op h1 h2 w
  · rw [form_span op 4 4 3 h1 h2 (by omega) (by decide +kernel)]; exact rform_c op h1 h2 w
  · rw [form_span op 5 10 6 h1 h2 (by omega) (by decide +kernel)]; exact rform_d op h1 h2 w
  · rw [form_span op 11 17 4 h1 h2 (by omega) (by decide +kernel)]; exact rform_e op h1 h2 w
  · rw [form_span op 18 21 5 h1 h2 (by omega) (by decide +kernel)]; exact rform_f op h1 h2 w
  · rw [form_span op 22 27 3 h1 h2 (by omega) (by decide +kernel)]; exact rform_g op h1 h2 w
  · rw [form_span op 28 30 7 h1 h2 (by omega) (by decide +kernel)]; exact rform_h op h1 h2 w
  · rw [form_span op 31 31 3 h1 h2 (by omega) (by decide +kernel)]; exact rform_i op h1 h2 w
  · rw [form_span op 32 34 7 h1 h2 (by omega) (by decide +kernel)]; exact rform_j op h1 h2 w
  · rw [form_span op 35 62 8 h1 h2 (by omega) (by decide +kernel)]; exact rform_k op h1 h2 w
  · rw [form_span op 63 63 9 h1 h2 (by omega) (by decide +kernel)]; exact rform_l op h1 h2 w
  · rw [form_span op 64 65 10 h1 h2 (by omega) (by decide +kernel)]; exact rform_m op h1 h2 w
  · rw [form_span op 66 67 11 h1 h2 (by omega) (by decide +kernel)]; exact rform_n op h1 h2 w
  · rw [form_span op 68 87 12 h1 h2 (by omega) (by decide +kernel)]; exact rform_o op h1 h2 w
end Go.Proofs.YtbchecnidiiddaaGreatDoor
