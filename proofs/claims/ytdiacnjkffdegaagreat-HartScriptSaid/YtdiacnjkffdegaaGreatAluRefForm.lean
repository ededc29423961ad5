/-
  Proved here: the document's own answers of layer 4 are those that the program's are named for. No condition.
-/
import Derived.Test.YtdiacnjkffdegaaGreatAluDo
import Derived.Test.YtdiacnjkffdegaaGreatAluRefs
import Derived.Test.YtdiacnjkffdegaaGreatAluDivPlain
import Derived.Deep.QuietTactic
import Derived.BigQuiet
namespace Go.Proofs.YtdiacnjkffdegaaGreat
open Go.RowKit
theorem form_R (op : Int) (h1 : 35 ≤ op) (h2 : op ≤ 62) (w : World) : Calls Tryz.prog 17 #[.int .i64 op] w fun e w' => e = .returned (.int .i64 8) ∧ w = w' := by
  have d0 : decide (op < 1) = false := decide_eq_false (by omega)
  have d1 : decide (87 < op) = false := decide_eq_false (by omega)
  have d2 : decide (op ≤ 2) = false := decide_eq_false (by omega)
  have d3 : (op == 3) = false := by simp; omega
  have d4 : (op == 4) = false := by simp; omega
  have d5 : decide (22 ≤ op) = true := decide_eq_true (by omega)
  have d6 : decide (op ≤ 27) = false := decide_eq_false (by omega)
  have d7 : (op == 31) = false := by simp; omega
  have d8 : decide (op ≤ 10) = false := decide_eq_false (by omega)
  have d9 : decide (op ≤ 17) = false := decide_eq_false (by omega)
  have d10 : decide (op ≤ 21) = false := decide_eq_false (by omega)
  have d11 : decide (op ≤ 34) = false := decide_eq_false (by omega)
  clear h1
  go_enter Tryz.func17, Tryz.ntmps17
  go_wp2
  go_ret
  exact ⟨rfl, rfl⟩
/-- a form that is not R's -/
def NotR (w : World) (e : Ending) (w' : World) : Prop := ∃ f : Int, e = .returned (.int .i64 f) ∧ (f == 8) = false ∧ w = w'
theorem form_lo (op : Int) (h2 : op ≤ 0) (w : World) : Calls Tryz.prog 17 #[.int .i64 op] w (NotR w) := by
  have d0 : decide (op < 1) = true := decide_eq_true (by omega)
  have d1 : decide (87 < op) = false := decide_eq_false (by omega)
  have d2 : decide (op ≤ 2) = true := decide_eq_true (by omega)
  have d3 : (op == 3) = false := by simp; omega
  have d4 : (op == 4) = false := by simp; omega
  have d5 : decide (22 ≤ op) = false := decide_eq_false (by omega)
  have d6 : decide (op ≤ 27) = true := decide_eq_true (by omega)
  have d7 : (op == 31) = false := by simp; omega
  have d8 : decide (op ≤ 10) = true := decide_eq_true (by omega)
  have d9 : decide (op ≤ 17) = true := decide_eq_true (by omega)
  have d10 : decide (op ≤ 21) = true := decide_eq_true (by omega)
  have d11 : decide (op ≤ 34) = true := decide_eq_true (by omega)
  have d12 : decide (op ≤ 62) = true := decide_eq_true (by omega)
  have d13 : (op == 63) = false := by simp; omega
  have d14 : decide (op ≤ 65) = true := decide_eq_true (by omega)
  have d15 : decide (op ≤ 67) = true := decide_eq_true (by omega)
  clear h2
  go_enter Tryz.func17, Tryz.ntmps17
  go_wp2
  go_ret
  exact ⟨_, rfl, by decide, rfl⟩
theorem aform_hi (op : Int) (h1 : 88 ≤ op) (w : World) : Calls Tryz.prog 17 #[.int .i64 op] w (NotR w) := by
  have d0 : decide (op < 1) = false := decide_eq_false (by omega)
  have d1 : decide (87 < op) = true := decide_eq_true (by omega)
  have d2 : decide (op ≤ 2) = false := decide_eq_false (by omega)
  have d3 : (op == 3) = false := by simp; omega
  have d4 : (op == 4) = false := by simp; omega
  have d5 : decide (22 ≤ op) = true := decide_eq_true (by omega)
  have d6 : decide (op ≤ 27) = false := decide_eq_false (by omega)
  have d7 : (op == 31) = false := by simp; omega
  have d8 : decide (op ≤ 10) = false := decide_eq_false (by omega)
  have d9 : decide (op ≤ 17) = false := decide_eq_false (by omega)
  have d10 : decide (op ≤ 21) = false := decide_eq_false (by omega)
  have d11 : decide (op ≤ 34) = false := decide_eq_false (by omega)
  have d12 : decide (op ≤ 62) = false := decide_eq_false (by omega)
  have d13 : (op == 63) = false := by simp; omega
  have d14 : decide (op ≤ 65) = false := decide_eq_false (by omega)
  have d15 : decide (op ≤ 67) = false := decide_eq_false (by omega)
  clear h1
  go_enter Tryz.func17, Tryz.ntmps17
  go_wp2
  go_ret
  exact ⟨_, rfl, by decide, rfl⟩
theorem form_a (op : Int) (h1 : 1 ≤ op) (h2 : op ≤ 2) (w : World) : Calls Tryz.prog 17 #[.int .i64 op] w (NotR w) := by
  have d0 : decide (op < 1) = false := decide_eq_false (by omega)
  have d1 : decide (87 < op) = false := decide_eq_false (by omega)
  have d2 : decide (op ≤ 2) = true := decide_eq_true (by omega)
  have d3 : (op == 3) = false := by simp; omega
  have d4 : (op == 4) = false := by simp; omega
  have d5 : decide (22 ≤ op) = false := decide_eq_false (by omega)
  have d6 : decide (op ≤ 27) = true := decide_eq_true (by omega)
  have d7 : (op == 31) = false := by simp; omega
  have d8 : decide (op ≤ 10) = true := decide_eq_true (by omega)
  have d9 : decide (op ≤ 17) = true := decide_eq_true (by omega)
  have d10 : decide (op ≤ 21) = true := decide_eq_true (by omega)
  have d11 : decide (op ≤ 34) = true := decide_eq_true (by omega)
  have d12 : decide (op ≤ 62) = true := decide_eq_true (by omega)
  have d13 : (op == 63) = false := by simp; omega
  have d14 : decide (op ≤ 65) = true := decide_eq_true (by omega)
  have d15 : decide (op ≤ 67) = true := decide_eq_true (by omega)
  clear h1 h2
  go_enter Tryz.func17, Tryz.ntmps17
  go_wp2
  go_ret
  exact ⟨_, rfl, by decide, rfl⟩
theorem form_b (op : Int) (h1 : 3 ≤ op) (h2 : op ≤ 3) (w : World) : Calls Tryz.prog 17 #[.int .i64 op] w (NotR w) := by
  have d0 : decide (op < 1) = false := decide_eq_false (by omega)
  have d1 : decide (87 < op) = false := decide_eq_false (by omega)
  have d2 : decide (op ≤ 2) = false := decide_eq_false (by omega)
  have d3 : (op == 3) = true := by simp; omega
  have d4 : (op == 4) = false := by simp; omega
  have d5 : decide (22 ≤ op) = false := decide_eq_false (by omega)
  have d6 : decide (op ≤ 27) = true := decide_eq_true (by omega)
  have d7 : (op == 31) = false := by simp; omega
  have d8 : decide (op ≤ 10) = true := decide_eq_true (by omega)
  have d9 : decide (op ≤ 17) = true := decide_eq_true (by omega)
  have d10 : decide (op ≤ 21) = true := decide_eq_true (by omega)
  have d11 : decide (op ≤ 34) = true := decide_eq_true (by omega)
  have d12 : decide (op ≤ 62) = true := decide_eq_true (by omega)
  have d13 : (op == 63) = false := by simp; omega
  have d14 : decide (op ≤ 65) = true := decide_eq_true (by omega)
  have d15 : decide (op ≤ 67) = true := decide_eq_true (by omega)
  clear h1 h2
  go_enter Tryz.func17, Tryz.ntmps17
  go_wp2
  go_ret
  exact ⟨_, rfl, by decide, rfl⟩
theorem form_c (op : Int) (h1 : 4 ≤ op) (h2 : op ≤ 4) (w : World) : Calls Tryz.prog 17 #[.int .i64 op] w (NotR w) := by
  have d0 : decide (op < 1) = false := decide_eq_false (by omega)
  have d1 : decide (87 < op) = false := decide_eq_false (by omega)
  have d2 : decide (op ≤ 2) = false := decide_eq_false (by omega)
  have d3 : (op == 3) = false := by simp; omega
  have d4 : (op == 4) = true := by simp; omega
  have d5 : decide (22 ≤ op) = false := decide_eq_false (by omega)
  have d6 : decide (op ≤ 27) = true := decide_eq_true (by omega)
  have d7 : (op == 31) = false := by simp; omega
  have d8 : decide (op ≤ 10) = true := decide_eq_true (by omega)
  have d9 : decide (op ≤ 17) = true := decide_eq_true (by omega)
  have d10 : decide (op ≤ 21) = true := decide_eq_true (by omega)
  have d11 : decide (op ≤ 34) = true := decide_eq_true (by omega)
  have d12 : decide (op ≤ 62) = true := decide_eq_true (by omega)
  have d13 : (op == 63) = false := by simp; omega
  have d14 : decide (op ≤ 65) = true := decide_eq_true (by omega)
  have d15 : decide (op ≤ 67) = true := decide_eq_true (by omega)
  clear h1 h2
  go_enter Tryz.func17, Tryz.ntmps17
  go_wp2
  go_ret
  exact ⟨_, rfl, by decide, rfl⟩
theorem form_d (op : Int) (h1 : 5 ≤ op) (h2 : op ≤ 10) (w : World) : Calls Tryz.prog 17 #[.int .i64 op] w (NotR w) := by
  have d0 : decide (op < 1) = false := decide_eq_false (by omega)
  have d1 : decide (87 < op) = false := decide_eq_false (by omega)
  have d2 : decide (op ≤ 2) = false := decide_eq_false (by omega)
  have d3 : (op == 3) = false := by simp; omega
  have d4 : (op == 4) = false := by simp; omega
  have d5 : decide (22 ≤ op) = false := decide_eq_false (by omega)
  have d6 : decide (op ≤ 27) = true := decide_eq_true (by omega)
  have d7 : (op == 31) = false := by simp; omega
  have d8 : decide (op ≤ 10) = true := decide_eq_true (by omega)
  have d9 : decide (op ≤ 17) = true := decide_eq_true (by omega)
  have d10 : decide (op ≤ 21) = true := decide_eq_true (by omega)
  have d11 : decide (op ≤ 34) = true := decide_eq_true (by omega)
  have d12 : decide (op ≤ 62) = true := decide_eq_true (by omega)
  have d13 : (op == 63) = false := by simp; omega
  have d14 : decide (op ≤ 65) = true := decide_eq_true (by omega)
  have d15 : decide (op ≤ 67) = true := decide_eq_true (by omega)
  clear h1 h2
  go_enter Tryz.func17, Tryz.ntmps17
  go_wp2
  go_ret
  exact ⟨_, rfl, by decide, rfl⟩
theorem form_e (op : Int) (h1 : 11 ≤ op) (h2 : op ≤ 17) (w : World) : Calls Tryz.prog 17 #[.int .i64 op] w (NotR w) := by
  have d0 : decide (op < 1) = false := decide_eq_false (by omega)
  have d1 : decide (87 < op) = false := decide_eq_false (by omega)
  have d2 : decide (op ≤ 2) = false := decide_eq_false (by omega)
  have d3 : (op == 3) = false := by simp; omega
  have d4 : (op == 4) = false := by simp; omega
  have d5 : decide (22 ≤ op) = false := decide_eq_false (by omega)
  have d6 : decide (op ≤ 27) = true := decide_eq_true (by omega)
  have d7 : (op == 31) = false := by simp; omega
  have d8 : decide (op ≤ 10) = false := decide_eq_false (by omega)
  have d9 : decide (op ≤ 17) = true := decide_eq_true (by omega)
  have d10 : decide (op ≤ 21) = true := decide_eq_true (by omega)
  have d11 : decide (op ≤ 34) = true := decide_eq_true (by omega)
  have d12 : decide (op ≤ 62) = true := decide_eq_true (by omega)
  have d13 : (op == 63) = false := by simp; omega
  have d14 : decide (op ≤ 65) = true := decide_eq_true (by omega)
  have d15 : decide (op ≤ 67) = true := decide_eq_true (by omega)
  clear h1 h2
  go_enter Tryz.func17, Tryz.ntmps17
  go_wp2
  go_ret
  exact ⟨_, rfl, by decide, rfl⟩
theorem form_f (op : Int) (h1 : 18 ≤ op) (h2 : op ≤ 21) (w : World) : Calls Tryz.prog 17 #[.int .i64 op] w (NotR w) := by
  have d0 : decide (op < 1) = false := decide_eq_false (by omega)
  have d1 : decide (87 < op) = false := decide_eq_false (by omega)
  have d2 : decide (op ≤ 2) = false := decide_eq_false (by omega)
  have d3 : (op == 3) = false := by simp; omega
  have d4 : (op == 4) = false := by simp; omega
  have d5 : decide (22 ≤ op) = false := decide_eq_false (by omega)
  have d6 : decide (op ≤ 27) = true := decide_eq_true (by omega)
  have d7 : (op == 31) = false := by simp; omega
  have d8 : decide (op ≤ 10) = false := decide_eq_false (by omega)
  have d9 : decide (op ≤ 17) = false := decide_eq_false (by omega)
  have d10 : decide (op ≤ 21) = true := decide_eq_true (by omega)
  have d11 : decide (op ≤ 34) = true := decide_eq_true (by omega)
  have d12 : decide (op ≤ 62) = true := decide_eq_true (by omega)
  have d13 : (op == 63) = false := by simp; omega
  have d14 : decide (op ≤ 65) = true := decide_eq_true (by omega)
  have d15 : decide (op ≤ 67) = true := decide_eq_true (by omega)
  clear h1 h2
  go_enter Tryz.func17, Tryz.ntmps17
  go_wp2
  go_ret
  exact ⟨_, rfl, by decide, rfl⟩
theorem form_g (op : Int) (h1 : 22 ≤ op) (h2 : op ≤ 27) (w : World) : Calls Tryz.prog 17 #[.int .i64 op] w (NotR w) := by
  have d0 : decide (op < 1) = false := decide_eq_false (by omega)
  have d1 : decide (87 < op) = false := decide_eq_false (by omega)
  have d2 : decide (op ≤ 2) = false := decide_eq_false (by omega)
  have d3 : (op == 3) = false := by simp; omega
  have d4 : (op == 4) = false := by simp; omega
  have d5 : decide (22 ≤ op) = true := decide_eq_true (by omega)
  have d6 : decide (op ≤ 27) = true := decide_eq_true (by omega)
  have d7 : (op == 31) = false := by simp; omega
  have d8 : decide (op ≤ 10) = false := decide_eq_false (by omega)
  have d9 : decide (op ≤ 17) = false := decide_eq_false (by omega)
  have d10 : decide (op ≤ 21) = false := decide_eq_false (by omega)
  have d11 : decide (op ≤ 34) = true := decide_eq_true (by omega)
  have d12 : decide (op ≤ 62) = true := decide_eq_true (by omega)
  have d13 : (op == 63) = false := by simp; omega
  have d14 : decide (op ≤ 65) = true := decide_eq_true (by omega)
  have d15 : decide (op ≤ 67) = true := decide_eq_true (by omega)
  clear h1 h2
  go_enter Tryz.func17, Tryz.ntmps17
  go_wp2
  go_ret
  exact ⟨_, rfl, by decide, rfl⟩
theorem form_h (op : Int) (h1 : 28 ≤ op) (h2 : op ≤ 30) (w : World) : Calls Tryz.prog 17 #[.int .i64 op] w (NotR w) := by
  have d0 : decide (op < 1) = false := decide_eq_false (by omega)
  have d1 : decide (87 < op) = false := decide_eq_false (by omega)
  have d2 : decide (op ≤ 2) = false := decide_eq_false (by omega)
  have d3 : (op == 3) = false := by simp; omega
  have d4 : (op == 4) = false := by simp; omega
  have d5 : decide (22 ≤ op) = true := decide_eq_true (by omega)
  have d6 : decide (op ≤ 27) = false := decide_eq_false (by omega)
  have d7 : (op == 31) = false := by simp; omega
  have d8 : decide (op ≤ 10) = false := decide_eq_false (by omega)
  have d9 : decide (op ≤ 17) = false := decide_eq_false (by omega)
  have d10 : decide (op ≤ 21) = false := decide_eq_false (by omega)
  have d11 : decide (op ≤ 34) = true := decide_eq_true (by omega)
  have d12 : decide (op ≤ 62) = true := decide_eq_true (by omega)
  have d13 : (op == 63) = false := by simp; omega
  have d14 : decide (op ≤ 65) = true := decide_eq_true (by omega)
  have d15 : decide (op ≤ 67) = true := decide_eq_true (by omega)
  clear h1 h2
  go_enter Tryz.func17, Tryz.ntmps17
  go_wp2
  go_ret
  exact ⟨_, rfl, by decide, rfl⟩
theorem form_i (op : Int) (h1 : 31 ≤ op) (h2 : op ≤ 31) (w : World) : Calls Tryz.prog 17 #[.int .i64 op] w (NotR w) := by
  have d0 : decide (op < 1) = false := decide_eq_false (by omega)
  have d1 : decide (87 < op) = false := decide_eq_false (by omega)
  have d2 : decide (op ≤ 2) = false := decide_eq_false (by omega)
  have d3 : (op == 3) = false := by simp; omega
  have d4 : (op == 4) = false := by simp; omega
  have d5 : decide (22 ≤ op) = true := decide_eq_true (by omega)
  have d6 : decide (op ≤ 27) = false := decide_eq_false (by omega)
  have d7 : (op == 31) = true := by simp; omega
  have d8 : decide (op ≤ 10) = false := decide_eq_false (by omega)
  have d9 : decide (op ≤ 17) = false := decide_eq_false (by omega)
  have d10 : decide (op ≤ 21) = false := decide_eq_false (by omega)
  have d11 : decide (op ≤ 34) = true := decide_eq_true (by omega)
  have d12 : decide (op ≤ 62) = true := decide_eq_true (by omega)
  have d13 : (op == 63) = false := by simp; omega
  have d14 : decide (op ≤ 65) = true := decide_eq_true (by omega)
  have d15 : decide (op ≤ 67) = true := decide_eq_true (by omega)
  clear h1 h2
  go_enter Tryz.func17, Tryz.ntmps17
  go_wp2
  go_ret
  exact ⟨_, rfl, by decide, rfl⟩
theorem form_j (op : Int) (h1 : 32 ≤ op) (h2 : op ≤ 34) (w : World) : Calls Tryz.prog 17 #[.int .i64 op] w (NotR w) := by
  have d0 : decide (op < 1) = false := decide_eq_false (by omega)
  have d1 : decide (87 < op) = false := decide_eq_false (by omega)
  have d2 : decide (op ≤ 2) = false := decide_eq_false (by omega)
  have d3 : (op == 3) = false := by simp; omega
  have d4 : (op == 4) = false := by simp; omega
  have d5 : decide (22 ≤ op) = true := decide_eq_true (by omega)
  have d6 : decide (op ≤ 27) = false := decide_eq_false (by omega)
  have d7 : (op == 31) = false := by simp; omega
  have d8 : decide (op ≤ 10) = false := decide_eq_false (by omega)
  have d9 : decide (op ≤ 17) = false := decide_eq_false (by omega)
  have d10 : decide (op ≤ 21) = false := decide_eq_false (by omega)
  have d11 : decide (op ≤ 34) = true := decide_eq_true (by omega)
  have d12 : decide (op ≤ 62) = true := decide_eq_true (by omega)
  have d13 : (op == 63) = false := by simp; omega
  have d14 : decide (op ≤ 65) = true := decide_eq_true (by omega)
  have d15 : decide (op ≤ 67) = true := decide_eq_true (by omega)
  clear h1 h2
  go_enter Tryz.func17, Tryz.ntmps17
  go_wp2
  go_ret
  exact ⟨_, rfl, by decide, rfl⟩
theorem form_k (op : Int) (h1 : 63 ≤ op) (h2 : op ≤ 63) (w : World) : Calls Tryz.prog 17 #[.int .i64 op] w (NotR w) := by
  have d0 : decide (op < 1) = false := decide_eq_false (by omega)
  have d1 : decide (87 < op) = false := decide_eq_false (by omega)
  have d2 : decide (op ≤ 2) = false := decide_eq_false (by omega)
  have d3 : (op == 3) = false := by simp; omega
  have d4 : (op == 4) = false := by simp; omega
  have d5 : decide (22 ≤ op) = true := decide_eq_true (by omega)
  have d6 : decide (op ≤ 27) = false := decide_eq_false (by omega)
  have d7 : (op == 31) = false := by simp; omega
  have d8 : decide (op ≤ 10) = false := decide_eq_false (by omega)
  have d9 : decide (op ≤ 17) = false := decide_eq_false (by omega)
  have d10 : decide (op ≤ 21) = false := decide_eq_false (by omega)
  have d11 : decide (op ≤ 34) = false := decide_eq_false (by omega)
  have d12 : decide (op ≤ 62) = false := decide_eq_false (by omega)
  have d13 : (op == 63) = true := by simp; omega
  have d14 : decide (op ≤ 65) = true := decide_eq_true (by omega)
  have d15 : decide (op ≤ 67) = true := decide_eq_true (by omega)
  clear h1 h2
  go_enter Tryz.func17, Tryz.ntmps17
  go_wp2
  go_ret
  exact ⟨_, rfl, by decide, rfl⟩
theorem form_l (op : Int) (h1 : 64 ≤ op) (h2 : op ≤ 65) (w : World) : Calls Tryz.prog 17 #[.int .i64 op] w (NotR w) := by
  have d0 : decide (op < 1) = false := decide_eq_false (by omega)
  have d1 : decide (87 < op) = false := decide_eq_false (by omega)
  have d2 : decide (op ≤ 2) = false := decide_eq_false (by omega)
  have d3 : (op == 3) = false := by simp; omega
  have d4 : (op == 4) = false := by simp; omega
  have d5 : decide (22 ≤ op) = true := decide_eq_true (by omega)
  have d6 : decide (op ≤ 27) = false := decide_eq_false (by omega)
  have d7 : (op == 31) = false := by simp; omega
  have d8 : decide (op ≤ 10) = false := decide_eq_false (by omega)
  have d9 : decide (op ≤ 17) = false := decide_eq_false (by omega)
  have d10 : decide (op ≤ 21) = false := decide_eq_false (by omega)
  have d11 : decide (op ≤ 34) = false := decide_eq_false (by omega)
  have d12 : decide (op ≤ 62) = false := decide_eq_false (by omega)
  have d13 : (op == 63) = false := by simp; omega
  have d14 : decide (op ≤ 65) = true := decide_eq_true (by omega)
  have d15 : decide (op ≤ 67) = true := decide_eq_true (by omega)
  clear h1 h2
  go_enter Tryz.func17, Tryz.ntmps17
  go_wp2
  go_ret
  exact ⟨_, rfl, by decide, rfl⟩
theorem form_m (op : Int) (h1 : 66 ≤ op) (h2 : op ≤ 67) (w : World) : Calls Tryz.prog 17 #[.int .i64 op] w (NotR w) := by
  have d0 : decide (op < 1) = false := decide_eq_false (by omega)
  have d1 : decide (87 < op) = false := decide_eq_false (by omega)
  have d2 : decide (op ≤ 2) = false := decide_eq_false (by omega)
  have d3 : (op == 3) = false := by simp; omega
  have d4 : (op == 4) = false := by simp; omega
  have d5 : decide (22 ≤ op) = true := decide_eq_true (by omega)
  have d6 : decide (op ≤ 27) = false := decide_eq_false (by omega)
  have d7 : (op == 31) = false := by simp; omega
  have d8 : decide (op ≤ 10) = false := decide_eq_false (by omega)
  have d9 : decide (op ≤ 17) = false := decide_eq_false (by omega)
  have d10 : decide (op ≤ 21) = false := decide_eq_false (by omega)
  have d11 : decide (op ≤ 34) = false := decide_eq_false (by omega)
  have d12 : decide (op ≤ 62) = false := decide_eq_false (by omega)
  have d13 : (op == 63) = false := by simp; omega
  have d14 : decide (op ≤ 65) = false := decide_eq_false (by omega)
  have d15 : decide (op ≤ 67) = true := decide_eq_true (by omega)
  clear h1 h2
  go_enter Tryz.func17, Tryz.ntmps17
  go_wp2
  go_ret
  exact ⟨_, rfl, by decide, rfl⟩
theorem form_n (op : Int) (h1 : 68 ≤ op) (h2 : op ≤ 87) (w : World) : Calls Tryz.prog 17 #[.int .i64 op] w (NotR w) := by
  have d0 : decide (op < 1) = false := decide_eq_false (by omega)
  have d1 : decide (87 < op) = false := decide_eq_false (by omega)
  have d2 : decide (op ≤ 2) = false := decide_eq_false (by omega)
  have d3 : (op == 3) = false := by simp; omega
  have d4 : (op == 4) = false := by simp; omega
  have d5 : decide (22 ≤ op) = true := decide_eq_true (by omega)
  have d6 : decide (op ≤ 27) = false := decide_eq_false (by omega)
  have d7 : (op == 31) = false := by simp; omega
  have d8 : decide (op ≤ 10) = false := decide_eq_false (by omega)
  have d9 : decide (op ≤ 17) = false := decide_eq_false (by omega)
  have d10 : decide (op ≤ 21) = false := decide_eq_false (by omega)
  have d11 : decide (op ≤ 34) = false := decide_eq_false (by omega)
  have d12 : decide (op ≤ 62) = false := decide_eq_false (by omega)
  have d13 : (op == 63) = false := by simp; omega
  have d14 : decide (op ≤ 65) = false := decide_eq_false (by omega)
  have d15 : decide (op ≤ 67) = false := decide_eq_false (by omega)
  clear h1 h2
  go_enter Tryz.func17, Tryz.ntmps17
  go_wp2
  go_ret
  exact ⟨_, rfl, by decide, rfl⟩
theorem form_not (op : Int) (hn : ¬ (35 ≤ op ∧ op ≤ 62)) (w : World) : Calls Tryz.prog 17 #[.int .i64 op] w (NotR w) := by
  have hd : op ≤ 0 ∨ 88 ≤ op ∨ (1 ≤ op ∧ op ≤ 2) ∨ (3 ≤ op ∧ op ≤ 3) ∨ (4 ≤ op ∧ op ≤ 4) ∨ (5 ≤ op ∧ op ≤ 10) ∨ (11 ≤ op ∧ op ≤ 17) ∨ (18 ≤ op ∧ op ≤ 21) ∨ (22 ≤ op ∧ op ≤ 27) ∨ (28 ≤ op ∧ op ≤ 30) ∨ (31 ≤ op ∧ op ≤ 31) ∨ (32 ≤ op ∧ op ≤ 34) ∨ (63 ≤ op ∧ op ≤ 63) ∨ (64 ≤ op ∧ op ≤ 65) ∨ (66 ≤ op ∧ op ≤ 67) ∨ (68 ≤ op ∧ op ≤ 87) := by omega
  rcases hd with h | h | ⟨h, h'⟩ | ⟨h, h'⟩ | ⟨h, h'⟩ | ⟨h, h'⟩ | ⟨h, h'⟩ | ⟨h, h'⟩ | ⟨h, h'⟩ | ⟨h, h'⟩ | ⟨h, h'⟩ | ⟨h, h'⟩ | ⟨h, h'⟩ | ⟨h, h'⟩ | ⟨h, h'⟩ | ⟨h, h'⟩
  · exact form_lo op h w
  · exact aform_hi op h w
  · exact form_a op h h' w
  · exact form_b op h h' w
  · exact form_c op h h' w
  · exact form_d op h h' w
  · exact form_e op h h' w
  · exact form_f op h h' w
  · exact form_g op h h' w
  · exact form_h op h h' w
  · exact form_i op h h' w
  · exact form_j op h h' w
  · exact form_k op h h' w
  · exact form_l op h h' w
  · exact form_m op h h' w
  · exact form_n op h h' w
theorem rplain_own (op : Int) (h1 : 35 ≤ op) (h2 : op ≤ 62) (w : World) : Calls Tryz.prog 35 #[.int .i64 op] w fun e w' => e = .returned (.int .i64 op) ∧ w = w' := by
  have HF := Lib.hid (form_R op h1 h2)
  have n22 : (op == 22) = false := by simp; omega
  have n23 : (op == 23) = false := by simp; omega
  have n24 : (op == 24) = false := by simp; omega
  have n25 : (op == 25) = false := by simp; omega
  have n26 : (op == 26) = false := by simp; omega
  have n27 : (op == 27) = false := by simp; omega
  have n28 : (op == 28) = false := by simp; omega
  have n29 : (op == 29) = false := by simp; omega
  have n30 : (op == 30) = false := by simp; omega
  have n31 : (op == 31) = false := by simp; omega
  have n32 : (op == 32) = false := by simp; omega
  have n33 : (op == 33) = false := by simp; omega
  have n34 : (op == 34) = false := by simp; omega
  clear h1 h2
  go_enter Tryz.func35, Tryz.ntmps35
  go_wp2_with (go_at_call 17; (with_reducible refine (HF.out _).mono ?_); rintro e w' ⟨rfl, rfl⟩)
  go_ret
  exact ⟨rfl, rfl⟩
theorem rplain_not (op : Int) (hn : ¬ (35 ≤ op ∧ op ≤ 62)) (hm : op < 22 ∨ 34 < op) (w : World) : Calls Tryz.prog 35 #[.int .i64 op] w fun e w' => e = .returned (.int .i64 0) ∧ w = w' := by
  have HF := Lib.hid (form_not op hn)
  have n22 : (op == 22) = false := by simp; omega
  have n23 : (op == 23) = false := by simp; omega
  have n24 : (op == 24) = false := by simp; omega
  have n25 : (op == 25) = false := by simp; omega
  have n26 : (op == 26) = false := by simp; omega
  have n27 : (op == 27) = false := by simp; omega
  have n28 : (op == 28) = false := by simp; omega
  have n29 : (op == 29) = false := by simp; omega
  have n30 : (op == 30) = false := by simp; omega
  have n31 : (op == 31) = false := by simp; omega
  have n32 : (op == 32) = false := by simp; omega
  have n33 : (op == 33) = false := by simp; omega
  have n34 : (op == 34) = false := by simp; omega
  clear hn hm
  go_enter Tryz.func35, Tryz.ntmps35
  go_wp2_with (go_at_call 17; (with_reducible refine (HF.out _).mono ?_); rintro e w' ⟨f, rfl, hf, rfl⟩)
  go_ret
  exact ⟨rfl, rfl⟩
theorem rplain_22 (w : World) : Calls Tryz.prog 35 #[.int .i64 22] w fun e w' => e = .returned (.int .i64 35) ∧ w = w' := by
  go_enter Tryz.func35, Tryz.ntmps35
  go_wp2
  go_ret
  exact ⟨rfl, rfl⟩
theorem rplain_23 (w : World) : Calls Tryz.prog 35 #[.int .i64 23] w fun e w' => e = .returned (.int .i64 38) ∧ w = w' := by
  go_enter Tryz.func35, Tryz.ntmps35
  go_wp2
  go_ret
  exact ⟨rfl, rfl⟩
theorem rplain_24 (w : World) : Calls Tryz.prog 35 #[.int .i64 24] w fun e w' => e = .returned (.int .i64 39) ∧ w = w' := by
  go_enter Tryz.func35, Tryz.ntmps35
  go_wp2
  go_ret
  exact ⟨rfl, rfl⟩
theorem rplain_25 (w : World) : Calls Tryz.prog 35 #[.int .i64 25] w fun e w' => e = .returned (.int .i64 40) ∧ w = w' := by
  go_enter Tryz.func35, Tryz.ntmps35
  go_wp2
  go_ret
  exact ⟨rfl, rfl⟩
theorem rplain_26 (w : World) : Calls Tryz.prog 35 #[.int .i64 26] w fun e w' => e = .returned (.int .i64 43) ∧ w = w' := by
  go_enter Tryz.func35, Tryz.ntmps35
  go_wp2
  go_ret
  exact ⟨rfl, rfl⟩
theorem rplain_27 (w : World) : Calls Tryz.prog 35 #[.int .i64 27] w fun e w' => e = .returned (.int .i64 44) ∧ w = w' := by
  go_enter Tryz.func35, Tryz.ntmps35
  go_wp2
  go_ret
  exact ⟨rfl, rfl⟩
theorem rplain_28 (w : World) : Calls Tryz.prog 35 #[.int .i64 28] w fun e w' => e = .returned (.int .i64 37) ∧ w = w' := by
  go_enter Tryz.func35, Tryz.ntmps35
  go_wp2
  go_ret
  exact ⟨rfl, rfl⟩
theorem rplain_29 (w : World) : Calls Tryz.prog 35 #[.int .i64 29] w fun e w' => e = .returned (.int .i64 41) ∧ w = w' := by
  go_enter Tryz.func35, Tryz.ntmps35
  go_wp2
  go_ret
  exact ⟨rfl, rfl⟩
theorem rplain_30 (w : World) : Calls Tryz.prog 35 #[.int .i64 30] w fun e w' => e = .returned (.int .i64 42) ∧ w = w' := by
  go_enter Tryz.func35, Tryz.ntmps35
  go_wp2
  go_ret
  exact ⟨rfl, rfl⟩
theorem rplain_31 (w : World) : Calls Tryz.prog 35 #[.int .i64 31] w fun e w' => e = .returned (.int .i64 45) ∧ w = w' := by
  go_enter Tryz.func35, Tryz.ntmps35
  go_wp2
  go_ret
  exact ⟨rfl, rfl⟩
theorem rplain_32 (w : World) : Calls Tryz.prog 35 #[.int .i64 32] w fun e w' => e = .returned (.int .i64 47) ∧ w = w' := by
  go_enter Tryz.func35, Tryz.ntmps35
  go_wp2
  go_ret
  exact ⟨rfl, rfl⟩
theorem rplain_33 (w : World) : Calls Tryz.prog 35 #[.int .i64 33] w fun e w' => e = .returned (.int .i64 48) ∧ w = w' := by
  go_enter Tryz.func35, Tryz.ntmps35
  go_wp2
  go_ret
  exact ⟨rfl, rfl⟩
theorem rplain_34 (w : World) : Calls Tryz.prog 35 #[.int .i64 34] w fun e w' => e = .returned (.int .i64 49) ∧ w = w' := by
  go_enter Tryz.func35, Tryz.ntmps35
  go_wp2
  go_ret
  exact ⟨rfl, rfl⟩
theorem rplain_any (op : Int) (w : World) : Calls Tryz.prog 35 #[.int .i64 op] w fun e w' => e = .returned (.int .i64 (plainI op)) ∧ w = w' := by
  by_cases h : 35 ≤ op ∧ op ≤ 62
  · unfold plainI; rw [if_pos h]; exact rplain_own op h.1 h.2 w
  · by_cases hm : op < 22 ∨ 34 < op
    · have e : plainI op = 0 := by
        unfold plainI; rw [if_neg h]
        by_cases h0 : op < 0
        · rw [if_pos h0]
        · rw [if_neg h0]
          by_cases h1 : op < 22
          · have : ∀ j : Fin 22, plainL.getD j.val 0 = 0 := by decide +kernel
            exact this ⟨op.toNat, by omega⟩
          · rw [List.getD_eq_getElem?_getD, List.getElem?_eq_none (by show 35 ≤ op.toNat; omega)]; rfl
      rw [e]; exact rplain_not op h hm w
    · have hd : op = 22 ∨ op = 23 ∨ op = 24 ∨ op = 25 ∨ op = 26 ∨ op = 27 ∨ op = 28 ∨ op = 29 ∨ op = 30 ∨ op = 31 ∨ op = 32 ∨ op = 33 ∨ op = 34 := by omega
      rcases hd with rfl | rfl | rfl | rfl | rfl | rfl | rfl | rfl | rfl | rfl | rfl | rfl | rfl
      · exact rplain_22 w
      · exact rplain_23 w
      · exact rplain_24 w
      · exact rplain_25 w
      · exact rplain_26 w
      · exact rplain_27 w
      · exact rplain_28 w
      · exact rplain_29 w
      · exact rplain_30 w
      · exact rplain_31 w
      · exact rplain_32 w
      · exact rplain_33 w
      · exact rplain_34 w
end Go.Proofs.YtdiacnjkffdegaaGreat
