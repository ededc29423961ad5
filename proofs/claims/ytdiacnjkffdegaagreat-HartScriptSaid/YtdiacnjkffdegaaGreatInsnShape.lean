/-
  Proved here: what the package insn asks of an instruction's parts: its text's shape, which fields it has, which numbers may stand in it. Each leaves what was there as it was. No condition.
-/
import Derived.Test.YtdiacnjkffdegaaGreatInsnLook
import Derived.Test.YtdiacnjkffdegaaGreatWordPlain
import Derived.Lib.Bytealg
namespace Go.Proofs.YtdiacnjkffdegaaGreat
open Go.RowKit

theorem ret_int {k : IntKind} {a b : Int} (h : a = b) : Ending.returned (.int k a) = .returned (.int k b) := by rw [h]
theorem ret_bool {a b : Bool} (h : a = b) : Ending.returned (.bool a) = .returned (.bool b) := by rw [h]

theorem clamp_any (n h : Int) (w : World) : Calls Tryz.prog 85 #[.int .i64 n, .int .i64 h] w fun e w' => e = .returned (.int .i64 (cl n h)) ∧ w = w' := by
  have H := Lib.hid (show cl n h = if n < 0 then 0 else if h < n then h else n from rfl)
  by_cases h1 : n < 0
  · go_enter Tryz.func85, Tryz.ntmps85
    go_wp2
    go_ret
    exact ⟨ret_int (by rw [H.out, if_pos h1]), rfl⟩
  · by_cases h2 : h < n
    · go_enter Tryz.func85, Tryz.ntmps85
      go_wp2
      go_ret
      exact ⟨ret_int (by rw [H.out, if_neg (by omega), if_pos h2]), rfl⟩
    · go_enter Tryz.func85, Tryz.ntmps85
      go_wp2
      go_ret
      exact ⟨ret_int (by rw [H.out, if_neg (by omega), if_neg (by omega)]), rfl⟩

theorem Sign_any (x n : Int) (w : World) : Calls Tryz.prog 78 #[.int .u64 x, .int .i64 n] w fun e w' => e = .returned (.int .i64 (signI x n)) ∧ w = w' := by
  have hc := cl_lo n 64 (by omega)
  have hc' := cl_hi n 64 (by omega)
  go_enter Tryz.func78, Tryz.ntmps78
  go_wp2_with (go_at_call 85; (with_reducible refine (clamp_any _ _ _).mono ?_); rintro e w' ⟨rfl, rfl⟩)
  go_ret
  exact ⟨rfl, rfl⟩

theorem Fits_any (v n : Int) (w : World) : Calls Tryz.prog 68 #[.int .i64 v, .int .i64 n] w fun e w' => e = .returned (.bool (fitsI v n)) ∧ w = w' := by
  go_enter Tryz.func68, Tryz.ntmps68
  go_wp2_with (go_at_call 78; (with_reducible refine (Sign_any _ _ _).mono ?_); rintro e w' ⟨rfl, rfl⟩)
  go_ret
  exact ⟨rfl, rfl⟩

/-! ### shapes -/
theorem shape_0 (op : Int) (h : op ≠ 4) (w : World) : Calls Tryz.prog 45 #[.int .i64 op, .int .i64 0] w fun e w' => e = .returned (.string ⟨(shapeF 0).toArray⟩) ∧ Below w.heap.size w w' := by
  go_enter Tryz.func45, Tryz.ntmps45
  go_wp2
  go_ret
  exact ⟨rfl, (((Below.refl _ _).alloc (Nat.le_refl _) _))⟩
theorem shape_1 (op : Int) (h : op ≠ 4) (w : World) : Calls Tryz.prog 45 #[.int .i64 op, .int .i64 1] w fun e w' => e = .returned (.string ⟨(shapeF 1).toArray⟩) ∧ Below w.heap.size w w' := by
  go_enter Tryz.func45, Tryz.ntmps45
  go_wp2
  go_ret
  exact ⟨rfl, (((Below.refl _ _).alloc (Nat.le_refl _) _))⟩
theorem shape_2 (op : Int) (h : op ≠ 4) (w : World) : Calls Tryz.prog 45 #[.int .i64 op, .int .i64 2] w fun e w' => e = .returned (.string ⟨(shapeF 2).toArray⟩) ∧ Below w.heap.size w w' := by
  go_enter Tryz.func45, Tryz.ntmps45
  go_wp2
  go_ret
  exact ⟨rfl, (((Below.refl _ _).alloc (Nat.le_refl _) _))⟩
theorem shape_3 (op : Int) (h : op ≠ 4) (w : World) : Calls Tryz.prog 45 #[.int .i64 op, .int .i64 3] w fun e w' => e = .returned (.string ⟨(shapeF 3).toArray⟩) ∧ Below w.heap.size w w' := by
  go_enter Tryz.func45, Tryz.ntmps45
  go_wp2
  go_ret
  exact ⟨rfl, (((Below.refl _ _).alloc (Nat.le_refl _) _))⟩
theorem shape_4 (op : Int) (h : op ≠ 4) (w : World) : Calls Tryz.prog 45 #[.int .i64 op, .int .i64 4] w fun e w' => e = .returned (.string ⟨(shapeF 4).toArray⟩) ∧ Below w.heap.size w w' := by
  go_enter Tryz.func45, Tryz.ntmps45
  go_wp2
  go_ret
  exact ⟨rfl, (((Below.refl _ _).alloc (Nat.le_refl _) _))⟩
theorem shape_5 (op : Int) (h : op ≠ 4) (w : World) : Calls Tryz.prog 45 #[.int .i64 op, .int .i64 5] w fun e w' => e = .returned (.string ⟨(shapeF 5).toArray⟩) ∧ Below w.heap.size w w' := by
  go_enter Tryz.func45, Tryz.ntmps45
  go_wp2
  go_ret
  exact ⟨rfl, (((Below.refl _ _).alloc (Nat.le_refl _) _))⟩
theorem shape_6 (op : Int) (h : op ≠ 4) (w : World) : Calls Tryz.prog 45 #[.int .i64 op, .int .i64 6] w fun e w' => e = .returned (.string ⟨(shapeF 6).toArray⟩) ∧ Below w.heap.size w w' := by
  go_enter Tryz.func45, Tryz.ntmps45
  go_wp2
  go_ret
  exact ⟨rfl, (((Below.refl _ _).alloc (Nat.le_refl _) _))⟩
theorem shape_7 (op : Int) (h : op ≠ 4) (w : World) : Calls Tryz.prog 45 #[.int .i64 op, .int .i64 7] w fun e w' => e = .returned (.string ⟨(shapeF 7).toArray⟩) ∧ Below w.heap.size w w' := by
  go_enter Tryz.func45, Tryz.ntmps45
  go_wp2
  go_ret
  exact ⟨rfl, (((Below.refl _ _).alloc (Nat.le_refl _) _))⟩
theorem shape_8 (op : Int) (h : op ≠ 4) (w : World) : Calls Tryz.prog 45 #[.int .i64 op, .int .i64 8] w fun e w' => e = .returned (.string ⟨(shapeF 8).toArray⟩) ∧ Below w.heap.size w w' := by
  go_enter Tryz.func45, Tryz.ntmps45
  go_wp2
  go_ret
  exact ⟨rfl, (((Below.refl _ _).alloc (Nat.le_refl _) _))⟩
theorem shape_9 (op : Int) (h : op ≠ 4) (w : World) : Calls Tryz.prog 45 #[.int .i64 op, .int .i64 9] w fun e w' => e = .returned (.string ⟨(shapeF 9).toArray⟩) ∧ Below w.heap.size w w' := by
  go_enter Tryz.func45, Tryz.ntmps45
  go_wp2
  go_ret
  exact ⟨rfl, (((Below.refl _ _).alloc (Nat.le_refl _) _))⟩
theorem shape_10 (op : Int) (h : op ≠ 4) (w : World) : Calls Tryz.prog 45 #[.int .i64 op, .int .i64 10] w fun e w' => e = .returned (.string ⟨(shapeF 10).toArray⟩) ∧ Below w.heap.size w w' := by
  go_enter Tryz.func45, Tryz.ntmps45
  go_wp2
  go_ret
  exact ⟨rfl, (((Below.refl _ _).alloc (Nat.le_refl _) _))⟩
theorem shape_11 (op : Int) (h : op ≠ 4) (w : World) : Calls Tryz.prog 45 #[.int .i64 op, .int .i64 11] w fun e w' => e = .returned (.string ⟨(shapeF 11).toArray⟩) ∧ Below w.heap.size w w' := by
  go_enter Tryz.func45, Tryz.ntmps45
  go_wp2
  go_ret
  exact ⟨rfl, (((Below.refl _ _).alloc (Nat.le_refl _) _))⟩
theorem shape_12 (op : Int) (h : op ≠ 4) (w : World) : Calls Tryz.prog 45 #[.int .i64 op, .int .i64 12] w fun e w' => e = .returned (.string ⟨(shapeF 12).toArray⟩) ∧ Below w.heap.size w w' := by
  go_enter Tryz.func45, Tryz.ntmps45
  go_wp2
  go_ret
  exact ⟨rfl, (((Below.refl _ _).alloc (Nat.le_refl _) _))⟩
theorem shape_jalr (form : Int) (w : World) : Calls Tryz.prog 45 #[.int .i64 4, .int .i64 form] w fun e w' => e = .returned (.string ⟨(shapeF 4).toArray⟩) ∧ Below w.heap.size w w' := by
  go_enter Tryz.func45, Tryz.ntmps45
  go_wp2
  go_ret
  exact ⟨rfl, (((Below.refl _ _).alloc (Nat.le_refl _) _))⟩
theorem shape_any (op form : Int) (h0 : 0 ≤ form) (h1 : form ≤ 12) (w : World) : Calls Tryz.prog 45 #[.int .i64 op, .int .i64 form] w fun e w' => e = .returned (.string ⟨(shapeOf op form).toArray⟩) ∧ Below w.heap.size w w' := by
  by_cases h : op = 4
  · subst h; unfold shapeOf; rw [if_pos rfl]; exact shape_jalr form w
  · unfold shapeOf; rw [if_neg h]
    have hf : form = 0 ∨ form = 1 ∨ form = 2 ∨ form = 3 ∨ form = 4 ∨ form = 5 ∨ form = 6 ∨ form = 7 ∨ form = 8 ∨ form = 9 ∨ form = 10 ∨ form = 11 ∨ form = 12 := by omega
    rcases hf with rfl | rfl | rfl | rfl | rfl | rfl | rfl | rfl | rfl | rfl | rfl | rfl | rfl
    · exact shape_0 op h w
    · exact shape_1 op h w
    · exact shape_2 op h w
    · exact shape_3 op h w
    · exact shape_4 op h w
    · exact shape_5 op h w
    · exact shape_6 op h w
    · exact shape_7 op h w
    · exact shape_8 op h w
    · exact shape_9 op h w
    · exact shape_10 op h w
    · exact shape_11 op h w
    · exact shape_12 op h w
end Go.Proofs.YtdiacnjkffdegaaGreat
