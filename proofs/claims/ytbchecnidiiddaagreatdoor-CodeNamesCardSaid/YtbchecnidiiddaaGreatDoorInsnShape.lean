/-
  Proved here: what the package insn asks of an instruction's parts: its text's shape, which fields it has, which numbers may stand in it. Each leaves what was there as it was. No condition.
  (With it: Proved here: the package insn's look answers an op's row of the chapter's table, an empty one of none, and writes nothing that was there. No condition.)
-/
import Derived.Test.YtbchecnidiiddaaGreatDoorInsnTable
import Derived.Test.YtbchecnidiiddaaGreatDoorWordPlain
import Derived.Lib.Bytealg
namespace Go.Proofs.YtbchecnidiiddaaGreatDoor
open Go.RowKit

theorem rows_at : ∀ (L : List (List UInt8 × Nat × Nat)) (k : Nat), k < L.length → ((L.flatMap rowCells).drop (k * 3)).take 3 = rowCells (L.getD k ([], 0, 0))
  | [], _, h => by simp at h
  | r :: L, 0, _ => by simp [rowCells]
  | r :: L, k + 1, h => by
    have ih := rows_at L k (by simpa using h)
    rw [List.flatMap_cons, show (k + 1) * 3 = 3 + k * 3 by omega, ← List.drop_drop]
    have e : (rowCells r ++ L.flatMap rowCells).drop 3 = L.flatMap rowCells := by simp [rowCells]
    rw [e, ih]; simp
theorem tab_ext (k : Nat) (h : k < 88) : tabCells.extract (k * 3) (k * 3 + 3) = #[.string ⟨(nameOf k).toArray⟩, .int .i64 (formOf k), .int .i64 (sizeOf' k)] := by
  have h1 := rows_at tabL k (by rw [tab_len]; exact h)
  apply Array.ext'
  unfold tabCells
  rw [List.extract_toArray, List.extract_eq_take_drop]
  simp only [Nat.add_sub_cancel_left]
  rw [h1]
  rfl
theorem index_tab (k : Nat) (h : k < 88) (w : World) : (Instr.index 110 (.agg tabCells) (.int .i64 (k : Int))).run Tryz.prog w = .ok (.agg #[.string ⟨(nameOf k).toArray⟩, .int .i64 (formOf k), .int .i64 (sizeOf' k)]) w := by
  have hu := run_underlying Tryz.underlying110 w
  have ha : (isAgg 88).run Tryz.prog w = .ok true w := by
    unfold isAgg; rw [Sem.run_bind, run_underlying Tryz.underlying88 w]; rfl
  have hs : (Go.sizeOf 88).run Tryz.prog w = .ok 3 w := by kernel_rfl
  have hk : (0 : Int) ≤ k ∧ (k : Int) < (88 : Nat) := by omega
  simp only [Instr.index, asIntOf, Sem.run_bind, Sem.run_pure, Result.andThen_ok, hu, if_pos hk, hs, Go.part, ha, if_true, Int.toNat_natCast, tab_ext k h]
theorem bcell {W w1 : World} (hb : Below W.heap.size W w1) : (∀ b o, b < W.heap.size → w1.cell? ⟨b, o, none⟩ = W.cell? ⟨b, o, none⟩) ∧ (∀ b o, b < W.heap.size → w1.frozen? ⟨b, o, none⟩ = W.frozen? ⟨b, o, none⟩) :=
  ⟨fun b o h => hb.cell (p := ⟨b, o, none⟩) h, fun b o h => hb.frozen (p := ⟨b, o, none⟩) h⟩
def rowV (op : Int) : Value := .agg #[.string ⟨(nameOf op).toArray⟩, .int .i64 (formOf op), .int .i64 (sizeOf' op)]
theorem rowV_none (op : Int) (h : op < 0 ∨ 88 ≤ op) : rowV op = .agg #[.string ⟨#[]⟩, .int .i64 0, .int .i64 0] := by
  unfold rowV nameOf formOf sizeOf'; rw [row_none op h]; rfl
theorem look_none (op : Int) (h : op < 0 ∨ 88 ≤ op) (w : World) : Calls Tryz.prog 29 #[.int .i64 op] w fun e w' => e = .returned (.agg #[.string ⟨#[]⟩, .int .i64 0, .int .i64 0]) ∧ Below w.heap.size w w' := by
  rcases h with h0 | h1
  · go_enter Tryz.func29, Tryz.ntmps29
    go_wp2
    exact bodyPost_ret (v := .agg #[.string ⟨#[]⟩, .int .i64 0, .int .i64 0]) (by simp [results, Tryz.results29, go_sem]) rfl ⟨rfl, (Below.refl _ _).alloc (Nat.le_refl _) _⟩
  · have h0 : ¬ op < 0 := by omega
    go_enter Tryz.func29, Tryz.ntmps29
    go_wp2
    exact bodyPost_ret (v := .agg #[.string ⟨#[]⟩, .int .i64 0, .int .i64 0]) (by simp [results, Tryz.results29, go_sem]) rfl ⟨rfl, (Below.refl _ _).alloc (Nat.le_refl _) _⟩
theorem look_some (k : Nat) (h : k < 88) (w : World) : Calls Tryz.prog 29 #[.int .i64 (k : Int)] w fun e w' => e = .returned (.agg #[.string ⟨(nameOf k).toArray⟩, .int .i64 (formOf k), .int .i64 (sizeOf' k)]) ∧ Below w.heap.size w w' := by
  have hi := index_tab k h
  go_enter Tryz.func29, Tryz.ntmps29
  go_wp2_with (go_at_call 68; (with_reducible refine (table_any _).mono ?_); rintro e w' ⟨rfl, hb⟩; obtain ⟨hc, hf⟩ := bcell hb; have HB := Lib.hid hb; clear hb)
  exact bodyPost_ret (v := .agg #[.string ⟨(nameOf k).toArray⟩, .int .i64 (formOf k), .int .i64 (sizeOf' k)]) (by simp [results, Tryz.results29, go_sem, hc]) rfl ⟨rfl, ((((((Below.refl _ _).alloc (Nat.le_refl _) _).trans (HB.out.mono (by simp))).setCell (by simp) _).setCell (by simp) _).setCell (by simp) _)⟩
theorem look_any (op : Int) (w : World) : Calls Tryz.prog 29 #[.int .i64 op] w fun e w' => e = .returned (rowV op) ∧ Below w.heap.size w w' := by
  by_cases h : op < 0 ∨ 88 ≤ op
  · rw [rowV_none op h]; exact look_none op h w
  · obtain ⟨k, rfl⟩ : ∃ k : Nat, op = k := ⟨op.toNat, by omega⟩
    exact look_some k (by omega) w
end Go.Proofs.YtbchecnidiiddaaGreatDoor
namespace Go.Proofs.YtbchecnidiiddaaGreatDoor
open Go.RowKit

theorem ret_int {k : IntKind} {a b : Int} (h : a = b) : Ending.returned (.int k a) = .returned (.int k b) := by rw [h]
theorem ret_bool {a b : Bool} (h : a = b) : Ending.returned (.bool a) = .returned (.bool b) := by rw [h]

theorem clamp_any (n h : Int) (w : World) : Calls Tryz.prog 17 #[.int .i64 n, .int .i64 h] w fun e w' => e = .returned (.int .i64 (cl n h)) ∧ w = w' := by
  have H := Lib.hid (show cl n h = if n < 0 then 0 else if h < n then h else n from rfl)
  by_cases h1 : n < 0
  · go_enter Tryz.func17, Tryz.ntmps17
    go_wp2
    go_ret
    exact ⟨ret_int (by rw [H.out, if_pos h1]), rfl⟩
  · by_cases h2 : h < n
    · go_enter Tryz.func17, Tryz.ntmps17
      go_wp2
      go_ret
      exact ⟨ret_int (by rw [H.out, if_neg (by omega), if_pos h2]), rfl⟩
    · go_enter Tryz.func17, Tryz.ntmps17
      go_wp2
      go_ret
      exact ⟨ret_int (by rw [H.out, if_neg (by omega), if_neg (by omega)]), rfl⟩

theorem Sign_any (x n : Int) (w : World) : Calls Tryz.prog 109 #[.int .u64 x, .int .i64 n] w fun e w' => e = .returned (.int .i64 (signI x n)) ∧ w = w' := by
  have hc := cl_lo n 64 (by omega)
  have hc' := cl_hi n 64 (by omega)
  go_enter Tryz.func109, Tryz.ntmps109
  go_wp2_with (go_at_call 17; (with_reducible refine (clamp_any _ _ _).mono ?_); rintro e w' ⟨rfl, rfl⟩)
  go_ret
  exact ⟨rfl, rfl⟩

theorem Fits_any (v n : Int) (w : World) : Calls Tryz.prog 91 #[.int .i64 v, .int .i64 n] w fun e w' => e = .returned (.bool (fitsI v n)) ∧ w = w' := by
  go_enter Tryz.func91, Tryz.ntmps91
  go_wp2_with (go_at_call 109; (with_reducible refine (Sign_any _ _ _).mono ?_); rintro e w' ⟨rfl, rfl⟩)
  go_ret
  exact ⟨rfl, rfl⟩

/-! ### shapes -/
theorem shape_0 (op : Int) (h : op ≠ 4) (w : World) : Calls Tryz.prog 31 #[.int .i64 op, .int .i64 0] w fun e w' => e = .returned (.string ⟨(shapeF 0).toArray⟩) ∧ Below w.heap.size w w' := by
  go_enter Tryz.func31, Tryz.ntmps31
  go_wp2
  go_ret
  exact ⟨rfl, (((Below.refl _ _).alloc (Nat.le_refl _) _))⟩
theorem shape_1 (op : Int) (h : op ≠ 4) (w : World) : Calls Tryz.prog 31 #[.int .i64 op, .int .i64 1] w fun e w' => e = .returned (.string ⟨(shapeF 1).toArray⟩) ∧ Below w.heap.size w w' := by
  go_enter Tryz.func31, Tryz.ntmps31
  go_wp2
  go_ret
  exact ⟨rfl, (((Below.refl _ _).alloc (Nat.le_refl _) _))⟩
theorem shape_2 (op : Int) (h : op ≠ 4) (w : World) : Calls Tryz.prog 31 #[.int .i64 op, .int .i64 2] w fun e w' => e = .returned (.string ⟨(shapeF 2).toArray⟩) ∧ Below w.heap.size w w' := by
  go_enter Tryz.func31, Tryz.ntmps31
  go_wp2
  go_ret
  exact ⟨rfl, (((Below.refl _ _).alloc (Nat.le_refl _) _))⟩
theorem shape_3 (op : Int) (h : op ≠ 4) (w : World) : Calls Tryz.prog 31 #[.int .i64 op, .int .i64 3] w fun e w' => e = .returned (.string ⟨(shapeF 3).toArray⟩) ∧ Below w.heap.size w w' := by
  go_enter Tryz.func31, Tryz.ntmps31
  go_wp2
  go_ret
  exact ⟨rfl, (((Below.refl _ _).alloc (Nat.le_refl _) _))⟩
theorem shape_4 (op : Int) (h : op ≠ 4) (w : World) : Calls Tryz.prog 31 #[.int .i64 op, .int .i64 4] w fun e w' => e = .returned (.string ⟨(shapeF 4).toArray⟩) ∧ Below w.heap.size w w' := by
  go_enter Tryz.func31, Tryz.ntmps31
  go_wp2
  go_ret
  exact ⟨rfl, (((Below.refl _ _).alloc (Nat.le_refl _) _))⟩
theorem shape_5 (op : Int) (h : op ≠ 4) (w : World) : Calls Tryz.prog 31 #[.int .i64 op, .int .i64 5] w fun e w' => e = .returned (.string ⟨(shapeF 5).toArray⟩) ∧ Below w.heap.size w w' := by
  go_enter Tryz.func31, Tryz.ntmps31
  go_wp2
  go_ret
  exact ⟨rfl, (((Below.refl _ _).alloc (Nat.le_refl _) _))⟩
theorem shape_6 (op : Int) (h : op ≠ 4) (w : World) : Calls Tryz.prog 31 #[.int .i64 op, .int .i64 6] w fun e w' => e = .returned (.string ⟨(shapeF 6).toArray⟩) ∧ Below w.heap.size w w' := by
  go_enter Tryz.func31, Tryz.ntmps31
  go_wp2
  go_ret
  exact ⟨rfl, (((Below.refl _ _).alloc (Nat.le_refl _) _))⟩
theorem shape_7 (op : Int) (h : op ≠ 4) (w : World) : Calls Tryz.prog 31 #[.int .i64 op, .int .i64 7] w fun e w' => e = .returned (.string ⟨(shapeF 7).toArray⟩) ∧ Below w.heap.size w w' := by
  go_enter Tryz.func31, Tryz.ntmps31
  go_wp2
  go_ret
  exact ⟨rfl, (((Below.refl _ _).alloc (Nat.le_refl _) _))⟩
theorem shape_8 (op : Int) (h : op ≠ 4) (w : World) : Calls Tryz.prog 31 #[.int .i64 op, .int .i64 8] w fun e w' => e = .returned (.string ⟨(shapeF 8).toArray⟩) ∧ Below w.heap.size w w' := by
  go_enter Tryz.func31, Tryz.ntmps31
  go_wp2
  go_ret
  exact ⟨rfl, (((Below.refl _ _).alloc (Nat.le_refl _) _))⟩
theorem shape_9 (op : Int) (h : op ≠ 4) (w : World) : Calls Tryz.prog 31 #[.int .i64 op, .int .i64 9] w fun e w' => e = .returned (.string ⟨(shapeF 9).toArray⟩) ∧ Below w.heap.size w w' := by
  go_enter Tryz.func31, Tryz.ntmps31
  go_wp2
  go_ret
  exact ⟨rfl, (((Below.refl _ _).alloc (Nat.le_refl _) _))⟩
theorem shape_10 (op : Int) (h : op ≠ 4) (w : World) : Calls Tryz.prog 31 #[.int .i64 op, .int .i64 10] w fun e w' => e = .returned (.string ⟨(shapeF 10).toArray⟩) ∧ Below w.heap.size w w' := by
  go_enter Tryz.func31, Tryz.ntmps31
  go_wp2
  go_ret
  exact ⟨rfl, (((Below.refl _ _).alloc (Nat.le_refl _) _))⟩
theorem shape_11 (op : Int) (h : op ≠ 4) (w : World) : Calls Tryz.prog 31 #[.int .i64 op, .int .i64 11] w fun e w' => e = .returned (.string ⟨(shapeF 11).toArray⟩) ∧ Below w.heap.size w w' := by
  go_enter Tryz.func31, Tryz.ntmps31
  go_wp2
  go_ret
  exact ⟨rfl, (((Below.refl _ _).alloc (Nat.le_refl _) _))⟩
theorem shape_12 (op : Int) (h : op ≠ 4) (w : World) : Calls Tryz.prog 31 #[.int .i64 op, .int .i64 12] w fun e w' => e = .returned (.string ⟨(shapeF 12).toArray⟩) ∧ Below w.heap.size w w' := by
  go_enter Tryz.func31, Tryz.ntmps31
  go_wp2
  go_ret
  exact ⟨rfl, (((Below.refl _ _).alloc (Nat.le_refl _) _))⟩
theorem shape_jalr (form : Int) (w : World) : Calls Tryz.prog 31 #[.int .i64 4, .int .i64 form] w fun e w' => e = .returned (.string ⟨(shapeF 4).toArray⟩) ∧ Below w.heap.size w w' := by
  go_enter Tryz.func31, Tryz.ntmps31
  go_wp2
  go_ret
  exact ⟨rfl, (((Below.refl _ _).alloc (Nat.le_refl _) _))⟩
theorem shape_any (op form : Int) (h0 : 0 ≤ form) (h1 : form ≤ 12) (w : World) : Calls Tryz.prog 31 #[.int .i64 op, .int .i64 form] w fun e w' => e = .returned (.string ⟨(shapeOf op form).toArray⟩) ∧ Below w.heap.size w w' := by
  by_cases h : op = 4
  · subst h; unfold shapeOf; rw [if_pos rfl]; exact shape_jalr form w
  · unfold shapeOf; rw [if_neg h]
    have hf : form = 0 ∨ form = 1 ∨ form = 2 ∨ form = 3 ∨ form = 4 ∨ form = 5 ∨ form = 6 ∨ form = 7 ∨ form = 8 ∨ form = 9 ∨ form = 10 ∨ form = 11 ∨ form = 12 := by omega
    rcases hf with rfl | rfl | rfl | rfl | rfl | rfl | rfl | rfl | rfl | rfl | rfl | rfl | rfl
    · exact shape_0 op h w
    · exact shape_1 op h w
    · exact shape_2 op h w
    · exact shape_3 op h w
    · exact shape_4 op h w
    · exact shape_5 op h w
    · exact shape_6 op h w
    · exact shape_7 op h w
    · exact shape_8 op h w
    · exact shape_9 op h w
    · exact shape_10 op h w
    · exact shape_11 op h w
    · exact shape_12 op h w
end Go.Proofs.YtbchecnidiiddaaGreatDoor
