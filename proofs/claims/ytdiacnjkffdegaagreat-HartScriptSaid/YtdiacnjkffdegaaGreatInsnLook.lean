/-
  Proved here: the package insn's look answers an op's row of the chapter's table, an empty one of none, and writes nothing that was there. No condition.
-/
import Derived.Test.YtdiacnjkffdegaaGreatInsnTable
namespace Go.Proofs.YtdiacnjkffdegaaGreat
open Go.RowKit

theorem rows_at : ∀ (L : List (List UInt8 × Nat × Nat)) (k : Nat), k < L.length → ((L.flatMap rowCells).drop (k * 3)).take 3 = rowCells (L.getD k ([], 0, 0))
  | [], _, h => by simp at h
  | r :: L, 0, _ => by simp [rowCells]
  | r :: L, k + 1, h => by
    have ih := rows_at L k (by simpa using h)
    rw [List.flatMap_cons, show (k + 1) * 3 = 3 + k * 3 by omega, ← List.drop_drop]
    have e : (rowCells r ++ L.flatMap rowCells).drop 3 = L.flatMap rowCells := by simp [rowCells]
    rw [e, ih]; simp
theorem tab_ext (k : Nat) (h : k < 88) : tabCells.extract (k * 3) (k * 3 + 3) = #[.string ⟨(nameOf k).toArray⟩, .int .i64 (formOf k), .int .i64 (sizeOf' k)] := by
  have h1 := rows_at tabL k (by rw [tab_len]; exact h)
  apply Array.ext'
  unfold tabCells
  rw [List.extract_toArray, List.extract_eq_take_drop]
  simp only [Nat.add_sub_cancel_left]
  rw [h1]
  rfl
theorem index_tab (k : Nat) (h : k < 88) (w : World) : (Instr.index 99 (.agg tabCells) (.int .i64 (k : Int))).run Tryz.prog w = .ok (.agg #[.string ⟨(nameOf k).toArray⟩, .int .i64 (formOf k), .int .i64 (sizeOf' k)]) w := by
  have hu := run_underlying Tryz.underlying99 w
  have ha : (isAgg 80).run Tryz.prog w = .ok true w := by
    unfold isAgg; rw [Sem.run_bind, run_underlying Tryz.underlying80 w]; rfl
  have hs : (Go.sizeOf 80).run Tryz.prog w = .ok 3 w := by kernel_rfl
  have hk : (0 : Int) ≤ k ∧ (k : Int) < (88 : Nat) := by omega
  simp only [Instr.index, asIntOf, Sem.run_bind, Sem.run_pure, Result.andThen_ok, hu, if_pos hk, hs, Go.part, ha, if_true, Int.toNat_natCast, tab_ext k h]
theorem bcell {W w1 : World} (hb : Below W.heap.size W w1) : (∀ b o, b < W.heap.size → w1.cell? ⟨b, o, none⟩ = W.cell? ⟨b, o, none⟩) ∧ (∀ b o, b < W.heap.size → w1.frozen? ⟨b, o, none⟩ = W.frozen? ⟨b, o, none⟩) :=
  ⟨fun b o h => hb.cell (p := ⟨b, o, none⟩) h, fun b o h => hb.frozen (p := ⟨b, o, none⟩) h⟩
def rowV (op : Int) : Value := .agg #[.string ⟨(nameOf op).toArray⟩, .int .i64 (formOf op), .int .i64 (sizeOf' op)]
theorem rowV_none (op : Int) (h : op < 0 ∨ 88 ≤ op) : rowV op = .agg #[.string ⟨#[]⟩, .int .i64 0, .int .i64 0] := by
  unfold rowV nameOf formOf sizeOf'; rw [row_none op h]; rfl
theorem look_none (op : Int) (h : op < 0 ∨ 88 ≤ op) (w : World) : Calls Tryz.prog 44 #[.int .i64 op] w fun e w' => e = .returned (.agg #[.string ⟨#[]⟩, .int .i64 0, .int .i64 0]) ∧ Below w.heap.size w w' := by
  rcases h with h0 | h1
  · go_enter Tryz.func44, Tryz.ntmps44
    go_wp2
    exact bodyPost_ret (v := .agg #[.string ⟨#[]⟩, .int .i64 0, .int .i64 0]) (by simp [results, Tryz.results44, go_sem]) rfl ⟨rfl, (Below.refl _ _).alloc (Nat.le_refl _) _⟩
  · have h0 : ¬ op < 0 := by omega
    go_enter Tryz.func44, Tryz.ntmps44
    go_wp2
    exact bodyPost_ret (v := .agg #[.string ⟨#[]⟩, .int .i64 0, .int .i64 0]) (by simp [results, Tryz.results44, go_sem]) rfl ⟨rfl, (Below.refl _ _).alloc (Nat.le_refl _) _⟩
theorem look_some (k : Nat) (h : k < 88) (w : World) : Calls Tryz.prog 44 #[.int .i64 (k : Int)] w fun e w' => e = .returned (.agg #[.string ⟨(nameOf k).toArray⟩, .int .i64 (formOf k), .int .i64 (sizeOf' k)]) ∧ Below w.heap.size w w' := by
  have hi := index_tab k h
  go_enter Tryz.func44, Tryz.ntmps44
  go_wp2_with (go_at_call 65; (with_reducible refine (table_any _).mono ?_); rintro e w' ⟨rfl, hb⟩; obtain ⟨hc, hf⟩ := bcell hb; have HB := Lib.hid hb; clear hb)
  exact bodyPost_ret (v := .agg #[.string ⟨(nameOf k).toArray⟩, .int .i64 (formOf k), .int .i64 (sizeOf' k)]) (by simp [results, Tryz.results44, go_sem, hc]) rfl ⟨rfl, ((((((Below.refl _ _).alloc (Nat.le_refl _) _).trans (HB.out.mono (by simp))).setCell (by simp) _).setCell (by simp) _).setCell (by simp) _)⟩
theorem look_any (op : Int) (w : World) : Calls Tryz.prog 44 #[.int .i64 op] w fun e w' => e = .returned (rowV op) ∧ Below w.heap.size w w' := by
  by_cases h : op < 0 ∨ 88 ≤ op
  · rw [rowV_none op h]; exact look_none op h w
  · obtain ⟨k, rfl⟩ : ∃ k : Nat, op = k := ⟨op.toNat, by omega⟩
    exact look_some k (by omega) w
end Go.Proofs.YtdiacnjkffdegaaGreat
