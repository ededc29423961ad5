/-
  Proved here: what the document's own Name answers of an op (layer 2). No condition.
-/
import Derived.Test.YtdiacnjkffdegaaGreatRef02Form
import Derived.OwnWalk
import Derived.Test.YtdiacnjkffdegaaGreatInsnLook
import Derived.Great.BuildSlice
namespace Go.Proofs.YtdiacnjkffdegaaGreat
open Go.RowKit
def namesC : Array Value := ((List.range 88).map (fun k : Nat => Value.string ⟨(nameOf (k : Int)).toArray⟩)).toArray
theorem names_at (k : Nat) (h : k < 88) : namesC[k]? = some (.string ⟨(nameOf (k : Int)).toArray⟩) := by
  unfold namesC
  rw [List.getElem?_toArray, List.getElem?_map, List.getElem?_range h]
  rfl
attribute [local irreducible] namesC
set_option maxRecDepth 100000 in
theorem names_any (w : World) : Calls Tryz.prog 62 #[] w fun e w' => e = .returned (.slice (some ⟨w.heap.size, 0, none⟩) 88 88) ∧ w'.heap[w.heap.size]? = some (.cells namesC 9 (0, 0)) ∧ Below w.heap.size w w' := by
  have h1 : (Tryz.prog.info? 9).map (·.size) = some 1 := by kernel_rfl
  have h2 : (Tryz.prog.info? 9).bind (·.zero) = some (.string ⟨#[]⟩) := by kernel_rfl
  obtain ⟨ie, hie, hz⟩ := Option.bind_eq_some_iff.1 h2
  have hs : ie.size = 1 := by rw [hie] at h1; simpa using h1
  clear h1 h2
  go_enter Tryz.func62, Tryz.ntmps62
  go_wp2_with (first | (refine wpList_buildSlice rfl 97 9 88 _ rfl namesC ie (.string ⟨#[]⟩) Tryz.underlying97 hie hz (by rw [hs]; decide) (by rw [hs]; decide) (by rw [hs]; kernel_rfl) ?_))
  go_ret
  exact ⟨rfl, Array.getElem?_push_size, (Below.refl _ _).alloc (Nat.le_refl _) _⟩
theorem name_rg (k : Nat) (hk : k < 88) (n : Nat) (w : World) : (Instr.indexAt 97 (.slice (some ⟨n, 0, none⟩) 88 88) (.int .i64 (k : Int))).run Tryz.prog w = .ok (.pointer (some ⟨n, k, none⟩)) w := by
  have h1 : (0 : Int) ≤ k ∧ (k : Int) < 88 := by omega
  simp [Instr.indexAt, go_sem, Tryz.sizeOf9, h1, hk, Addr.add]
  intro h; omega
set_option maxRecDepth 100000 in
theorem rName_some (k : Nat) (hk : k < 88) (hf : formOf (k : Int) ≠ 0) (w : World) : Calls Tryz.prog 38 #[.int .i64 (k : Int)] w fun e w' => e = .returned (.string ⟨(nameOf (k : Int)).toArray⟩) ∧ Below w.heap.size w w' := by
  have b0 : (formOf (k : Int) == 0) = false := by simpa using hf
  have ix := fun n => name_rg k hk n
  clear hf
  go_enter Tryz.func38, Tryz.ntmps38
  go_wp2_with (first | (go_at_call 17; (with_reducible refine (rForm_any _ _).mono ?_); rintro e w' ⟨rfl, rfl⟩) | (go_at_call 62; (with_reducible refine (names_any _).mono ?_); rintro e w1 ⟨rfl, hr, hb⟩; have hc := (cell_of_row w1 _ k _ _ _ hr).trans (names_at k hk); have HB := Lib.hid hb; clear hb hr))
  go_ret
  exact ⟨rfl, HB.out⟩
theorem rName_none (op : Int) (hf : formOf op = 0) (w : World) : Calls Tryz.prog 38 #[.int .i64 op] w fun e w' => e = .returned (.string ⟨#[]⟩) ∧ Below w.heap.size w w' := by
  have HF := Lib.hid hf
  clear hf
  go_enter Tryz.func38, Tryz.ntmps38
  go_wp2_with (first | (go_at_call 17; (with_reducible refine (HF.out ▸ rForm_any op _ : Calls Tryz.prog 17 #[.int .i64 op] _ fun e w' => e = .returned (.int .i64 0) ∧ _ = w').mono ?_); rintro e w' ⟨rfl, rfl⟩))
  go_ret
  exact ⟨rfl, Below.refl _ _⟩
theorem rName_any (op : Int) (w : World) : Calls Tryz.prog 38 #[.int .i64 op] w fun e w' => (∃ N, e = .returned (.string N)) ∧ Below w.heap.size w w' := by
  by_cases hf : formOf op = 0
  · exact (rName_none op hf w).mono fun e w' h => ⟨⟨_, h.1⟩, h.2⟩
  · obtain ⟨k, rfl, hk, _⟩ : ∃ k : Nat, op = (k : Int) ∧ k < 88 ∧ k ≠ 0 := by
      rcases (by omega : op < 0 ∨ 88 ≤ op ∨ op = 0 ∨ (0 < op ∧ op < 88)) with h1 | h1 | h1 | h1
      · exact absurd (by unfold formOf; rw [row_none op (Or.inl h1)]; rfl) hf
      · exact absurd (by unfold formOf; rw [row_none op (Or.inr h1)]; rfl) hf
      · subst h1; exact absurd (by decide +kernel) hf
      · exact ⟨op.toNat, by omega, by omega, by omega⟩
    exact (rName_some k hk hf w).mono fun e w' h => ⟨⟨_, h.1⟩, h.2⟩
def ldB (op : Int) : Bool := ([4, 11, 12] : List Int).contains (formOf op) && !(op == 68 || op == 69)
def stB (op : Int) : Bool := ([5, 12] : List Int).contains (formOf op)
def MemPost (op : Int) (w : World) (e : Ending) (w' : World) : Prop := e = .returned (.tuple #[.bool (ldB op), .bool (stB op), .int .i64 (sizeOf' op)]) ∧ Below w.heap.size w w'
end Go.Proofs.YtdiacnjkffdegaaGreat
