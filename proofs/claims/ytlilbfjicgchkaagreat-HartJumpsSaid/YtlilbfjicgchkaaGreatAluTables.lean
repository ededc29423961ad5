/-
  Proved here: the tables of package alu (reckons, branches, amos, plains) are returned whole, and what was there is as it was. No condition.
-/
import Derived.Test.YtlilbfjicgchkaaGreatAluLits
import Derived.Laws.Tables
import Derived.Laws.Rows
namespace Go.Proofs.YtlilbfjicgchkaaGreat
open Go.RowKit

section
variable {P : Program}
end
def reckonCells : Array Value := #[.nilFunc, .func (.func 91) #[] #[], .nilFunc, .nilFunc, .nilFunc, .nilFunc, .nilFunc, .nilFunc, .nilFunc, .nilFunc, .nilFunc, .nilFunc, .nilFunc, .nilFunc, .nilFunc, .nilFunc, .nilFunc, .nilFunc, .nilFunc, .nilFunc, .nilFunc, .nilFunc, .nilFunc, .nilFunc, .nilFunc, .nilFunc, .nilFunc, .nilFunc, .nilFunc, .nilFunc, .nilFunc, .nilFunc, .nilFunc, .nilFunc, .nilFunc, .func (.func 93) #[] #[], .func (.func 94) #[] #[], .func (.func 95) #[] #[], .func (.func 97) #[] #[], .func (.func 99) #[] #[], .func (.func 100) #[] #[], .func (.func 101) #[] #[], .func (.func 102) #[] #[], .func (.func 103) #[] #[], .func (.func 104) #[] #[], .func (.func 105) #[] #[], .func (.func 106) #[] #[], .func (.func 107) #[] #[], .func (.func 109) #[] #[], .func (.func 110) #[] #[], .func (.func 111) #[] #[], .func (.func 112) #[] #[], .func (.func 115) #[] #[], .func (.func 116) #[] #[], .func (.func 117) #[] #[], .func (.func 119) #[] #[], .func (.func 121) #[] #[], .func (.func 123) #[] #[], .func (.func 125) #[] #[], .func (.func 126) #[] #[], .func (.func 128) #[] #[], .func (.func 130) #[] #[], .func (.func 132) #[] #[]]
def branchCells : Array Value := #[.nilFunc, .nilFunc, .nilFunc, .nilFunc, .nilFunc, .func (.func 134) #[] #[], .func (.func 135) #[] #[], .func (.func 136) #[] #[], .func (.func 137) #[] #[], .func (.func 138) #[] #[], .func (.func 139) #[] #[]]
def plainCells : Array Value := (plainL.map (Value.int .i64)).toArray
def nilCells (n : Nat) : Array Value := Array.replicate n .nilFunc
def noughts (n : Nat) : Array Value := Array.replicate n (.int .i64 0)
set_option maxRecDepth 100000 in
theorem reckons_any (w : World) : Calls Tryz.prog 84 #[] w fun e w' => e = .returned (.agg reckonCells) ∧ Below w.heap.size w w' := by
  refine calls_of_wp Tryz.func84 rfl ?_
  have hs : ((Tryz.prog.info? 114).bind (·.zero)) = some (.agg (nilCells 63)) := by as_aux_lemma => kernel_rfl
  have hsz : ((Tryz.prog.info? 114).map (·.size)) = some reckonCells.size := by as_aux_lemma => kernel_rfl
  have hsz2 : (nilCells 63).size = reckonCells.size := by as_aux_lemma => kernel_rfl
  have hone : reckonCells.all (·.oneCell') = true := by as_aux_lemma => kernel_rfl
  obtain ⟨i, hi, hz⟩ := Option.bind_eq_some_iff.1 hs
  refine wp_seq_k fun K hK => ?_
  refine wp_region_alloc 114 rfl rfl (nilCells 63) i hi hz ?_
  refine hK _ _ ?_
  clear hK K
  refine wp_seq_k fun K hK => ?_
  refine wp_region_table 114 w.heap.size reckonCells (.pointer (some ⟨w.heap.size, 0, none⟩)) [] 114 (nilCells 63) (by as_aux_lemma => kernel_rfl) ?_ hsz hsz2 hone ?_
  · exact Array.getElem?_push_size
  · intro b hb hd
    refine hK _ _ ?_
    clear hK K
    have hl := run_loadVar_row (P := Tryz.prog) ((w.alloc (.cells (nilCells 63) 114)).setRow w.heap.size reckonCells) w.heap.size 114 114 reckonCells (0, 0) _ (setRow_heap _ _ (nilCells 63) _ _ _ Array.getElem?_push_size) Tryz.underlying114 rfl hsz
    exact wp_ret (bodyPost_ret (results_cell rfl hb hl) hd ⟨rfl, below_row ((Below.refl _ _).alloc (Nat.le_refl _) _) (Nat.le_refl _) _⟩)
set_option maxRecDepth 100000 in
theorem branches_any (w : World) : Calls Tryz.prog 86 #[] w fun e w' => e = .returned (.agg branchCells) ∧ Below w.heap.size w w' := by
  refine calls_of_wp Tryz.func86 rfl ?_
  have hs : ((Tryz.prog.info? 119).bind (·.zero)) = some (.agg (nilCells 11)) := by as_aux_lemma => kernel_rfl
  have hsz : ((Tryz.prog.info? 119).map (·.size)) = some branchCells.size := by as_aux_lemma => kernel_rfl
  have hsz2 : (nilCells 11).size = branchCells.size := by as_aux_lemma => kernel_rfl
  have hone : branchCells.all (·.oneCell') = true := by as_aux_lemma => kernel_rfl
  obtain ⟨i, hi, hz⟩ := Option.bind_eq_some_iff.1 hs
  refine wp_seq_k fun K hK => ?_
  refine wp_region_alloc 119 rfl rfl (nilCells 11) i hi hz ?_
  refine hK _ _ ?_
  clear hK K
  refine wp_seq_k fun K hK => ?_
  refine wp_region_table 119 w.heap.size branchCells (.pointer (some ⟨w.heap.size, 0, none⟩)) [] 119 (nilCells 11) (by as_aux_lemma => kernel_rfl) ?_ hsz hsz2 hone ?_
  · exact Array.getElem?_push_size
  · intro b hb hd
    refine hK _ _ ?_
    clear hK K
    have hl := run_loadVar_row (P := Tryz.prog) ((w.alloc (.cells (nilCells 11) 119)).setRow w.heap.size branchCells) w.heap.size 119 119 branchCells (0, 0) _ (setRow_heap _ _ (nilCells 11) _ _ _ Array.getElem?_push_size) Tryz.underlying119 rfl hsz
    exact wp_ret (bodyPost_ret (results_cell rfl hb hl) hd ⟨rfl, below_row ((Below.refl _ _).alloc (Nat.le_refl _) _) (Nat.le_refl _) _⟩)
set_option maxRecDepth 100000 in
theorem plains_any (w : World) : Calls Tryz.prog 90 #[] w fun e w' => e = .returned (.agg plainCells) ∧ Below w.heap.size w w' := by
  refine calls_of_wp Tryz.func90 rfl ?_
  have hs : ((Tryz.prog.info? 124).bind (·.zero)) = some (.agg (noughts 35)) := by as_aux_lemma => kernel_rfl
  have hsz : ((Tryz.prog.info? 124).map (·.size)) = some plainCells.size := by as_aux_lemma => kernel_rfl
  have hsz2 : (noughts 35).size = plainCells.size := by as_aux_lemma => kernel_rfl
  have hone : plainCells.all (·.oneCell') = true := by as_aux_lemma => kernel_rfl
  obtain ⟨i, hi, hz⟩ := Option.bind_eq_some_iff.1 hs
  refine wp_seq_k fun K hK => ?_
  refine wp_region_alloc 124 rfl rfl (noughts 35) i hi hz ?_
  refine hK _ _ ?_
  clear hK K
  refine wp_seq_k fun K hK => ?_
  refine wp_region_table 124 w.heap.size plainCells (.pointer (some ⟨w.heap.size, 0, none⟩)) [] 124 (noughts 35) (by as_aux_lemma => kernel_rfl) ?_ hsz hsz2 hone ?_
  · exact Array.getElem?_push_size
  · intro b hb hd
    refine hK _ _ ?_
    clear hK K
    have hl := run_loadVar_row (P := Tryz.prog) ((w.alloc (.cells (noughts 35) 124)).setRow w.heap.size plainCells) w.heap.size 124 124 plainCells (0, 0) _ (setRow_heap _ _ (noughts 35) _ _ _ Array.getElem?_push_size) Tryz.underlying124 rfl hsz
    exact wp_ret (bodyPost_ret (results_cell rfl hb hl) hd ⟨rfl, below_row ((Below.refl _ _).alloc (Nat.le_refl _) _) (Nat.le_refl _) _⟩)
end Go.Proofs.YtlilbfjicgchkaaGreat
