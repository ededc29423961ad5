/-
  Proved here: the tables of package alu (reckons, branches, amos, plains) are returned whole, and what was there is as it was. No condition.
-/
import Derived.Test.YtdiacnjkffdegaaGreatAluLits
import Derived.Laws.Tables
import Derived.Laws.Rows
namespace Go.Proofs.YtdiacnjkffdegaaGreat
open Go.RowKit

section
variable {P : Program}
end
def reckonCells : Array Value := #[.nilFunc, .func (.func 87) #[] #[], .nilFunc, .nilFunc, .nilFunc, .nilFunc, .nilFunc, .nilFunc, .nilFunc, .nilFunc, .nilFunc, .nilFunc, .nilFunc, .nilFunc, .nilFunc, .nilFunc, .nilFunc, .nilFunc, .nilFunc, .nilFunc, .nilFunc, .nilFunc, .nilFunc, .nilFunc, .nilFunc, .nilFunc, .nilFunc, .nilFunc, .nilFunc, .nilFunc, .nilFunc, .nilFunc, .nilFunc, .nilFunc, .nilFunc, .func (.func 89) #[] #[], .func (.func 90) #[] #[], .func (.func 91) #[] #[], .func (.func 93) #[] #[], .func (.func 95) #[] #[], .func (.func 96) #[] #[], .func (.func 97) #[] #[], .func (.func 98) #[] #[], .func (.func 99) #[] #[], .func (.func 100) #[] #[], .func (.func 101) #[] #[], .func (.func 102) #[] #[], .func (.func 103) #[] #[], .func (.func 105) #[] #[], .func (.func 106) #[] #[], .func (.func 107) #[] #[], .func (.func 108) #[] #[], .func (.func 111) #[] #[], .func (.func 112) #[] #[], .func (.func 113) #[] #[], .func (.func 115) #[] #[], .func (.func 117) #[] #[], .func (.func 119) #[] #[], .func (.func 121) #[] #[], .func (.func 122) #[] #[], .func (.func 124) #[] #[], .func (.func 126) #[] #[], .func (.func 128) #[] #[]]
def branchCells : Array Value := #[.nilFunc, .nilFunc, .nilFunc, .nilFunc, .nilFunc, .func (.func 130) #[] #[], .func (.func 131) #[] #[], .func (.func 132) #[] #[], .func (.func 133) #[] #[], .func (.func 134) #[] #[], .func (.func 135) #[] #[]]
def plainCells : Array Value := (plainL.map (Value.int .i64)).toArray
def nilCells (n : Nat) : Array Value := Array.replicate n .nilFunc
def noughts (n : Nat) : Array Value := Array.replicate n (.int .i64 0)
set_option maxRecDepth 100000 in
theorem reckons_any (w : World) : Calls Tryz.prog 80 #[] w fun e w' => e = .returned (.agg reckonCells) ∧ Below w.heap.size w w' := by
  refine calls_of_wp Tryz.func80 rfl ?_
  have hs : ((Tryz.prog.info? 110).bind (·.zero)) = some (.agg (nilCells 63)) := by as_aux_lemma => kernel_rfl
  have hsz : ((Tryz.prog.info? 110).map (·.size)) = some reckonCells.size := by as_aux_lemma => kernel_rfl
  have hsz2 : (nilCells 63).size = reckonCells.size := by as_aux_lemma => kernel_rfl
  have hone : reckonCells.all (·.oneCell') = true := by as_aux_lemma => kernel_rfl
  obtain ⟨i, hi, hz⟩ := Option.bind_eq_some_iff.1 hs
  refine wp_seq_k fun K hK => ?_
  refine wp_region_alloc 110 rfl rfl (nilCells 63) i hi hz ?_
  refine hK _ _ ?_
  clear hK K
  refine wp_seq_k fun K hK => ?_
  refine wp_region_table 110 w.heap.size reckonCells (.pointer (some ⟨w.heap.size, 0, none⟩)) [] 110 (nilCells 63) (by as_aux_lemma => kernel_rfl) ?_ hsz hsz2 hone ?_
  · exact Array.getElem?_push_size
  · intro b hb hd
    refine hK _ _ ?_
    clear hK K
    have hl := run_loadVar_row (P := Tryz.prog) ((w.alloc (.cells (nilCells 63) 110)).setRow w.heap.size reckonCells) w.heap.size 110 110 reckonCells (0, 0) _ (setRow_heap _ _ (nilCells 63) _ _ _ Array.getElem?_push_size) Tryz.underlying110 rfl hsz
    exact wp_ret (bodyPost_ret (results_cell rfl hb hl) hd ⟨rfl, below_row ((Below.refl _ _).alloc (Nat.le_refl _) _) (Nat.le_refl _) _⟩)
set_option maxRecDepth 100000 in
theorem branches_any (w : World) : Calls Tryz.prog 82 #[] w fun e w' => e = .returned (.agg branchCells) ∧ Below w.heap.size w w' := by
  refine calls_of_wp Tryz.func82 rfl ?_
  have hs : ((Tryz.prog.info? 115).bind (·.zero)) = some (.agg (nilCells 11)) := by as_aux_lemma => kernel_rfl
  have hsz : ((Tryz.prog.info? 115).map (·.size)) = some branchCells.size := by as_aux_lemma => kernel_rfl
  have hsz2 : (nilCells 11).size = branchCells.size := by as_aux_lemma => kernel_rfl
  have hone : branchCells.all (·.oneCell') = true := by as_aux_lemma => kernel_rfl
  obtain ⟨i, hi, hz⟩ := Option.bind_eq_some_iff.1 hs
  refine wp_seq_k fun K hK => ?_
  refine wp_region_alloc 115 rfl rfl (nilCells 11) i hi hz ?_
  refine hK _ _ ?_
  clear hK K
  refine wp_seq_k fun K hK => ?_
  refine wp_region_table 115 w.heap.size branchCells (.pointer (some ⟨w.heap.size, 0, none⟩)) [] 115 (nilCells 11) (by as_aux_lemma => kernel_rfl) ?_ hsz hsz2 hone ?_
  · exact Array.getElem?_push_size
  · intro b hb hd
    refine hK _ _ ?_
    clear hK K
    have hl := run_loadVar_row (P := Tryz.prog) ((w.alloc (.cells (nilCells 11) 115)).setRow w.heap.size branchCells) w.heap.size 115 115 branchCells (0, 0) _ (setRow_heap _ _ (nilCells 11) _ _ _ Array.getElem?_push_size) Tryz.underlying115 rfl hsz
    exact wp_ret (bodyPost_ret (results_cell rfl hb hl) hd ⟨rfl, below_row ((Below.refl _ _).alloc (Nat.le_refl _) _) (Nat.le_refl _) _⟩)
set_option maxRecDepth 100000 in
theorem plains_any (w : World) : Calls Tryz.prog 86 #[] w fun e w' => e = .returned (.agg plainCells) ∧ Below w.heap.size w w' := by
  refine calls_of_wp Tryz.func86 rfl ?_
  have hs : ((Tryz.prog.info? 121).bind (·.zero)) = some (.agg (noughts 35)) := by as_aux_lemma => kernel_rfl
  have hsz : ((Tryz.prog.info? 121).map (·.size)) = some plainCells.size := by as_aux_lemma => kernel_rfl
  have hsz2 : (noughts 35).size = plainCells.size := by as_aux_lemma => kernel_rfl
  have hone : plainCells.all (·.oneCell') = true := by as_aux_lemma => kernel_rfl
  obtain ⟨i, hi, hz⟩ := Option.bind_eq_some_iff.1 hs
  refine wp_seq_k fun K hK => ?_
  refine wp_region_alloc 121 rfl rfl (noughts 35) i hi hz ?_
  refine hK _ _ ?_
  clear hK K
  refine wp_seq_k fun K hK => ?_
  refine wp_region_table 121 w.heap.size plainCells (.pointer (some ⟨w.heap.size, 0, none⟩)) [] 121 (noughts 35) (by as_aux_lemma => kernel_rfl) ?_ hsz hsz2 hone ?_
  · exact Array.getElem?_push_size
  · intro b hb hd
    refine hK _ _ ?_
    clear hK K
    have hl := run_loadVar_row (P := Tryz.prog) ((w.alloc (.cells (noughts 35) 121)).setRow w.heap.size plainCells) w.heap.size 121 121 plainCells (0, 0) _ (setRow_heap _ _ (noughts 35) _ _ _ Array.getElem?_push_size) Tryz.underlying121 rfl hsz
    exact wp_ret (bodyPost_ret (results_cell rfl hb hl) hd ⟨rfl, below_row ((Below.refl _ _).alloc (Nat.le_refl _) _) (Nat.le_refl _) _⟩)
end Go.Proofs.YtdiacnjkffdegaaGreat
