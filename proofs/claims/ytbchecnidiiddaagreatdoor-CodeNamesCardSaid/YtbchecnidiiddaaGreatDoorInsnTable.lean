/-
  Proved here: the package insn's function table returns the chapter's rows in one new block, and look answers an op's row, an empty one of none. No condition.
-/
import Derived.Test.YtbchecnidiiddaaGreatDoorProg
import Derived.Test.YtbchecnidiiddaaGreatDoorInsnPlain
import Derived.WalkLawsBesides
import Derived.WalkSpells
import Derived.Lib.Hide
import Derived.Laws.Tables
import Derived.Laws.Rows
namespace Go.Proofs.YtbchecnidiiddaaGreatDoor
open Go.RowKit

def rowCells (r : List UInt8 × Nat × Nat) : List Value := [.string ⟨r.1.toArray⟩, .int .i64 r.2.1, .int .i64 r.2.2]
def tabCells : Array Value := (tabL.flatMap rowCells).toArray

section
variable {P : Program}
def builtOp (P : Program) (o : Oper) (a : Act) : Option Act :=
  match o.guard, o.op with
  | none, .build t parts => (P.built t (parts.map fun (i, x) => (i, a.eval x)).toList).map fun cells => a.put o.dst (.agg cells)
  | _, _ => none
def builds (P : Program) : List Oper → Act → Act × List Oper
  | [], a => (a, [])
  | o :: l, a => match builtOp P o a with
    | some b => builds P l b
    | none => (a, o :: l)
theorem wpList_builds {ops : Array Oper} {Q : Exit → Act → World → Prop} {w : World} : ∀ (l : List Oper) (a : Act), wpList P ops Q (builds P l a).2 (builds P l a).1 w → wpList P ops Q l a w
  | [], _, h => h
  | o :: l, a, h => by
    unfold builds at h
    cases hb : builtOp P o a with
    | none => rw [hb] at h; exact h
    | some b =>
      rw [hb] at h
      have ih := wpList_builds l b h
      unfold builtOp at hb
      split at hb
      · rename_i t parts hg ho
        cases hc : P.built t (parts.map fun (i, x) => (i, a.eval x)).toList with
        | none => rw [hc] at hb; cases hb
        | some cells =>
          rw [hc] at hb
          simp only [Option.map_some, Option.some.injEq] at hb
          subst hb
          refine wpList_build hg t parts ho (by rw [hc]; rfl) ?_
          rw [hc]
          exact ih
      · cases hb
/-- what a region of builds and one store at its end comes to -/
def tableRun (P : Program) (l : List Oper) (a : Act) : Option (TypeId × Value × Value × Value × List Deferred) :=
  match builds P l a with
  | (b, [o]) => match o.guard, o.op with
    | none, .store ty x y => some (ty, b.eval x, b.eval y, (b.put o.dst undef).eval (.tmp 0), (b.put o.dst undef).defers)
    | _, _ => none
  | _ => none
theorem wp_region_table {id : Nat} {ops : Array Oper} {a : Act} {w : World} {Q : Exit → Act → World → Prop} (ty : TypeId) (g : Nat) (cells : Array Value) (v0 : Value) (df : List Deferred) (t : TypeId) (old : Array Value)
    (h : tableRun P ops.toList a = some (ty, .pointer (some ⟨g, 0, none⟩), .agg cells, v0, df))
    (hg : w.heap[g]? = some (.cells old t (0, 0))) (hi : (P.info? ty).map (·.size) = some cells.size) (hold : old.size = cells.size) (h1 : cells.all (·.oneCell') = true)
    (hq : ∀ b : Act, b.eval (.tmp 0) = v0 → b.defers = df → Q .normal b (w.setRow g cells)) : (Code.region id ops false).wp P Q a w := by
  refine wp_region_list (wpList_builds _ _ ?_)
  unfold tableRun at h
  split at h
  · rename_i b o hb
    rw [hb]
    split at h
    · rename_i ty' x y hgd ho
      simp only [Option.some.injEq, Prod.mk.injEq] at h
      obtain ⟨rfl, hx, hy, h0, hd⟩ := h
      exact wpList_store_row hgd ty' x y ho g cells hx hy t old hg hi hold h1 (hq _ h0 hd)
    · cases h
  · cases h
theorem results_cell {fn : Func} {b : Act} {t : Tmp} {ty : TypeId} {ad : Addr} {v : Value} {w : World} (h : fn.results = #[.cell t ty]) (hb : b.eval (.tmp t) = .pointer (some ad)) (hl : (loadVar ty ad).run P w = .ok v w) :
    (results fn b.tmps).run P w = .ok v w := by
  have hb' : b.tmps[t]?.getD undef = .pointer (some ad) := by rw [← hb]; simp [Act.eval]
  simp [results, h, hb', asAddr, hl]
theorem below_row {B g : Nat} {w0 w : World} (hb : Below B w0 w) (hg : B ≤ g) (cs : Array Value) : Below B w0 (w.setRow g cs) :=
  hb.trans ⟨rfl, rfl, rfl, by simp, fun k hk => setRow_other _ _ _ _ (by omega)⟩
/-- a new block of noughts -/
theorem wp_region_alloc {id : Nat} {o : Oper} {a : Act} {w : World} {Q : Exit → Act → World → Prop} (t : TypeId) (hgd : o.guard = none) (ho : o.op = .alloc t) (cs : Array Value) (i : TypeInfo)
    (hi : P.info? t = some i) (hz : i.zero = some (.agg cs)) (h : Q .normal (a.put o.dst (.pointer (some ⟨w.heap.size, 0, none⟩))) (w.alloc (.cells cs t))) : (Code.region id #[o] false).wp P Q a w := by
  refine wp_region_list (wpList_plain hgd fun K hK => ?_)
  have hr : (Instr.alloc t true (.tuple #[])).run P w = .ok (.pointer (some ⟨w.heap.size, 0, none⟩)) (w.alloc (.cells cs t)) := by
    simp [Instr.alloc, zeroValue, typeInfo, hi, hz, newVar, newRow, Value.cells, go_sem]
  unfold Oper.wp execOp
  simp only [ho, Sem.run_bind, hr, Result.andThen_ok]
  exact hK _ _ (wpList_nil h)
end
def noughtRows : Array Value := ((List.replicate 88 [Value.string ⟨#[]⟩, .int .i64 0, .int .i64 0]).flatten).toArray
set_option maxRecDepth 100000 in
theorem table_any (w : World) : Calls Tryz.prog 68 #[] w fun e w' => e = .returned (.agg tabCells) ∧ Below w.heap.size w w' := by
  refine calls_of_wp Tryz.func68 rfl ?_
  have hs : ((Tryz.prog.info? 110).bind (·.zero)) = some (.agg noughtRows) := by as_aux_lemma => kernel_rfl
  have hsz : ((Tryz.prog.info? 110).map (·.size)) = some tabCells.size := by as_aux_lemma => kernel_rfl
  have hsz2 : noughtRows.size = tabCells.size := by as_aux_lemma => kernel_rfl
  have hone : tabCells.all (·.oneCell') = true := by as_aux_lemma => kernel_rfl
  obtain ⟨i, hi, hz⟩ := Option.bind_eq_some_iff.1 hs
  refine wp_seq_k fun K hK => ?_
  refine wp_region_alloc 110 rfl rfl noughtRows i hi hz ?_
  refine hK _ _ ?_
  clear hK K
  refine wp_seq_k fun K hK => ?_
  refine wp_region_table 110 w.heap.size tabCells (.pointer (some ⟨w.heap.size, 0, none⟩)) [] 110 noughtRows (by as_aux_lemma => kernel_rfl) ?_ hsz hsz2 hone ?_
  · exact Array.getElem?_push_size
  · intro b hb hd
    refine hK _ _ ?_
    clear hK K
    have hl := run_loadVar_row (P := Tryz.prog) ((w.alloc (.cells noughtRows 110)).setRow w.heap.size tabCells) w.heap.size 110 110 tabCells (0, 0) _ (setRow_heap _ _ noughtRows _ _ _ Array.getElem?_push_size) Tryz.underlying110 rfl hsz
    exact wp_ret (bodyPost_ret (results_cell rfl hb hl) hd ⟨rfl, below_row ((Below.refl _ _).alloc (Nat.le_refl _) _) (Nat.le_refl _) _⟩)
end Go.Proofs.YtbchecnidiiddaaGreatDoor
