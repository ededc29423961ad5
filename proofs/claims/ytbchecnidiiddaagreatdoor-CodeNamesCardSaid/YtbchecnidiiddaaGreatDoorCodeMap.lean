/-
  Proved here: allParts makes one new map that has each op's parts at the op. No condition.
-/
import Derived.Test.YtbchecnidiiddaaGreatDoorCodeParts
import Derived.Maps.OwnSet
import Derived.Maps.OwnOps
import Derived.Maps.RangeWalk
namespace Go.Proofs.YtbchecnidiiddaaGreatDoor
set_option linter.unusedVariables false
open Go.RowKit
open Go.Maps (Keyed)

abbrev DU := DataW Unit
def partD (a b c : Int) : DU := .agg [.lit (.int .u32 a), .lit (.int .u32 b), .lit (.int .u32 c)]
def partElem (v : Value) : Option (DU × List MemPlace) :=
  match v with
  | .agg cs => match cs.toList with
    | [.int .u32 a, .int .u32 b, .int .u32 c] => some (partD a b c, [])
    | _ => none
  | _ => none
theorem partElem_mk (a b c : Int) : partElem (.agg #[.int .u32 a, .int .u32 b, .int .u32 c]) = some (partD a b c, []) := rfl
theorem partElem_inv {v : Value} {y : DU × List MemPlace} (h : partElem v = some y) : ∃ a b c : Int, v = .agg #[.int .u32 a, .int .u32 b, .int .u32 c] ∧ y = (partD a b c, []) := by
  unfold partElem at h
  split at h
  · rename_i cs
    split at h
    · rename_i a b c hcs
      cases h
      refine ⟨a, b, c, ?_, rfl⟩
      have : cs = #[.int .u32 a, .int .u32 b, .int .u32 c] := by rw [← Array.toArray_toList (xs := cs), hcs]
      rw [this]
    · cases h
  · cases h
theorem mapLaw : Keyed Tryz.prog 3 := Maps.int_keyed Tryz.underlying3

section
variable {P : Program}
/-- 'insert' AT THE OPERATION -/
theorem wpList_insert_own (w : World) {ops : Array Oper} {rest : List Oper} {o : Oper} {a : Act} {Q : Exit → Act → World → Prop}
    (hg : o.guard = none) (m x v : Operand) (t : TypeId) (hop : o.op = Op.insert t m x v)
    (k e : TypeId) (K : Keyed P k) (ht : P.underlying t = some (.map k e)) (R : Value → Option (DU × List MemPlace)) (b n : Nat) (D : DU)
    (hm : a.eval m = .map (some b)) (hown : w.ownsMap P k R b n D) (hn : n < maxLen) (key val : Value) (kl : Lit) (hx : a.eval x = key) (hv : a.eval v = val) (hkey : keyOf P k key = some kl)
    (d : DU) (ps : List MemPlace) (hval : R val = some (d, ps))
    (hK : ∀ w', w'.ownsMap P k R b (n + 1) (D.put kl d) → w.grownBy w' (some b) → wpList P ops Q rest (a.put o.dst undef) w') :
    wpList P ops Q (o :: rest) a w := by
  refine wpList_plain hg fun K' hK' => ?_
  obtain ⟨w', hrun, r1, r2⟩ := hown.update K ht hn hkey hval
  unfold Oper.wp
  simp [execOp, hop, hm, hx, hv, hrun, Result.andThen]
  exact hK' _ _ (hK w' r1 r2)
theorem wpList_assign {ops : Array Oper} {rest : List Oper} {o : Oper} {a : Act} {w : World} {Q : Exit → Act → World → Prop} (hg : o.guard = none) (x : Operand) (hop : o.op = Op.assign x)
    (h : wpList P ops Q rest (a.put o.dst (a.eval x)) w) : wpList P ops Q (o :: rest) a w := by
  refine wpList_plain hg fun K' hK' => ?_
  unfold Oper.wp
  simp [execOp, hop]
  exact hK' _ _ h
theorem wpList_makeMap {ops : Array Oper} {rest : List Oper} {o : Oper} {a : Act} {w : World} {Q : Exit → Act → World → Prop} (hg : o.guard = none) (t : TypeId) (hop : o.op = Op.makeMap t none)
    (h : wpList P ops Q rest (a.put o.dst (.map (some w.heap.size))) (w.alloc (.map #[] 0))) : wpList P ops Q (o :: rest) a w := by
  refine wpList_plain hg fun K' hK' => ?_
  have hr := @run_makeMap P t w
  unfold Oper.wp
  simp [execOp, hop, hr, Result.andThen]
  exact hK' _ _ h
/-- one insert of constants: type, block, key, parts -/
abbrev Ent := Nat × Nat × Int × Int × Int × Int
def insOp (o : Oper) (a : Act) : Option (Ent × Act) :=
  match o.guard, o.op with
  | none, .insert t m k v => match a.eval m, a.eval k, a.eval v with
    | .map (some g), .int .i64 x, .agg cs => match cs.toList with
      | [.int .u32 p, .int .u32 q, .int .u32 r] => some ((t, g, x, p, q, r), a.put o.dst undef)
      | _ => none
    | _, _, _ => none
  | _, _ => none
def moveOp (o : Oper) (a : Act) : Option Act :=
  match o.guard, o.op with
  | none, .move x => some (a.put o.dst (a.eval x))
  | none, .assign x => some (a.put o.dst (a.eval x))
  | _, _ => none
theorem moveOp_plain {o : Oper} {a b : Act} (h : moveOp o a = some b) {ops : Array Oper} {rest : List Oper} {w : World} {Q : Exit → Act → World → Prop} (hk : wpList P ops Q rest b w) : wpList P ops Q (o :: rest) a w := by
  unfold moveOp at h
  split at h
  · rename_i x hg hop
    cases h
    refine wpList_plain hg fun K' hK' => ?_
    unfold Oper.wp
    simp [execOp, hop]
    exact hK' _ _ hk
  · rename_i x hg hop
    cases h
    exact wpList_assign hg x hop hk
  · cases h
def simpleOp (P : Program) (o : Oper) (a : Act) : Option Act :=
  match builtOp P o a with
  | some b => some b
  | none => moveOp o a
def insRun (P : Program) : List Oper → Act → List Ent × Act × List Oper
  | [], a => ([], a, [])
  | o :: l, a => match simpleOp P o a with
    | some b => insRun P l b
    | none => match insOp o a with
      | some (e, b) => (e :: (insRun P l b).1, (insRun P l b).2)
      | none => ([], a, o :: l)
def putEnt (D : DU) (e : Ent) : DU := D.put (.int .i64 e.2.2.1) (partD e.2.2.2.1 e.2.2.2.2.1 e.2.2.2.2.2)
def entB (T m : Nat) (e : Ent) : Prop := e.1 = T ∧ e.2.1 = m ∧ (Lit.int .i64 e.2.2.1).wf = true
theorem builtOp_plain {o : Oper} {a b : Act} (h : builtOp P o a = some b) {ops : Array Oper} {rest : List Oper} {w : World} {Q : Exit → Act → World → Prop} (hk : wpList P ops Q rest b w) : wpList P ops Q (o :: rest) a w := by
  unfold builtOp at h
  split at h
  · rename_i t parts hg ho
    cases hc : P.built t (parts.map fun (i, x) => (i, a.eval x)).toList with
    | none => rw [hc] at h; cases h
    | some cells =>
      rw [hc] at h
      simp only [Option.map_some, Option.some.injEq] at h
      subst h
      refine wpList_build hg t parts ho (by rw [hc]; rfl) ?_
      rw [hc]
      exact hk
  · cases h
theorem simpleOp_plain {o : Oper} {a b : Act} (h : simpleOp P o a = some b) {ops : Array Oper} {rest : List Oper} {w : World} {Q : Exit → Act → World → Prop} (hk : wpList P ops Q rest b w) : wpList P ops Q (o :: rest) a w := by
  unfold simpleOp at h
  split at h
  · rename_i b' hb
    cases h
    exact builtOp_plain hb hk
  · exact moveOp_plain h hk
theorem wpList_ins {ops : Array Oper} {Q : Exit → Act → World → Prop} (T k e m : Nat) (K : Keyed P k) (ht : P.underlying T = some (.map k e)) (hk : P.underlying k = some (.int .i64)) :
    ∀ (l : List Oper) (a : Act) (w : World) (n : Nat) (D : DU), (∀ x ∈ (insRun P l a).1, entB T m x) → n + (insRun P l a).1.length < maxLen → w.ownsMap P k partElem m n D →
    (∀ w', w'.ownsMap P k partElem m (n + (insRun P l a).1.length) ((insRun P l a).1.foldl putEnt D) → w.grownBy w' (some m) → wpList P ops Q (insRun P l a).2.2 (insRun P l a).2.1 w') → wpList P ops Q l a w
  | [], a, w, n, D, _, _, ho, hK => hK w ho (World.grownBy.refl _ _)
  | o :: l, a, w, n, D, he, hn, ho, hK => by
    unfold insRun at he hn hK
    cases hb : simpleOp P o a with
    | some b =>
      rw [hb] at he hn hK
      exact simpleOp_plain hb (wpList_ins T k e m K ht hk l b w n D he hn ho hK)
    | none =>
      rw [hb] at he hn hK
      cases hi : insOp o a with
      | none => rw [hi] at he hn hK; exact hK w ho (World.grownBy.refl _ _)
      | some eb =>
        obtain ⟨x, b⟩ := eb
        rw [hi] at he hn hK
        simp only [List.length_cons, List.foldl_cons] at he hn hK
        obtain ⟨h1, h2, h3⟩ := he x (by simp)
        unfold insOp at hi
        split at hi
        · rename_i t mm kk vv hg hop
          split at hi
          · rename_i g xx cs hm hkk hvv
            split at hi
            · rename_i p q r hcs
              simp only [Option.some.injEq, Prod.mk.injEq] at hi
              obtain ⟨rfl, rfl⟩ := hi
              simp only at h1 h2 h3
              subst h1 h2
              have hv2 : a.eval vv = .agg #[.int .u32 p, .int .u32 q, .int .u32 r] := by rw [hvv, ← Array.toArray_toList (xs := cs), hcs]
              refine wpList_insert_own w hg mm kk vv _ hop k e K ht partElem _ n D hm ho (by omega) _ _ (.int .i64 xx) hkk hv2 (Maps.keyOf_int_mk hk h3) (partD p q r) [] (partElem_mk p q r) fun w' ho' hg' => ?_
              refine wpList_ins _ k e _ K ht hk l _ w' (n + 1) _ (fun y hy => he y (by simp [hy])) (by omega) ho' fun w2 ho2 hg2 => ?_
              refine hK w2 ?_ (hg'.andThen hg2 fun j hj => .inr hj)
              have e1 : n + 1 + (insRun P l (a.put o.dst undef)).1.length = n + ((insRun P l (a.put o.dst undef)).1.length + 1) := by omega
              rw [e1] at ho2
              exact ho2
            · cases hi
          · cases hi
        · cases hi
/-- what a region of inserts comes to -/
def mapRun (P : Program) (l : List Oper) (a : Act) : Option (List Ent × Value × List Deferred) :=
  match insRun P l a with
  | (es, b, []) => some (es, b.eval (.tmp 0), b.defers)
  | _ => none
theorem wp_region_map {id : Nat} {o : Oper} {l : List Oper} {a : Act} {w : World} {Q : Exit → Act → World → Prop} (T k e : Nat) (K : Keyed P k) (ht : P.underlying T = some (.map k e)) (hk : P.underlying k = some (.int .i64))
    (hg : o.guard = none) (hop : o.op = .makeMap T none) (es : List Ent) (v : Value) (df : List Deferred)
    (h : mapRun P l (a.put o.dst (.map (some w.heap.size))) = some (es, v, df)) (hes : ∀ x ∈ es, entB T w.heap.size x) (hlen : es.length < maxLen)
    (hq : ∀ (b : Act) (w' : World), b.eval (.tmp 0) = v → b.defers = df → w'.ownsMap P k partElem w.heap.size es.length (es.foldl putEnt (.map [])) → Below w.heap.size w w' → Q .normal b w') : (Code.region id (o :: l).toArray false).wp P Q a w := by
  refine wp_region_list (wpList_makeMap hg T hop ?_)
  unfold mapRun at h
  have hm := World.ownsMap_made w P k partElem
  generalize a.put o.dst (.map (some w.heap.size)) = a1 at h ⊢
  split at h
  · rename_i es' b hb
    simp only [Option.some.injEq, Prod.mk.injEq] at h
    obtain ⟨rfl, h1, h2⟩ := h
    refine wpList_ins (ops := (o :: l).toArray) (Q := Q) T k e w.heap.size K ht hk l a1 (w.alloc (.map #[] 0)) 0 (.map []) (by rw [hb]; exact hes) (by rw [hb]; show 0 + es'.length < maxLen; omega) hm fun w' ho hg' => ?_
    rw [hb] at ho ⊢
    refine wpList_nil (hq _ w' h1 h2 ?_ ?_)
    · rw [Nat.zero_add] at ho; exact ho
    · have hb0 : Below w.heap.size w (w.alloc (.map #[] 0)) := one_box w _
      exact hb0.trans ⟨hg'.os, hg'.tape, hg'.output, hg'.size, fun j hj => hg'.block j (by simp; omega) (by simp; omega)⟩
  · cases h
end
def orderL : List Nat := (List.range 69).map (· + 1) ++ (List.range 9).flatMap fun k => [70 + k, 79 + k]
theorem order_len : orderL.length = 87 := by decide +kernel
def entOf (T m op : Nat) : Ent := (T, m, (op : Int), (codeOf op).1, (codeOf op).2.1, (codeOf op).2.2)
def allL : List (Lit × DU) := (List.range 87).map fun k => (.int .i64 ((k + 1 : Nat) : Int), partD (codeOf (k + 1)).1 (codeOf (k + 1)).2.1 (codeOf (k + 1)).2.2)
theorem all_is (T m : Nat) : (orderL.map (entOf T m)).foldl putEnt (.map []) = .map allL := by kernel_rfl
set_option maxRecDepth 100000 in
theorem allParts_any (w : World) : Calls Tryz.prog 48 #[] w fun e w' => e = .returned (.map (some w.heap.size)) ∧ w'.ownsMap Tryz.prog 3 partElem w.heap.size 87 (.map allL) ∧ Below w.heap.size w w' := by
  refine calls_of_wp Tryz.func48 rfl ?_
  refine wp_seq_k fun K hK => ?_
  refine wp_region_list (wpList_assign rfl _ rfl (wpList_nil (hK _ _ ?_)))
  clear hK K
  refine wp_seq_k fun K hK => ?_
  refine wp_region_map 47 3 70 mapLaw Tryz.underlying47 Tryz.underlying3 rfl rfl (orderL.map (entOf 47 w.heap.size)) (.map (some w.heap.size)) [] (by as_aux_lemma => kernel_rfl) ?_ (by rw [List.length_map, order_len]; decide) ?_
  · intro x hx
    obtain ⟨op, hop, rfl⟩ := List.mem_map.1 hx
    refine ⟨rfl, rfl, ?_⟩
    have : ∀ op ∈ orderL, (Lit.int .i64 ((op : Nat) : Int)).wf = true := by decide +kernel
    exact this op hop
  · intro b w' hb hd ho hbl
    rw [all_is, List.length_map, order_len] at ho
    refine hK _ _ ?_
    refine wp_ret (bodyPost_ret (results_tmp rfl _ _ _) hd ⟨?_, ho, hbl⟩)
    have e : b.tmps.getD 0 undef = b.eval (.tmp 0) := by simp [Act.eval]
    rw [e, hb]
end Go.Proofs.YtbchecnidiiddaaGreatDoor
