/-
  Proved here: what event's look, has, within, bit, numbers and hold answer; nothing that was there is changed. No condition.
  (With it: Words: a store into a block. No condition.)
-/
import Derived.Test.YtcebcmmbokajcaaEvWords
import Derived.LoopTactic
import Derived.IntWalk
import Derived.Deep.DeepCutAuto
import Derived.Outline
import Derived.Lib.ItoaWalk
import Derived.Laws.Bits64b
import Derived.Laws.BitsAllLaws
namespace Go.Proofs.Ytcebcmmbokajcaa
set_option linter.unusedVariables false
set_option linter.unusedSimpArgs false
open Go.RowKit

theorem set_at (w : World) (n k : Nat) (v : Value) (cs : Array Value) (T : TypeId) (fr : Nat × Nat) (h : w.heap[n]? = some (.cells cs T fr)) : (w.setCell ⟨n, k, none⟩ v).heap[n]? = some (.cells (cs.setIfInBounds k v) T fr) := by
  have hl : n < w.heap.size := (Array.getElem?_eq_some_iff.1 h).1
  unfold World.setCell
  simp only [Array.getElem?_modify, if_true, h, Option.map_some]
  simp
theorem same_below {f : Nat} {args : Array Value} {w : World} {v : Value} (h : Calls Try.prog f args w fun e w' => e = .returned v ∧ w = w') : Calls Try.prog f args w fun e w' => e = .returned v ∧ Below w.heap.size w w' :=
  h.mono fun _ _ ⟨h1, h2⟩ => ⟨h1, h2 ▸ Below.refl _ _⟩
end Go.Proofs.Ytcebcmmbokajcaa
namespace Go.Proofs.Ytcebcmmbokajcaa
set_option linter.unusedVariables false
set_option linter.unusedSimpArgs false
open Go.RowKit

/-- an event -/
structure Ev where
  hart : Int
  pos : Int
  kind : Int
  addr : Int
  load : Int
  store : Int
  aq : Bool
  rl : Bool
  pred : Int
  succ : Int
  pair : Int
  a : Value
  d : Value
  y : Value
@[reducible] def Ev.V (e : Ev) : Value := .agg #[.int .i64 e.hart, .int .i64 e.pos, .int .i64 e.kind, .int .u64 e.addr, .int .u64 e.load, .int .u64 e.store, .bool e.aq, .bool e.rl, .int .i64 e.pred, .int .i64 e.succ, .int .i64 e.pair, e.a, e.d, e.y]
/-- an event lies there -/
def EvAt (e : Ev) (n : Nat) (w : World) : Prop := w.heap[n]? = some (.cells #[.int .i64 e.hart, .int .i64 e.pos, .int .i64 e.kind, .int .u64 e.addr, .int .u64 e.load, .int .u64 e.store, .bool e.aq, .bool e.rl, .int .i64 e.pred, .int .i64 e.succ, .int .i64 e.pair, e.a, e.d, e.y] 50 (0, 0))
theorem EvAt.lt {e : Ev} {n : Nat} {w : World} (h : EvAt e n w) : n < w.heap.size := (Array.getElem?_eq_some_iff.1 h).1
theorem EvAt.facts {e : Ev} {n : Nat} {w : World} (h : EvAt e n w) : n < w.heap.size ∧ w.cell? ⟨n, 0, none⟩ = some (.int .i64 e.hart) ∧ w.cell? ⟨n, 1, none⟩ = some (.int .i64 e.pos) ∧ w.cell? ⟨n, 2, none⟩ = some (.int .i64 e.kind) ∧ w.cell? ⟨n, 3, none⟩ = some (.int .u64 e.addr) ∧ w.cell? ⟨n, 4, none⟩ = some (.int .u64 e.load) ∧ w.cell? ⟨n, 5, none⟩ = some (.int .u64 e.store) ∧ w.cell? ⟨n, 6, none⟩ = some (.bool e.aq) ∧ w.cell? ⟨n, 7, none⟩ = some (.bool e.rl) ∧ w.cell? ⟨n, 8, none⟩ = some (.int .i64 e.pred) ∧ w.cell? ⟨n, 9, none⟩ = some (.int .i64 e.succ) ∧ w.cell? ⟨n, 10, none⟩ = some (.int .i64 e.pair) ∧ w.cell? ⟨n, 11, none⟩ = some (e.a) ∧ w.cell? ⟨n, 12, none⟩ = some (e.d) ∧ w.cell? ⟨n, 13, none⟩ = some (e.y) :=
  ⟨h.lt, by rw [cell_of_row w n _ _ _ _ h]; rfl, by rw [cell_of_row w n _ _ _ _ h]; rfl, by rw [cell_of_row w n _ _ _ _ h]; rfl, by rw [cell_of_row w n _ _ _ _ h]; rfl, by rw [cell_of_row w n _ _ _ _ h]; rfl, by rw [cell_of_row w n _ _ _ _ h]; rfl, by rw [cell_of_row w n _ _ _ _ h]; rfl, by rw [cell_of_row w n _ _ _ _ h]; rfl, by rw [cell_of_row w n _ _ _ _ h]; rfl, by rw [cell_of_row w n _ _ _ _ h]; rfl, by rw [cell_of_row w n _ _ _ _ h]; rfl, by rw [cell_of_row w n _ _ _ _ h]; rfl, by rw [cell_of_row w n _ _ _ _ h]; rfl, by rw [cell_of_row w n _ _ _ _ h]; rfl⟩
theorem EvAt.free {e : Ev} {n : Nat} {w : World} (h : EvAt e n w) (k : Nat) : w.frozen? ⟨n, k, none⟩ = false := frozen_of_row w n k _ _ h
theorem EvAt.new (e : Ev) (w : World) : EvAt e w.heap.size (w.alloc (.cells #[.int .i64 e.hart, .int .i64 e.pos, .int .i64 e.kind, .int .u64 e.addr, .int .u64 e.load, .int .u64 e.store, .bool e.aq, .bool e.rl, .int .i64 e.pred, .int .i64 e.succ, .int .i64 e.pair, e.a, e.d, e.y] 50)) := Array.getElem?_push_size
theorem EvAt.below {e : Ev} {n B : Nat} {w w' : World} (h : EvAt e n w) (hb : Below B w w') (hn : n < B) : EvAt e n w' := (hb.block n hn).trans h
theorem EvAt.on {e : Ev} {n : Nat} {w w' : World} (h : EvAt e n w) (hb : Below w.heap.size w w') : EvAt e n w' := h.below hb h.lt
theorem EvAt.alloc {e : Ev} {n : Nat} {w : World} (h : EvAt e n w) (o : Obj) : EvAt e n (w.alloc o) := (Below.heap_alloc w o n h.lt).trans h
/-- loads and stores of a whole event: folded, so that the walk takes them by what is said of them -/
def LoadE (x : Value) : Sem Value := Instr.loadAt 50 x
theorem fold_E (x : Value) : Instr.loadAt 50 x = LoadE x := rfl
def StoreE (x y : Value) : Sem Unit := Instr.storeAt 50 x y
theorem fold_SE (x y : Value) : Instr.storeAt 50 x y = StoreE x y := rfl
theorem run_LoadE {e : Ev} {n : Nat} {w : World} (H : EvAt e n w) : (LoadE (.pointer (some ⟨n, 0, none⟩))).run Try.prog w = .ok e.V w := by
  unfold LoadE Instr.loadAt Instr.sureAddr
  simp only [Sem.run_bind, Sem.run_pure, Result.andThen_ok, run_loadVar_row w n _ 50 _ (0, 0) _ H Try.underlying50 rfl (by as_aux_lemma => kernel_rfl)]
theorem one_int (k : IntKind) (z : Int) : (Value.int k z).oneCell' = true := rfl
theorem one_bool (b : Bool) : (Value.bool b).oneCell' = true := rfl
def Ev.flat (e : Ev) : Prop := e.a.oneCell' = true ∧ e.d.oneCell' = true ∧ e.y.oneCell' = true
theorem run_StoreE {e0 e : Ev} {n : Nat} {w : World} (H : EvAt e0 n w) (hf : e.flat) : (StoreE (.pointer (some ⟨n, 0, none⟩)) e.V).run Try.prog w = .ok () (w.setRow n #[.int .i64 e.hart, .int .i64 e.pos, .int .i64 e.kind, .int .u64 e.addr, .int .u64 e.load, .int .u64 e.store, .bool e.aq, .bool e.rl, .int .i64 e.pred, .int .i64 e.succ, .int .i64 e.pair, e.a, e.d, e.y]) := by
  unfold StoreE Instr.storeAt Instr.sureAddr
  simp only [Sem.run_bind, Sem.run_pure, Result.andThen_ok]
  exact run_storeVar_row w n _ _ _ _ H (by as_aux_lemma => kernel_rfl) rfl (by simp [hf.1, hf.2.1, hf.2.2, one_int, one_bool])
theorem EvAt.set {e0 e : Ev} {n : Nat} {w : World} (H : EvAt e0 n w) : EvAt e n (w.setRow n #[.int .i64 e.hart, .int .i64 e.pos, .int .i64 e.kind, .int .u64 e.addr, .int .u64 e.load, .int .u64 e.store, .bool e.aq, .bool e.rl, .int .i64 e.pred, .int .i64 e.succ, .int .i64 e.pair, e.a, e.d, e.y]) := setRow_heap _ _ _ _ _ _ H
def hasB (a b : Nat) : Bool := (a &&& b) != 0
def withinB (x m : Int) : Bool := decide (0 ≤ x) && decide (x < m)
def fieldsOf (k : Int) : Nat := if k = 1 then 10271 else if k = 2 then 14383 else if k = 3 then 10463 else if k = 4 then 15599 else if k = 5 then 14591 else if k = 6 then 775 else 0
def bitI (b : Bool) : Int := if b then 1 else 0
theorem fieldsOf_lt (k : Int) : fieldsOf k < 65536 := by unfold fieldsOf; repeat (first | omega | split)
def BoolIs (w : World) (b : Bool) (e : Ending) (w' : World) : Prop := e = .returned (.bool b) ∧ w = w'
theorem box_below (w : World) (o : Obj) : Below w.heap.size w (w.alloc o) := (Below.refl _ _).alloc (Nat.le_refl _) _
theorem has_any (a b : Nat) (ha : a < 65536) (hb : b < 65536) (w : World) : Calls Try.prog 85 #[.int .u16 (a : Int), .int .u16 (b : Int)] w fun e w' => e = .returned (.bool (hasB a b)) ∧ w = w' := by
  obtain ⟨n, hn⟩ : ∃ n, Hid (a &&& b = n) := ⟨_, Lib.hid rfl⟩
  have h := u16_and_nat a b ha hb
  rw [hn.out] at h
  unfold hasB
  rw [hn.out]
  by_cases h0 : n = 0
  · subst h0
    go_enter Try.func85, Try.ntmps85
    go_wp2
    go_ret
    exact ⟨rfl, rfl⟩
  · have h1 : ((n : Int) != 0) = true := by simp; omega
    have h2 : Hid ((n != 0) = true) := Lib.hid (by simp; omega)
    go_enter Try.func85, Try.ntmps85
    go_wp2
    go_ret
    exact ⟨by rw [h2.out]; rfl, rfl⟩
theorem within_any (x m : Int) (w : World) : Calls Try.prog 121 #[.int .i64 x, .int .i64 m] w fun e w' => e = .returned (.bool (withinB x m)) ∧ w = w' := by
  unfold withinB
  by_cases h1 : 0 ≤ x
  · by_cases h2 : x < m
    · go_enter Try.func121, Try.ntmps121
      go_wp2
      go_ret
      exact ⟨by simp [h1, h2], rfl⟩
    · have h2' : decide (x < m) = false := by simpa using h2
      go_enter Try.func121, Try.ntmps121
      go_wp2
      go_ret
      exact ⟨by simp, rfl⟩
  · have h1' : decide (0 ≤ x) = false := by simpa using h1
    go_enter Try.func121, Try.ntmps121
    go_wp2
    go_ret
    exact ⟨by simp, rfl⟩
theorem bit_any (b : Bool) (w : World) : Calls Try.prog 127 #[.bool b] w fun e w' => e = .returned (.int .u64 (bitI b)) ∧ w = w' := by
  cases b <;> (go_enter Try.func127, Try.ntmps127; go_wp2; go_ret; exact ⟨rfl, rfl⟩)
def FieldsAre (w : World) (k : Int) (e : Ending) (w' : World) : Prop := e = .returned (.int .u16 (fieldsOf k : Int)) ∧ Below w.heap.size w w'
theorem withinB_no (x m : Int) (h : ¬ (0 ≤ x ∧ x < m)) : withinB x m = false := by
  unfold withinB
  rw [Bool.and_eq_false_iff]
  rcases Decidable.not_and_iff_or_not.1 h with h | h
  · left; simpa using h
  · right; simpa using h
theorem fieldsOf_no (k : Int) (h : ¬ (0 ≤ k ∧ k < 7)) : fieldsOf k = 0 := by unfold fieldsOf; repeat (first | omega | rfl | split)
theorem two_below (w : World) (o p : Obj) : Below w.heap.size w ((w.alloc o).alloc p) := ((Below.refl _ _).alloc (Nat.le_refl _) _).alloc (by simp) _
def TableIs (w : World) (e : Ending) (w' : World) : Prop := e = .returned (.agg #[.int .u16 0, .int .u16 10271, .int .u16 14383, .int .u16 10463, .int .u16 15599, .int .u16 14591, .int .u16 775]) ∧ Below w.heap.size w w'
theorem table_any (w : World) : Calls Try.prog 120 #[] w fun e w' => TableIs w e w' := by
  go_enter Try.func120, Try.ntmps120
  go_wp2
  exact bodyPost_ret (v := .agg #[.int .u16 0, .int .u16 10271, .int .u16 14383, .int .u16 10463, .int .u16 15599, .int .u16 14591, .int .u16 775]) (by simp [results, Try.results120, go_sem]) rfl ⟨rfl, box_below _ _⟩
set_option maxHeartbeats 2000000 in
theorem look_any (k : Int) (w : World) : Calls Try.prog 84 #[.int .i64 k] w fun e w' => FieldsAre w k e w' := by
  by_cases hk : 0 ≤ k ∧ k < 7
  · obtain ⟨h0, h7⟩ := hk
    have hc : k = 0 ∨ k = 1 ∨ k = 2 ∨ k = 3 ∨ k = 4 ∨ k = 5 ∨ k = 6 := by omega
    rcases hc with rfl | rfl | rfl | rfl | rfl | rfl | rfl
    all_goals
      go_enter Try.func84, Try.ntmps84
      go_wp2_with (first
        | (go_at_call 120; (with_reducible refine (table_any _).mono ?_); rintro e w1 ⟨rfl, hb⟩; have HB := Lib.hid (hb.trans ((box_below w1 (.cells #[.int .u16 0, .int .u16 10271, .int .u16 14383, .int .u16 10463, .int .u16 15599, .int .u16 14591, .int .u16 775] 143)).mono hb.size)); clear hb)
        | (go_at_call 121; (with_reducible refine (within_any _ _ _).mono ?_); rintro e w' ⟨rfl, rfl⟩))
      go_ret
      exact ⟨rfl, HB.out⟩
  · have h1 := Lib.hid (withinB_no k 7 hk)
    have h2 := Lib.hid (fieldsOf_no k hk)
    clear hk
    go_enter Try.func84, Try.ntmps84
    go_wp2_with (first
      | (go_at_call 120; (with_reducible refine (table_any _).mono ?_); rintro e w1 ⟨rfl, hb⟩; have HB := Lib.hid (hb.trans ((box_below w1 (.cells #[.int .u16 0, .int .u16 10271, .int .u16 14383, .int .u16 10463, .int .u16 15599, .int .u16 14591, .int .u16 775] 143)).mono hb.size)); clear hb)
      | (go_at_call 121; (with_reducible refine (within_any _ _ _).mono ?_); rw [h1.out]; rintro e w' ⟨rfl, rfl⟩))
    go_ret
    exact ⟨by rw [h2.out]; rfl, HB.out⟩
end Go.Proofs.Ytcebcmmbokajcaa
