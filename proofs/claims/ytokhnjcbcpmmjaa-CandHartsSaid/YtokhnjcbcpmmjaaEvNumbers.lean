/-
  Proved here: event's numbers answers what an event has as numbers; nothing that was there is changed. Condition: lists of at most 100,000 numbers.
  (With it: Proved here: what event's look, has, within, bit, numbers and hold answer; nothing that was there is changed. No condition. (With it: Words: a store into a block. No condition.))
-/
import Derived.Test.YtokhnjcbcpmmjaaEvWords
import Derived.LoopTactic
import Derived.IntWalk
import Derived.Deep.DeepCutAuto
import Derived.Outline
import Derived.Lib.ItoaWalk
import Derived.Laws.Bits64b
import Derived.Laws.BitsAllLaws
import Derived.StillTailTactics
import Derived.Deep.RegionHeld3
namespace Go.Proofs.Ytokhnjcbcpmmjaa
set_option linter.unusedVariables false
set_option linter.unusedSimpArgs false
open Go.RowKit

theorem set_at (w : World) (n k : Nat) (v : Value) (cs : Array Value) (T : TypeId) (fr : Nat × Nat) (h : w.heap[n]? = some (.cells cs T fr)) : (w.setCell ⟨n, k, none⟩ v).heap[n]? = some (.cells (cs.setIfInBounds k v) T fr) := by
  have hl : n < w.heap.size := (Array.getElem?_eq_some_iff.1 h).1
  unfold World.setCell
  simp only [Array.getElem?_modify, if_true, h, Option.map_some]
  simp
end Go.Proofs.Ytokhnjcbcpmmjaa
namespace Go.Proofs.Ytokhnjcbcpmmjaa
set_option linter.unusedVariables false
set_option linter.unusedSimpArgs false
open Go.RowKit

/-- an event -/
structure Ev where
  hart : Int
  pos : Int
  kind : Int
  addr : Int
  load : Int
  store : Int
  aq : Bool
  rl : Bool
  pred : Int
  succ : Int
  pair : Int
  a : Value
  d : Value
  y : Value
@[reducible] def Ev.V (e : Ev) : Value := .agg #[.int .i64 e.hart, .int .i64 e.pos, .int .i64 e.kind, .int .u64 e.addr, .int .u64 e.load, .int .u64 e.store, .bool e.aq, .bool e.rl, .int .i64 e.pred, .int .i64 e.succ, .int .i64 e.pair, e.a, e.d, e.y]
/-- an event lies there -/
def EvAt (e : Ev) (n : Nat) (w : World) : Prop := w.heap[n]? = some (.cells #[.int .i64 e.hart, .int .i64 e.pos, .int .i64 e.kind, .int .u64 e.addr, .int .u64 e.load, .int .u64 e.store, .bool e.aq, .bool e.rl, .int .i64 e.pred, .int .i64 e.succ, .int .i64 e.pair, e.a, e.d, e.y] 42 (0, 0))
theorem EvAt.lt {e : Ev} {n : Nat} {w : World} (h : EvAt e n w) : n < w.heap.size := (Array.getElem?_eq_some_iff.1 h).1
theorem EvAt.facts {e : Ev} {n : Nat} {w : World} (h : EvAt e n w) : n < w.heap.size ∧ w.cell? ⟨n, 0, none⟩ = some (.int .i64 e.hart) ∧ w.cell? ⟨n, 1, none⟩ = some (.int .i64 e.pos) ∧ w.cell? ⟨n, 2, none⟩ = some (.int .i64 e.kind) ∧ w.cell? ⟨n, 3, none⟩ = some (.int .u64 e.addr) ∧ w.cell? ⟨n, 4, none⟩ = some (.int .u64 e.load) ∧ w.cell? ⟨n, 5, none⟩ = some (.int .u64 e.store) ∧ w.cell? ⟨n, 6, none⟩ = some (.bool e.aq) ∧ w.cell? ⟨n, 7, none⟩ = some (.bool e.rl) ∧ w.cell? ⟨n, 8, none⟩ = some (.int .i64 e.pred) ∧ w.cell? ⟨n, 9, none⟩ = some (.int .i64 e.succ) ∧ w.cell? ⟨n, 10, none⟩ = some (.int .i64 e.pair) ∧ w.cell? ⟨n, 11, none⟩ = some (e.a) ∧ w.cell? ⟨n, 12, none⟩ = some (e.d) ∧ w.cell? ⟨n, 13, none⟩ = some (e.y) :=
  ⟨h.lt, by rw [cell_of_row w n _ _ _ _ h]; rfl, by rw [cell_of_row w n _ _ _ _ h]; rfl, by rw [cell_of_row w n _ _ _ _ h]; rfl, by rw [cell_of_row w n _ _ _ _ h]; rfl, by rw [cell_of_row w n _ _ _ _ h]; rfl, by rw [cell_of_row w n _ _ _ _ h]; rfl, by rw [cell_of_row w n _ _ _ _ h]; rfl, by rw [cell_of_row w n _ _ _ _ h]; rfl, by rw [cell_of_row w n _ _ _ _ h]; rfl, by rw [cell_of_row w n _ _ _ _ h]; rfl, by rw [cell_of_row w n _ _ _ _ h]; rfl, by rw [cell_of_row w n _ _ _ _ h]; rfl, by rw [cell_of_row w n _ _ _ _ h]; rfl, by rw [cell_of_row w n _ _ _ _ h]; rfl⟩
theorem EvAt.free {e : Ev} {n : Nat} {w : World} (h : EvAt e n w) (k : Nat) : w.frozen? ⟨n, k, none⟩ = false := frozen_of_row w n k _ _ h
theorem EvAt.new (e : Ev) (w : World) : EvAt e w.heap.size (w.alloc (.cells #[.int .i64 e.hart, .int .i64 e.pos, .int .i64 e.kind, .int .u64 e.addr, .int .u64 e.load, .int .u64 e.store, .bool e.aq, .bool e.rl, .int .i64 e.pred, .int .i64 e.succ, .int .i64 e.pair, e.a, e.d, e.y] 42)) := Array.getElem?_push_size
theorem EvAt.below {e : Ev} {n B : Nat} {w w' : World} (h : EvAt e n w) (hb : Below B w w') (hn : n < B) : EvAt e n w' := (hb.block n hn).trans h
theorem EvAt.on {e : Ev} {n : Nat} {w w' : World} (h : EvAt e n w) (hb : Below w.heap.size w w') : EvAt e n w' := h.below hb h.lt
theorem EvAt.alloc {e : Ev} {n : Nat} {w : World} (h : EvAt e n w) (o : Obj) : EvAt e n (w.alloc o) := (Below.heap_alloc w o n h.lt).trans h
/-- loads and stores of a whole event: folded, so that the walk takes them by what is said of them -/
def LoadE (x : Value) : Sem Value := Instr.loadAt 42 x
theorem fold_E (x : Value) : Instr.loadAt 42 x = LoadE x := rfl
def StoreE (x y : Value) : Sem Unit := Instr.storeAt 42 x y
theorem fold_SE (x y : Value) : Instr.storeAt 42 x y = StoreE x y := rfl
theorem run_LoadE {e : Ev} {n : Nat} {w : World} (H : EvAt e n w) : (LoadE (.pointer (some ⟨n, 0, none⟩))).run Try.prog w = .ok e.V w := by
  unfold LoadE Instr.loadAt Instr.sureAddr
  simp only [Sem.run_bind, Sem.run_pure, Result.andThen_ok, run_loadVar_row w n _ 42 _ (0, 0) _ H Try.underlying42 rfl (by as_aux_lemma => kernel_rfl)]
theorem one_int (k : IntKind) (z : Int) : (Value.int k z).oneCell' = true := rfl
theorem one_bool (b : Bool) : (Value.bool b).oneCell' = true := rfl
def Ev.flat (e : Ev) : Prop := e.a.oneCell' = true ∧ e.d.oneCell' = true ∧ e.y.oneCell' = true
theorem EvAt.set {e0 e : Ev} {n : Nat} {w : World} (H : EvAt e0 n w) : EvAt e n (w.setRow n #[.int .i64 e.hart, .int .i64 e.pos, .int .i64 e.kind, .int .u64 e.addr, .int .u64 e.load, .int .u64 e.store, .bool e.aq, .bool e.rl, .int .i64 e.pred, .int .i64 e.succ, .int .i64 e.pair, e.a, e.d, e.y]) := setRow_heap _ _ _ _ _ _ H
def hasB (a b : Nat) : Bool := (a &&& b) != 0
def withinB (x m : Int) : Bool := decide (0 ≤ x) && decide (x < m)
def fieldsOf (k : Int) : Nat := if k = 1 then 10271 else if k = 2 then 14383 else if k = 3 then 10463 else if k = 4 then 15599 else if k = 5 then 14591 else if k = 6 then 775 else 0
def bitI (b : Bool) : Int := if b then 1 else 0
theorem fieldsOf_lt (k : Int) : fieldsOf k < 65536 := by unfold fieldsOf; repeat (first | omega | split)
theorem box_below (w : World) (o : Obj) : Below w.heap.size w (w.alloc o) := (Below.refl _ _).alloc (Nat.le_refl _) _
theorem has_any (a b : Nat) (ha : a < 65536) (hb : b < 65536) (w : World) : Calls Try.prog 40 #[.int .u16 (a : Int), .int .u16 (b : Int)] w fun e w' => e = .returned (.bool (hasB a b)) ∧ w = w' := by
  obtain ⟨n, hn⟩ : ∃ n, Hid (a &&& b = n) := ⟨_, Lib.hid rfl⟩
  have h := u16_and_nat a b ha hb
  rw [hn.out] at h
  unfold hasB
  rw [hn.out]
  by_cases h0 : n = 0
  · subst h0
    go_enter Try.func40, Try.ntmps40
    go_wp2
    go_ret
    exact ⟨rfl, rfl⟩
  · have h1 : ((n : Int) != 0) = true := by simp; omega
    have h2 : Hid ((n != 0) = true) := Lib.hid (by simp; omega)
    go_enter Try.func40, Try.ntmps40
    go_wp2
    go_ret
    exact ⟨by rw [h2.out]; rfl, rfl⟩
theorem within_any (x m : Int) (w : World) : Calls Try.prog 57 #[.int .i64 x, .int .i64 m] w fun e w' => e = .returned (.bool (withinB x m)) ∧ w = w' := by
  unfold withinB
  by_cases h1 : 0 ≤ x
  · by_cases h2 : x < m
    · go_enter Try.func57, Try.ntmps57
      go_wp2
      go_ret
      exact ⟨by simp [h1, h2], rfl⟩
    · have h2' : decide (x < m) = false := by simpa using h2
      go_enter Try.func57, Try.ntmps57
      go_wp2
      go_ret
      exact ⟨by simp, rfl⟩
  · have h1' : decide (0 ≤ x) = false := by simpa using h1
    go_enter Try.func57, Try.ntmps57
    go_wp2
    go_ret
    exact ⟨by simp, rfl⟩
theorem bit_any (b : Bool) (w : World) : Calls Try.prog 69 #[.bool b] w fun e w' => e = .returned (.int .u64 (bitI b)) ∧ w = w' := by
  cases b <;> (go_enter Try.func69, Try.ntmps69; go_wp2; go_ret; exact ⟨rfl, rfl⟩)
def FieldsAre (w : World) (k : Int) (e : Ending) (w' : World) : Prop := e = .returned (.int .u16 (fieldsOf k : Int)) ∧ Below w.heap.size w w'
theorem withinB_no (x m : Int) (h : ¬ (0 ≤ x ∧ x < m)) : withinB x m = false := by
  unfold withinB
  rw [Bool.and_eq_false_iff]
  rcases Decidable.not_and_iff_or_not.1 h with h | h
  · left; simpa using h
  · right; simpa using h
theorem fieldsOf_no (k : Int) (h : ¬ (0 ≤ k ∧ k < 7)) : fieldsOf k = 0 := by unfold fieldsOf; repeat (first | omega | rfl | split)
theorem two_below (w : World) (o p : Obj) : Below w.heap.size w ((w.alloc o).alloc p) := ((Below.refl _ _).alloc (Nat.le_refl _) _).alloc (by simp) _
def TableIs (w : World) (e : Ending) (w' : World) : Prop := e = .returned (.agg #[.int .u16 0, .int .u16 10271, .int .u16 14383, .int .u16 10463, .int .u16 15599, .int .u16 14591, .int .u16 775]) ∧ Below w.heap.size w w'
theorem table_any (w : World) : Calls Try.prog 56 #[] w fun e w' => TableIs w e w' := by
  go_enter Try.func56, Try.ntmps56
  go_wp2
  exact bodyPost_ret (v := .agg #[.int .u16 0, .int .u16 10271, .int .u16 14383, .int .u16 10463, .int .u16 15599, .int .u16 14591, .int .u16 775]) (by simp [results, Try.results56, go_sem]) rfl ⟨rfl, box_below _ _⟩
set_option maxHeartbeats 2000000 in
theorem look_any (k : Int) (w : World) : Calls Try.prog 39 #[.int .i64 k] w fun e w' => FieldsAre w k e w' := by
  by_cases hk : 0 ≤ k ∧ k < 7
  · obtain ⟨h0, h7⟩ := hk
    have hc : k = 0 ∨ k = 1 ∨ k = 2 ∨ k = 3 ∨ k = 4 ∨ k = 5 ∨ k = 6 := by omega
    rcases hc with rfl | rfl | rfl | rfl | rfl | rfl | rfl
    all_goals
      go_enter Try.func39, Try.ntmps39
      go_wp2_with (first
        | (go_at_call 56; (with_reducible refine (table_any _).mono ?_); rintro e w1 ⟨rfl, hb⟩; have HB := Lib.hid (hb.trans ((box_below w1 (.cells #[.int .u16 0, .int .u16 10271, .int .u16 14383, .int .u16 10463, .int .u16 15599, .int .u16 14591, .int .u16 775] 95)).mono hb.size)); clear hb)
        | (go_at_call 57; (with_reducible refine (within_any _ _ _).mono ?_); rintro e w' ⟨rfl, rfl⟩))
      go_ret
      exact ⟨rfl, HB.out⟩
  · have h1 := Lib.hid (withinB_no k 7 hk)
    have h2 := Lib.hid (fieldsOf_no k hk)
    clear hk
    go_enter Try.func39, Try.ntmps39
    go_wp2_with (first
      | (go_at_call 56; (with_reducible refine (table_any _).mono ?_); rintro e w1 ⟨rfl, hb⟩; have HB := Lib.hid (hb.trans ((box_below w1 (.cells #[.int .u16 0, .int .u16 10271, .int .u16 14383, .int .u16 10463, .int .u16 15599, .int .u16 14591, .int .u16 775] 95)).mono hb.size)); clear hb)
      | (go_at_call 57; (with_reducible refine (within_any _ _ _).mono ?_); rw [h1.out]; rintro e w' ⟨rfl, rfl⟩))
    go_ret
    exact ⟨by rw [h2.out]; rfl, HB.out⟩
end Go.Proofs.Ytokhnjcbcpmmjaa
namespace Go.Proofs.Ytokhnjcbcpmmjaa
set_option linter.unusedVariables false
set_option linter.unusedSimpArgs false
open Go.RowKit
attribute [local go_sem ↓] fold_E fold_SE

def numsV (e : Ev) (n1 n2 n3 : Nat) : Array Value := #[.int .u64 (IntKind.u64.wrap e.hart), .int .u64 (IntKind.u64.wrap e.pos), .int .u64 (IntKind.u64.wrap e.kind), .int .u64 e.addr, .int .u64 e.load, .int .u64 e.store, .int .u64 (bitI e.aq), .int .u64 (bitI e.rl), .int .u64 (IntKind.u64.wrap e.pred), .int .u64 (IntKind.u64.wrap e.succ), .int .u64 (IntKind.u64.wrap e.pair), .int .u64 (IntKind.u64.wrap (n1 : Int)), .int .u64 (IntKind.u64.wrap (n2 : Int)), .int .u64 (IntKind.u64.wrap (n3 : Int))]
def NumsAre (w : World) (v : Array Value) (e : Ending) (w' : World) : Prop := e = .returned (.agg v) ∧ Below w.heap.size w w'
set_option maxRecDepth 100000 in
set_option maxHeartbeats 4000000 in
theorem numbers_any (e : Ev) (a d y : Option Addr) (n1 n2 n3 c1 c2 c3 : Nat) (ha : e.a = .slice a n1 c1) (hd : e.d = .slice d n2 c2) (hy : e.y = .slice y n3 c3) (w : World) :
    Calls Try.prog 67 #[e.V] w fun e' w' => NumsAre w (numsV e n1 n2 n3) e' w' := by
  obtain ⟨hart, pos, kind, addr, load, store, aq, rl, pred, succ, pair, va, vd, vy⟩ := e
  simp only at ha hd hy
  subst ha hd hy
  have H0 := EvAt.new ⟨hart, pos, kind, addr, load, store, aq, rl, pred, succ, pair, .slice a n1 c1, .slice d n2 c2, .slice y n3 c3⟩ w
  have hB0 := box_below w (.cells #[.int .i64 hart, .int .i64 pos, .int .i64 kind, .int .u64 addr, .int .u64 load, .int .u64 store, .bool aq, .bool rl, .int .i64 pred, .int .i64 succ, .int .i64 pair, .slice a n1 c1, .slice d n2 c2, .slice y n3 c3] 42)
  have hz0 : (w.alloc (.cells #[.int .i64 hart, .int .i64 pos, .int .i64 kind, .int .u64 addr, .int .u64 load, .int .u64 store, .bool aq, .bool rl, .int .i64 pred, .int .i64 succ, .int .i64 pair, .slice a n1 c1, .slice d n2 c2, .slice y n3 c3] 42)).heap.size = w.heap.size + 1 := by simp
  simp only [Ev.V] at H0 ⊢
  have H := Lib.hid H0
  have HB := Lib.hid hB0
  have HZ := Lib.hid hz0
  clear H0 hB0 hz0
  go_enter Try.func67, Try.ntmps67
  go_upto_region 1 with fail
  go_name_world W hW
  have HE : Hid (EvAt ⟨hart, pos, kind, addr, load, store, aq, rl, pred, succ, pair, .slice a n1 c1, .slice d n2 c2, .slice y n3 c3⟩ w.heap.size W) := Lib.hid (by rw [← hW]; exact H.out.alloc _)
  have HN : Hid (W.heap[w.heap.size + 1]? = some (.cells #[.int .u64 0, .int .u64 0, .int .u64 0, .int .u64 0, .int .u64 0, .int .u64 0, .int .u64 0, .int .u64 0, .int .u64 0, .int .u64 0, .int .u64 0, .int .u64 0, .int .u64 0, .int .u64 0] 108 (0, 0))) := Lib.hid (by rw [← hW, ← HZ.out]; exact Array.getElem?_push_size)
  have HB1 : Hid (Below w.heap.size w W) := Lib.hid (by rw [← hW]; exact HB.out.alloc HB.out.size _)
  have hzW : w.heap.size + 1 < W.heap.size := (Array.getElem?_eq_some_iff.1 HN.out).1
  clear hW H HB HZ
  obtain ⟨hlt, f0, f1, f2, f3, f4, f5, f6, f7, f8, f9, f10, f11, f12, f13⟩ := HE.out.facts
  simp only at f0 f1 f2 f3 f4 f5 f6 f7 f8 f9 f10 f11 f12 f13
  go_still_tail 46, (by kernel_rfl)
  still_call ((bit_any aq _).mono fun _ _ h => ⟨h.1, h.2.symm⟩)
  iterate 2 still_step
  still_call ((bit_any rl _).mono fun _ _ h => ⟨h.1, h.2.symm⟩)
  repeat still_step
  refine wpStill_nil ?_
  change wpList _ _ _ _ _ W.drew
  obtain ⟨V, hV⟩ : ∃ V, Hid (W.drew = V) := ⟨_, Lib.hid rfl⟩
  have HN2 : V.heap[w.heap.size + 1]? = some (.cells #[.int .u64 0, .int .u64 0, .int .u64 0, .int .u64 0, .int .u64 0, .int .u64 0, .int .u64 0, .int .u64 0, .int .u64 0, .int .u64 0, .int .u64 0, .int .u64 0, .int .u64 0, .int .u64 0] 108 (0, 0)) := by rw [← hV.out]; exact HN.out
  have HB2 := Lib.hid (HB1.out.drew)
  rw [hV.out] at HB2 ⊢
  clear f0 f1 f2 f3 f4 f5 f6 f7 f8 f9 f10 f11 f12 f13
  refine wpList_store_row rfl _ (.tmp 2) (.tmp 48) rfl _ (numsV ⟨hart, pos, kind, addr, load, store, aq, rl, pred, succ, pair, .slice a n1 c1, .slice d n2 c2, .slice y n3 c3⟩ n1 n2 n3) rfl rfl _ _ HN2 (by as_aux_lemma => kernel_rfl) rfl (by simp [numsV, Value.oneCell']) ?_
  refine wpList_nil ?_
  have hR := setRow_heap V (w.heap.size + 1) _ (numsV ⟨hart, pos, kind, addr, load, store, aq, rl, pred, succ, pair, .slice a n1 c1, .slice d n2 c2, .slice y n3 c3⟩ n1 n2 n3) _ _ HN2
  have hBe : Below w.heap.size w (V.setRow (w.heap.size + 1) (numsV ⟨hart, pos, kind, addr, load, store, aq, rl, pred, succ, pair, .slice a n1 c1, .slice d n2 c2, .slice y n3 c3⟩ n1 n2 n3)) := HB2.out.trans ⟨rfl, rfl, rfl, by simp, fun j hj => setRow_other _ _ _ _ (by omega)⟩
  have HR := Lib.hid hR
  have HBe := Lib.hid hBe
  clear hR hBe HN2
  generalize V.setRow (w.heap.size + 1) (numsV ⟨hart, pos, kind, addr, load, store, aq, rl, pred, succ, pair, .slice a n1 c1, .slice d n2 c2, .slice y n3 c3⟩ n1 n2 n3) = X at HR HBe ⊢
  go_wp2
  refine bodyPost_ret (v := .agg (numsV ⟨hart, pos, kind, addr, load, store, aq, rl, pred, succ, pair, .slice a n1 c1, .slice d n2 c2, .slice y n3 c3⟩ n1 n2 n3)) ?_ rfl ⟨rfl, HBe.out⟩
  exact results_cell_row Try.results67 _ X _ _ _ (0, 0) _ rfl HR.out Try.underlying108 rfl (by as_aux_lemma => kernel_rfl)

/-- has an event noughts in all that is not in the set? -/
def numsL (e : Ev) (n1 n2 n3 : Nat) : List Int := [IntKind.u64.wrap e.hart, IntKind.u64.wrap e.pos, IntKind.u64.wrap e.kind, e.addr, e.load, e.store, bitI e.aq, bitI e.rl, IntKind.u64.wrap e.pred, IntKind.u64.wrap e.succ, IntKind.u64.wrap e.pair, IntKind.u64.wrap (n1 : Int), IntKind.u64.wrap (n2 : Int), IntKind.u64.wrap (n3 : Int)]
theorem numsV_is (e : Ev) (n1 n2 n3 : Nat) : numsV e n1 n2 n3 = ((numsL e n1 n2 n3).map (Value.int .u64)).toArray := rfl
def okAt (F : Nat) (ns : List Int) (k : Nat) : Bool := decide (atI ns k = 0) || hasB F (2 ^ k)
def holdB (F : Nat) (ns : List Int) : Bool := (List.range 14).all fun k => okAt F ns k
theorem holdB_no (F : Nat) (ns : List Int) (k : Nat) (hk : k < 14) (h : okAt F ns k = false) : holdB F ns = false := by
  unfold holdB
  rw [List.all_eq_false]
  exact ⟨k, List.mem_range.2 hk, by rw [h]; decide⟩
theorem holdB_yes (F : Nat) (ns : List Int) (h : ∀ k, k < 14 → okAt F ns k = true) : holdB F ns = true := by
  unfold holdB
  rw [List.all_eq_true]
  exact fun k hk => h k (List.mem_range.1 hk)
theorem index_nums (ns : List Int) (hn : ns.length = 14) (k : Nat) (h : k < 14) (w : World) : (Instr.index 108 (.agg (ns.map (Value.int .u64)).toArray) (.int .i64 (k : Int))).run Try.prog w = .ok (.int .u64 (atI ns k)) w := by
  have hu := run_underlying Try.underlying108 w
  have ha : (isAgg 33).run Try.prog w = .ok false w := by
    unfold isAgg; rw [Sem.run_bind, run_underlying Try.underlying33 w]; rfl
  have hs : (Go.sizeOf 33).run Try.prog w = .ok 1 w := by kernel_rfl
  have hk : (0 : Int) ≤ k ∧ (k : Int) < (14 : Nat) := by omega
  have hg : ((ns.map (Value.int .u64)).toArray)[k]? = some (.int .u64 (atI ns k)) := by
    rw [List.getElem?_toArray, List.getElem?_map, List.getElem?_eq_getElem (by omega)]
    simp [atI, hn, h]
  simp only [Instr.index, asIntOf, Sem.run_bind, Sem.run_pure, Result.andThen_ok, hu, if_pos hk, hs, Go.part, ha, Int.toNat_natCast]
  simp [hg]
def HoldIs (w : World) (b : Bool) (e : Ending) (w' : World) : Prop := e = .returned (.bool b) ∧ Below w.heap.size w w'
theorem pow_lt14 (k : Nat) (hk : k < 14) : 2 ^ k < 65536 := Nat.lt_of_lt_of_le (Nat.pow_lt_pow_right (by omega) hk) (by omega)
set_option maxRecDepth 100000 in
set_option maxHeartbeats 4000000 in
theorem hold_any (F : Nat) (hF : F < 65536) (e : Ev) (a d y : Option Addr) (n1 n2 n3 c1 c2 c3 : Nat) (ha : e.a = .slice a n1 c1) (hd : e.d = .slice d n2 c2) (hy : e.y = .slice y n3 c3) (w : World) :
    Calls Try.prog 63 #[.int .u16 (F : Int), e.V] w fun e' w' => HoldIs w (holdB F (numsL e n1 n2 n3)) e' w' := by
  have HN := Lib.hid (numbers_any e a d y n1 n2 n3 c1 c2 c3 ha hd hy)
  have HE := Lib.hid (EvAt.new e w)
  have HB := Lib.hid (box_below w (.cells #[.int .i64 e.hart, .int .i64 e.pos, .int .i64 e.kind, .int .u64 e.addr, .int .u64 e.load, .int .u64 e.store, .bool e.aq, .bool e.rl, .int .i64 e.pred, .int .i64 e.succ, .int .i64 e.pair, e.a, e.d, e.y] 42))
  obtain ⟨ns, hns⟩ : ∃ ns, Hid (numsL e n1 n2 n3 = ns) := ⟨_, Lib.hid rfl⟩
  have hlen : Hid (ns.length = 14) := Lib.hid (by rw [← hns.out]; rfl)
  rw [numsV_is, hns.out] at HN
  rw [hns.out]
  clear ha hd hy
  go_enter Try.func63, Try.ntmps63
  go_upto_region 1 with fail
  have cl := run_LoadE HE.out
  go_wp2_with (go_at_call 67; (with_reducible refine (HN.out _).mono ?_); rintro e1 w1 ⟨rfl, hb⟩; have HB1 := Lib.hid (HB.out.trans (hb.mono HB.out.size)); clear hb)
  clear cl HE
  go_loop [9] (fun i => ∃ k : Nat, k ≤ 14 ∧ i = .int .i64 k ∧ Hid (∀ j, j < k → okAt F ns j = true)) (fun i => 14 - (intOf i).toNat)
  case atStart => exact ⟨0, Nat.zero_le _, rfl, Lib.hid (fun j hj => absurd hj (by omega))⟩
  case round =>
    obtain ⟨k, hk, rfl, hr⟩ := hrel
    by_cases hlt : k < 14
    · have hi := index_nums ns hlen.out k hlt
      obtain ⟨x, hx⟩ : ∃ x, Hid (atI ns k = x) := ⟨_, Lib.hid rfl⟩
      rw [hx.out] at hi
      by_cases h0 : x = 0
      · subst h0
        have hok : Hid (okAt F ns k = true) := Lib.hid (by unfold okAt; rw [hx.out]; rfl)
        go_wp2
        go_round
        case rel => exact ⟨k + 1, by omega, by go_num, Lib.hid (fun j hj => (Nat.lt_succ_iff_lt_or_eq.1 hj).elim (hr.out j) (fun h => h ▸ hok.out))⟩
        case measure => simp [intOf]; omega
      · have h1 : (x != 0) = true := by simpa using h0
        have hk2 := pow_lt14 k hlt
        obtain ⟨p, hp⟩ : ∃ p : Nat, Hid (2 ^ k = p) := ⟨_, Lib.hid rfl⟩
        rw [hp.out] at hk2
        have HH := Lib.hid (has_any F p hF hk2)
        obtain ⟨b, hb⟩ : ∃ b, Hid (hasB F p = b) := ⟨_, Lib.hid rfl⟩
        have hok : Hid (okAt F ns k = b) := Lib.hid (by unfold okAt; rw [hx.out, hp.out, hb.out, decide_eq_false h0]; rfl)
        rw [hb.out] at HH
        have hw : IntKind.u16.wrap ((2 : Int) ^ k) = (p : Int) := by
          have e : ((2 : Int) ^ k) = ((2 ^ k : Nat) : Int) := by rw [Int.natCast_pow]; rfl
          rw [e, hp.out, IntKind.wrap_u16]
          omega
        clear h0
        cases b with
        | true =>
          go_wp2_with (go_at_call 40; (with_reducible refine (HH.out _).mono ?_); rintro e1 w2 ⟨rfl, rfl⟩)
          go_round
          case rel => exact ⟨k + 1, by omega, by go_num, Lib.hid (fun j hj => (Nat.lt_succ_iff_lt_or_eq.1 hj).elim (hr.out j) (fun h => h ▸ hok.out))⟩
          case measure => simp [intOf]; omega
        | false =>
          go_wp2_with (go_at_call 40; (with_reducible refine (HH.out _).mono ?_); rintro e1 w2 ⟨rfl, rfl⟩)
          go_ret
          exact ⟨by rw [holdB_no F ns k hlt hok.out]; rfl, HB1.out⟩
    · go_wp2
      go_ret
      exact ⟨by rw [holdB_yes F ns (fun j hj => hr.out j (by omega))]; rfl, HB1.out⟩
end Go.Proofs.Ytokhnjcbcpmmjaa
