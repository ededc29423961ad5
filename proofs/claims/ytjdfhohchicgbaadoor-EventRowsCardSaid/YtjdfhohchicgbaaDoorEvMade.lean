/-
  Proved here: event's made answers what an event has of its ask and of what was found, or ErrArg; nothing that was there is changed. Condition: numbers of 64 bits.
-/
import Derived.Test.YtjdfhohchicgbaaDoorEvAsk
import Derived.Test.YtjdfhohchicgbaaDoorEvAmo
import Derived.RegionTactic
import Derived.ChangeAlike
namespace Go.Proofs.YtjdfhohchicgbaaDoor
open Go.RowKit
attribute [local go_sem ↓] fold_E fold_SE

theorem store_ev {ops : Array Oper} {rest : List Oper} {o : Oper} {a : Act} {w : World} {Q : Exit → Act → World → Prop} {e0 : Ev} {n : Nat} (H : EvAt e0 n w) (e : Ev) (hf : e.flat) (hgd : o.guard = none) (x y : Operand) (ho : o.op = .store 27 x y)
    (hx : a.eval x = .pointer (some ⟨n, 0, none⟩)) (hy : a.eval y = e.V)
    (k : ∀ w1, EvAt e n w1 → (∀ j, j ≠ n → w1.heap[j]? = w.heap[j]?) → Below n w w1 → w1.heap.size = w.heap.size → wpList Tryd.prog ops Q rest (a.put o.dst undef) w1) : wpList Tryd.prog ops Q (o :: rest) a w := by
  refine wpList_store_row hgd _ x y ho n #[.int .i64 e.hart, .int .i64 e.pos, .int .i64 e.kind, .int .u64 e.addr, .int .u64 e.load, .int .u64 e.store, .bool e.aq, .bool e.rl, .int .i64 e.pred, .int .i64 e.succ, .int .i64 e.pair, e.a, e.d, e.y] hx hy _ _ H (by as_aux_lemma => kernel_rfl) rfl (by simp [hf.1, hf.2.1, hf.2.2, one_int, one_bool]) (k _ ?_ ?_ ?_ (by simp))
  · exact setRow_heap w n _ _ _ _ H
  · exact fun j hj => setRow_other w n j _ hj
  · exact (Below.refl _ _).trans ⟨rfl, rfl, rfl, by simp, fun j hj => setRow_other _ _ _ _ (by omega)⟩
/-- an ask -/
structure Aq where
  kind : Int
  addr : Int
  val : Int
  op : Int
  aq : Bool
  rl : Bool
  pred : Int
  succ : Int
@[reducible] def Aq.V (q : Aq) : Value := .agg #[.int .i64 q.kind, .int .u64 q.addr, .int .u64 q.val, .int .i64 q.op, .bool q.aq, .bool q.rl, .int .i64 q.pred, .int .i64 q.succ]
def Aq.ok (q : Aq) : Prop := 0 ≤ q.addr ∧ q.addr < 18446744073709551616 ∧ 0 ≤ q.val ∧ q.val < 18446744073709551616
def AskAt (q : Aq) (n : Nat) (w : World) : Prop := w.heap[n]? = some (.cells #[.int .i64 q.kind, .int .u64 q.addr, .int .u64 q.val, .int .i64 q.op, .bool q.aq, .bool q.rl, .int .i64 q.pred, .int .i64 q.succ] 32 (0, 0))
theorem AskAt.lt {q : Aq} {n : Nat} {w : World} (h : AskAt q n w) : n < w.heap.size := (Array.getElem?_eq_some_iff.1 h).1
theorem AskAt.facts {q : Aq} {n : Nat} {w : World} (h : AskAt q n w) : n < w.heap.size ∧ w.cell? ⟨n, 0, none⟩ = some (.int .i64 q.kind) ∧ w.cell? ⟨n, 1, none⟩ = some (.int .u64 q.addr) ∧ w.cell? ⟨n, 2, none⟩ = some (.int .u64 q.val) ∧ w.cell? ⟨n, 3, none⟩ = some (.int .i64 q.op) ∧ w.cell? ⟨n, 4, none⟩ = some (.bool q.aq) ∧ w.cell? ⟨n, 5, none⟩ = some (.bool q.rl) ∧ w.cell? ⟨n, 6, none⟩ = some (.int .i64 q.pred) ∧ w.cell? ⟨n, 7, none⟩ = some (.int .i64 q.succ) :=
  ⟨h.lt, by rw [cell_of_row w n _ _ _ _ h]; rfl, by rw [cell_of_row w n _ _ _ _ h]; rfl, by rw [cell_of_row w n _ _ _ _ h]; rfl, by rw [cell_of_row w n _ _ _ _ h]; rfl, by rw [cell_of_row w n _ _ _ _ h]; rfl, by rw [cell_of_row w n _ _ _ _ h]; rfl, by rw [cell_of_row w n _ _ _ _ h]; rfl, by rw [cell_of_row w n _ _ _ _ h]; rfl⟩
theorem AskAt.free {q : Aq} {n : Nat} {w : World} (h : AskAt q n w) (k : Nat) : w.frozen? ⟨n, k, none⟩ = false := frozen_of_row w n k _ _ h
theorem AskAt.new (q : Aq) (w : World) : AskAt q w.heap.size (w.alloc (.cells #[.int .i64 q.kind, .int .u64 q.addr, .int .u64 q.val, .int .i64 q.op, .bool q.aq, .bool q.rl, .int .i64 q.pred, .int .i64 q.succ] 32)) := Array.getElem?_push_size
theorem AskAt.below {q : Aq} {n B : Nat} {w w' : World} (h : AskAt q n w) (hb : Below B w w') (hn : n < B) : AskAt q n w' := (hb.block n hn).trans h
theorem AskAt.on {q : Aq} {n : Nat} {w w' : World} (h : AskAt q n w) (hb : Below w.heap.size w w') : AskAt q n w' := h.below hb h.lt
def zeroEv : Ev := ⟨0, 0, 0, 0, 0, 0, false, false, 0, 0, 0, .slice none 0 0, .slice none 0 0, .slice none 0 0⟩
theorem zeroEv_flat : zeroEv.flat := ⟨rfl, rfl, rfl⟩
abbrev askedV : Array Value := #[.int .i64 0, .int .i64 1, .int .i64 2, .int .i64 3, .int .i64 4, .int .i64 5, .int .i64 6, .int .i64 0, .int .i64 0]
def AskedAre (w : World) (e : Ending) (w' : World) : Prop := e = .returned (.agg askedV) ∧ Below w.heap.size w w'
theorem asked_any (w : World) : Calls Tryd.prog 41 #[] w fun e w' => AskedAre w e w' := by
  go_enter Tryd.func41, Tryd.ntmps41
  go_wp2
  exact bodyPost_ret (v := .agg askedV) (by simp [results, Tryd.results41, go_sem]) rfl ⟨rfl, box_below _ _⟩
/-- what made answers -/
def MadeIs (w : World) (e : Ev) (x : Int) (e' : Ending) (w' : World) : Prop := e' = .returned (.tuple #[e.V, .int .i64 x]) ∧ Below w.heap.size w w'
theorem made_end {fn : Func} {tmps : Array Value} {p r : Tmp} {e : Ev} {v : Value} {n : Nat} {w : World} (h : fn.results = #[.cell p 27, .tmp r]) (hp : tmps.getD p undef = .pointer (some ⟨n, 0, none⟩)) (hv : tmps.getD r undef = v) (H : EvAt e n w) :
    (results fn tmps).run Tryd.prog w = .ok (.tuple #[e.V, v]) w := by
  have hp' : tmps[p]?.getD undef = .pointer (some ⟨n, 0, none⟩) := by simpa using hp
  have hv' : tmps[r]?.getD undef = v := by simpa using hv
  have e1 := run_loadVar_row (P := Tryd.prog) w n _ 27 _ (0, 0) _ H Tryd.underlying27 rfl (by as_aux_lemma => kernel_rfl)
  simp [results, h, hp', hv', asAddr, e1]
/-- the boxes of a call of made -/
structure Mk (q : Aq) (w W : World) : Prop where
  ask : AskAt q w.heap.size W
  out : EvAt zeroEv (w.heap.size + 1) W
  below : Below w.heap.size w W
theorem Mk.start (q : Aq) (w : World) : Mk q w ((w.alloc (.cells #[.int .i64 q.kind, .int .u64 q.addr, .int .u64 q.val, .int .i64 q.op, .bool q.aq, .bool q.rl, .int .i64 q.pred, .int .i64 q.succ] 32)).alloc (.cells #[.int .i64 0, .int .i64 0, .int .i64 0, .int .u64 0, .int .u64 0, .int .u64 0, .bool false, .bool false, .int .i64 0, .int .i64 0, .int .i64 0, .slice none 0 0, .slice none 0 0, .slice none 0 0] 27)) := by
  refine ⟨(Below.heap_alloc _ _ _ (AskAt.new q w).lt).trans (AskAt.new q w), ?_, two_below _ _ _⟩
  have := EvAt.new zeroEv (w.alloc (.cells #[.int .i64 q.kind, .int .u64 q.addr, .int .u64 q.val, .int .i64 q.op, .bool q.aq, .bool q.rl, .int .i64 q.pred, .int .i64 q.succ] 32))
  simp only [World.size_alloc] at this
  exact this
theorem Mk.on {q : Aq} {w W W2 : World} (h : Mk q w W) (hb : Below W.heap.size W W2) : Mk q w W2 := ⟨h.ask.on hb, h.out.on hb, h.below.trans (hb.mono h.below.size)⟩
theorem Mk.lt {q : Aq} {w W : World} (h : Mk q w W) : w.heap.size + 1 < W.heap.size := h.out.lt
def askOf (k : Int) : Int := if 1 ≤ k ∧ k ≤ 6 then k else 0
set_option maxRecDepth 100000 in
set_option maxHeartbeats 4000000 in
theorem made_bad (q : Aq) (found : Int) (w : World) (hk : ¬ (1 ≤ q.kind ∧ q.kind ≤ 6)) :
    Calls Tryd.prog 24 #[q.V, .int .u64 found] w fun e' w' => MadeIs w zeroEv 2 e' w' := by
  have M0 := Lib.hid (Mk.start q w)
  obtain ⟨W, hW⟩ : ∃ W, Hid ((w.alloc (.cells #[.int .i64 q.kind, .int .u64 q.addr, .int .u64 q.val, .int .i64 q.op, .bool q.aq, .bool q.rl, .int .i64 q.pred, .int .i64 q.succ] 32)).alloc (.cells #[.int .i64 0, .int .i64 0, .int .i64 0, .int .u64 0, .int .u64 0, .int .u64 0, .bool false, .bool false, .int .i64 0, .int .i64 0, .int .i64 0, .slice none 0 0, .slice none 0 0, .slice none 0 0] 27) = W) := ⟨_, Lib.hid rfl⟩
  rw [hW.out] at M0
  by_cases h9 : 0 ≤ q.kind ∧ q.kind < 9
  · have hc : q.kind = 0 ∨ q.kind = 7 ∨ q.kind = 8 := by omega
    clear hk h9
    rcases hc with hq | hq | hq
    all_goals
      have HQ := Lib.hid hq
      clear hq
      go_enter Tryd.func24, Tryd.ntmps24
      go_upto_region 1 with fail
      rw [hW.out]
      go_upto_region 2 with (go_at_call 41; (with_reducible refine (asked_any _).mono ?_); rintro e' w1 ⟨rfl, hb⟩; have M1 := Lib.hid ((M0.out.on hb).on (box_below w1 (.cells askedV 72))); clear hb)
      obtain ⟨hlt, f0, f1, f2, f3, f4, f5, f6, f7⟩ := M1.out.ask.facts
      rw [HQ.out] at f0
      go_wp2_with (first
        | (go_at_call 33; (with_reducible refine (within_any _ _ _).mono ?_); rintro e' w2 ⟨rfl, rfl⟩)
        | (refine store_ev M1.out.out zeroEv zeroEv_flat rfl (.tmp 4) (.tmp 21) rfl rfl rfl ?_; intro w3 D3 ho3 hb3 hz3))
      refine bodyPost_ret (made_end rfl rfl rfl D3) rfl ⟨rfl, M1.out.below.trans (hb3.mono (by omega))⟩
  · have hb9 := Lib.hid (withinB_no q.kind 9 h9)
    clear hk h9
    go_enter Tryd.func24, Tryd.ntmps24
    go_upto_region 1 with fail
    rw [hW.out]
    go_upto_region 2 with (go_at_call 41; (with_reducible refine (asked_any _).mono ?_); rintro e' w1 ⟨rfl, hb⟩; have M1 := Lib.hid ((M0.out.on hb).on (box_below w1 (.cells askedV 72))); clear hb)
    obtain ⟨hlt, f0, f1, f2, f3, f4, f5, f6, f7⟩ := M1.out.ask.facts
    go_wp2_with (first
      | (go_at_call 33; (with_reducible refine (within_any _ _ _).mono ?_); rw [hb9.out]; rintro e' w2 ⟨rfl, rfl⟩)
      | (refine store_ev M1.out.out zeroEv zeroEv_flat rfl (.tmp 4) (.tmp 21) rfl rfl rfl ?_; intro w3 D3 ho3 hb3 hz3))
    refine bodyPost_ret (made_end rfl rfl rfl D3) rfl ⟨rfl, M1.out.below.trans (hb3.mono (by omega))⟩
theorem Mk.under {q : Aq} {w W W2 : World} {B : Nat} (h : Mk q w W) (hb : Below B W W2) (hB : w.heap.size + 1 < B) : Mk q w W2 := ⟨h.ask.below hb (by omega), h.out.below hb hB, h.below.trans (hb.mono (by omega))⟩
theorem EvAt.new_at (e : Ev) (w : World) (g : Nat) (hg : w.heap.size = g) : EvAt e g (w.alloc (.cells #[.int .i64 e.hart, .int .i64 e.pos, .int .i64 e.kind, .int .u64 e.addr, .int .u64 e.load, .int .u64 e.store, .bool e.aq, .bool e.rl, .int .i64 e.pred, .int .i64 e.succ, .int .i64 e.pair, e.a, e.d, e.y] 27)) := by subst hg; exact EvAt.new e w
def kindEv (k : Int) : Ev := ⟨0, 0, k, 0, 0, 0, false, false, 0, 0, 0, .slice none 0 0, .slice none 0 0, .slice none 0 0⟩
theorem Memory_b (e : Ev) (b : Bool) (h : hasB (fieldsOf e.kind) 8 = b) (w : World) : Calls Tryd.prog 10 #[e.V] w fun e' w' => AskIs w b e' w' := by rw [← h]; exact Memory_any e w
theorem Reads_b (e : Ev) (b : Bool) (h : hasB (fieldsOf e.kind) 16 = b) (w : World) : Calls Tryd.prog 8 #[e.V] w fun e' w' => AskIs w b e' w' := by rw [← h]; exact Reads_any e w
theorem Writes_b (e : Ev) (b : Bool) (h : hasB (fieldsOf e.kind) 32 = b) (w : World) : Calls Tryd.prog 9 #[e.V] w fun e' w' => AskIs w b e' w' := by rw [← h]; exact Writes_any e w
theorem within_b (x m : Int) (b : Bool) (h : withinB x m = b) (w : World) : Calls Tryd.prog 33 #[.int .i64 x, .int .i64 m] w fun e w' => e = .returned (.bool b) ∧ w = w' := by rw [← h]; exact within_any x m w
theorem kindEv_flat (k : Int) : (kindEv k).flat := ⟨rfl, rfl, rfl⟩
/-- made's own event, in its box, beside the boxes of the call -/
structure Mo (q : Aq) (e : Ev) (g : Nat) (w W : World) : Prop where
  boxes : Mk q w W
  own : EvAt e g W
  far : w.heap.size + 1 < g
theorem Mo.on {q : Aq} {e : Ev} {g : Nat} {w W W2 : World} (h : Mo q e g w W) (hb : Below W.heap.size W W2) : Mo q e g w W2 := ⟨h.boxes.on hb, h.own.on hb, h.far⟩
/-- a store into the own event's field -/
theorem Mo.set {q : Aq} {e e2 : Ev} {g k : Nat} {v : Value} {w W : World} (h : Mo q e g w W) (he : EvAt e2 g (W.setCell ⟨g, k, none⟩ v)) : Mo q e2 g w (W.setCell ⟨g, k, none⟩ v) :=
  ⟨h.boxes.under (B := g) ((Below.refl _ _).setCell (p := ⟨g, k, none⟩) (Nat.le_refl _) v) h.far, he, h.far⟩
theorem EvAt.setc {e : Ev} {g : Nat} {W : World} (h : EvAt e g W) (k : Nat) (v : Value) : (W.setCell ⟨g, k, none⟩ v).heap[g]? = some (.cells ((#[.int .i64 e.hart, .int .i64 e.pos, .int .i64 e.kind, .int .u64 e.addr, .int .u64 e.load, .int .u64 e.store, .bool e.aq, .bool e.rl, .int .i64 e.pred, .int .i64 e.succ, .int .i64 e.pair, e.a, e.d, e.y] : Array Value).setIfInBounds k v) 27 (0, 0)) := set_at _ _ _ _ _ _ _ h
set_option maxRecDepth 100000 in
set_option maxHeartbeats 4000000 in
theorem made_fence (q : Aq) (found : Int) (w : World) (hq : q.kind = 6) :
    Calls Tryd.prog 24 #[q.V, .int .u64 found] w fun e' w' => MadeIs w ⟨0, 0, 6, 0, 0, 0, false, false, q.pred, q.succ, 0, .slice none 0 0, .slice none 0 0, .slice none 0 0⟩ 0 e' w' := by
  have M0 := Lib.hid (Mk.start q w)
  obtain ⟨W, hW⟩ : ∃ W, Hid ((w.alloc (.cells #[.int .i64 q.kind, .int .u64 q.addr, .int .u64 q.val, .int .i64 q.op, .bool q.aq, .bool q.rl, .int .i64 q.pred, .int .i64 q.succ] 32)).alloc (.cells #[.int .i64 0, .int .i64 0, .int .i64 0, .int .u64 0, .int .u64 0, .int .u64 0, .bool false, .bool false, .int .i64 0, .int .i64 0, .int .i64 0, .slice none 0 0, .slice none 0 0, .slice none 0 0] 27) = W) := ⟨_, Lib.hid rfl⟩
  rw [hW.out] at M0
  have HQ := Lib.hid hq
  clear hq
  go_enter Tryd.func24, Tryd.ntmps24
  go_upto_region 1 with fail
  rw [hW.out]
  go_upto_region 2 with (go_at_call 41; (with_reducible refine (asked_any _).mono ?_); rintro e' w1 ⟨rfl, hb⟩; have M1 := Lib.hid ((M0.out.on hb).on (box_below w1 (.cells askedV 72))); clear hb)
  obtain ⟨hlt, f0, f1, f2, f3, f4, f5, f6, f7⟩ := M1.out.ask.facts
  rw [HQ.out] at f0
  go_upto_region 5 with (first
    | (go_at_call 33; (with_reducible refine (within_b _ _ true (by decide) _).mono ?_); rintro e' w2 ⟨rfl, rfl⟩)
    | (refine store_ev (EvAt.new_at zeroEv _ (w1.heap.size + 1) (by simp)) (kindEv 6) (kindEv_flat 6) rfl (.tmp 7) (.tmp 26) rfl rfl rfl ?_; intro w3 D3 ho3 hb3 hz3; have P3 : Hid (Mo q (kindEv 6) (w1.heap.size + 1) w w3) := Lib.hid ⟨(M1.out.on (box_below _ _)).under hb3 (by have := M1.out.lt; simpa using this), D3, by have := M1.out.lt; simpa using this⟩; clear D3 ho3 hb3 hz3 hlt f0 f1 f2 f3 f4 f5 f6 f7))
  have cl := run_LoadE P3.out.own
  go_upto_region 6 with (go_at_call 10; (with_reducible refine (Memory_b _ false (by decide) _).mono ?_); rintro e' w4 ⟨rfl, hb⟩; have P4 := Lib.hid (P3.out.on hb); clear hb cl)
  obtain ⟨hlt, f0, f1, f2, f3, f4, f5, f6, f7⟩ := P4.out.boxes.ask.facts
  obtain ⟨glt, g0, g1, g2, g3, g4, g5, g6, g7, g8, g9, g10, _⟩ := P4.out.own.facts
  have z8 := P4.out.own.free 8
  have z9 := P4.out.own.free 9
  go_region
  obtain ⟨V, hV⟩ : ∃ V, Hid (((w4.setCell ⟨w1.heap.size + 1, 8, none⟩ (.int .i64 q.pred)).setCell ⟨w1.heap.size + 1, 9, none⟩ (.int .i64 q.succ)).drew = V) := ⟨_, Lib.hid rfl⟩
  have P5 : Hid (Mo q ⟨0, 0, 6, 0, 0, 0, false, false, q.pred, q.succ, 0, .slice none 0 0, .slice none 0 0, .slice none 0 0⟩ (w1.heap.size + 1) w V) := Lib.hid (by
    rw [← hV.out]
    have Q1 : Mo q ⟨0, 0, 6, 0, 0, 0, false, false, q.pred, 0, 0, .slice none 0 0, .slice none 0 0, .slice none 0 0⟩ (w1.heap.size + 1) w (w4.setCell ⟨w1.heap.size + 1, 8, none⟩ (.int .i64 q.pred)) := P4.out.set (P4.out.own.setc 8 (.int .i64 q.pred))
    have Q2 : Mo q ⟨0, 0, 6, 0, 0, 0, false, false, q.pred, q.succ, 0, .slice none 0 0, .slice none 0 0, .slice none 0 0⟩ (w1.heap.size + 1) w ((w4.setCell ⟨w1.heap.size + 1, 8, none⟩ (.int .i64 q.pred)).setCell ⟨w1.heap.size + 1, 9, none⟩ (.int .i64 q.succ)) := Q1.set (Q1.own.setc 9 (.int .i64 q.succ))
    exact Q2.on (Below.refl _ _).drew)
  rw [hV.out]
  clear hlt f0 f1 f2 f3 f4 f5 f6 f7 glt g0 g1 g2 g3 g4 g5 g6 g7 g8 g9 g10 z8 z9
  have cl := run_LoadE P5.out.own
  go_wp2_with (refine store_ev P5.out.boxes.out ⟨0, 0, 6, 0, 0, 0, false, false, q.pred, q.succ, 0, .slice none 0 0, .slice none 0 0, .slice none 0 0⟩ ⟨rfl, rfl, rfl⟩ rfl (.tmp 4) (.tmp 36) rfl rfl rfl ?_; intro w6 D6 ho6 hb6 hz6)
  refine bodyPost_ret (made_end rfl rfl rfl D6) rfl ⟨rfl, P5.out.boxes.below.trans (hb6.mono (by omega))⟩
set_option maxRecDepth 100000 in
set_option maxHeartbeats 4000000 in
theorem made_1 (q : Aq) (found : Int) (w : World) (hq : q.kind = 1) :
    Calls Tryd.prog 24 #[q.V, .int .u64 found] w fun e' w' => MadeIs w ⟨0, 0, 1, q.addr, found, 0, q.aq, q.rl, 0, 0, 0, .slice none 0 0, .slice none 0 0, .slice none 0 0⟩ 0 e' w' := by
  have M0 := Lib.hid (Mk.start q w)
  obtain ⟨W, hW⟩ : ∃ W, Hid ((w.alloc (.cells #[.int .i64 q.kind, .int .u64 q.addr, .int .u64 q.val, .int .i64 q.op, .bool q.aq, .bool q.rl, .int .i64 q.pred, .int .i64 q.succ] 32)).alloc (.cells #[.int .i64 0, .int .i64 0, .int .i64 0, .int .u64 0, .int .u64 0, .int .u64 0, .bool false, .bool false, .int .i64 0, .int .i64 0, .int .i64 0, .slice none 0 0, .slice none 0 0, .slice none 0 0] 27) = W) := ⟨_, Lib.hid rfl⟩
  rw [hW.out] at M0
  have HQ := Lib.hid hq
  clear hq
  go_enter Tryd.func24, Tryd.ntmps24
  go_upto_region 1 with fail
  rw [hW.out]
  go_upto_region 2 with (go_at_call 41; (with_reducible refine (asked_any _).mono ?_); rintro e' w1 ⟨rfl, hb⟩; have M1 := Lib.hid ((M0.out.on hb).on (box_below w1 (.cells askedV 72))); clear hb)
  obtain ⟨hlt, f0, f1, f2, f3, f4, f5, f6, f7⟩ := M1.out.ask.facts
  rw [HQ.out] at f0
  go_upto_region 5 with (first
    | (go_at_call 33; (with_reducible refine (within_b _ _ true (by decide) _).mono ?_); rintro e' w2 ⟨rfl, rfl⟩)
    | (refine store_ev (EvAt.new_at zeroEv _ (w1.heap.size + 1) (by simp)) (kindEv 1) (kindEv_flat 1) rfl (.tmp 7) (.tmp 26) rfl rfl rfl ?_; intro w3 D3 ho3 hb3 hz3; have P3 : Hid (Mo q (kindEv 1) (w1.heap.size + 1) w w3) := Lib.hid ⟨(M1.out.on (box_below _ _)).under hb3 (by have := M1.out.lt; simpa using this), D3, by have := M1.out.lt; simpa using this⟩; clear D3 ho3 hb3 hz3 hlt f0 f1 f2 f3 f4 f5 f6 f7))
  have cl := run_LoadE P3.out.own
  go_upto_region 8 with (go_at_call 10; (with_reducible refine (Memory_b _ true (by decide) _).mono ?_); rintro e' w4 ⟨rfl, hb⟩; have P4 := Lib.hid (P3.out.on hb); clear hb cl)
  obtain ⟨hlt, f0, f1, f2, f3, f4, f5, f6, f7⟩ := P4.out.boxes.ask.facts
  obtain ⟨glt, g0, g1, g2, g3, g4, g5, g6, g7, g8, g9, g10, _⟩ := P4.out.own.facts
  have z3 := P4.out.own.free 3
  have z6 := P4.out.own.free 6
  have z7 := P4.out.own.free 7
  go_region
  obtain ⟨V, hV⟩ : ∃ V, Hid ((((w4.setCell ⟨w1.heap.size + 1, 3, none⟩ (.int .u64 q.addr)).setCell ⟨w1.heap.size + 1, 6, none⟩ (.bool q.aq)).setCell ⟨w1.heap.size + 1, 7, none⟩ (.bool q.rl)).drew = V) := ⟨_, Lib.hid rfl⟩
  have P5 : Hid (Mo q ⟨0, 0, 1, q.addr, 0, 0, q.aq, q.rl, 0, 0, 0, .slice none 0 0, .slice none 0 0, .slice none 0 0⟩ (w1.heap.size + 1) w V) := Lib.hid (by
    rw [← hV.out]
    have Q1 : Mo q ⟨0, 0, 1, q.addr, 0, 0, false, false, 0, 0, 0, .slice none 0 0, .slice none 0 0, .slice none 0 0⟩ (w1.heap.size + 1) w (w4.setCell ⟨w1.heap.size + 1, 3, none⟩ (.int .u64 q.addr)) := P4.out.set (P4.out.own.setc 3 (.int .u64 q.addr))
    have Q2 : Mo q ⟨0, 0, 1, q.addr, 0, 0, q.aq, false, 0, 0, 0, .slice none 0 0, .slice none 0 0, .slice none 0 0⟩ (w1.heap.size + 1) w ((w4.setCell ⟨w1.heap.size + 1, 3, none⟩ (.int .u64 q.addr)).setCell ⟨w1.heap.size + 1, 6, none⟩ (.bool q.aq)) := Q1.set (Q1.own.setc 6 (.bool q.aq))
    have Q3 : Mo q ⟨0, 0, 1, q.addr, 0, 0, q.aq, q.rl, 0, 0, 0, .slice none 0 0, .slice none 0 0, .slice none 0 0⟩ (w1.heap.size + 1) w (((w4.setCell ⟨w1.heap.size + 1, 3, none⟩ (.int .u64 q.addr)).setCell ⟨w1.heap.size + 1, 6, none⟩ (.bool q.aq)).setCell ⟨w1.heap.size + 1, 7, none⟩ (.bool q.rl)) := Q2.set (Q2.own.setc 7 (.bool q.rl))
    exact Q3.on (Below.refl _ _).drew)
  rw [hV.out]
  clear hlt f0 f1 f2 f3 f4 f5 f6 f7 glt g0 g1 g2 g3 g4 g5 g6 g7 g8 g9 g10 z3 z6 z7
  have cl := run_LoadE P5.out.own
  go_upto_region 11 with (go_at_call 8; (with_reducible refine (Reads_b _ true (by show hasB (fieldsOf 1) 16 = true; decide) _).mono ?_); rintro e' w6 ⟨rfl, hb⟩; have P6 := Lib.hid (P5.out.on hb); clear hb cl; obtain ⟨glt, g0, g1, g2, g3, g4, g5, g6, g7, g8, g9, g10, _⟩ := P6.out.own.facts; have z4 := P6.out.own.free 4)
  obtain ⟨V2, hV2⟩ : ∃ V2, Hid (w6.setCell ⟨w1.heap.size + 1, 4, none⟩ (.int .u64 found) = V2) := ⟨_, Lib.hid rfl⟩
  have P7 : Hid (Mo q ⟨0, 0, 1, q.addr, found, 0, q.aq, q.rl, 0, 0, 0, .slice none 0 0, .slice none 0 0, .slice none 0 0⟩ (w1.heap.size + 1) w V2) := Lib.hid (by rw [← hV2.out]; exact P6.out.set (P6.out.own.setc 4 (.int .u64 found)))
  rw [hV2.out]
  clear glt g0 g1 g2 g3 g4 g5 g6 g7 g8 g9 g10 z4
  have cl := run_LoadE P7.out.own
  go_upto_region 14 with (go_at_call 9; (with_reducible refine (Writes_b _ false (by show hasB (fieldsOf 1) 32 = false; decide) _).mono ?_); rintro e' w8 ⟨rfl, hb⟩; have P8 := Lib.hid (P7.out.on hb); clear hb cl; obtain ⟨glt, g0, g1, g2, g3, g4, g5, g6, g7, g8, g9, g10, _⟩ := P8.out.own.facts; have z5 := P8.out.own.free 5; obtain ⟨hlt, f0, f1, f2, f3, f4, f5, f6, f7⟩ := P8.out.boxes.ask.facts)
  clear glt g0 g1 g2 g3 g4 g5 g6 g7 g8 g9 g10 z5 hlt f0 f1 f2 f3 f4 f5 f6 f7
  have cl := run_LoadE P8.out.own
  go_wp2_with (refine store_ev P8.out.boxes.out ⟨0, 0, 1, q.addr, found, 0, q.aq, q.rl, 0, 0, 0, .slice none 0 0, .slice none 0 0, .slice none 0 0⟩ ⟨rfl, rfl, rfl⟩ rfl (.tmp 4) (.tmp 58) rfl rfl rfl ?_; intro w9 D6 ho6 hb6 hz6)
  refine bodyPost_ret (made_end rfl rfl rfl D6) rfl ⟨rfl, P8.out.boxes.below.trans (hb6.mono (by omega))⟩
end Go.Proofs.YtjdfhohchicgbaaDoor
