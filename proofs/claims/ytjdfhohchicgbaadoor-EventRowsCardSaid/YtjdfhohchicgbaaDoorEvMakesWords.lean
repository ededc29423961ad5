/-
  Words: the boxes of the law EventMakes; what an event has to have that is made of an ask. No condition.
-/
import Derived.Test.YtjdfhohchicgbaaDoorEvOf
import Derived.Test.YtjdfhohchicgbaaDoorEvLives
namespace Go.Proofs.YtjdfhohchicgbaaDoor
open Go.RowKit
attribute [local go_sem ↓] fold_E fold_SE fold_A

/-- the boxes of a call of the law: the ask, the deps -/
structure Ms (q : Aq) (va vd vy : Value) (al dl yl : List Int) (w W : World) : Prop where
  ask : AskAt q w.heap.size W
  deps : DAt va vd vy (w.heap.size + 1) W
  below : Below w.heap.size w W
  here : ReadsI w va al ∧ ReadsI w vd dl ∧ ReadsI w vy yl
theorem Ms.on {q : Aq} {va vd vy : Value} {al dl yl : List Int} {w W W2 : World} (h : Ms q va vd vy al dl yl w W) (hb : Below W.heap.size W W2) : Ms q va vd vy al dl yl w W2 := ⟨h.ask.on hb, h.deps.on hb, h.below.trans (hb.mono h.below.size), h.here⟩
theorem Ms.drew {q : Aq} {va vd vy : Value} {al dl yl : List Int} {w W : World} (h : Ms q va vd vy al dl yl w W) : Ms q va vd vy al dl yl w W.drew := h.on (Below.refl _ _).drew
theorem Ms.start (q : Aq) (va vd vy : Value) (al dl yl : List Int) (w : World) (h : ReadsI w va al ∧ ReadsI w vd dl ∧ ReadsI w vy yl) : Ms q va vd vy al dl yl w ((w.alloc (.cells #[.int .i64 q.kind, .int .u64 q.addr, .int .u64 q.val, .int .i64 q.op, .bool q.aq, .bool q.rl, .int .i64 q.pred, .int .i64 q.succ] 32)).alloc (.cells #[va, vd, vy] 25)) := by
  have D1 := DAt.new va vd vy (w.alloc (.cells #[.int .i64 q.kind, .int .u64 q.addr, .int .u64 q.val, .int .i64 q.op, .bool q.aq, .bool q.rl, .int .i64 q.pred, .int .i64 q.succ] 32))
  simp only [World.size_alloc] at D1
  exact ⟨(Below.heap_alloc _ _ _ (AskAt.new q w).lt).trans (AskAt.new q w), D1, two_below _ _ _, h⟩
/-- a store into the ask -/
theorem Ms.set {q q2 : Aq} {va vd vy : Value} {al dl yl : List Int} {k : Nat} {v : Value} {w W : World} (h : Ms q va vd vy al dl yl w W) (he : AskAt q2 w.heap.size (W.setCell ⟨w.heap.size, k, none⟩ v)) : Ms q2 va vd vy al dl yl w (W.setCell ⟨w.heap.size, k, none⟩ v) :=
  ⟨he, (Below.heap_setCell W _ v _ (by show w.heap.size + 1 ≠ w.heap.size; omega)).trans h.deps, h.below.setCell (by show w.heap.size ≤ w.heap.size; omega) v, h.here⟩
theorem AskAt.setc {q : Aq} {g : Nat} {W : World} (h : AskAt q g W) (k : Nat) (v : Value) : (W.setCell ⟨g, k, none⟩ v).heap[g]? = some (.cells ((#[.int .i64 q.kind, .int .u64 q.addr, .int .u64 q.val, .int .i64 q.op, .bool q.aq, .bool q.rl, .int .i64 q.pred, .int .i64 q.succ] : Array Value).setIfInBounds k v) 32 (0, 0)) := set_at _ _ _ _ _ _ _ h
theorem Ms.ra {q : Aq} {va vd vy : Value} {al dl yl : List Int} {w W : World} (h : Ms q va vd vy al dl yl w W) : ReadsI W va al := h.here.1.below h.below
theorem Ms.rd {q : Aq} {va vd vy : Value} {al dl yl : List Int} {w W : World} (h : Ms q va vd vy al dl yl w W) : ReadsI W vd dl := h.here.2.1.below h.below
theorem Ms.ry {q : Aq} {va vd vy : Value} {al dl yl : List Int} {w W : World} (h : Ms q va vd vy al dl yl w W) : ReadsI W vy yl := h.here.2.2.below h.below
theorem pickI_lt (n m : Int) (hm : 1 ≤ m) : 0 ≤ pickI n m ∧ pickI n m < m := by
  unfold pickI
  rw [if_neg (by omega)]
  exact ⟨Int.emod_nonneg _ (by omega), Int.emod_lt_of_pos _ (by omega)⟩
theorem Pick_fit (n : Int) (hn : -9223372036854775808 ≤ n ∧ n ≤ 9223372036854775807) (m : Int) (hm : m ≤ 9223372036854775807) (w : World) : Calls Tryd.prog 15 #[.int .i64 n, .int .i64 m] w fun e w' => e = .returned (.int .i64 (pickI n m)) ∧ w = w' := Pick_any n m hn.1 hn.2 hm w
theorem Ms.f4 {q : Aq} {va vd vy : Value} {al dl yl : List Int} {w W : World} (h : Ms q va vd vy al dl yl w W) : (LoadA (.pointer (some ⟨w.heap.size, 0, none⟩))).run Tryd.prog W = .ok q.V W ∧ W.cell? ⟨w.heap.size + 1, 0, none⟩ = some va ∧ W.cell? ⟨w.heap.size + 1, 1, none⟩ = some vd ∧ W.cell? ⟨w.heap.size + 1, 2, none⟩ = some vy :=
  ⟨run_LoadA h.ask, h.deps.facts.2.1, h.deps.facts.2.2.1, h.deps.facts.2.2.2.1⟩
/-- behind an event's new box, and behind its store -/
theorem Ms.boxed {q : Aq} {va vd vy : Value} {al dl yl : List Int} {w W : World} (h : Ms q va vd vy al dl yl w W) (o : Obj) : Ms q va vd vy al dl yl w (W.alloc o) := h.on (box_below _ _)
theorem Ms.stored {q : Aq} {va vd vy : Value} {al dl yl : List Int} {w W : World} (h : Ms q va vd vy al dl yl w W) (o : Obj) (cs : Array Value) : Ms q va vd vy al dl yl w ((W.alloc o).setRow W.heap.size cs) := h.on ((box_below _ _).trans below_setRow)
theorem Ms.rowed {q : Aq} {va vd vy : Value} {al dl yl : List Int} {w W : World} (h : Ms q va vd vy al dl yl w W) (g : Nat) (hg : w.heap.size + 1 < g) (cs : Array Value) : Ms q va vd vy al dl yl w (W.setRow g cs) :=
  ⟨(setRow_other _ _ _ _ (by omega)).trans h.ask, (setRow_other _ _ _ _ (by omega)).trans h.deps, h.below.trans (below_setRow.mono (by omega)), h.here⟩
theorem Ms.lt {q : Aq} {va vd vy : Value} {al dl yl : List Int} {w W : World} (h : Ms q va vd vy al dl yl w W) : w.heap.size + 1 < W.heap.size := h.deps.lt
/-- the law's event, made, in its box -/
structure Mf (q : Aq) (va vd vy : Value) (al dl yl : List Int) (e : Ev) (l : El) (g : Nat) (w W : World) : Prop where
  ms : Ms q va vd vy al dl yl w W
  own : EvAt e g W
  reads : EReads W e l
  far : w.heap.size + 1 < g
theorem Mf.on {q : Aq} {va vd vy : Value} {al dl yl : List Int} {e : Ev} {l : El} {g : Nat} {w W W2 : World} (h : Mf q va vd vy al dl yl e l g w W) (hb : Below W.heap.size W W2) : Mf q va vd vy al dl yl e l g w W2 := ⟨h.ms.on hb, h.own.on hb, h.reads.below hb, h.far⟩
theorem reads_rowed {W : World} {v : Value} {zs : List Int} {g : Nat} {cs : Array Value} (h : ReadsI W v zs) (hg : zs = [] ∨ v.ownBlock ≠ some g) : ReadsI (W.setRow g cs) v zs := by
  rcases h with h0 | ⟨b, off, c, e, h2, h3, h4, h5⟩
  · exact .inl h0
  · subst e
    rcases hg with rfl | hg
    · exact .inl ⟨⟨_, _, rfl, fun e => by cases e⟩, rfl⟩
    have hbn : b ≠ g := fun e => hg (by simp [Value.ownBlock, e])
    refine .inr ⟨b, off, c, rfl, h2, h3, by simpa using h4, fun j hj => ?_⟩
    rw [← h5 j hj]
    exact World.cell?_of_block (setRow_other _ _ _ _ (by show b ≠ g; exact hbn))
/-- lists that are not in block g -/
def Off (g : Nat) (e : Ev) (l : El) : Prop := (l.a = [] ∨ e.a.ownBlock ≠ some g) ∧ (l.d = [] ∨ e.d.ownBlock ≠ some g) ∧ (l.y = [] ∨ e.y.ownBlock ≠ some g)
theorem Mf.of {q : Aq} {va vd vy : Value} {al dl yl : List Int} {e : Ev} {l : El} {g : Nat} {w W : World} (h : Ms q va vd vy al dl yl w W) (h0 : EvAt zeroEv g W) (hr : EReads W e l) (ho : Off g e l) (hg : w.heap.size + 1 < g) : Mf q va vd vy al dl yl e l g w (W.setRow g #[.int .i64 e.hart, .int .i64 e.pos, .int .i64 e.kind, .int .u64 e.addr, .int .u64 e.load, .int .u64 e.store, .bool e.aq, .bool e.rl, .int .i64 e.pred, .int .i64 e.succ, .int .i64 e.pair, e.a, e.d, e.y]) :=
  ⟨h.rowed g hg _, h0.set, ⟨reads_rowed hr.1 ho.1, reads_rowed hr.2.1 ho.2.1, reads_rowed hr.2.2 ho.2.2⟩, hg⟩
theorem EReads.ra {w : World} {e : Ev} {l : El} (h : EReads w e l) : ReadsI w e.a l.a := h.1
theorem EReads.rd {w : World} {e : Ev} {l : El} (h : EReads w e l) : ReadsI w e.d l.d := h.2.1
theorem EReads.ry {w : World} {e : Ev} {l : El} (h : EReads w e l) : ReadsI w e.y l.y := h.2.2
theorem off_new {n g : Nat} {w : World} {v : Value} {zs : List Int} (h : ReadsN n w v zs) (hg : g < n) : zs = [] ∨ v.ownBlock ≠ some g := .inr fun e => absurd (h.2 g e) (by omega)
/-- lists that were there do not lie in a block that is new -/
theorem off_old {w : World} {v : Value} {zs : List Int} (h : ReadsI w v zs) : zs = [] ∨ v.ownBlock ≠ some w.heap.size := by
  rcases h with ⟨_, rfl⟩ | ⟨b, off, c, rfl, _, _, h4, _⟩
  · exact .inl rfl
  · right
    intro e
    simp [Value.ownBlock] at e
    omega
/-- what the law takes: numbers of 64 bits -/
structure Fit (hart pos found : Int) (q : Aq) : Prop where
  h : -9223372036854775808 ≤ hart ∧ hart ≤ 9223372036854775807
  p : -9223372036854775808 ≤ pos ∧ pos ≤ 9223372036854775807
  f : 0 ≤ found ∧ found < 18446744073709551616
  ok : q.ok
  pr : -9223372036854775808 ≤ q.pred ∧ q.pred ≤ 9223372036854775807
  su : -9223372036854775808 ≤ q.succ ∧ q.succ ≤ 9223372036854775807
end Go.Proofs.YtjdfhohchicgbaaDoor
