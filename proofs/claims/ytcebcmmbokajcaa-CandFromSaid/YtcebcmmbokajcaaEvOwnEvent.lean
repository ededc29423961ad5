/-
  Proved here: the kit's OwnEvent: an event with lists of its own, which lie in rows of ints; nothing that was there is changed. Condition: lists of at most 100,000 numbers.
-/
import Derived.Test.YtcebcmmbokajcaaEvOwned
import Derived.Test.YtcebcmmbokajcaaEvMakesWords
import Derived.Test.YtcebcmmbokajcaaEvMade
import Derived.Test.YtcebcmmbokajcaaEvOf
namespace Go.Proofs.Ytcebcmmbokajcaa
set_option linter.unusedVariables false
set_option linter.unusedSimpArgs false
open Go.RowKit
attribute [local go_sem ↓] fold_E fold_SE

/-- the event with other lists -/
abbrev Ev.lists (e : Ev) (a d y : Value) : Ev := ⟨e.hart, e.pos, e.kind, e.addr, e.load, e.store, e.aq, e.rl, e.pred, e.succ, e.pair, a, d, y⟩
def OneIs (w : World) (e : Ev) (l : El) (e' : Ending) (w' : World) : Prop := ∃ a d y, e' = .returned (e.lists a d y).V ∧ DepsN w.heap.size w' a d y l.a l.d l.y ∧ TypedD w' a d y ∧ Below w.heap.size w w'
theorem ev_end {fn : Func} {tmps : Array Value} {p : Tmp} {e : Ev} {n : Nat} {w : World} (h : fn.results = #[.cell p 50]) (hp : tmps.getD p undef = .pointer (some ⟨n, 0, none⟩)) (H : EvAt e n w) :
    (results fn tmps).run Try.prog w = .ok e.V w :=
  results_cell_row h tmps w n _ _ (0, 0) _ hp H Try.underlying50 rfl (by as_aux_lemma => kernel_rfl)
/-- the boxes of a call: the event, the result -/
structure On (e r : Ev) (w W : World) : Prop where
  box : EvAt e w.heap.size W
  res : EvAt r (w.heap.size + 1) W
  below : Below w.heap.size w W
theorem On.on {e r : Ev} {w W W2 : World} (h : On e r w W) (hb : Below W.heap.size W W2) : On e r w W2 := ⟨h.box.on hb, h.res.on hb, h.below.trans (hb.mono h.below.size)⟩
theorem On.start (e : Ev) (w : World) : On e zeroEv w ((w.alloc (.cells #[.int .i64 e.hart, .int .i64 e.pos, .int .i64 e.kind, .int .u64 e.addr, .int .u64 e.load, .int .u64 e.store, .bool e.aq, .bool e.rl, .int .i64 e.pred, .int .i64 e.succ, .int .i64 e.pair, e.a, e.d, e.y] 50)).alloc (.cells #[.int .i64 0, .int .i64 0, .int .i64 0, .int .u64 0, .int .u64 0, .int .u64 0, .bool false, .bool false, .int .i64 0, .int .i64 0, .int .i64 0, .slice none 0 0, .slice none 0 0, .slice none 0 0] 50)) :=
  ⟨(EvAt.new e w).alloc _, EvAt.new_at zeroEv _ _ (by simp), two_below _ _ _⟩
theorem On.set {e r e2 : Ev} {k : Nat} {v : Value} {w W : World} (h : On e r w W) (he : EvAt e2 w.heap.size (W.setCell ⟨w.heap.size, k, none⟩ v)) : On e2 r w (W.setCell ⟨w.heap.size, k, none⟩ v) :=
  ⟨he, (Below.heap_setCell W ⟨w.heap.size, k, none⟩ v _ (by show w.heap.size + 1 ≠ w.heap.size; omega)).trans h.res, h.below.setCell (p := ⟨w.heap.size, k, none⟩) (Nat.le_refl _) v⟩
theorem typed_set {W : World} {n g k : Nat} {v x : Value} {zs : List Int} (h : TypedI W v) (hr : ReadsN n W v zs) (hg : g < n) : TypedI (W.setCell ⟨g, k, none⟩ x) v := fun j hj => by
  obtain ⟨c, hc⟩ := h j hj
  exact ⟨c, (Below.heap_setCell W ⟨g, k, none⟩ x j (by show j ≠ g; have := hr.2 j hj; omega)).trans hc⟩
theorem typed_but {W w9 : World} {n B : Nat} {v : Value} {zs : List Int} (h : TypedI W v) (hr : ReadsN B W v zs) (hn : n < B) (ho : ∀ j, j ≠ n → w9.heap[j]? = W.heap[j]?) : TypedI w9 v := fun j hj => by
  obtain ⟨c, hc⟩ := h j hj
  exact ⟨c, (ho j (by have := hr.2 j hj; omega)).trans hc⟩
set_option maxRecDepth 100000 in
set_option maxHeartbeats 4000000 in
theorem ownEvent_any (e : Ev) (l : El) (w : World) (h : EReads w e l) (hn : l.n) : Calls Try.prog 45 #[e.V] w fun e' w' => OneIs w e l e' w' := by
  have S0 := Lib.hid (On.start e w)
  have HR := Lib.hid h
  have HA : Hid (l.a.length ≤ 100000) := Lib.hid hn.1
  have HD : Hid (l.d.length ≤ 100000) := Lib.hid hn.2.1
  have HY : Hid (l.y.length ≤ 100000) := Lib.hid hn.2.2
  obtain ⟨x1, y1, e1⟩ := h.1.len
  obtain ⟨x2, y2, e2⟩ := h.2.1.len
  obtain ⟨x3, y3, e3⟩ := h.2.2.len
  have K := Lib.hid (fun w0 (hb : Below w.heap.size w w0) => ownDepsT_any e.a e.d e.y l.a l.d l.y w0 (HR.out.1.below hb) (HR.out.2.1.below hb) (HR.out.2.2.below hb) HA.out HD.out HY.out)
  rw [e1, e2, e3] at K
  have E1 := Lib.hid e1
  have E2 := Lib.hid e2
  have E3 := Lib.hid e3
  clear h hn e1 e2 e3
  go_enter Try.func45, Try.ntmps45
  go_upto_region 1 with fail
  obtain ⟨W, hW⟩ : ∃ W, Hid (((w.alloc (.cells #[.int .i64 e.hart, .int .i64 e.pos, .int .i64 e.kind, .int .u64 e.addr, .int .u64 e.load, .int .u64 e.store, .bool e.aq, .bool e.rl, .int .i64 e.pred, .int .i64 e.succ, .int .i64 e.pair, e.a, e.d, e.y] 50)).alloc (.cells #[.int .i64 0, .int .i64 0, .int .i64 0, .int .u64 0, .int .u64 0, .int .u64 0, .bool false, .bool false, .int .i64 0, .int .i64 0, .int .i64 0, .slice none 0 0, .slice none 0 0, .slice none 0 0] 50)) = W) := ⟨_, Lib.hid rfl⟩
  rw [hW.out] at S0 ⊢
  clear hW
  obtain ⟨glt, g0, g1, g2, g3, g4, g5, g6, g7, g8, g9, g10, g11, g12, g13⟩ := S0.out.box.facts
  rw [E1.out] at g11
  rw [E2.out] at g12
  rw [E3.out] at g13
  go_upto_region 2 with (go_at_call 69; (with_reducible refine (K.out _ S0.out.below).mono ?_); rintro e' w1 ⟨va, vd, vy, rfl, hd, ht, hb⟩; obtain ⟨a1, c1, rfl⟩ := hd.1.1.len; obtain ⟨a2, c2, rfl⟩ := hd.2.1.1.len; obtain ⟨a3, c3, rfl⟩ := hd.2.2.1.len; have S1 := Lib.hid (S0.out.on hb); have D1 := Lib.hid hd; have T1 := Lib.hid ht; have L1 := Lib.hid S0.out.res.lt; clear hd hb ht glt g0 g1 g2 g3 g4 g5 g6 g7 g8 g9 g10 g11 g12 g13; obtain ⟨glt, g0, g1, g2, g3, g4, g5, g6, g7, g8, g9, g10, g11, g12, g13⟩ := S1.out.box.facts; have z11 := S1.out.box.free 11; have z12 := S1.out.box.free 12; have z13 := S1.out.box.free 13)
  obtain ⟨Y, hY⟩ : ∃ Y, Hid ((((w1.setCell ⟨w.heap.size, 11, none⟩ (.slice a1 l.a.length c1)).setCell ⟨w.heap.size, 12, none⟩ (.slice a2 l.d.length c2)).setCell ⟨w.heap.size, 13, none⟩ (.slice a3 l.y.length c3)) = Y) := ⟨_, Lib.hid rfl⟩
  have S2 : Hid (On (e.lists (.slice a1 l.a.length c1) (.slice a2 l.d.length c2) (.slice a3 l.y.length c3)) zeroEv w Y) := Lib.hid (by
    rw [← hY.out]
    have Q1 : On (e.lists (.slice a1 l.a.length c1) e.d e.y) zeroEv w (w1.setCell ⟨w.heap.size, 11, none⟩ (.slice a1 l.a.length c1)) := S1.out.set (S1.out.box.setc 11 (.slice a1 l.a.length c1))
    have Q2 : On (e.lists (.slice a1 l.a.length c1) (.slice a2 l.d.length c2) e.y) zeroEv w ((w1.setCell ⟨w.heap.size, 11, none⟩ (.slice a1 l.a.length c1)).setCell ⟨w.heap.size, 12, none⟩ (.slice a2 l.d.length c2)) := Q1.set (Q1.box.setc 12 (.slice a2 l.d.length c2))
    exact Q2.set (Q2.box.setc 13 (.slice a3 l.y.length c3)))
  have far : ∀ v zs, ReadsN W.heap.size w1 v zs → TypedI w1 v → ReadsN W.heap.size Y v zs ∧ TypedI Y v := fun v zs hv ht => by
    have hlt : w.heap.size < W.heap.size := by have := L1.out; omega
    have q1 := hv.far (k := 11) (.slice a1 l.a.length c1) hlt
    have t1 := typed_set (k := 11) (x := (.slice a1 l.a.length c1)) ht hv hlt
    have q2 := q1.far (k := 12) (.slice a2 l.d.length c2) hlt
    have t2 := typed_set (k := 12) (x := (.slice a2 l.d.length c2)) t1 q1 hlt
    have q3 := q2.far (k := 13) (.slice a3 l.y.length c3) hlt
    have t3 := typed_set (k := 13) (x := (.slice a3 l.y.length c3)) t2 q2 hlt
    rw [← hY.out]
    exact ⟨q3, t3⟩
  have D2 := Lib.hid (show DepsN W.heap.size Y (.slice a1 l.a.length c1) (.slice a2 l.d.length c2) (.slice a3 l.y.length c3) l.a l.d l.y from ⟨(far _ _ D1.out.1 T1.out.1).1, (far _ _ D1.out.2.1 T1.out.2.1).1, (far _ _ D1.out.2.2 T1.out.2.2).1⟩)
  have T2 := Lib.hid (show TypedD Y (.slice a1 l.a.length c1) (.slice a2 l.d.length c2) (.slice a3 l.y.length c3) from ⟨(far _ _ D1.out.1 T1.out.1).2, (far _ _ D1.out.2.1 T1.out.2.1).2, (far _ _ D1.out.2.2 T1.out.2.2).2⟩)
  rw [hY.out]
  clear hY far glt g0 g1 g2 g3 g4 g5 g6 g7 g8 g9 g10 g11 g12 g13 z11 z12 z13 S1 D1 T1
  have cl := run_LoadE S2.out.box
  go_wp2_with (refine store_ev S2.out.res (e.lists (.slice a1 l.a.length c1) (.slice a2 l.d.length c2) (.slice a3 l.y.length c3)) ⟨rfl, rfl, rfl⟩ rfl (.tmp 2) (.tmp 7) rfl rfl rfl ?_; intro w3 D3 ho3 hb3 hz3)
  refine bodyPost_ret (ev_end rfl rfl D3) rfl ⟨_, _, _, rfl, ⟨reads_but D2.out.1 L1.out (by have := L1.out; omega) ho3 hz3, reads_but D2.out.2.1 L1.out (by have := L1.out; omega) ho3 hz3, reads_but D2.out.2.2 L1.out (by have := L1.out; omega) ho3 hz3⟩, ⟨typed_but T2.out.1 D2.out.1 L1.out ho3, typed_but T2.out.2.1 D2.out.2.1 L1.out ho3, typed_but T2.out.2.2 D2.out.2.2 L1.out ho3⟩, S2.out.below.trans (hb3.mono (by omega))⟩
end Go.Proofs.Ytcebcmmbokajcaa
