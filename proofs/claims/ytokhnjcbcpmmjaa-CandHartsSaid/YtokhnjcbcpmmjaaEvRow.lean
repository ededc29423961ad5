/-
  Proved here: event's Row tells whether a list is a hart's row; nothing that was there is changed. Condition: at most 1,000 events, lists of at most 100,000 numbers.
  (With it: Proved here: the kit's OwnEvent: an event with lists of its own, which lie in rows of ints; nothing that was there is changed. Condition: lists of at most 100,000 numbers.)
-/
import Derived.Test.YtokhnjcbcpmmjaaEvKit
import Derived.Test.YtokhnjcbcpmmjaaEvMakesWords
import Derived.Test.YtokhnjcbcpmmjaaEvMade
import Derived.Test.YtokhnjcbcpmmjaaEvDeps
import Derived.Deep.QuietTactic
import Derived.BigQuiet
import Derived.Deep.CutBlock
import Derived.Outline
namespace Go.Proofs.Ytokhnjcbcpmmjaa
set_option linter.unusedVariables false
set_option linter.unusedSimpArgs false
open Go.RowKit
attribute [local go_sem ↓] fold_E fold_SE

/-- the event with other lists -/
abbrev Ev.lists (e : Ev) (a d y : Value) : Ev := ⟨e.hart, e.pos, e.kind, e.addr, e.load, e.store, e.aq, e.rl, e.pred, e.succ, e.pair, a, d, y⟩
def OneIs (w : World) (e : Ev) (l : El) (e' : Ending) (w' : World) : Prop := ∃ a d y, e' = .returned (e.lists a d y).V ∧ DepsN w.heap.size w' a d y l.a l.d l.y ∧ TypedD w' a d y ∧ Below w.heap.size w w'
theorem ev_end {fn : Func} {tmps : Array Value} {p : Tmp} {e : Ev} {n : Nat} {w : World} (h : fn.results = #[.cell p 42]) (hp : tmps.getD p undef = .pointer (some ⟨n, 0, none⟩)) (H : EvAt e n w) :
    (results fn tmps).run Try.prog w = .ok e.V w :=
  results_cell_row h tmps w n _ _ (0, 0) _ hp H Try.underlying42 rfl (by as_aux_lemma => kernel_rfl)
/-- the boxes of a call: the event, the result -/
structure On (e r : Ev) (w W : World) : Prop where
  box : EvAt e w.heap.size W
  res : EvAt r (w.heap.size + 1) W
  below : Below w.heap.size w W
theorem On.on {e r : Ev} {w W W2 : World} (h : On e r w W) (hb : Below W.heap.size W W2) : On e r w W2 := ⟨h.box.on hb, h.res.on hb, h.below.trans (hb.mono h.below.size)⟩
theorem On.start (e : Ev) (w : World) : On e zeroEv w ((w.alloc (.cells #[.int .i64 e.hart, .int .i64 e.pos, .int .i64 e.kind, .int .u64 e.addr, .int .u64 e.load, .int .u64 e.store, .bool e.aq, .bool e.rl, .int .i64 e.pred, .int .i64 e.succ, .int .i64 e.pair, e.a, e.d, e.y] 42)).alloc (.cells #[.int .i64 0, .int .i64 0, .int .i64 0, .int .u64 0, .int .u64 0, .int .u64 0, .bool false, .bool false, .int .i64 0, .int .i64 0, .int .i64 0, .slice none 0 0, .slice none 0 0, .slice none 0 0] 42)) :=
  ⟨(EvAt.new e w).alloc _, EvAt.new_at zeroEv _ _ (by simp), two_below _ _ _⟩
theorem On.set {e r e2 : Ev} {k : Nat} {v : Value} {w W : World} (h : On e r w W) (he : EvAt e2 w.heap.size (W.setCell ⟨w.heap.size, k, none⟩ v)) : On e2 r w (W.setCell ⟨w.heap.size, k, none⟩ v) :=
  ⟨he, (Below.heap_setCell W ⟨w.heap.size, k, none⟩ v _ (by show w.heap.size + 1 ≠ w.heap.size; omega)).trans h.res, h.below.setCell (p := ⟨w.heap.size, k, none⟩) (Nat.le_refl _) v⟩
theorem typed_set {W : World} {n g k : Nat} {v x : Value} {zs : List Int} (h : TypedI W v) (hr : ReadsN n W v zs) (hg : g < n) : TypedI (W.setCell ⟨g, k, none⟩ x) v := fun j hj => by
  obtain ⟨c, hc⟩ := h j hj
  exact ⟨c, (Below.heap_setCell W ⟨g, k, none⟩ x j (by show j ≠ g; have := hr.2 j hj; omega)).trans hc⟩
theorem typed_but {W w9 : World} {n B : Nat} {v : Value} {zs : List Int} (h : TypedI W v) (hr : ReadsN B W v zs) (hn : n < B) (ho : ∀ j, j ≠ n → w9.heap[j]? = W.heap[j]?) : TypedI w9 v := fun j hj => by
  obtain ⟨c, hc⟩ := h j hj
  exact ⟨c, (ho j (by have := hr.2 j hj; omega)).trans hc⟩
set_option maxRecDepth 100000 in
set_option maxHeartbeats 4000000 in
theorem ownEvent_any (e : Ev) (l : El) (w : World) (h : EReads w e l) (hn : l.n) : Calls Try.prog 16 #[e.V] w fun e' w' => OneIs w e l e' w' := by
  have S0 := Lib.hid (On.start e w)
  have HR := Lib.hid h
  have HA : Hid (l.a.length ≤ 100000) := Lib.hid hn.1
  have HD : Hid (l.d.length ≤ 100000) := Lib.hid hn.2.1
  have HY : Hid (l.y.length ≤ 100000) := Lib.hid hn.2.2
  obtain ⟨x1, y1, e1⟩ := h.1.len
  obtain ⟨x2, y2, e2⟩ := h.2.1.len
  obtain ⟨x3, y3, e3⟩ := h.2.2.len
  have K := Lib.hid (fun w0 (hb : Below w.heap.size w w0) => ownDepsT_any e.a e.d e.y l.a l.d l.y w0 (HR.out.1.below hb) (HR.out.2.1.below hb) (HR.out.2.2.below hb) HA.out HD.out HY.out)
  rw [e1, e2, e3] at K
  have E1 := Lib.hid e1
  have E2 := Lib.hid e2
  have E3 := Lib.hid e3
  clear h hn e1 e2 e3
  go_enter Try.func16, Try.ntmps16
  go_upto_region 1 with fail
  obtain ⟨W, hW⟩ : ∃ W, Hid (((w.alloc (.cells #[.int .i64 e.hart, .int .i64 e.pos, .int .i64 e.kind, .int .u64 e.addr, .int .u64 e.load, .int .u64 e.store, .bool e.aq, .bool e.rl, .int .i64 e.pred, .int .i64 e.succ, .int .i64 e.pair, e.a, e.d, e.y] 42)).alloc (.cells #[.int .i64 0, .int .i64 0, .int .i64 0, .int .u64 0, .int .u64 0, .int .u64 0, .bool false, .bool false, .int .i64 0, .int .i64 0, .int .i64 0, .slice none 0 0, .slice none 0 0, .slice none 0 0] 42)) = W) := ⟨_, Lib.hid rfl⟩
  rw [hW.out] at S0 ⊢
  clear hW
  obtain ⟨glt, g0, g1, g2, g3, g4, g5, g6, g7, g8, g9, g10, g11, g12, g13⟩ := S0.out.box.facts
  rw [E1.out] at g11
  rw [E2.out] at g12
  rw [E3.out] at g13
  go_upto_region 2 with (go_at_call 28; (with_reducible refine (K.out _ S0.out.below).mono ?_); rintro e' w1 ⟨va, vd, vy, rfl, hd, ht, hb⟩; obtain ⟨a1, c1, rfl⟩ := hd.1.1.len; obtain ⟨a2, c2, rfl⟩ := hd.2.1.1.len; obtain ⟨a3, c3, rfl⟩ := hd.2.2.1.len; have S1 := Lib.hid (S0.out.on hb); have D1 := Lib.hid hd; have T1 := Lib.hid ht; have L1 := Lib.hid S0.out.res.lt; clear hd hb ht glt g0 g1 g2 g3 g4 g5 g6 g7 g8 g9 g10 g11 g12 g13; obtain ⟨glt, g0, g1, g2, g3, g4, g5, g6, g7, g8, g9, g10, g11, g12, g13⟩ := S1.out.box.facts; have z11 := S1.out.box.free 11; have z12 := S1.out.box.free 12; have z13 := S1.out.box.free 13)
  obtain ⟨Y, hY⟩ : ∃ Y, Hid ((((w1.setCell ⟨w.heap.size, 11, none⟩ (.slice a1 l.a.length c1)).setCell ⟨w.heap.size, 12, none⟩ (.slice a2 l.d.length c2)).setCell ⟨w.heap.size, 13, none⟩ (.slice a3 l.y.length c3)) = Y) := ⟨_, Lib.hid rfl⟩
  have S2 : Hid (On (e.lists (.slice a1 l.a.length c1) (.slice a2 l.d.length c2) (.slice a3 l.y.length c3)) zeroEv w Y) := Lib.hid (by
    rw [← hY.out]
    have Q1 : On (e.lists (.slice a1 l.a.length c1) e.d e.y) zeroEv w (w1.setCell ⟨w.heap.size, 11, none⟩ (.slice a1 l.a.length c1)) := S1.out.set (S1.out.box.setc 11 (.slice a1 l.a.length c1))
    have Q2 : On (e.lists (.slice a1 l.a.length c1) (.slice a2 l.d.length c2) e.y) zeroEv w ((w1.setCell ⟨w.heap.size, 11, none⟩ (.slice a1 l.a.length c1)).setCell ⟨w.heap.size, 12, none⟩ (.slice a2 l.d.length c2)) := Q1.set (Q1.box.setc 12 (.slice a2 l.d.length c2))
    exact Q2.set (Q2.box.setc 13 (.slice a3 l.y.length c3)))
  have far : ∀ v zs, ReadsN W.heap.size w1 v zs → TypedI w1 v → ReadsN W.heap.size Y v zs ∧ TypedI Y v := fun v zs hv ht => by
    have hlt : w.heap.size < W.heap.size := by have := L1.out; omega
    have q1 := hv.far (k := 11) (.slice a1 l.a.length c1) hlt
    have t1 := typed_set (k := 11) (x := (.slice a1 l.a.length c1)) ht hv hlt
    have q2 := q1.far (k := 12) (.slice a2 l.d.length c2) hlt
    have t2 := typed_set (k := 12) (x := (.slice a2 l.d.length c2)) t1 q1 hlt
    have q3 := q2.far (k := 13) (.slice a3 l.y.length c3) hlt
    have t3 := typed_set (k := 13) (x := (.slice a3 l.y.length c3)) t2 q2 hlt
    rw [← hY.out]
    exact ⟨q3, t3⟩
  have D2 := Lib.hid (show DepsN W.heap.size Y (.slice a1 l.a.length c1) (.slice a2 l.d.length c2) (.slice a3 l.y.length c3) l.a l.d l.y from ⟨(far _ _ D1.out.1 T1.out.1).1, (far _ _ D1.out.2.1 T1.out.2.1).1, (far _ _ D1.out.2.2 T1.out.2.2).1⟩)
  have T2 := Lib.hid (show TypedD Y (.slice a1 l.a.length c1) (.slice a2 l.d.length c2) (.slice a3 l.y.length c3) from ⟨(far _ _ D1.out.1 T1.out.1).2, (far _ _ D1.out.2.1 T1.out.2.1).2, (far _ _ D1.out.2.2 T1.out.2.2).2⟩)
  rw [hY.out]
  clear hY far glt g0 g1 g2 g3 g4 g5 g6 g7 g8 g9 g10 g11 g12 g13 z11 z12 z13 S1 D1 T1
  have cl := run_LoadE S2.out.box
  go_wp2_with (refine store_ev S2.out.res (e.lists (.slice a1 l.a.length c1) (.slice a2 l.d.length c2) (.slice a3 l.y.length c3)) ⟨rfl, rfl, rfl⟩ rfl (.tmp 2) (.tmp 7) rfl rfl rfl ?_; intro w3 D3 ho3 hb3 hz3)
  refine bodyPost_ret (ev_end rfl rfl D3) rfl ⟨_, _, _, rfl, ⟨reads_but D2.out.1 L1.out (by have := L1.out; omega) ho3 hz3, reads_but D2.out.2.1 L1.out (by have := L1.out; omega) ho3 hz3, reads_but D2.out.2.2 L1.out (by have := L1.out; omega) ho3 hz3⟩, ⟨typed_but T2.out.1 D2.out.1 L1.out ho3, typed_but T2.out.2.1 D2.out.2.1 L1.out ho3, typed_but T2.out.2.2 D2.out.2.2 L1.out ho3⟩, S2.out.below.trans (hb3.mono (by omega))⟩
end Go.Proofs.Ytokhnjcbcpmmjaa
namespace Go.Proofs.Ytokhnjcbcpmmjaa
set_option linter.unusedVariables false
set_option linter.unusedSimpArgs false
open Go.RowKit
attribute [local go_sem ↓] fold_E fold_SE

/-- an event lies there, in the midst of a block -/
def EvIn (e : Ev) (b o : Nat) (w : World) : Prop := ∀ j v, (#[.int .i64 e.hart, .int .i64 e.pos, .int .i64 e.kind, .int .u64 e.addr, .int .u64 e.load, .int .u64 e.store, .bool e.aq, .bool e.rl, .int .i64 e.pred, .int .i64 e.succ, .int .i64 e.pair, e.a, e.d, e.y] : Array Value)[j]? = some v → w.cell? ⟨b, o + j, none⟩ = some v
theorem EvIn.load {e : Ev} {b o : Nat} {w : World} (h : EvIn e b o w) : (LoadE (.pointer (some ⟨b, o, none⟩))).run Try.prog w = .ok e.V w := by
  have hl : (loadCells ⟨b, o, none⟩ (#[.int .i64 e.hart, .int .i64 e.pos, .int .i64 e.kind, .int .u64 e.addr, .int .u64 e.load, .int .u64 e.store, .bool e.aq, .bool e.rl, .int .i64 e.pred, .int .i64 e.succ, .int .i64 e.pair, e.a, e.d, e.y] : Array Value).toList.length).run Try.prog w = .ok (#[.int .i64 e.hart, .int .i64 e.pos, .int .i64 e.kind, .int .u64 e.addr, .int .u64 e.load, .int .u64 e.store, .bool e.aq, .bool e.rl, .int .i64 e.pred, .int .i64 e.succ, .int .i64 e.pair, e.a, e.d, e.y] : Array Value).toList.toArray w :=
    run_loadCells_list (P := Try.prog) w ⟨b, o, none⟩ (#[.int .i64 e.hart, .int .i64 e.pos, .int .i64 e.kind, .int .u64 e.addr, .int .u64 e.load, .int .u64 e.store, .bool e.aq, .bool e.rl, .int .i64 e.pred, .int .i64 e.succ, .int .i64 e.pair, e.a, e.d, e.y] : Array Value).toList (fun j v hv => by
      have ha : (⟨b, o, none⟩ : Addr).add j = ⟨b, o + j, none⟩ := by unfold Addr.add; split <;> simp_all
      rw [ha]
      exact h j v (by simpa using hv))
  have hagg : (isAgg 42).run Try.prog w = .ok true w := by
    unfold isAgg; rw [Sem.run_bind, run_underlying Try.underlying42 w]; rfl
  have hs : (Go.sizeOf 42).run Try.prog w = .ok 14 w := by kernel_rfl
  unfold LoadE Instr.loadAt Instr.sureAddr
  simp only [Sem.run_bind, Sem.run_pure, Result.andThen_ok, loadVar, hagg]
  simp only [if_true, Sem.run_bind]
  have hl2 : (loadCells ⟨b, o, none⟩ 14).run Try.prog w = .ok #[.int .i64 e.hart, .int .i64 e.pos, .int .i64 e.kind, .int .u64 e.addr, .int .u64 e.load, .int .u64 e.store, .bool e.aq, .bool e.rl, .int .i64 e.pred, .int .i64 e.succ, .int .i64 e.pair, e.a, e.d, e.y] w := hl
  rw [hs, Result.andThen_ok, hl2]
  rfl
theorem EvIn.below {e : Ev} {b o : Nat} {w w' : World} (h : EvIn e b o w) (hb : Below w.heap.size w w') (hlt : b < w.heap.size) : EvIn e b o w' := fun j v hv => (hb.cell (p := ⟨b, o + j, none⟩) hlt).trans (h j v hv)
theorem EvIn.addr {e : Ev} {b o : Nat} {w : World} (h : EvIn e b o w) : w.cell? ⟨b, o + 3, none⟩ = some (.int .u64 e.addr) := h 3 _ rfl
/-- one step of looking at a row -/
def rowStep (hart : Int) (ev : Nat → Ev) (el : Nat → El) (k : Nat) (last : Int) : Option Int :=
  if (ev k).hart ≠ hart then none else if (ev k).pos ≠ k then none else if chkE (ev k) (el k) = false then none
  else if (ev k).kind = 3 then some k
  else if (ev k).kind = 4 then (if (ev k).pair ≠ last then none else if (ev k).addr ≠ (ev last.toNat).addr then none else some (-1))
  else some last
def rowL (hart : Int) (ev : Nat → Ev) (el : Nat → El) : Nat → Option Int
  | 0 => some (-1)
  | k + 1 => (rowL hart ev el k).bind (rowStep hart ev el k)
theorem rowL_none (hart : Int) (ev : Nat → Ev) (el : Nat → El) (k : Nat) (h : rowL hart ev el k = none) : ∀ n, k ≤ n → rowL hart ev el n = none := by
  intro n
  induction n with
  | zero => intro hk; obtain rfl : k = 0 := (by omega); exact h
  | succ n ih =>
    intro hk
    rcases Nat.lt_or_ge n k with h1 | h1
    · obtain rfl : k = n + 1 := by omega
      exact h
    · unfold rowL
      rw [ih h1]
      rfl
theorem rowL_step {hart : Int} {ev : Nat → Ev} {el : Nat → El} {k : Nat} {last : Int} (h : rowL hart ev el k = some last) : rowL hart ev el (k + 1) = rowStep hart ev el k last := by
  show (rowL hart ev el k).bind _ = _
  rw [h]; rfl
theorem rowL_bad {hart : Int} {ev : Nat → Ev} {el : Nat → El} {k n : Nat} {last : Int} (h : rowL hart ev el k = some last) (hk : k < n) (hs : rowStep hart ev el k last = none) : (rowL hart ev el n).isSome = false := by
  rw [rowL_none hart ev el (k + 1) (by rw [rowL_step h, hs]) n hk]; rfl
theorem chk_pair {e : Ev} {l : El} (h : chkE e l = true) (hk : e.kind = 4) : 0 ≤ e.pair ∧ e.pair < e.pos := by
  unfold chkE at h
  have hF : hasB (fieldsOf e.kind) 1024 = true := by rw [hk]; decide
  rw [hF] at h
  simp only [Bool.and_eq_true] at h
  have := h.2.2.2.2.2.2.2.1
  simp [withinB] at this
  exact this
def RowIs (w : World) (b : Bool) (e : Ending) (w' : World) : Prop := e = .returned (.int .i64 (if b then 0 else 4)) ∧ Below w.heap.size w w'
theorem RowIs.no {w w' : World} {b : Bool} (h : b = false) (hb : Below w.heap.size w w') : RowIs w b (.returned (.int .i64 4)) w' := ⟨by rw [h]; rfl, hb⟩
theorem RowIs.yes {w w' : World} {b : Bool} (h : b = true) (hb : Below w.heap.size w w') : RowIs w b (.returned (.int .i64 0)) w' := ⟨by rw [h]; rfl, hb⟩
/-- events that lie in a row -/
structure Evs (n b off : Nat) (ev : Nat → Ev) (el : Nat → El) (w : World) : Prop where
  at_ : ∀ k, k < n → EvIn (ev k) b (off + k * 14) w
  reads : ∀ k, k < n → EReads w (ev k) (el k)
  len : ∀ k, k < n → (el k).n
  low : ∀ k, k < n → 0 ≤ (ev k).addr
  lt : 0 < n → b < w.heap.size
theorem Evs.below {n b off : Nat} {ev : Nat → Ev} {el : Nat → El} {w w' : World} (h : Evs n b off ev el w) (hb : Below w.heap.size w w') : Evs n b off ev el w' :=
  ⟨fun k hk => (h.at_ k hk).below hb (h.lt (by omega)), fun k hk => (h.reads k hk).below hb, h.len, h.low, fun hn => Nat.lt_of_lt_of_le (h.lt hn) hb.size⟩
theorem row_nil (hart : Int) (a : Option Addr) (c : Nat) (w : World) : Calls Try.prog 34 #[.int .i64 hart, .slice a 0 c] w fun e w' => RowIs w true e w' := by
  go_enter Try.func34, Try.ntmps34
  go_wp2
  refine wp_loop_rounds 1 ?_
  rw [rounds_succ]
  go_wp2
  go_ret
  exact ⟨rfl, Below.refl _ _⟩
set_option maxRecDepth 100000 in
set_option maxHeartbeats 8000000 in
theorem row_some (hart : Int) (n b off c : Nat) (ev : Nat → Ev) (el : Nat → El) (w : World) (hn : n ≤ 1000) (h : Evs n b off ev el w) :
    Calls Try.prog 34 #[.int .i64 hart, .slice (some ⟨b, off, none⟩) n c] w fun e w' => RowIs w (rowL hart ev el n).isSome e w' := by
  have HV := Lib.hid h
  clear h
  go_enter Try.func34, Try.ntmps34
  go_wp2
  go_loopw [5, 10] (fun vl vi wr => ∃ (k : Nat) (last : Int), k ≤ n ∧ vi = .int .i64 k ∧ vl = .int .i64 last ∧ Hid (rowL hart ev el k = some last) ∧ Below w.heap.size w wr) (fun _ vi _ => n - (intOf vi).toNat)
  case atStart => exact ⟨0, -1, Nat.zero_le _, rfl, rfl, Lib.hid rfl, Below.refl _ _⟩
  case round =>
    obtain ⟨k, last, hk, rfl, rfl, hR, hbel⟩ := hrel
    have HL := Lib.hid hbel
    clear hbel
    by_cases hlt : k < n
    · have HE := Lib.hid (HV.out.below HL.out)
      have cl := (HE.out.at_ k hlt).load
      obtain ⟨e, he⟩ : ∃ e, Hid (ev k = e) := ⟨_, Lib.hid rfl⟩
      rw [he.out] at cl
      have hfl : Hid e.flat := Lib.hid (by rw [← he.out]; exact (HE.out.reads k hlt).flat)
      have hstep : Hid (∀ r, rowStep hart ev el k last = r → rowL hart ev el (k + 1) = r) := Lib.hid (fun r h => by rw [rowL_step hR.out, h])
      have hbad : Hid (rowStep hart ev el k last = none → (rowL hart ev el n).isSome = false) := Lib.hid (rowL_bad hR.out hlt)
      obtain ⟨l, hl⟩ : ∃ l, Hid (el k = l) := ⟨_, Lib.hid rfl⟩
      have hS : Hid (rowStep hart ev el k last = if e.hart ≠ hart then none else if e.pos ≠ k then none else if chkE e l = false then none
          else if e.kind = 3 then some (k : Int)
          else if e.kind = 4 then (if e.pair ≠ last then none else if e.addr ≠ (ev last.toNat).addr then none else some (-1))
          else some last) := Lib.hid (by unfold rowStep; rw [he.out, hl.out])
      go_upto_region 5 with (refine store_ev (EvAt.new zeroEv wr) e hfl.out rfl (.tmp 7) (.tmp 14) rfl rfl rfl ?_; intro w1 D1 ho1 hb1 hz1; have K1 := Lib.hid D1; have B1 := Lib.hid ((box_below wr (.cells #[.int .i64 0, .int .i64 0, .int .i64 0, .int .u64 0, .int .u64 0, .int .u64 0, .bool false, .bool false, .int .i64 0, .int .i64 0, .int .i64 0, .slice none 0 0, .slice none 0 0, .slice none 0 0] 42)).trans hb1); have L1 := Lib.hid (HL.out.trans (B1.out.mono HL.out.size)); clear D1 ho1 hb1 hz1)
      clear cl
      obtain ⟨glt, g0, g1, g2, g3, g4, g5, g6, g7, g8, g9, g10, g11, g12, g13⟩ := K1.out.facts
      by_cases h1 : e.hart = hart
      rotate_left
      · have hn' := Lib.hid (hbad.out (by rw [hS.out, if_pos h1]))
        have h1' : (e.hart != hart) = true := by simpa using h1
        clear h1
        go_wp2
        go_ret
        exact RowIs.no hn'.out L1.out
      have h1' : (e.hart != hart) = false := by simpa using h1
      by_cases h2 : e.pos = k
      rotate_left
      · have hn' := Lib.hid (hbad.out (by rw [hS.out, if_neg (by simp [h1]), if_pos h2]))
        have h2' : (e.pos != (k : Int)) = true := by simpa using h2
        clear h1 h2
        go_wp2
        go_ret
        exact RowIs.no hn'.out L1.out
      have h2' : (e.pos != (k : Int)) = false := by simpa using h2
      have cl := run_LoadE K1.out
      have KC := Lib.hid (check_any e l w1 (by rw [← he.out, ← hl.out]; exact (HE.out.reads k hlt).below B1.out) (by rw [← hl.out]; exact HE.out.len k hlt) (by rw [← he.out]; exact HE.out.low k hlt))
      cases h3 : chkE e l with
      | false =>
        have hn' := Lib.hid (hbad.out (by rw [hS.out, if_neg (by simp [h1]), if_neg (by simp [h2]), if_pos h3]))
        rw [h3] at KC
        clear h1 h2 h3
        go_wp2_with (go_at_call 53; (with_reducible refine (KC.out).mono ?_); rintro e' w2 ⟨rfl, hb⟩; have L2 := Lib.hid (L1.out.trans (hb.mono L1.out.size)); clear hb)
        go_ret
        exact RowIs.no hn'.out L2.out
      | true =>
        rw [h3] at KC
        have hS2 : Hid (rowStep hart ev el k last = if e.kind = 3 then some (k : Int)
          else if e.kind = 4 then (if e.pair ≠ last then none else if e.addr ≠ (ev last.toNat).addr then none else some (-1))
          else some last) := Lib.hid (by rw [hS.out, if_neg (by simp [h1]), if_neg (by simp [h2]), if_neg (by simp [h3])])
        have hpr := Lib.hid (fun hk => chk_pair h3 hk)
        have hpos := Lib.hid h2
        clear h1 h2 h3 hS
        go_upto_region 7 with (go_at_call 53; (with_reducible refine (KC.out).mono ?_); rintro e' w2 ⟨rfl, hb⟩; have K2 := Lib.hid (K1.out.on hb); have B2 := Lib.hid (B1.out.trans (hb.mono B1.out.size)); have L2 := Lib.hid (L1.out.trans (hb.mono L1.out.size)); clear hb; clear glt g0 g1 g2 g3 g4 g5 g6 g7 g8 g9 g10 g11 g12 g13 cl; obtain ⟨glt, g0, g1, g2, g3, g4, g5, g6, g7, g8, g9, g10, g11, g12, g13⟩ := K2.out.facts)
        by_cases h4 : e.kind = 3
        · have hy := Lib.hid (hstep.out _ (by rw [hS2.out, if_pos h4]))
          rw [h4] at g2
          go_wp2
          go_roundw
          case rel => exact ⟨k + 1, k, by omega, by go_num, rfl, hy, L2.out⟩
          case measure => simp [intOf]; omega
        have h4' : (e.kind == 3) = false := by simpa using h4
        by_cases h5 : e.kind = 4
        rotate_left
        · have hy := Lib.hid (hstep.out _ (by rw [hS2.out, if_neg h4, if_neg h5]))
          have h5' : (e.kind == 4) = false := by simpa using h5
          clear h4 h5
          go_wp2
          go_roundw
          case rel => exact ⟨k + 1, last, by omega, by go_num, rfl, hy, L2.out⟩
          case measure => simp [intOf]; omega
        have hp := hpr.out h5
        rw [hpos.out] at hp
        have hS3 : Hid (rowStep hart ev el k last = if e.pair ≠ last then none else if e.addr ≠ (ev last.toNat).addr then none else some (-1)) := Lib.hid (by rw [hS2.out, if_neg h4, if_pos h5])
        have HK := Lib.hid h5
        clear h4 h5 hpr hS2
        by_cases h6 : e.pair = last
        rotate_left
        · have hn' := Lib.hid (hbad.out (by rw [hS3.out, if_pos h6]))
          have h6' : (e.pair != last) = true := by simpa using h6
          rw [HK.out] at g2
          clear h6 h4'
          go_upto_region 11 with fail
          go_quiet (fail)
          go_wp2
          go_ret
          exact RowIs.no hn'.out (below_drewW L2.out nq)
        have h6' : (e.pair != last) = false := by simpa using h6
        obtain ⟨m, hm⟩ : ∃ m : Nat, last = m := ⟨last.toNat, by omega⟩
        subst hm
        have hmk : m < k := by omega
        have hS4 : Hid (rowStep hart ev el k m = if e.addr ≠ (ev m).addr then none else some (-1)) := Lib.hid (by rw [hS3.out, if_neg (by simp [h6]), Int.toNat_natCast])
        have hca := (HE.out.at_ m (by omega)).below B2.out (HE.out.lt (by omega))
        have hc3 := hca.addr
        rw [HK.out] at g2
        rw [h6] at g10
        clear h4' h6 h6' hca hp
        have hm0 : (0 : Int) ≤ (m : Int) := by omega
        have hmn : (m : Int) < (n : Int) := by omega
        have hmm : ((m : Int) != (m : Int)) = false := by simp
        by_cases h7 : e.addr = (ev m).addr
        · have hy := Lib.hid (hstep.out _ (by rw [hS4.out, if_neg (by simp [h7])]))
          have h7' : (e.addr != (ev m).addr) = false := by simpa using h7
          clear h7
          go_upto_region 11 with fail
          go_quiet (fail)
          have L3 := Lib.hid (below_drewW L2.out nq)
          go_wp2
          go_roundw
          case rel => exact ⟨k + 1, -1, by omega, by go_num, rfl, hy, L3.out⟩
          case measure => simp [intOf]; omega
        · have hn' := Lib.hid (hbad.out (by rw [hS4.out, if_pos h7]))
          have h7' : (e.addr != (ev m).addr) = true := by simpa using h7
          clear h7
          go_upto_region 11 with fail
          go_quiet (fail)
          go_wp2
          go_ret
          exact RowIs.no hn'.out (below_drewW L2.out nq)
    · obtain rfl : k = n := by omega
      go_wp2
      go_ret
      exact RowIs.yes (by rw [hR.out]; rfl) HL.out
end Go.Proofs.Ytokhnjcbcpmmjaa
