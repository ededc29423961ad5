/-
  Proved here: the document's lives of chapter 10 answers true; nothing that was there is changed. No condition.
  (With it: Proved here: the document's example of chapter 10, with nothing or one event between: a candidate of one hart; nothing that was there is changed. Condition: at most one event between, which hangs on nothing.)
-/
import Derived.Test.YtgkiaeddlahngaaGreatDoorPpAny
import Derived.Test.YtgkiaeddlahngaaGreatDoorCdKeep
namespace Go.Proofs.YtgkiaeddlahngaaGreatDoor
set_option linter.unusedVariables false
set_option linter.unusedSimpArgs false
open Go.RowKit Go.Maps
attribute [local go_sem ↓] fold_E fold_SE

def pS : Ev := ⟨0, 0, 2, 8, 0, 0, false, false, 0, 0, 0, .slice none 0 0, .slice none 0 0, .slice none 0 0⟩
def pL (n : Int) : Ev := ⟨0, n, 1, 16, 0, 0, false, false, 0, 0, 0, .slice none 0 0, .slice none 0 0, .slice none 0 0⟩
def pF : Ev := ⟨0, 1, 6, 0, 0, 0, false, false, 1, 2, 0, .slice none 0 0, .slice none 0 0, .slice none 0 0⟩
def pEs (es : List Ev) : List Ev := pS :: es ++ [pL (es.length + 1 : Nat)]
def pC (es : List Ev) : Cd := ⟨1, fun _ => es.length + 2, fun _ k => ((pEs es)[k]?).getD zeroEv, fun _ _ => nilL, [], List.replicate (es.length + 2) (-1), [0, (es.length + 1 : Nat)]⟩
theorem pEs_len (es : List Ev) : (pEs es).length = es.length + 2 := by simp [pEs]
def bare (e : Ev) : Prop := e.a = .slice none 0 0 ∧ e.d = .slice none 0 0 ∧ e.y = .slice none 0 0 ∧ 0 ≤ e.addr
theorem bare_all (es : List Ev) (h : ∀ e ∈ es, bare e) : ∀ e ∈ pEs es, bare e := by
  intro e he
  unfold pEs at he
  rcases List.mem_append.1 he with he | he
  · rcases List.mem_cons.1 he with rfl | he
    · exact ⟨rfl, rfl, rfl, by decide⟩
    · exact h e he
  · rw [List.mem_singleton] at he
    subst he
    exact ⟨rfl, rfl, rfl, by show (0 : Int) ≤ 16; decide⟩
theorem row_one (w : World) (e : Ev) : (w.alloc (.cells e.row.toArray 48)).ownsRow w.heap.size 48 14 (.slice (some ⟨w.heap.size, 0, none⟩) 1 1) 1 e.row :=
  ⟨rfl, .inr ⟨w.heap.size, 1, e.row.toArray, rfl, Nat.le_refl _, heap_alloc_new w _, Nat.le_refl _, by decide, rfl, by simp [Ev.row, Ev.V]⟩⟩
def ZC : Obj := .cells #[.slice none 0 0, .slice none 0 0, .slice none 0 0, .slice none 0 0] 26
/-- the events between -/
structure Bt (es : List Ev) (a2 : Option Addr) (c2 : Nat) (w : World) : Prop where
  m : es.length ≤ 1
  src : es.length = 0 ∨ ∃ ad, a2 = some ad ∧ ∀ i u, (flat es)[i]? = some u → w.cell? (ad.add i) = some u
  bare : ∀ e ∈ es, bare e
theorem Bt.on {es : List Ev} {a2 : Option Addr} {c2 : Nat} {w w2 : World} (h : Bt es a2 c2 w) (hb : Below w.heap.size w w2) : Bt es a2 c2 w2 :=
  ⟨h.m, by
    rcases h.src with h0 | ⟨ad, e, hc⟩
    · exact .inl h0
    · refine .inr ⟨ad, e, fun i u hu => ?_⟩
      have := hc i u hu
      have hlt := World.block_lt_of_cell? w _ this
      exact (hb.cell hlt).trans this, h.bare⟩
theorem one_row {e : Ev} (h : bare e) : ∀ u ∈ e.row, u.oneCell' = true := by
  intro u hu
  obtain ⟨h1, h2, h3, _⟩ := h
  simp only [Ev.row, List.mem_cons, List.not_mem_nil, or_false] at hu
  rcases hu with rfl | rfl | rfl | rfl | rfl | rfl | rfl | rfl | rfl | rfl | rfl | rfl | rfl | rfl <;> first | rfl | (rw [h1]; rfl) | (rw [h2]; rfl) | (rw [h3]; rfl)
theorem one_flat {es : List Ev} (h : ∀ e ∈ es, bare e) : ∀ u ∈ flat es, u.oneCell' = true := by
  intro u hu
  unfold flat at hu
  rw [List.mem_flatMap] at hu
  obtain ⟨e, he, hu⟩ := hu
  exact one_row (h e he) u hu
theorem row_of_own {W : World} {base n : Nat} {a : Option Addr} {c : Nat} {es : List Ev} (h : W.ownsRow base 48 14 (.slice a n c) n (flat es)) (hl : es.length = n) (hb : ∀ e ∈ es, bare e) : RowV W (.slice a n c) n (fun k => (es[k]?).getD zeroEv) (fun _ => nilL) := by
  have hget : ∀ k, k < n → es[k]? = some ((es[k]?).getD zeroEv) := fun k hk => by rw [List.getElem?_eq_getElem (by omega)]; rfl
  have hmem : ∀ k, k < n → bare ((es[k]?).getD zeroEv) := fun k hk => hb _ (by rw [List.getElem?_eq_getElem (by omega)]; exact List.getElem_mem (by omega))
  rcases h.2 with ⟨e, h0⟩ | ⟨g, cap, cur, e, hbg, hgg, hc, hm, hs, ht⟩
  · injection e with e1 e2 e3
    exact ⟨a, c, rfl, by omega, .inl h0⟩
  · injection e with e1 e2 e3
    subst e1
    subst e3
    refine ⟨some ⟨g, 0, none⟩, c, rfl, hc, .inr ⟨g, 0, rfl, ⟨fun k hk j u hu => ?_, fun k hk => ?_, fun k hk => (hmem k hk).2.2.2, fun _ => (Array.getElem?_eq_some_iff.1 hgg).1⟩⟩⟩
    · have hx := flat_at es k j _ u (hget k hk) (by unfold Ev.row; simpa using hu)
      have := h.cells (g := g) (by simp [Value.ownBlock]) (k * 14 + j) u hx
      rw [Addr.add_lit] at this
      rw [← this]
      congr 2
      show 0 + k * 14 + j = 0 + (k * 14 + j)
      omega
    · obtain ⟨h1, h2, h3, _⟩ := hmem k hk
      exact ⟨.inl ⟨by rw [h1]; exact EmptyS.nil, rfl⟩, .inl ⟨by rw [h2]; exact EmptyS.nil, rfl⟩, .inl ⟨by rw [h3]; exact EmptyS.nil, rfl⟩⟩
/-- the candidate under way: so many of From laid -/
structure ExL (h : Nat) (w w4 W : World) (j : Nat) (vR : Value) : Prop where
  box : W.heap[h + 1 + 1]? = some (.cells #[.slice none 0 0, .slice (some ⟨h, 0, none⟩) 1 1, vR, .slice (some ⟨h + 1, 0, none⟩) 2 2] 26 (0, 0))
  row : W.ownsRow w4.heap.size 3 1 vR j ((List.replicate j (-1 : Int)).map (Value.int .i64))
  old : ∀ i, i < w4.heap.size → i ≠ h + 1 + 1 → W.heap[i]? = w4.heap[i]?
  sz : w4.heap.size ≤ W.heap.size
  below : Below w.heap.size w W
theorem ExL.on {h : Nat} {w w4 W W2 : World} {j : Nat} {vR : Value} (e : ExL h w w4 W j vR) (hb : Below W.heap.size W W2) : ExL h w w4 W2 j vR :=
  ⟨(hb.block _ (Array.getElem?_eq_some_iff.1 e.box).1).trans e.box, own_on e.row hb, fun i h1 h2 => (hb.block i (Nat.lt_of_lt_of_le h1 e.sz)).trans (e.old i h1 h2), Nat.le_trans e.sz hb.size, e.below.trans (hb.mono e.below.size)⟩
theorem ExL.facts {h : Nat} {w w4 W : World} {j : Nat} {vR : Value} (e : ExL h w w4 W j vR) : W.cell? ⟨h + 1 + 1, 0, none⟩ = some (.slice none 0 0) ∧ W.cell? ⟨h + 1 + 1, 1, none⟩ = some (.slice (some ⟨h, 0, none⟩) 1 1) ∧ W.cell? ⟨h + 1 + 1, 2, none⟩ = some vR ∧ W.cell? ⟨h + 1 + 1, 3, none⟩ = some (.slice (some ⟨h + 1, 0, none⟩) 2 2) :=
  ⟨by rw [cell_of_row _ _ 0 _ _ _ e.box]; rfl, by rw [cell_of_row _ _ 1 _ _ _ e.box]; rfl, by rw [cell_of_row _ _ 2 _ _ _ e.box]; rfl, by rw [cell_of_row _ _ 3 _ _ _ e.box]; rfl⟩
theorem ExL.apart {h : Nat} {w w4 W : World} {j : Nat} {vR : Value} (e : ExL h w w4 W j vR) : some (h + 1 + 1) ≠ vR.ownBlock := fun hh => by
  rcases e.row.2 with ⟨e1, _⟩ | ⟨g, cap, cur, e1, hb, hgg, _⟩
  · rw [e1] at hh; simp [Value.ownBlock] at hh
  · rw [e1] at hh
    simp [Value.ownBlock] at hh
    subst hh
    rw [e.box] at hgg
    simp at hgg
theorem ExL.grown {h : Nat} {w w4 W W2 : World} {j : Nat} {vR : Value} (e : ExL h w w4 W j vR) (hg : W.grownBy W2 vR.ownBlock) : W2.cell? ⟨h + 1 + 1, 2, none⟩ = some vR ∧ W2.frozen? ⟨h + 1 + 1, 2, none⟩ = false := by
  have hb := (hg.block _ (Array.getElem?_eq_some_iff.1 e.box).1 e.apart).trans e.box
  exact ⟨by rw [cell_of_row _ _ 2 _ _ _ hb]; rfl, frozen_of_row _ _ _ _ _ hb⟩
theorem ExL.next {h : Nat} {w w4 W W2 : World} {j : Nat} {vR v2 : Value} (e : ExL h w w4 W j vR) (hg : W.grownBy W2 vR.ownBlock) (ho : W2.ownsRow w4.heap.size 3 1 v2 (j + 1) ((List.replicate (j + 1) (-1 : Int)).map (Value.int .i64))) (h4 : w4.heap.size = h + 1 + 1 + 1) (hw : w.heap.size < h) : ExL h w w4 (W2.setCell ⟨h + 1 + 1, 2, none⟩ v2) (j + 1) v2 := by
  have hb := (hg.block _ (Array.getElem?_eq_some_iff.1 e.box).1 e.apart).trans e.box
  have hs : ∀ i, i ≠ h + 1 + 1 → (W2.setCell ⟨h + 1 + 1, 2, none⟩ v2).heap[i]? = W2.heap[i]? := fun i hi => Below.heap_setCell W2 ⟨h + 1 + 1, 2, none⟩ v2 i hi
  have hvR : ∀ g, vR.ownBlock = some g → w4.heap.size ≤ g := fun g hh => (e.row.lt g hh).1
  refine ⟨set_at W2 (h + 1 + 1) 2 v2 _ _ _ hb, ?_, fun i h1 h2 => ?_, Nat.le_trans e.sz (Nat.le_trans hg.size (by simp [World.setCell])), ?_⟩
  · refine ⟨ho.1, ?_⟩
    rcases ho.2 with hn | ⟨g, cap, cur, rfl, hb1, hgg, rest⟩
    · exact .inl hn
    · exact .inr ⟨g, cap, cur, rfl, hb1, (hs g (by omega)).trans hgg, rest⟩
  · exact (hs i h2).trans ((hg.block i (Nat.lt_of_lt_of_le h1 e.sz) (fun hh => by have := hvR i hh.symm; omega)).trans (e.old i h1 h2))
  · exact (e.below.grown hg e.below.size (fun k hk => by have := hvR k hk; omega)).setCell (by show w.heap.size ≤ h + 1 + 1; omega) _
theorem ExL.res {h : Nat} {w w4 W : World} {j : Nat} {vR : Value} (e : ExL h w w4 W j vR) (hX : w4.heap[w.heap.size]? = some (.cells #[.slice none 0 0, .slice none 0 0, .slice none 0 0, .slice none 0 0] 26 (0, 0))) (hw : w.heap.size < h) (h4 : w4.heap.size = h + 1 + 1 + 1) : W.heap[w.heap.size]? = some (.cells #[.slice none 0 0, .slice none 0 0, .slice none 0 0, .slice none 0 0] 26 (0, 0)) :=
  (e.old _ (by omega) (by omega)).trans hX
set_option maxRecDepth 100000 in
set_option maxHeartbeats 8000000 in
theorem pex_any (es : List Ev) (a2 : Option Addr) (c2 : Nat) (w : World) (h : Bt es a2 c2 w) : Calls Tryz.prog 25 #[.slice a2 es.length c2] w fun e w' => ∃ q, e = .returned (cdV (pC es) q) ∧ CAt (pC es) q w' ∧ Below w.heap.size w w' := by
  obtain ⟨W0, hW0⟩ : ∃ W, w.alloc (.cells #[.slice none 0 0, .slice none 0 0, .slice none 0 0, .slice none 0 0] 26) = W := ⟨_, rfl⟩
  have B0 : Hid (Below w.heap.size w W0) := Lib.hid (by rw [← hW0]; exact box_below _ _)
  have X0 : Hid (W0.heap[w.heap.size]? = some (.cells #[.slice none 0 0, .slice none 0 0, .slice none 0 0, .slice none 0 0] 26 (0, 0))) := Lib.hid (by rw [← hW0]; exact Array.getElem?_push_size)
  have hW0h := Lib.hid hW0
  clear hW0
  obtain ⟨W1, hW1⟩ : ∃ W, W0.alloc (.cells pS.row.toArray 48) = W := ⟨_, rfl⟩
  have B1 : Hid (Below W0.heap.size W0 W1) := Lib.hid (by rw [← hW1]; exact box_below _ _)
  have O1 : Hid (W1.ownsRow W0.heap.size 48 14 (.slice (some ⟨W0.heap.size, 0, none⟩) 1 1) 1 pS.row) := Lib.hid (by rw [← hW1]; exact row_one W0 pS)
  have hW1h : Hid (W0.alloc (.cells #[.int .i64 0, .int .i64 0, .int .i64 2, .int .u64 8, .int .u64 0, .int .u64 0, .bool false, .bool false, .int .i64 0, .int .i64 0, .int .i64 0, .slice none 0 0, .slice none 0 0, .slice none 0 0] 48) = W1) := Lib.hid hW1
  clear hW1
  have BT1 := Lib.hid ((h.on B0.out).on B1.out)
  have hm := h.m
  obtain ⟨m, hmm⟩ : ∃ m, Hid (es.length = m) := ⟨_, Lib.hid rfl⟩
  have hfl : (flat es).length = es.length * 14 := flat_len es
  have HOne := Lib.hid (one_flat h.bare)
  have HB := Lib.hid h.bare
  have Z1 := Lib.hid B1.out.size
  clear h
  go_enter Tryz.func25, Tryz.ntmps25
  go_upto_region 1 with fail
  rw [hW0h.out]
  go_upto_region 2 with (at_builtin; (rw [hW1h.out]; refine wpList_append_evs rfl (.tmp 7) (.tmp 8) rfl W0.heap.size _ 1 _ rfl O1.out a2 es.length c2 _ rfl hfl BT1.out.src HOne.out (by omega) Z1.out ?_; intro v' w2 ho hg; have O2 := Lib.hid ho; have B2 := Lib.hid (Below.grown B1.out hg Z1.out (fun k hk => (O1.out.lt k hk).1)); clear ho hg))
  obtain ⟨n, hn⟩ : ∃ n, 1 + es.length = n := ⟨_, rfl⟩
  rw [hn] at O2
  have hnh := Lib.hid hn
  have hn2 : n ≤ 2 := by omega
  clear hn
  obtain ⟨a3, c3, rfl⟩ := own_form O2.out
  obtain ⟨W2, hW2⟩ : ∃ W, w2.alloc (.cells #[.int .i64 0, .int .i64 (n : Int), .int .i64 1, .int .u64 16, .int .u64 0, .int .u64 0, .bool false, .bool false, .int .i64 0, .int .i64 0, .int .i64 0, .slice none 0 0, .slice none 0 0, .slice none 0 0] 48) = W := ⟨_, rfl⟩
  have BW2 : Hid (Below w2.heap.size w2 W2) := Lib.hid (by rw [← hW2]; exact box_below _ _)
  have OW2 : Hid (W2.ownsRow W0.heap.size 48 14 (.slice a3 n c3) n (pS.row ++ flat es)) := Lib.hid (own_on O2.out BW2.out)
  have HW2 : Hid (W2.heap[w2.heap.size]? = some (.cells (pL n).row.toArray 48 (0, 0))) := Lib.hid (by rw [← hW2]; exact Array.getElem?_push_size)
  have hsrc2 : Hid ((1 : Nat) = 0 ∨ ∃ ad, (some ⟨w2.heap.size, 0, none⟩ : Option Addr) = some ad ∧ ∀ i u, (pL n).row[i]? = some u → W2.cell? (ad.add i) = some u) := Lib.hid (.inr ⟨_, rfl, fun i u hu => by rw [Addr.add_lit, Nat.zero_add, cell_of_row W2 w2.heap.size i _ _ _ HW2.out]; simpa using hu⟩)
  have hone2 := Lib.hid (one_row (e := pL n) ⟨rfl, rfl, rfl, by show (0 : Int) ≤ 16; decide⟩)
  have hW2h := Lib.hid hW2
  have ZW2 : Hid (W0.heap.size ≤ W2.heap.size) := Lib.hid (Nat.le_trans B2.out.size BW2.out.size)
  have hnw : IntKind.i64.wrap ((n : Int) + 1 - 1) = (n : Int) := by rw [IntWalk.i64_in _ (by omega)]; omega
  clear hW2
  go_upto_region 3 with (at_builtin; (rw [hW2h.out]; refine wpList_append_evs rfl (.tmp 10) (.tmp 14) rfl W0.heap.size _ n _ rfl OW2.out (some ⟨w2.heap.size, 0, none⟩) 1 1 _ rfl (row_len _) hsrc2.out hone2.out (by omega) ZW2.out ?_; intro v' w3 ho hg; have O3 := Lib.hid ho; have B3 := Lib.hid (Below.grown (B2.out.trans (BW2.out.mono B2.out.size)) hg ZW2.out (fun k hk => (OW2.out.lt k hk).1)); clear ho hg))
  obtain ⟨a4, c4, rfl⟩ := own_form O3.out
  go_upto_region 4 with fail
  obtain ⟨W4, hW4⟩ : ∃ W, (((w3.alloc (.cells #[.slice a4 (n + 1) c4] 41)).alloc (.cells #[.int .i64 0, .int .i64 (n : Int)] 3)).alloc (.cells #[.slice none 0 0, .slice (some ⟨w3.heap.size, 0, none⟩) 1 1, .slice none 0 0, .slice (some ⟨w3.heap.size + 1, 0, none⟩) 2 2] 26)) = W := ⟨_, rfl⟩
  rw [hW4]
  have BW4 : Hid (Below w3.heap.size w3 W4) := Lib.hid (by rw [← hW4]; exact ((box_below _ _).trans ((box_below _ _).mono (by simp))).trans ((box_below _ _).mono (by simp; omega)))
  have c1 : Hid (W4.heap[w3.heap.size]? = some (.cells #[.slice a4 (n + 1) c4] 41 (0, 0))) := Lib.hid (by rw [← hW4]; exact push_old _ _ _ _ (push_old _ _ _ _ (push_new w3 _ _ rfl)))
  have c2' : Hid (W4.heap[w3.heap.size + 1]? = some (.cells #[.int .i64 0, .int .i64 (n : Int)] 3 (0, 0))) := Lib.hid (by rw [← hW4]; exact push_old _ _ _ _ (push_new (w3.alloc _) _ _ (by simp)))
  have c3' : Hid (W4.heap[w3.heap.size + 1 + 1]? = some (.cells #[.slice none 0 0, .slice (some ⟨w3.heap.size, 0, none⟩) 1 1, .slice none 0 0, .slice (some ⟨w3.heap.size + 1, 0, none⟩) 2 2] 26 (0, 0))) := Lib.hid (by rw [← hW4]; exact push_new ((w3.alloc _).alloc _) _ _ (by simp))
  have Z4 : Hid (W4.heap.size = w3.heap.size + 1 + 1 + 1) := Lib.hid (by rw [← hW4]; simp)
  have O4 := Lib.hid (own_on O3.out BW4.out)
  have B4 := Lib.hid (B0.out.trans ((B3.out.trans (BW4.out.mono B3.out.size)).mono B0.out.size))
  have E0 : Hid (ExL w3.heap.size w W4 W4 0 (.slice none 0 0)) := Lib.hid ⟨c3'.out, World.ownsRow_nil _ _ _ _, fun _ _ _ => rfl, Nat.le_refl _, B4.out⟩
  have Zw3 : Hid (w.heap.size < w3.heap.size) := Lib.hid (by have h1 := (Array.getElem?_eq_some_iff.1 X0.out).1; have h2 := B3.out.size; omega)
  have X4 : Hid (W4.heap[w.heap.size]? = some (.cells #[.slice none 0 0, .slice none 0 0, .slice none 0 0, .slice none 0 0] 26 (0, 0))) := Lib.hid ((BW4.out.block _ Zw3.out).trans ((B3.out.block _ (Array.getElem?_eq_some_iff.1 X0.out).1).trans X0.out))
  clear hW4 hnw hm
  go_wp2
  go_loopw [5] (fun v5 wr => ∃ (j : Nat) (vR : Value), j ≤ n + 1 ∧ v5 = .int .i64 j ∧ Hid (ExL w3.heap.size w W4 wr j vR)) (fun v5 _ => n + 1 - (intOf v5).toNat)
  case atStart => exact ⟨0, _, Nat.zero_le _, rfl, E0⟩
  case round =>
    obtain ⟨j, vR, hj, rfl, HE⟩ := hrel
    obtain ⟨aR, cR, rfl⟩ := own_form HE.out.row
    obtain ⟨u0, u1, u2, u3⟩ := HE.out.facts
    by_cases hlt : j < n + 1
    · have hji : (j : Int) < (n : Int) + 1 := by omega
      obtain ⟨Wa, hWa⟩ : ∃ W, wr.alloc (.cells #[.int .i64 (-1)] 3) = W := ⟨_, rfl⟩
      have BWa : Hid (Below wr.heap.size wr Wa) := Lib.hid (by rw [← hWa]; exact box_below _ _)
      have HEa := Lib.hid (HE.out.on BWa.out)
      have RA : Hid (ReadsI Wa (.slice (some ⟨wr.heap.size, 0, none⟩) 1 1) [-1]) := Lib.hid (by
        have hk : Wa.heap[wr.heap.size]? = some (.cells #[.int .i64 (-1)] 3 (0, 0)) := by rw [← hWa]; exact Array.getElem?_push_size
        refine .inr ⟨wr.heap.size, 0, 1, rfl, Nat.le_refl _, by omega, (Array.getElem?_eq_some_iff.1 hk).1, fun i hi => ?_⟩
        obtain rfl : i = 0 := by simpa using hi
        rw [cell_of_row _ _ _ _ _ _ hk]; rfl)
      have hWah := Lib.hid hWa
      have HO : Hid (Wa.ownsRow W4.heap.size 3 1 (.slice aR j cR) (List.replicate j (-1 : Int)).length ((List.replicate j (-1 : Int)).map (Value.int .i64))) := Lib.hid (by rw [List.length_replicate]; exact HEa.out.row)
      clear hWa
      go_wp2_with (at_builtin; (rw [hWah.out]; refine append_reads rfl (.tmp 30) (.tmp 31) rfl W4.heap.size _ (List.replicate j (-1 : Int)) [-1] rfl HO.out _ rfl RA.out (by simp; omega) HEa.out.sz ?_; intro v' w6 ho hg; obtain ⟨a6, c6, rfl⟩ := own_form ho; have O6 := Lib.hid ho; have G6 := Lib.hid hg; obtain ⟨t1, t2⟩ := HEa.out.grown G6.out; clear ho hg))
      have E6 := Lib.hid (HEa.out.next G6.out (by have := O6.out; rw [List.length_append, List.length_replicate, ← List.replicate_succ'] at this; exact this) Z4.out Zw3.out)
      go_roundw
      case rel => exact ⟨j + 1, _, by omega, by go_num, E6⟩
      case measure => simp [intOf]; omega
    · obtain rfl : j = n + 1 := by omega
      go_wp2_with (refine store_cand (HE.out.res X4.out Zw3.out Z4.out) rfl none (some ⟨w3.heap.size, 0, none⟩) aR (some ⟨w3.heap.size + 1, 0, none⟩) 0 1 (n + 1) 2 0 1 cR 2 rfl (.tmp 2) (.tmp 34) rfl rfl rfl ?_; intro w7 hX ho7 hb7 hz7; have X7 := Lib.hid hX; have H7 := Lib.hid ho7; have B7 := Lib.hid hb7; clear hX ho7 hb7 hz7)
      have hes := hnh.out
      have hlen : (pC es).fr.length = n + 1 := by show (List.replicate (es.length + 2) (-1 : Int)).length = _; rw [List.length_replicate]; omega
      have hz := Zw3.out
      have hz4 := Z4.out
      have hWz : w.heap.size < W0.heap.size := (Array.getElem?_eq_some_iff.1 X0.out).1
      have k7 : ∀ i, i < W4.heap.size → i ≠ w3.heap.size + 1 + 1 → i ≠ w.heap.size → w7.heap[i]? = W4.heap[i]? := fun i h1 h2 h3 => (H7.out i h3).trans (HE.out.old i h1 h2)
      have d1 := (k7 w3.heap.size (by omega) (by omega) (by omega)).trans c1.out
      have d2 := (k7 (w3.heap.size + 1) (by omega) (by omega) (by omega)).trans c2'.out
      have O7 : w7.ownsRow W0.heap.size 48 14 (.slice a4 (n + 1) c4) (n + 1) (flat (pEs es)) := by
        have e1 : pS.row ++ flat es ++ (pL n).row = flat (pEs es) := by
          unfold pEs flat
          rw [List.flatMap_append, List.flatMap_cons, List.flatMap_cons, List.flatMap_nil, List.append_nil, show es.length + 1 = n by omega]
        rw [← e1]
        refine own_but O4.out (fun g hg => k7 g (O4.out.lt g hg).2 (fun e2 => ?_) (by have := (O4.out.lt g hg).1; omega))
        subst e2
        rcases O4.out.2 with ⟨e3, _⟩ | ⟨g', cap, cur, e3, _, hgg, _⟩
        · rw [e3] at hg; simp [Value.ownBlock] at hg
        · rw [e3] at hg
          simp [Value.ownBlock] at hg
          subst hg
          rw [c3'.out] at hgg
          simp at hgg
      have R7 : w7.ownsRow W4.heap.size 3 1 (.slice aR (n + 1) cR) (n + 1) ((List.replicate (n + 1) (-1 : Int)).map (Value.int .i64)) := own_but HE.out.row (fun g hg => H7.out g (by have := (HE.out.row.lt g hg).1; omega))
      have hv : cdV (pC es) ⟨none, 0, some ⟨w3.heap.size, 0, none⟩, 1, aR, cR, some ⟨w3.heap.size + 1, 0, none⟩, 2⟩ = .agg #[.slice none 0 0, .slice (some ⟨w3.heap.size, 0, none⟩) 1 1, .slice aR (n + 1) cR, .slice (some ⟨w3.heap.size + 1, 0, none⟩) 2 2] := by unfold cdV; rw [hlen]; rfl
      refine bodyPost_ret (v := .agg #[.slice none 0 0, .slice (some ⟨w3.heap.size, 0, none⟩) 1 1, .slice aR (n + 1) cR, .slice (some ⟨w3.heap.size + 1, 0, none⟩) 2 2]) ?_ rfl ⟨⟨none, 0, some ⟨w3.heap.size, 0, none⟩, 1, aR, cR, some ⟨w3.heap.size + 1, 0, none⟩, 2⟩, by rw [hv], ⟨.inl ⟨EmptyS.nil, rfl⟩, .inr ⟨w3.heap.size, 0, rfl, ⟨fun h hh => ?_, fun _ => (Array.getElem?_eq_some_iff.1 d1).1⟩⟩, Nat.le_refl _, ?_, ?_⟩, ?_⟩
      · exact results_cell_row Tryz.results25 _ w7 _ _ _ (0, 0) _ rfl X7.out Tryz.underlying26 rfl (by as_aux_lemma => kernel_rfl)
      · have hh1 : h < 1 := hh
        obtain rfl : h = 0 := by omega
        refine ⟨.slice a4 (n + 1) c4, by rw [cell_of_row w7 _ _ _ _ _ d1]; rfl, ?_⟩
        show RowV w7 (.slice a4 (n + 1) c4) (es.length + 2) (fun k => ((pEs es)[k]?).getD zeroEv) (fun _ => nilL)
        rw [show es.length + 2 = n + 1 by omega]
        exact row_of_own O7 (pEs_len es |>.trans (by omega)) (bare_all es HB.out)
      · show ReadsI w7 (.slice aR (List.replicate (es.length + 2) (-1 : Int)).length cR) (List.replicate (es.length + 2) (-1 : Int))
        rw [show es.length + 2 = n + 1 by omega]
        refine readsI_of_own (base := W4.heap.size) ?_
        rw [List.length_replicate]
        exact R7
      · show ReadsI w7 (.slice (some ⟨w3.heap.size + 1, 0, none⟩) 2 2) [0, ((es.length + 1 : Nat) : Int)]
        rw [show es.length + 1 = n by omega]
        refine .inr ⟨w3.heap.size + 1, 0, 2, rfl, Nat.le_refl _, by omega, (Array.getElem?_eq_some_iff.1 d2).1, fun j hj => ?_⟩
        have hj2 : j < 2 := hj
        rcases j with _ | _ | j
        · rw [cell_of_row _ _ _ _ _ _ d2]; rfl
        · rw [cell_of_row _ _ _ _ _ _ d2]; rfl
        · omega
      · exact HE.out.below.trans (B7.out)
end Go.Proofs.YtgkiaeddlahngaaGreatDoor
namespace Go.Proofs.YtgkiaeddlahngaaGreatDoor
set_option linter.unusedVariables false
set_option linter.unusedSimpArgs false
open Go.RowKit Go.Maps
attribute [local go_sem ↓] fold_E fold_SE

theorem pC0_may : (pC []).may = true := by decide +kernel
theorem pC1_may : (pC [pF]).may = true := by decide +kernel
theorem pC0_ahead : aheadP (pC []) 0 1 = true := by decide +kernel
theorem pC1_ahead : aheadP (pC [pF]) 0 2 = true := by decide +kernel
theorem pC0_first : firstL (pC []) 0 1 = 0 := by decide +kernel
theorem pC1_first : firstL (pC [pF]) 0 2 = 4 := by decide +kernel
theorem pC_lt (es : List Ev) (hm : es.length ≤ 1) (hw : ∀ e ∈ es, WordE e) : Lt (pC es) where
  ew := fun h _ k hk => by
    show WordE (((pEs es)[k]?).getD zeroEv)
    have hk2 : k < (pEs es).length := by rw [pEs_len]; exact hk
    rw [List.getElem?_eq_getElem hk2]
    show WordE (pEs es)[k]
    have hmem := List.getElem_mem hk2
    unfold pEs at hmem
    rcases List.mem_append.1 hmem with h1 | h1
    · rcases List.mem_cons.1 h1 with h2 | h2
      · exact h2 ▸ ⟨by decide, by decide⟩
      · exact hw _ h2
    · rw [List.mem_singleton] at h1
      exact h1 ▸ ⟨by show (Lit.int .u64 16).wf = true; decide, by show (Lit.int .u64 0).wf = true; decide⟩
  nh := by show (1 : Nat) ≤ 9; omega
  n := by show 0 + (es.length + 2) ≤ 60; omega
  small := fun h _ => ⟨by show es.length + 2 ≤ 60; omega, fun k _ => ⟨Nat.zero_le _, Nat.zero_le _, Nat.zero_le _⟩⟩
  fs := Nat.zero_le _
  fr := by show (List.replicate (es.length + 2) (-1 : Int)).length ≤ 120; rw [List.length_replicate]; omega
  od := by show (2 : Nat) ≤ 120; omega
  fw := fun j hj => absurd hj (by show ¬ j < 0; omega)
theorem fence_any (w : World) : Calls Tryz.prog 26 #[.int .i64 1, .int .i64 2] w fun e w' => e = .returned (.slice (some ⟨w.heap.size, 0, none⟩) 1 1) ∧ w'.heap[w.heap.size]? = some (.cells pF.row.toArray 48 (0, 0)) ∧ Below w.heap.size w w' := by
  go_enter Tryz.func26, Tryz.ntmps26
  go_wp2
  go_ret
  exact ⟨rfl, Array.getElem?_push_size, box_below _ _⟩
theorem bt0 (w : World) : Bt [] none 0 w := ⟨by simp, .inl rfl, fun e he => by simp at he⟩
theorem bt1 {w : World} {g : Nat} (h : w.heap[g]? = some (.cells pF.row.toArray 48 (0, 0))) : Bt [pF] (some ⟨g, 0, none⟩) 1 w :=
  ⟨by simp, .inr ⟨_, rfl, fun i u hu => by
    rw [Addr.add_lit, Nat.zero_add, cell_of_row w g i _ _ _ h]
    unfold flat at hu
    rw [List.flatMap_cons, List.flatMap_nil, List.append_nil] at hu
    simpa using hu⟩, fun e he => by
    rw [List.mem_singleton] at he
    subst he
    exact ⟨rfl, rfl, rfl, by decide⟩⟩
set_option maxRecDepth 100000 in
set_option maxHeartbeats 4000000 in
theorem plives_any (w : World) : Calls Tryz.prog 6 #[] w fun e w' => SameOk w true e w' := by
  have K0 := Lib.hid (fun w0 => (show Calls Tryz.prog 25 #[.slice none 0 0] w0 fun e w' => ∃ q, e = .returned (cdV (pC []) q) ∧ CAt (pC []) q w' ∧ Below w0.heap.size w0 w' from pex_any [] none 0 w0 (bt0 w0)))
  have K1 := Lib.hid (fun g w0 (h0 : w0.heap[g]? = some (.cells pF.row.toArray 48 (0, 0))) => (show Calls Tryz.prog 25 #[.slice (some ⟨g, 0, none⟩) 1 1] w0 fun e w' => ∃ q, e = .returned (cdV (pC [pF]) q) ∧ CAt (pC [pF]) q w' ∧ Below w0.heap.size w0 w' from pex_any [pF] (some ⟨g, 0, none⟩) 1 w0 (bt1 h0)))
  have R0 := Lib.hid (fun q w0 (h0 : CAt (pC []) q w0) => (show Calls Tryz.prog 14 #[cdV (pC []) q, .int .i64 0, .int .i64 1] w0 fun e w' => FirstIs w0 0 e w' from by
    have := Rule_ahead (pC []) q w0 (pC_lt [] (by simp) (fun e he => by simp at he)) h0 pC0_may 0 1 (by decide) (by decide) pC0_ahead
    rw [pC0_first] at this
    exact this))
  have R1 := Lib.hid (fun q w0 (h0 : CAt (pC [pF]) q w0) => (show Calls Tryz.prog 14 #[cdV (pC [pF]) q, .int .i64 0, .int .i64 2] w0 fun e w' => FirstIs w0 4 e w' from by
    have := Rule_ahead (pC [pF]) q w0 (pC_lt [pF] (by simp) (fun e he => by rw [List.mem_singleton] at he; subst he; exact ⟨by decide, by decide⟩)) h0 pC1_may 0 2 (by decide) (by decide) pC1_ahead
    rw [pC1_first] at this
    exact this))
  have KF := Lib.hid (fun w0 => fence_any w0)
  go_enter Tryz.func6, Tryz.ntmps6
  go_wp2_with (first
    | (go_at_call 25; (with_reducible refine (K0.out _).mono ?_); rintro e' w1 ⟨q1, rfl, hc, hb⟩; have C1 := Lib.hid hc; have L1 := Lib.hid hb; clear hc hb)
    | (go_at_call 14; (with_reducible refine (R0.out q1 _ C1.out).mono ?_); rintro e' w2 ⟨rfl, hb⟩; have L2 := Lib.hid (L1.out.trans (hb.mono L1.out.size)); clear hb)
    | (go_at_call 26; (with_reducible refine (KF.out _).mono ?_); rintro e' w3 ⟨rfl, hc, hb⟩; have C3 := Lib.hid hc; have L3 := Lib.hid (L2.out.trans (hb.mono L2.out.size)); clear hc hb)
    | (go_at_call 25; (with_reducible refine (K1.out _ _ C3.out).mono ?_); rintro e' w4 ⟨q4, rfl, hc, hb⟩; have C4 := Lib.hid hc; have L4 := Lib.hid (L3.out.trans (hb.mono L3.out.size)); clear hc hb)
    | (go_at_call 14; (with_reducible refine (R1.out q4 _ C4.out).mono ?_); rintro e' w5 ⟨rfl, hb⟩; have L5 := Lib.hid (L4.out.trans (hb.mono L4.out.size)); clear hb))
  go_ret
  exact ⟨rfl, L5.out⟩
end Go.Proofs.YtgkiaeddlahngaaGreatDoor
