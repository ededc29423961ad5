/-
  Proved here: the law PpoCalls answers true of every candidate, two numbers, a rule; nothing that was there is changed. Condition: numbers of 64 bits; the table of zero bits as the library lays it.
  (With it: Proved here: the kit's LightCand with at most 30 events; nothing that was there is changed. Condition: none but that a candidate lies there.)
  (With it: Proved here: the document's lives of chapter 10 answers true; nothing that was there is changed. No condition. (With it: Proved here: the document's example of chapter 10, with nothing or one event between: a candidate of one hart; nothing that was there is changed. Condition: at most one event between, which hangs on nothing.))
-/
import Derived.Test.YtgkiaeddlahngaaGreatDoorPpAny
import Derived.Test.YtgkiaeddlahngaaGreatDoorCdKeep
import Derived.Test.YtgkiaeddlahngaaGreatDoorCdNumber
import Derived.Test.YtgkiaeddlahngaaGreatDoorRf10Full
namespace Go.Proofs.YtgkiaeddlahngaaGreatDoor
set_option linter.unusedVariables false
set_option linter.unusedSimpArgs false
open Go.RowKit Go.Maps
attribute [local go_sem ↓] fold_E fold_SE

def pS : Ev := ⟨0, 0, 2, 8, 0, 0, false, false, 0, 0, 0, .slice none 0 0, .slice none 0 0, .slice none 0 0⟩
def pL (n : Int) : Ev := ⟨0, n, 1, 16, 0, 0, false, false, 0, 0, 0, .slice none 0 0, .slice none 0 0, .slice none 0 0⟩
def pF : Ev := ⟨0, 1, 6, 0, 0, 0, false, false, 1, 2, 0, .slice none 0 0, .slice none 0 0, .slice none 0 0⟩
def pEs (es : List Ev) : List Ev := pS :: es ++ [pL (es.length + 1 : Nat)]
def pC (es : List Ev) : Cd := ⟨1, fun _ => es.length + 2, fun _ k => ((pEs es)[k]?).getD zeroEv, fun _ _ => nilL, [], List.replicate (es.length + 2) (-1), [0, (es.length + 1 : Nat)]⟩
theorem pEs_len (es : List Ev) : (pEs es).length = es.length + 2 := by simp [pEs]
def bare (e : Ev) : Prop := e.a = .slice none 0 0 ∧ e.d = .slice none 0 0 ∧ e.y = .slice none 0 0 ∧ 0 ≤ e.addr
theorem bare_all (es : List Ev) (h : ∀ e ∈ es, bare e) : ∀ e ∈ pEs es, bare e := by
  intro e he
  unfold pEs at he
  rcases List.mem_append.1 he with he | he
  · rcases List.mem_cons.1 he with rfl | he
    · exact ⟨rfl, rfl, rfl, by decide⟩
    · exact h e he
  · rw [List.mem_singleton] at he
    subst he
    exact ⟨rfl, rfl, rfl, by show (0 : Int) ≤ 16; decide⟩
theorem row_one (w : World) (e : Ev) : (w.alloc (.cells e.row.toArray 48)).ownsRow w.heap.size 48 14 (.slice (some ⟨w.heap.size, 0, none⟩) 1 1) 1 e.row :=
  ⟨rfl, .inr ⟨w.heap.size, 1, e.row.toArray, rfl, Nat.le_refl _, heap_alloc_new w _, Nat.le_refl _, by decide, rfl, by simp [Ev.row, Ev.V]⟩⟩
def ZC : Obj := .cells #[.slice none 0 0, .slice none 0 0, .slice none 0 0, .slice none 0 0] 26
/-- the events between -/
structure Bt (es : List Ev) (a2 : Option Addr) (c2 : Nat) (w : World) : Prop where
  m : es.length ≤ 1
  src : es.length = 0 ∨ ∃ ad, a2 = some ad ∧ ∀ i u, (flat es)[i]? = some u → w.cell? (ad.add i) = some u
  bare : ∀ e ∈ es, bare e
theorem Bt.on {es : List Ev} {a2 : Option Addr} {c2 : Nat} {w w2 : World} (h : Bt es a2 c2 w) (hb : Below w.heap.size w w2) : Bt es a2 c2 w2 :=
  ⟨h.m, by
    rcases h.src with h0 | ⟨ad, e, hc⟩
    · exact .inl h0
    · refine .inr ⟨ad, e, fun i u hu => ?_⟩
      have := hc i u hu
      have hlt := World.block_lt_of_cell? w _ this
      exact (hb.cell hlt).trans this, h.bare⟩
theorem one_row {e : Ev} (h : bare e) : ∀ u ∈ e.row, u.oneCell' = true := by
  intro u hu
  obtain ⟨h1, h2, h3, _⟩ := h
  simp only [Ev.row, List.mem_cons, List.not_mem_nil, or_false] at hu
  rcases hu with rfl | rfl | rfl | rfl | rfl | rfl | rfl | rfl | rfl | rfl | rfl | rfl | rfl | rfl <;> first | rfl | (rw [h1]; rfl) | (rw [h2]; rfl) | (rw [h3]; rfl)
theorem one_flat {es : List Ev} (h : ∀ e ∈ es, bare e) : ∀ u ∈ flat es, u.oneCell' = true := by
  intro u hu
  unfold flat at hu
  rw [List.mem_flatMap] at hu
  obtain ⟨e, he, hu⟩ := hu
  exact one_row (h e he) u hu
theorem row_of_own {W : World} {base n : Nat} {a : Option Addr} {c : Nat} {es : List Ev} (h : W.ownsRow base 48 14 (.slice a n c) n (flat es)) (hl : es.length = n) (hb : ∀ e ∈ es, bare e) : RowV W (.slice a n c) n (fun k => (es[k]?).getD zeroEv) (fun _ => nilL) := by
  have hget : ∀ k, k < n → es[k]? = some ((es[k]?).getD zeroEv) := fun k hk => by rw [List.getElem?_eq_getElem (by omega)]; rfl
  have hmem : ∀ k, k < n → bare ((es[k]?).getD zeroEv) := fun k hk => hb _ (by rw [List.getElem?_eq_getElem (by omega)]; exact List.getElem_mem (by omega))
  rcases h.2 with ⟨e, h0⟩ | ⟨g, cap, cur, e, hbg, hgg, hc, hm, hs, ht⟩
  · injection e with e1 e2 e3
    exact ⟨a, c, rfl, by omega, .inl h0⟩
  · injection e with e1 e2 e3
    subst e1
    subst e3
    refine ⟨some ⟨g, 0, none⟩, c, rfl, hc, .inr ⟨g, 0, rfl, ⟨fun k hk j u hu => ?_, fun k hk => ?_, fun k hk => (hmem k hk).2.2.2, fun _ => (Array.getElem?_eq_some_iff.1 hgg).1⟩⟩⟩
    · have hx := flat_at es k j _ u (hget k hk) (by unfold Ev.row; simpa using hu)
      have := h.cells (g := g) (by simp [Value.ownBlock]) (k * 14 + j) u hx
      rw [Addr.add_lit] at this
      rw [← this]
      congr 2
      show 0 + k * 14 + j = 0 + (k * 14 + j)
      omega
    · obtain ⟨h1, h2, h3, _⟩ := hmem k hk
      exact ⟨.inl ⟨by rw [h1]; exact EmptyS.nil, rfl⟩, .inl ⟨by rw [h2]; exact EmptyS.nil, rfl⟩, .inl ⟨by rw [h3]; exact EmptyS.nil, rfl⟩⟩
/-- the candidate under way: so many of From laid -/
structure ExL (h : Nat) (w w4 W : World) (j : Nat) (vR : Value) : Prop where
  box : W.heap[h + 1 + 1]? = some (.cells #[.slice none 0 0, .slice (some ⟨h, 0, none⟩) 1 1, vR, .slice (some ⟨h + 1, 0, none⟩) 2 2] 26 (0, 0))
  row : W.ownsRow w4.heap.size 3 1 vR j ((List.replicate j (-1 : Int)).map (Value.int .i64))
  old : ∀ i, i < w4.heap.size → i ≠ h + 1 + 1 → W.heap[i]? = w4.heap[i]?
  sz : w4.heap.size ≤ W.heap.size
  below : Below w.heap.size w W
theorem ExL.on {h : Nat} {w w4 W W2 : World} {j : Nat} {vR : Value} (e : ExL h w w4 W j vR) (hb : Below W.heap.size W W2) : ExL h w w4 W2 j vR :=
  ⟨(hb.block _ (Array.getElem?_eq_some_iff.1 e.box).1).trans e.box, own_on e.row hb, fun i h1 h2 => (hb.block i (Nat.lt_of_lt_of_le h1 e.sz)).trans (e.old i h1 h2), Nat.le_trans e.sz hb.size, e.below.trans (hb.mono e.below.size)⟩
theorem ExL.facts {h : Nat} {w w4 W : World} {j : Nat} {vR : Value} (e : ExL h w w4 W j vR) : W.cell? ⟨h + 1 + 1, 0, none⟩ = some (.slice none 0 0) ∧ W.cell? ⟨h + 1 + 1, 1, none⟩ = some (.slice (some ⟨h, 0, none⟩) 1 1) ∧ W.cell? ⟨h + 1 + 1, 2, none⟩ = some vR ∧ W.cell? ⟨h + 1 + 1, 3, none⟩ = some (.slice (some ⟨h + 1, 0, none⟩) 2 2) :=
  ⟨by rw [cell_of_row _ _ 0 _ _ _ e.box]; rfl, by rw [cell_of_row _ _ 1 _ _ _ e.box]; rfl, by rw [cell_of_row _ _ 2 _ _ _ e.box]; rfl, by rw [cell_of_row _ _ 3 _ _ _ e.box]; rfl⟩
theorem ExL.apart {h : Nat} {w w4 W : World} {j : Nat} {vR : Value} (e : ExL h w w4 W j vR) : some (h + 1 + 1) ≠ vR.ownBlock := fun hh => by
  rcases e.row.2 with ⟨e1, _⟩ | ⟨g, cap, cur, e1, hb, hgg, _⟩
  · rw [e1] at hh; simp [Value.ownBlock] at hh
  · rw [e1] at hh
    simp [Value.ownBlock] at hh
    subst hh
    rw [e.box] at hgg
    simp at hgg
theorem ExL.grown {h : Nat} {w w4 W W2 : World} {j : Nat} {vR : Value} (e : ExL h w w4 W j vR) (hg : W.grownBy W2 vR.ownBlock) : W2.cell? ⟨h + 1 + 1, 2, none⟩ = some vR ∧ W2.frozen? ⟨h + 1 + 1, 2, none⟩ = false := by
  have hb := (hg.block _ (Array.getElem?_eq_some_iff.1 e.box).1 e.apart).trans e.box
  exact ⟨by rw [cell_of_row _ _ 2 _ _ _ hb]; rfl, frozen_of_row _ _ _ _ _ hb⟩
theorem ExL.next {h : Nat} {w w4 W W2 : World} {j : Nat} {vR v2 : Value} (e : ExL h w w4 W j vR) (hg : W.grownBy W2 vR.ownBlock) (ho : W2.ownsRow w4.heap.size 3 1 v2 (j + 1) ((List.replicate (j + 1) (-1 : Int)).map (Value.int .i64))) (h4 : w4.heap.size = h + 1 + 1 + 1) (hw : w.heap.size < h) : ExL h w w4 (W2.setCell ⟨h + 1 + 1, 2, none⟩ v2) (j + 1) v2 := by
  have hb := (hg.block _ (Array.getElem?_eq_some_iff.1 e.box).1 e.apart).trans e.box
  have hs : ∀ i, i ≠ h + 1 + 1 → (W2.setCell ⟨h + 1 + 1, 2, none⟩ v2).heap[i]? = W2.heap[i]? := fun i hi => Below.heap_setCell W2 ⟨h + 1 + 1, 2, none⟩ v2 i hi
  have hvR : ∀ g, vR.ownBlock = some g → w4.heap.size ≤ g := fun g hh => (e.row.lt g hh).1
  refine ⟨set_at W2 (h + 1 + 1) 2 v2 _ _ _ hb, ?_, fun i h1 h2 => ?_, Nat.le_trans e.sz (Nat.le_trans hg.size (by simp [World.setCell])), ?_⟩
  · refine ⟨ho.1, ?_⟩
    rcases ho.2 with hn | ⟨g, cap, cur, rfl, hb1, hgg, rest⟩
    · exact .inl hn
    · exact .inr ⟨g, cap, cur, rfl, hb1, (hs g (by omega)).trans hgg, rest⟩
  · exact (hs i h2).trans ((hg.block i (Nat.lt_of_lt_of_le h1 e.sz) (fun hh => by have := hvR i hh.symm; omega)).trans (e.old i h1 h2))
  · exact (e.below.grown hg e.below.size (fun k hk => by have := hvR k hk; omega)).setCell (by show w.heap.size ≤ h + 1 + 1; omega) _
theorem ExL.res {h : Nat} {w w4 W : World} {j : Nat} {vR : Value} (e : ExL h w w4 W j vR) (hX : w4.heap[w.heap.size]? = some (.cells #[.slice none 0 0, .slice none 0 0, .slice none 0 0, .slice none 0 0] 26 (0, 0))) (hw : w.heap.size < h) (h4 : w4.heap.size = h + 1 + 1 + 1) : W.heap[w.heap.size]? = some (.cells #[.slice none 0 0, .slice none 0 0, .slice none 0 0, .slice none 0 0] 26 (0, 0)) :=
  (e.old _ (by omega) (by omega)).trans hX
set_option maxRecDepth 100000 in
set_option maxHeartbeats 8000000 in
theorem pex_any (es : List Ev) (a2 : Option Addr) (c2 : Nat) (w : World) (h : Bt es a2 c2 w) : Calls Tryz.prog 25 #[.slice a2 es.length c2] w fun e w' => ∃ q, e = .returned (cdV (pC es) q) ∧ CAt (pC es) q w' ∧ Below w.heap.size w w' := by
  obtain ⟨W0, hW0⟩ : ∃ W, w.alloc (.cells #[.slice none 0 0, .slice none 0 0, .slice none 0 0, .slice none 0 0] 26) = W := ⟨_, rfl⟩
  have B0 : Hid (Below w.heap.size w W0) := Lib.hid (by rw [← hW0]; exact box_below _ _)
  have X0 : Hid (W0.heap[w.heap.size]? = some (.cells #[.slice none 0 0, .slice none 0 0, .slice none 0 0, .slice none 0 0] 26 (0, 0))) := Lib.hid (by rw [← hW0]; exact Array.getElem?_push_size)
  have hW0h := Lib.hid hW0
  clear hW0
  obtain ⟨W1, hW1⟩ : ∃ W, W0.alloc (.cells pS.row.toArray 48) = W := ⟨_, rfl⟩
  have B1 : Hid (Below W0.heap.size W0 W1) := Lib.hid (by rw [← hW1]; exact box_below _ _)
  have O1 : Hid (W1.ownsRow W0.heap.size 48 14 (.slice (some ⟨W0.heap.size, 0, none⟩) 1 1) 1 pS.row) := Lib.hid (by rw [← hW1]; exact row_one W0 pS)
  have hW1h : Hid (W0.alloc (.cells #[.int .i64 0, .int .i64 0, .int .i64 2, .int .u64 8, .int .u64 0, .int .u64 0, .bool false, .bool false, .int .i64 0, .int .i64 0, .int .i64 0, .slice none 0 0, .slice none 0 0, .slice none 0 0] 48) = W1) := Lib.hid hW1
  clear hW1
  have BT1 := Lib.hid ((h.on B0.out).on B1.out)
  have hm := h.m
  obtain ⟨m, hmm⟩ : ∃ m, Hid (es.length = m) := ⟨_, Lib.hid rfl⟩
  have hfl : (flat es).length = es.length * 14 := flat_len es
  have HOne := Lib.hid (one_flat h.bare)
  have HB := Lib.hid h.bare
  have Z1 := Lib.hid B1.out.size
  clear h
  go_enter Tryz.func25, Tryz.ntmps25
  go_upto_region 1 with fail
  rw [hW0h.out]
  go_upto_region 2 with (at_builtin; (rw [hW1h.out]; refine wpList_append_evs rfl (.tmp 7) (.tmp 8) rfl W0.heap.size _ 1 _ rfl O1.out a2 es.length c2 _ rfl hfl BT1.out.src HOne.out (by omega) Z1.out ?_; intro v' w2 ho hg; have O2 := Lib.hid ho; have B2 := Lib.hid (Below.grown B1.out hg Z1.out (fun k hk => (O1.out.lt k hk).1)); clear ho hg))
  obtain ⟨n, hn⟩ : ∃ n, 1 + es.length = n := ⟨_, rfl⟩
  rw [hn] at O2
  have hnh := Lib.hid hn
  have hn2 : n ≤ 2 := by omega
  clear hn
  obtain ⟨a3, c3, rfl⟩ := own_form O2.out
  obtain ⟨W2, hW2⟩ : ∃ W, w2.alloc (.cells #[.int .i64 0, .int .i64 (n : Int), .int .i64 1, .int .u64 16, .int .u64 0, .int .u64 0, .bool false, .bool false, .int .i64 0, .int .i64 0, .int .i64 0, .slice none 0 0, .slice none 0 0, .slice none 0 0] 48) = W := ⟨_, rfl⟩
  have BW2 : Hid (Below w2.heap.size w2 W2) := Lib.hid (by rw [← hW2]; exact box_below _ _)
  have OW2 : Hid (W2.ownsRow W0.heap.size 48 14 (.slice a3 n c3) n (pS.row ++ flat es)) := Lib.hid (own_on O2.out BW2.out)
  have HW2 : Hid (W2.heap[w2.heap.size]? = some (.cells (pL n).row.toArray 48 (0, 0))) := Lib.hid (by rw [← hW2]; exact Array.getElem?_push_size)
  have hsrc2 : Hid ((1 : Nat) = 0 ∨ ∃ ad, (some ⟨w2.heap.size, 0, none⟩ : Option Addr) = some ad ∧ ∀ i u, (pL n).row[i]? = some u → W2.cell? (ad.add i) = some u) := Lib.hid (.inr ⟨_, rfl, fun i u hu => by rw [Addr.add_lit, Nat.zero_add, cell_of_row W2 w2.heap.size i _ _ _ HW2.out]; simpa using hu⟩)
  have hone2 := Lib.hid (one_row (e := pL n) ⟨rfl, rfl, rfl, by show (0 : Int) ≤ 16; decide⟩)
  have hW2h := Lib.hid hW2
  have ZW2 : Hid (W0.heap.size ≤ W2.heap.size) := Lib.hid (Nat.le_trans B2.out.size BW2.out.size)
  have hnw : IntKind.i64.wrap ((n : Int) + 1 - 1) = (n : Int) := by rw [IntWalk.i64_in _ (by omega)]; omega
  clear hW2
  go_upto_region 3 with (at_builtin; (rw [hW2h.out]; refine wpList_append_evs rfl (.tmp 10) (.tmp 14) rfl W0.heap.size _ n _ rfl OW2.out (some ⟨w2.heap.size, 0, none⟩) 1 1 _ rfl (row_len _) hsrc2.out hone2.out (by omega) ZW2.out ?_; intro v' w3 ho hg; have O3 := Lib.hid ho; have B3 := Lib.hid (Below.grown (B2.out.trans (BW2.out.mono B2.out.size)) hg ZW2.out (fun k hk => (OW2.out.lt k hk).1)); clear ho hg))
  obtain ⟨a4, c4, rfl⟩ := own_form O3.out
  go_upto_region 4 with fail
  obtain ⟨W4, hW4⟩ : ∃ W, (((w3.alloc (.cells #[.slice a4 (n + 1) c4] 41)).alloc (.cells #[.int .i64 0, .int .i64 (n : Int)] 3)).alloc (.cells #[.slice none 0 0, .slice (some ⟨w3.heap.size, 0, none⟩) 1 1, .slice none 0 0, .slice (some ⟨w3.heap.size + 1, 0, none⟩) 2 2] 26)) = W := ⟨_, rfl⟩
  rw [hW4]
  have BW4 : Hid (Below w3.heap.size w3 W4) := Lib.hid (by rw [← hW4]; exact ((box_below _ _).trans ((box_below _ _).mono (by simp))).trans ((box_below _ _).mono (by simp; omega)))
  have c1 : Hid (W4.heap[w3.heap.size]? = some (.cells #[.slice a4 (n + 1) c4] 41 (0, 0))) := Lib.hid (by rw [← hW4]; exact push_old _ _ _ _ (push_old _ _ _ _ (push_new w3 _ _ rfl)))
  have c2' : Hid (W4.heap[w3.heap.size + 1]? = some (.cells #[.int .i64 0, .int .i64 (n : Int)] 3 (0, 0))) := Lib.hid (by rw [← hW4]; exact push_old _ _ _ _ (push_new (w3.alloc _) _ _ (by simp)))
  have c3' : Hid (W4.heap[w3.heap.size + 1 + 1]? = some (.cells #[.slice none 0 0, .slice (some ⟨w3.heap.size, 0, none⟩) 1 1, .slice none 0 0, .slice (some ⟨w3.heap.size + 1, 0, none⟩) 2 2] 26 (0, 0))) := Lib.hid (by rw [← hW4]; exact push_new ((w3.alloc _).alloc _) _ _ (by simp))
  have Z4 : Hid (W4.heap.size = w3.heap.size + 1 + 1 + 1) := Lib.hid (by rw [← hW4]; simp)
  have O4 := Lib.hid (own_on O3.out BW4.out)
  have B4 := Lib.hid (B0.out.trans ((B3.out.trans (BW4.out.mono B3.out.size)).mono B0.out.size))
  have E0 : Hid (ExL w3.heap.size w W4 W4 0 (.slice none 0 0)) := Lib.hid ⟨c3'.out, World.ownsRow_nil _ _ _ _, fun _ _ _ => rfl, Nat.le_refl _, B4.out⟩
  have Zw3 : Hid (w.heap.size < w3.heap.size) := Lib.hid (by have h1 := (Array.getElem?_eq_some_iff.1 X0.out).1; have h2 := B3.out.size; omega)
  have X4 : Hid (W4.heap[w.heap.size]? = some (.cells #[.slice none 0 0, .slice none 0 0, .slice none 0 0, .slice none 0 0] 26 (0, 0))) := Lib.hid ((BW4.out.block _ Zw3.out).trans ((B3.out.block _ (Array.getElem?_eq_some_iff.1 X0.out).1).trans X0.out))
  clear hW4 hnw hm
  go_wp2
  go_loopw [5] (fun v5 wr => ∃ (j : Nat) (vR : Value), j ≤ n + 1 ∧ v5 = .int .i64 j ∧ Hid (ExL w3.heap.size w W4 wr j vR)) (fun v5 _ => n + 1 - (intOf v5).toNat)
  case atStart => exact ⟨0, _, Nat.zero_le _, rfl, E0⟩
  case round =>
    obtain ⟨j, vR, hj, rfl, HE⟩ := hrel
    obtain ⟨aR, cR, rfl⟩ := own_form HE.out.row
    obtain ⟨u0, u1, u2, u3⟩ := HE.out.facts
    by_cases hlt : j < n + 1
    · have hji : (j : Int) < (n : Int) + 1 := by omega
      obtain ⟨Wa, hWa⟩ : ∃ W, wr.alloc (.cells #[.int .i64 (-1)] 3) = W := ⟨_, rfl⟩
      have BWa : Hid (Below wr.heap.size wr Wa) := Lib.hid (by rw [← hWa]; exact box_below _ _)
      have HEa := Lib.hid (HE.out.on BWa.out)
      have RA : Hid (ReadsI Wa (.slice (some ⟨wr.heap.size, 0, none⟩) 1 1) [-1]) := Lib.hid (by
        have hk : Wa.heap[wr.heap.size]? = some (.cells #[.int .i64 (-1)] 3 (0, 0)) := by rw [← hWa]; exact Array.getElem?_push_size
        refine .inr ⟨wr.heap.size, 0, 1, rfl, Nat.le_refl _, by omega, (Array.getElem?_eq_some_iff.1 hk).1, fun i hi => ?_⟩
        obtain rfl : i = 0 := by simpa using hi
        rw [cell_of_row _ _ _ _ _ _ hk]; rfl)
      have hWah := Lib.hid hWa
      have HO : Hid (Wa.ownsRow W4.heap.size 3 1 (.slice aR j cR) (List.replicate j (-1 : Int)).length ((List.replicate j (-1 : Int)).map (Value.int .i64))) := Lib.hid (by rw [List.length_replicate]; exact HEa.out.row)
      clear hWa
      go_wp2_with (at_builtin; (rw [hWah.out]; refine append_reads rfl (.tmp 30) (.tmp 31) rfl W4.heap.size _ (List.replicate j (-1 : Int)) [-1] rfl HO.out _ rfl RA.out (by simp; omega) HEa.out.sz ?_; intro v' w6 ho hg; obtain ⟨a6, c6, rfl⟩ := own_form ho; have O6 := Lib.hid ho; have G6 := Lib.hid hg; obtain ⟨t1, t2⟩ := HEa.out.grown G6.out; clear ho hg))
      have E6 := Lib.hid (HEa.out.next G6.out (by have := O6.out; rw [List.length_append, List.length_replicate, ← List.replicate_succ'] at this; exact this) Z4.out Zw3.out)
      go_roundw
      case rel => exact ⟨j + 1, _, by omega, by go_num, E6⟩
      case measure => simp [intOf]; omega
    · obtain rfl : j = n + 1 := by omega
      go_wp2_with (refine store_cand (HE.out.res X4.out Zw3.out Z4.out) rfl none (some ⟨w3.heap.size, 0, none⟩) aR (some ⟨w3.heap.size + 1, 0, none⟩) 0 1 (n + 1) 2 0 1 cR 2 rfl (.tmp 2) (.tmp 34) rfl rfl rfl ?_; intro w7 hX ho7 hb7 hz7; have X7 := Lib.hid hX; have H7 := Lib.hid ho7; have B7 := Lib.hid hb7; clear hX ho7 hb7 hz7)
      have hes := hnh.out
      have hlen : (pC es).fr.length = n + 1 := by show (List.replicate (es.length + 2) (-1 : Int)).length = _; rw [List.length_replicate]; omega
      have hz := Zw3.out
      have hz4 := Z4.out
      have hWz : w.heap.size < W0.heap.size := (Array.getElem?_eq_some_iff.1 X0.out).1
      have k7 : ∀ i, i < W4.heap.size → i ≠ w3.heap.size + 1 + 1 → i ≠ w.heap.size → w7.heap[i]? = W4.heap[i]? := fun i h1 h2 h3 => (H7.out i h3).trans (HE.out.old i h1 h2)
      have d1 := (k7 w3.heap.size (by omega) (by omega) (by omega)).trans c1.out
      have d2 := (k7 (w3.heap.size + 1) (by omega) (by omega) (by omega)).trans c2'.out
      have O7 : w7.ownsRow W0.heap.size 48 14 (.slice a4 (n + 1) c4) (n + 1) (flat (pEs es)) := by
        have e1 : pS.row ++ flat es ++ (pL n).row = flat (pEs es) := by
          unfold pEs flat
          rw [List.flatMap_append, List.flatMap_cons, List.flatMap_cons, List.flatMap_nil, List.append_nil, show es.length + 1 = n by omega]
        rw [← e1]
        refine own_but O4.out (fun g hg => k7 g (O4.out.lt g hg).2 (fun e2 => ?_) (by have := (O4.out.lt g hg).1; omega))
        subst e2
        rcases O4.out.2 with ⟨e3, _⟩ | ⟨g', cap, cur, e3, _, hgg, _⟩
        · rw [e3] at hg; simp [Value.ownBlock] at hg
        · rw [e3] at hg
          simp [Value.ownBlock] at hg
          subst hg
          rw [c3'.out] at hgg
          simp at hgg
      have R7 : w7.ownsRow W4.heap.size 3 1 (.slice aR (n + 1) cR) (n + 1) ((List.replicate (n + 1) (-1 : Int)).map (Value.int .i64)) := own_but HE.out.row (fun g hg => H7.out g (by have := (HE.out.row.lt g hg).1; omega))
      have hv : cdV (pC es) ⟨none, 0, some ⟨w3.heap.size, 0, none⟩, 1, aR, cR, some ⟨w3.heap.size + 1, 0, none⟩, 2⟩ = .agg #[.slice none 0 0, .slice (some ⟨w3.heap.size, 0, none⟩) 1 1, .slice aR (n + 1) cR, .slice (some ⟨w3.heap.size + 1, 0, none⟩) 2 2] := by unfold cdV; rw [hlen]; rfl
      refine bodyPost_ret (v := .agg #[.slice none 0 0, .slice (some ⟨w3.heap.size, 0, none⟩) 1 1, .slice aR (n + 1) cR, .slice (some ⟨w3.heap.size + 1, 0, none⟩) 2 2]) ?_ rfl ⟨⟨none, 0, some ⟨w3.heap.size, 0, none⟩, 1, aR, cR, some ⟨w3.heap.size + 1, 0, none⟩, 2⟩, by rw [hv], ⟨.inl ⟨EmptyS.nil, rfl⟩, .inr ⟨w3.heap.size, 0, rfl, ⟨fun h hh => ?_, fun _ => (Array.getElem?_eq_some_iff.1 d1).1⟩⟩, Nat.le_refl _, ?_, ?_⟩, ?_⟩
      · exact results_cell_row Tryz.results25 _ w7 _ _ _ (0, 0) _ rfl X7.out Tryz.underlying26 rfl (by as_aux_lemma => kernel_rfl)
      · have hh1 : h < 1 := hh
        obtain rfl : h = 0 := by omega
        refine ⟨.slice a4 (n + 1) c4, by rw [cell_of_row w7 _ _ _ _ _ d1]; rfl, ?_⟩
        show RowV w7 (.slice a4 (n + 1) c4) (es.length + 2) (fun k => ((pEs es)[k]?).getD zeroEv) (fun _ => nilL)
        rw [show es.length + 2 = n + 1 by omega]
        exact row_of_own O7 (pEs_len es |>.trans (by omega)) (bare_all es HB.out)
      · show ReadsI w7 (.slice aR (List.replicate (es.length + 2) (-1 : Int)).length cR) (List.replicate (es.length + 2) (-1 : Int))
        rw [show es.length + 2 = n + 1 by omega]
        refine readsI_of_own (base := W4.heap.size) ?_
        rw [List.length_replicate]
        exact R7
      · show ReadsI w7 (.slice (some ⟨w3.heap.size + 1, 0, none⟩) 2 2) [0, ((es.length + 1 : Nat) : Int)]
        rw [show es.length + 1 = n by omega]
        refine .inr ⟨w3.heap.size + 1, 0, 2, rfl, Nat.le_refl _, by omega, (Array.getElem?_eq_some_iff.1 d2).1, fun j hj => ?_⟩
        have hj2 : j < 2 := hj
        rcases j with _ | _ | j
        · rw [cell_of_row _ _ _ _ _ _ d2]; rfl
        · rw [cell_of_row _ _ _ _ _ _ d2]; rfl
        · omega
      · exact HE.out.below.trans (B7.out)
end Go.Proofs.YtgkiaeddlahngaaGreatDoor
namespace Go.Proofs.YtgkiaeddlahngaaGreatDoor
set_option linter.unusedVariables false
set_option linter.unusedSimpArgs false
open Go.RowKit Go.Maps
attribute [local go_sem ↓] fold_E fold_SE

theorem pC0_may : (pC []).may = true := by decide +kernel
theorem pC1_may : (pC [pF]).may = true := by decide +kernel
theorem pC0_ahead : aheadP (pC []) 0 1 = true := by decide +kernel
theorem pC1_ahead : aheadP (pC [pF]) 0 2 = true := by decide +kernel
theorem pC0_first : firstL (pC []) 0 1 = 0 := by decide +kernel
theorem pC1_first : firstL (pC [pF]) 0 2 = 4 := by decide +kernel
theorem pC_lt (es : List Ev) (hm : es.length ≤ 1) (hw : ∀ e ∈ es, WordE e) : Lt (pC es) where
  ew := fun h _ k hk => by
    show WordE (((pEs es)[k]?).getD zeroEv)
    have hk2 : k < (pEs es).length := by rw [pEs_len]; exact hk
    rw [List.getElem?_eq_getElem hk2]
    show WordE (pEs es)[k]
    have hmem := List.getElem_mem hk2
    unfold pEs at hmem
    rcases List.mem_append.1 hmem with h1 | h1
    · rcases List.mem_cons.1 h1 with h2 | h2
      · exact h2 ▸ ⟨by decide, by decide⟩
      · exact hw _ h2
    · rw [List.mem_singleton] at h1
      exact h1 ▸ ⟨by show (Lit.int .u64 16).wf = true; decide, by show (Lit.int .u64 0).wf = true; decide⟩
  nh := by show (1 : Nat) ≤ 9; omega
  n := by show 0 + (es.length + 2) ≤ 60; omega
  small := fun h _ => ⟨by show es.length + 2 ≤ 60; omega, fun k _ => ⟨Nat.zero_le _, Nat.zero_le _, Nat.zero_le _⟩⟩
  fs := Nat.zero_le _
  fr := by show (List.replicate (es.length + 2) (-1 : Int)).length ≤ 120; rw [List.length_replicate]; omega
  od := by show (2 : Nat) ≤ 120; omega
  fw := fun j hj => absurd hj (by show ¬ j < 0; omega)
theorem fence_any (w : World) : Calls Tryz.prog 26 #[.int .i64 1, .int .i64 2] w fun e w' => e = .returned (.slice (some ⟨w.heap.size, 0, none⟩) 1 1) ∧ w'.heap[w.heap.size]? = some (.cells pF.row.toArray 48 (0, 0)) ∧ Below w.heap.size w w' := by
  go_enter Tryz.func26, Tryz.ntmps26
  go_wp2
  go_ret
  exact ⟨rfl, Array.getElem?_push_size, box_below _ _⟩
theorem bt0 (w : World) : Bt [] none 0 w := ⟨by simp, .inl rfl, fun e he => by simp at he⟩
theorem bt1 {w : World} {g : Nat} (h : w.heap[g]? = some (.cells pF.row.toArray 48 (0, 0))) : Bt [pF] (some ⟨g, 0, none⟩) 1 w :=
  ⟨by simp, .inr ⟨_, rfl, fun i u hu => by
    rw [Addr.add_lit, Nat.zero_add, cell_of_row w g i _ _ _ h]
    unfold flat at hu
    rw [List.flatMap_cons, List.flatMap_nil, List.append_nil] at hu
    simpa using hu⟩, fun e he => by
    rw [List.mem_singleton] at he
    subst he
    exact ⟨rfl, rfl, rfl, by decide⟩⟩
set_option maxRecDepth 100000 in
set_option maxHeartbeats 4000000 in
theorem plives_any (w : World) : Calls Tryz.prog 6 #[] w fun e w' => SameOk w true e w' := by
  have K0 := Lib.hid (fun w0 => (show Calls Tryz.prog 25 #[.slice none 0 0] w0 fun e w' => ∃ q, e = .returned (cdV (pC []) q) ∧ CAt (pC []) q w' ∧ Below w0.heap.size w0 w' from pex_any [] none 0 w0 (bt0 w0)))
  have K1 := Lib.hid (fun g w0 (h0 : w0.heap[g]? = some (.cells pF.row.toArray 48 (0, 0))) => (show Calls Tryz.prog 25 #[.slice (some ⟨g, 0, none⟩) 1 1] w0 fun e w' => ∃ q, e = .returned (cdV (pC [pF]) q) ∧ CAt (pC [pF]) q w' ∧ Below w0.heap.size w0 w' from pex_any [pF] (some ⟨g, 0, none⟩) 1 w0 (bt1 h0)))
  have R0 := Lib.hid (fun q w0 (h0 : CAt (pC []) q w0) => (show Calls Tryz.prog 14 #[cdV (pC []) q, .int .i64 0, .int .i64 1] w0 fun e w' => FirstIs w0 0 e w' from by
    have := Rule_ahead (pC []) q w0 (pC_lt [] (by simp) (fun e he => by simp at he)) h0 pC0_may 0 1 (by decide) (by decide) pC0_ahead
    rw [pC0_first] at this
    exact this))
  have R1 := Lib.hid (fun q w0 (h0 : CAt (pC [pF]) q w0) => (show Calls Tryz.prog 14 #[cdV (pC [pF]) q, .int .i64 0, .int .i64 2] w0 fun e w' => FirstIs w0 4 e w' from by
    have := Rule_ahead (pC [pF]) q w0 (pC_lt [pF] (by simp) (fun e he => by rw [List.mem_singleton] at he; subst he; exact ⟨by decide, by decide⟩)) h0 pC1_may 0 2 (by decide) (by decide) pC1_ahead
    rw [pC1_first] at this
    exact this))
  have KF := Lib.hid (fun w0 => fence_any w0)
  go_enter Tryz.func6, Tryz.ntmps6
  go_wp2_with (first
    | (go_at_call 25; (with_reducible refine (K0.out _).mono ?_); rintro e' w1 ⟨q1, rfl, hc, hb⟩; have C1 := Lib.hid hc; have L1 := Lib.hid hb; clear hc hb)
    | (go_at_call 14; (with_reducible refine (R0.out q1 _ C1.out).mono ?_); rintro e' w2 ⟨rfl, hb⟩; have L2 := Lib.hid (L1.out.trans (hb.mono L1.out.size)); clear hb)
    | (go_at_call 26; (with_reducible refine (KF.out _).mono ?_); rintro e' w3 ⟨rfl, hc, hb⟩; have C3 := Lib.hid hc; have L3 := Lib.hid (L2.out.trans (hb.mono L2.out.size)); clear hc hb)
    | (go_at_call 25; (with_reducible refine (K1.out _ _ C3.out).mono ?_); rintro e' w4 ⟨q4, rfl, hc, hb⟩; have C4 := Lib.hid hc; have L4 := Lib.hid (L3.out.trans (hb.mono L3.out.size)); clear hc hb)
    | (go_at_call 14; (with_reducible refine (R1.out q4 _ C4.out).mono ?_); rintro e' w5 ⟨rfl, hb⟩; have L5 := Lib.hid (L4.out.trans (hb.mono L4.out.size)); clear hb))
  go_ret
  exact ⟨rfl, L5.out⟩
end Go.Proofs.YtgkiaeddlahngaaGreatDoor
namespace Go.Proofs.YtgkiaeddlahngaaGreatDoor
set_option linter.unusedVariables false
set_option linter.unusedSimpArgs false
open Go.RowKit
attribute [local go_sem ↓] fold_E fold_SE

theorem light_none30 (a : Option Addr) (c : Nat) (el : Nat → El) (w : World) : Calls Tryz.prog 27 #[.slice a 0 c, .int .i64 30] w fun e w' => LightIs w 0 el e w' := by
  go_enter Tryz.func27, Tryz.ntmps27
  go_wp2
  refine wp_loop_rounds 1 ?_
  rw [rounds_succ]
  go_wp2
  go_ret
  exact ⟨true, rfl, fun _ => ⟨by omega, fun k hk => absurd hk (by omega)⟩, Below.refl _ _⟩
theorem light_long30 (a : Option Addr) (n c : Nat) (el : Nat → El) (w : World) (hn : 30 < n) : Calls Tryz.prog 27 #[.slice a n c, .int .i64 30] w fun e w' => LightIs w n el e w' := by
  have d1 : decide (30 < n) = true := by simpa using hn
  go_enter Tryz.func27, Tryz.ntmps27
  go_wp2
  go_ret
  exact ⟨false, rfl, (fun h => by cases h), Below.refl _ _⟩
set_option maxRecDepth 100000 in
set_option maxHeartbeats 4000000 in
theorem light_row30 (n b off c : Nat) (ev : Nat → Ev) (el : Nat → El) (w : World) (hn : n ≤ 30) (h : Rw n b off ev el w) :
    Calls Tryz.prog 27 #[.slice (some ⟨b, off, none⟩) n c, .int .i64 30] w fun e w' => LightIs w n el e w' := by
  have HV := Lib.hid h
  have d1 : decide (30 < n) = false := by simp; omega
  clear h
  go_enter Tryz.func27, Tryz.ntmps27
  go_wp2
  go_loopw [5] (fun vi wr => ∃ (k : Nat), k ≤ n ∧ vi = .int .i64 k ∧ Hid (∀ j, j < k → small (el j)) ∧ Below w.heap.size w wr) (fun vi _ => n - (intOf vi).toNat)
  case atStart => exact ⟨0, Nat.zero_le _, rfl, Lib.hid (fun j hj => absurd hj (by omega)), Below.refl _ _⟩
  case round =>
    obtain ⟨k, hk, rfl, hR, hbel⟩ := hrel
    have HL := Lib.hid hbel
    clear hbel
    by_cases hlt : k < n
    · have HE := Lib.hid (HV.out.below HL.out)
      obtain ⟨u0, u1, u2⟩ := (HE.out.at_ k hlt).deps
      obtain ⟨a1, c1, e1⟩ := (HE.out.reads k hlt).1.len
      obtain ⟨a2, c2, e2⟩ := (HE.out.reads k hlt).2.1.len
      obtain ⟨a3, c3, e3⟩ := (HE.out.reads k hlt).2.2.len
      rw [e1] at u0
      rw [e2] at u1
      rw [e3] at u2
      clear e1 e2 e3
      by_cases hs : small (el k)
      · have KL := Lib.hid (fun w0 => light_b a1 a2 a3 (el k).a.length (el k).d.length (el k).y.length c1 c2 c3 true (Lib.hid (by simp [hs.1, hs.2.1, hs.2.2])) w0)
        have HS2 : Hid (∀ j, j < k + 1 → small (el j)) := Lib.hid (fun j hj => by
          by_cases h : j < k
          · exact hR.out j h
          · obtain rfl : j = k := by omega
            exact hs)
        clear hs
        go_wp2_with (go_at_call 50; (with_reducible refine (KL.out _).mono ?_); rintro e' w1 ⟨rfl, hb⟩; have L1 := Lib.hid (HL.out.trans (hb.mono HL.out.size)); clear hb)
        go_roundw
        case rel => exact ⟨k + 1, by omega, by go_num, HS2, L1.out⟩
        case measure => simp [intOf]; omega
      · have KL := Lib.hid (fun w0 => light_b a1 a2 a3 (el k).a.length (el k).d.length (el k).y.length c1 c2 c3 false (Lib.hid (by
          have hs' : ¬ ((el k).a.length ≤ 60 ∧ (el k).d.length ≤ 60 ∧ (el k).y.length ≤ 60) := hs
          cases h : (decide ((el k).a.length ≤ 60) && (decide ((el k).d.length ≤ 60) && decide ((el k).y.length ≤ 60))) with
          | false => rfl
          | true => exact absurd (by simpa using h) hs')) w0)
        clear hs
        go_wp2_with (go_at_call 50; (with_reducible refine (KL.out _).mono ?_); rintro e' w1 ⟨rfl, hb⟩; have L1 := Lib.hid (HL.out.trans (hb.mono HL.out.size)); clear hb)
        go_ret
        exact ⟨false, rfl, (fun h => by cases h), L1.out⟩
    · obtain rfl : k = n := by omega
      go_wp2
      go_ret
      exact ⟨true, rfl, fun _ => ⟨by omega, hR.out⟩, HL.out⟩
theorem light_v30 {w : World} {a : Option Addr} {n c : Nat} {ev : Nat → Ev} {el : Nat → El} (h : RowV w (.slice a n c) n ev el) : Calls Tryz.prog 27 #[.slice a n c, .int .i64 30] w fun e w' => LightIs w n el e w' := by
  obtain ⟨a', c', e, _, h⟩ := h
  injection e with e1 e2 e3
  subst e1 e3
  rcases h with rfl | ⟨b, off, rfl, h⟩
  · exact light_none30 a c el w
  · by_cases hn : n ≤ 30
    · exact light_row30 n b off c ev el w hn h
    · exact light_long30 _ n c el w (by omega)
set_option maxRecDepth 100000 in
set_option maxHeartbeats 8000000 in
theorem lightCand_any30 (c : Cd) (q : Cv) (w : World) (h : CAt c q w) : Calls Tryz.prog 7 #[cdV c q, .int .i64 30] w fun e w' => LightC c w e w' := by
  have H := Lib.hid h
  have HB0 := Lib.hid (box_below w (.cells #[.slice q.aF c.fs.length q.cF, .slice q.aH c.nh q.cH, .slice q.aR c.fr.length q.cR, .slice q.aO c.od.length q.cO] 26))
  clear h
  go_enter Tryz.func7, Tryz.ntmps7
  go_wp2
  go_loopw [5, 6] (fun vn vi wr => ∃ (k : Nat), k ≤ c.nh ∧ k ≤ 10 ∧ vi = .int .i64 k ∧ vn = .int .i64 (baseL c.len k : Nat) ∧ Hid (smallTo c k) ∧ Hid (CdAt c q w.heap.size wr) ∧ Below w.heap.size w wr) (fun _ vi _ => 10 - (intOf vi).toNat)
  case atStart => exact ⟨0, Nat.zero_le _, Nat.zero_le _, rfl, rfl, Lib.hid (fun h hh => absurd hh (by omega)), Lib.hid (CdAt.new c q w), HB0.out⟩
  case round =>
    obtain ⟨k, hk, hk10, rfl, rfl, hS, hbx, hbel⟩ := hrel
    have HB := Lib.hid hbel
    have hbase := smallTo.base k hS.out
    clear hbel
    obtain ⟨u0, u1, u2, u3⟩ := hbx.out.facts
    by_cases hlt : k < c.nh ∧ k < 10
    · obtain ⟨h1, h2⟩ := hlt
      obtain ⟨b, off, a2, c2, hq, hc, _, hrow⟩ := (H.out.harts.below HB.out).row k h1
      have KL := Lib.hid (light_v30 (w := wr) hrow)
      have hbk : baseL c.len (k + 1) = baseL c.len k + c.len k := rfl
      have hlk := Lib.hid hrow
      clear hrow
      obtain ⟨L, hL⟩ : ∃ L, baseL c.len k = L := ⟨_, rfl⟩
      rw [hL] at hbase hbk ⊢
      have h1' : (k : Int) < (c.nh : Int) := by omega
      have h2' : (k : Int) < 10 := by omega
      go_wp2_with (go_at_call 27; (with_reducible refine (KL.out).mono ?_); rintro e' w2 ⟨r, rfl, hr, hb⟩; have X2 := Lib.hid (hbx.out.on hb); have L2 := Lib.hid (HB.out.trans (hb.mono HB.out.size)); have R2 := Lib.hid hr; clear hb hr)
      · go_ret
        exact LightC.no L2.out
      · rename_i hr
        have hr2 := Lib.hid (R2.out (by simpa using hr))
        have hS2 : Hid (smallTo c (k + 1)) := Lib.hid (fun h hh => by
          rcases Nat.lt_or_ge h k with h3 | h3
          · exact hS.out h h3
          · obtain rfl : h = k := by omega
            exact hr2.out)
        have hwr : wrap64 ((L : Int) + (c.len k : Int)) = ((baseL c.len (k + 1) : Nat) : Int) := by
          rw [IntWalk.wrap64_in _ (by have := hr2.out.1; omega), hbk]; omega
        rw [hwr]
        clear hr hwr
        go_roundw
        case rel => exact ⟨k + 1, by omega, by omega, by go_num, rfl, hS2, X2, L2.out⟩
        case measure => simp [intOf]; omega
    · by_cases h9 : c.nh ≤ 9
      rotate_left
      · have d9 : decide ((c.nh : Int) ≤ 9) = false := by simp; omega
        by_cases hl : k < c.nh
        · have hk : k = 10 := by omega
          subst hk
          have h1' : (10 : Int) < (c.nh : Int) := by omega
          go_wp2
          go_ret
          exact LightC.no HB.out
        · obtain rfl : k = c.nh := by omega
          have h1' : decide ((c.nh : Int) < (c.nh : Int)) = false := by simp
          go_wp2
          go_ret
          exact LightC.no HB.out
      obtain hkn : k = c.nh := by omega
      rw [hkn] at hbase hS ⊢
      have d9 : decide ((c.nh : Int) ≤ 9) = true := by simp; omega
      have h1' : decide ((c.nh : Int) < (c.nh : Int)) = false := by simp
      have hLw := Lib.hid (fun (h2 : c.N ≤ 60) (h3 : c.fs.length ≤ 60) (h4 : c.fr.length ≤ 120) (h5 : c.od.length ≤ 120) => (show Lw c from ⟨h9, h2, hS.out, h3, h4, h5⟩))
      obtain ⟨N, hN⟩ : ∃ N, baseL c.len c.nh = N := ⟨_, rfl⟩
      have hN2 : Hid (c.N = N) := Lib.hid hN
      rw [hN] at hbase ⊢
      rw [hN2.out] at hLw
      clear hkn hk hk10 hlt h9 hN
      by_cases e2 : N ≤ 30
      · by_cases e3 : c.fs.length ≤ 30
        · by_cases e4 : c.fr.length ≤ 60
          · by_cases e5 : c.od.length ≤ 60
            · have g2 : decide ((N : Int) ≤ 30) = true := by simp; omega
              have g3 : decide ((c.fs.length : Int) ≤ 30) = true := by simp; omega
              have g4 : decide ((c.fr.length : Int) ≤ 60) = true := by simp; omega
              have g5 : decide ((c.od.length : Int) ≤ 60) = true := by simp; omega
              have hOK := Lib.hid (hLw.out (by omega) (by omega) (by omega) (by omega))
              clear e2 e3 e4 e5
              go_wp2
              go_ret
              exact ⟨_, rfl, fun _ => hOK.out, HB.out⟩
            · have g2 : decide ((N : Int) ≤ 30) = true := by simp; omega
              have g3 : decide ((c.fs.length : Int) ≤ 30) = true := by simp; omega
              have g4 : decide ((c.fr.length : Int) ≤ 60) = true := by simp; omega
              have g5 : decide ((c.od.length : Int) ≤ 60) = false := by simp; omega
              clear e2 e3 e4 e5
              go_wp2
              go_ret
              exact LightC.no HB.out
          · have g2 : decide ((N : Int) ≤ 30) = true := by simp; omega
            have g3 : decide ((c.fs.length : Int) ≤ 30) = true := by simp; omega
            have g4 : decide ((c.fr.length : Int) ≤ 60) = false := by simp; omega
            clear e2 e3 e4
            go_wp2
            go_ret
            exact LightC.no HB.out
        · have g2 : decide ((N : Int) ≤ 30) = true := by simp; omega
          have g3 : decide ((c.fs.length : Int) ≤ 30) = false := by simp; omega
          clear e2 e3
          go_wp2
          go_ret
          exact LightC.no HB.out
      · have g2 : decide ((N : Int) ≤ 30) = false := by simp; omega
        clear e2
        go_wp2
        go_ret
        exact LightC.no HB.out
end Go.Proofs.YtgkiaeddlahngaaGreatDoor
namespace Go.Proofs.YtgkiaeddlahngaaGreatDoor
set_option linter.unusedVariables false
set_option linter.unusedSimpArgs false
open Go.RowKit Go.Maps
attribute [local go_sem ↓] fold_E fold_SE
attribute [local irreducible] wpStill

abbrev numI (l : List Int) : Array Value := (l.map (Value.int .i64)).toArray
theorem eqItems_ints (d : Nat) (l : List Int) (w : World) : ∀ (is : List Nat), (∀ i ∈ is, i < l.length) → (Op.eqItems (d + 1) 3 1 (numI l) (numI l) is).run Tryz.prog w = .ok true w
  | [], _ => by simp [Op.eqItems]
  | i :: is, h => by
    have hi := h i (by simp)
    have ih := eqItems_ints d l w is (fun j hj => h j (by simp [hj]))
    have hp : (_root_.Go.part 3 (numI l) (i * 1)).run Tryz.prog w = .ok (.int .i64 (l[i])) w := by
      have hx : (numI l)[i]? = some (.int .i64 (l[i])) := by unfold numI; simp [hi]
      simp [_root_.Go.part, go_sem, Tryz.isAgg3, hx]
    have he : (Op.equalIn (d + 1) 3 (.int .i64 (l[i])) (.int .i64 (l[i]))).run Tryz.prog w = .ok true w := by
      simp [Op.equalIn, run_underlying Tryz.underlying3]
    simp only [Op.eqItems, Sem.run_bind, hp, he, Result.andThen_ok]
    simpa using ih
theorem eq_pair (a b : Int) (w : World) : (Op.equalIn 10000 36 (.agg #[.int .i64 a, .int .i64 b]) (.agg #[.int .i64 a, .int .i64 b])).run Tryz.prog w = .ok true w := by
  have hc : Tryz.prog.cellsOf 3 = 1 := by kernel_rfl
  obtain ⟨i, hi⟩ : ∃ i, Tryz.prog.info? 3 = some i := by
    have : (Tryz.prog.info? 3).isSome = true := by kernel_rfl
    exact Option.isSome_iff_exists.1 this
  have h := run_equalIn_array (P := Tryz.prog) w 9999 (numI [a, b]) (numI [a, b]) Tryz.underlying36 hi
  rw [hc, show (9999 : Nat) = 9998 + 1 from rfl, eqItems_ints 9998 [a, b] w _ (fun j hj => by simpa using List.mem_range.1 hj)] at h
  exact h
theorem rowP2_cell2 : ∀ (L : List (Nat × Nat)) (i a b : Nat), L[i]? = some (a, b) → (rowP2 L)[i * 2]? = some (.int .i64 (a : Int)) ∧ (rowP2 L)[i * 2 + 1]? = some (.int .i64 (b : Int))
  | [], i, a, b, h => by simp at h
  | p :: l, 0, a, b, h => by
    simp at h; subst h
    exact ⟨rfl, rfl⟩
  | p :: l, i + 1, a, b, h => by
    have := rowP2_cell2 l i a b (by simpa using h)
    rw [show (i + 1) * 2 = i * 2 + 2 by omega]
    exact this
theorem rowP2_size2 (L : List (Nat × Nat)) : (rowP2 L).length = L.length * 2 := by
  induction L with
  | nil => rfl
  | cons p l ih => simp [rowP2] at ih ⊢; omega
theorem pair_cells2 {W : World} {bL : Nat} {a0 : Option Addr} {cap : Nat} {L : List (Nat × Nat)} (h : W.ownsRow bL 36 2 (.slice a0 L.length cap) L.length (rowP2 L)) {i a b : Nat} (hi : L[i]? = some (a, b)) : ∃ g, a0 = some ⟨g, 0, none⟩ ∧ W.cell? ⟨g, i * 2, none⟩ = some (.int .i64 (a : Int)) ∧ W.cell? ⟨g, i * 2 + 1, none⟩ = some (.int .i64 (b : Int)) := by
  have hlt : i < L.length := (List.getElem?_eq_some_iff.1 hi).1
  obtain ⟨h1, h2⟩ := rowP2_cell2 L i a b hi
  have hz := rowP2_size2 L
  rcases h.2 with ⟨_, h0⟩ | ⟨g, cap', cur, e, _⟩
  · omega
  · injection e with e1 e2 e3
    subst e1
    exact ⟨g, rfl, (h.cellAt (i * 2) (by omega)).trans h1, (h.cellAt (i * 2 + 1) (by omega)).trans h2⟩
set_option maxRecDepth 100000 in
set_option maxHeartbeats 4000000 in
theorem same_pairs (L : List (Nat × Nat)) (hlen : L.length ≤ 3600) (a1 a2 : Option Addr) (c1 c2 b1 b2 : Nat) (w : World) (h1 : w.ownsRow b1 36 2 (.slice a1 L.length c1) L.length (rowP2 L)) (h2 : w.ownsRow b2 36 2 (.slice a2 L.length c2) L.length (rowP2 L)) :
    Calls Tryz.prog 13 #[.slice a1 L.length c1, .slice a2 L.length c2] w fun e w' => SaysB w true e w' := by
  have H1 := Lib.hid h1
  have H2 := Lib.hid h2
  have d0 : (((L.length : Nat) : Int) != ((L.length : Nat) : Int)) = false := by simp
  clear h1 h2
  go_enter Tryz.func13, Tryz.ntmps13
  go_wp2
  go_loopw [5] (fun vi wr => ∃ i : Nat, i ≤ L.length ∧ vi = .int .i64 (i : Int) ∧ Hid (Below w.heap.size w wr)) (fun vi _ => L.length - (intOf vi).toNat)
  case atStart => exact ⟨0, by omega, rfl, Lib.hid (Below.refl _ _)⟩
  case round =>
    obtain ⟨i, hi, rfl, HB⟩ := hrel
    by_cases hlt : i < L.length
    · have hii : (i : Int) < (L.length : Int) := by omega
      have hi0 : (0 : Int) ≤ (i : Int) := by omega
      obtain ⟨⟨a, b⟩, hab⟩ : ∃ p, L[i]? = some p := ⟨_, List.getElem?_eq_getElem hlt⟩
      obtain ⟨g1, rfl, x0, x1⟩ := pair_cells2 (own_on (own_on H1.out HB.out) (Below.refl wr.heap.size wr).drew) hab
      obtain ⟨g2, rfl, z0, z1⟩ := pair_cells2 (own_on (own_on H2.out HB.out) (Below.refl wr.heap.size wr).drew) hab
      have he := eq_pair (a : Int) (b : Int) wr.drew
      have HB2 := Lib.hid (HB.out.trans ((Below.refl wr.heap.size wr).drew.mono HB.out.size))
      clear hab
      go_upto_region 6 with fail
      refine wp_region_still_tail 8 (by kernel_rfl) (by kernel_rfl) ?_
      simp only [List.take_succ_cons, List.take_zero, List.drop_succ_cons, List.drop_zero]
      iterate 8 still_step
      refine wpStill_nil ?_
      change wpList _ _ _ _ _ (World.drew _)
      go_wp2
      go_roundw
      case rel => exact ⟨i + 1, by omega, by go_num, HB2⟩
      case measure => simp [intOf]; omega
    · obtain rfl : i = L.length := by omega
      go_wp2
      go_ret
      exact ⟨rfl, HB.out⟩
/-! a copy's answers are the first one's -/
theorem Al.ruleW {c d : Cd} (h : Al c d) (a b : Int) : ruleW d a b = ruleW c a b := by
  unfold Go.Proofs.YtgkiaeddlahngaaGreatDoor.ruleW
  rw [h.may, h.ruleL]
theorem Al.holdsW {c d : Cd} (h : Al c d) (a b k : Int) : holdsW d a b k = holdsW c a b k := by
  unfold Go.Proofs.YtgkiaeddlahngaaGreatDoor.holdsW
  rw [h.may, h.ahead, h.rule]
theorem Al.edge {c d : Cd} (h : Al c d) (x y : Nat) : edge d x y = edge c x y := by
  unfold Go.Proofs.YtgkiaeddlahngaaGreatDoor.edge
  rw [h.ruleL]
theorem Al.rch {c d : Cd} (h : Al c d) (a : Nat) : ∀ n x, rch d a n x = rch c a n x
  | 0, _ => rfl
  | n + 1, x => by
    show (if x = n then (List.range n).any (fun m => (decide (m = a) || Go.Proofs.YtgkiaeddlahngaaGreatDoor.rch d a n m) && Go.Proofs.YtgkiaeddlahngaaGreatDoor.edge d m n) else Go.Proofs.YtgkiaeddlahngaaGreatDoor.rch d a n x) = (if x = n then (List.range n).any (fun m => (decide (m = a) || Go.Proofs.YtgkiaeddlahngaaGreatDoor.rch c a n m) && Go.Proofs.YtgkiaeddlahngaaGreatDoor.edge c m n) else Go.Proofs.YtgkiaeddlahngaaGreatDoor.rch c a n x)
    have e : (fun m => (decide (m = a) || Go.Proofs.YtgkiaeddlahngaaGreatDoor.rch d a n m) && Go.Proofs.YtgkiaeddlahngaaGreatDoor.edge d m n) = (fun m => (decide (m = a) || Go.Proofs.YtgkiaeddlahngaaGreatDoor.rch c a n m) && Go.Proofs.YtgkiaeddlahngaaGreatDoor.edge c m n) := by
      funext m
      rw [Al.rch h a n m, h.edge]
    rw [e, Al.rch h a n x]
theorem Al.wholeW {c d : Cd} (h : Al c d) (a b : Int) : wholeW d a b = wholeW c a b := by
  unfold Go.Proofs.YtgkiaeddlahngaaGreatDoor.wholeW reachB
  rw [h.may, h.ahead, h.rch]
theorem Al.fullG {c d : Cd} (h : Al c d) : ∀ k last n, fullG d k last n = fullG c k last n
  | 0, _, _ => rfl
  | k + 1, last, n => by
    show (if (aheadP d last n && decide (Go.Proofs.YtgkiaeddlahngaaGreatDoor.ruleL d last n = 0)) = true then false else Go.Proofs.YtgkiaeddlahngaaGreatDoor.fullG d k (if sideE (d.at n).1 ≠ 0 then (n : Int) else last) (n + 1)) = (if (aheadP c last n && decide (Go.Proofs.YtgkiaeddlahngaaGreatDoor.ruleL c last n = 0)) = true then false else Go.Proofs.YtgkiaeddlahngaaGreatDoor.fullG c k (if sideE (c.at n).1 ≠ 0 then (n : Int) else last) (n + 1))
    rw [h.ahead, h.ruleL, h.side, Al.fullG h k]
theorem Al.fullW {c d : Cd} (h : Al c d) : fullW d = fullW c := by
  unfold Go.Proofs.YtgkiaeddlahngaaGreatDoor.fullW
  rw [h.may, h.N, h.fullG]
/-- both candidates in their boxes -/
structure Pb (c : Cd) (q : Cv) (d : Cd) (q' : Cv) (gD : Nat) (w W : World) : Prop where
  lk : Lk c q w W
  box : CdAt d q' gD W
  at_ : CAt d q' W
theorem Pb.on {c : Cd} {q : Cv} {d : Cd} {q' : Cv} {gD : Nat} {w W W2 : World} (h : Pb c q d q' gD w W) (hb : Below W.heap.size W W2) : Pb c q d q' gD w W2 := ⟨h.lk.on hb, h.box.on hb, h.at_.below hb⟩
theorem Pb.facts {c : Cd} {q : Cv} {d : Cd} {q' : Cv} {gD : Nat} {w W : World} (h : Pb c q d q' gD w W) : W.cell? ⟨w.heap.size, 0, none⟩ = some (.slice q.aF c.fs.length q.cF) ∧ W.cell? ⟨w.heap.size, 1, none⟩ = some (.slice q.aH c.nh q.cH) ∧ W.cell? ⟨w.heap.size, 2, none⟩ = some (.slice q.aR c.fr.length q.cR) ∧ W.cell? ⟨w.heap.size, 3, none⟩ = some (.slice q.aO c.od.length q.cO) ∧ W.cell? ⟨gD, 0, none⟩ = some (.slice q'.aF d.fs.length q'.cF) ∧ W.cell? ⟨gD, 1, none⟩ = some (.slice q'.aH d.nh q'.cH) ∧ W.cell? ⟨gD, 2, none⟩ = some (.slice q'.aR d.fr.length q'.cR) ∧ W.cell? ⟨gD, 3, none⟩ = some (.slice q'.aO d.od.length q'.cO) := by
  obtain ⟨a0, a1, a2, a3⟩ := h.lk.box.facts
  obtain ⟨b0, b1, b2, b3⟩ := h.box.facts
  exact ⟨a0, a1, a2, a3, b0, b1, b2, b3⟩
set_option maxRecDepth 100000 in
set_option maxHeartbeats 32000000 in
theorem ppoCalls_any (c : Cd) (q : Cv) (w : World) (h : CAt c q w) (hx : ∀ h, h < c.nh → ∀ k, k < c.len h → WordX (c.ev h k)) (hf : ∀ j, j < c.fs.length → (0 ≤ fA c.fs j ∧ fA c.fs j < 18446744073709551616) ∧ (0 ≤ fV c.fs j ∧ fV c.fs j < 18446744073709551616)) (hT : TabT w) (a b k : Int) (ha : -9223372036854775808 ≤ a ∧ a ≤ 9223372036854775807) (hb0 : -9223372036854775808 ≤ b ∧ b ≤ 9223372036854775807) :
    Calls Tryz.prog 3 #[cdV c q, .int .i64 a, .int .i64 b, .int .i64 k] w fun e w' => SameOk w true e w' := by
  have S0 := Lib.hid (Lk.start h)
  have HX := Lib.hid hx
  have HP := Lib.hid (fun h hh k hk => (hx h hh k hk).2)
  have HE := Lib.hid (fun h hh k hk => (hx h hh k hk).1)
  have HFW := Lib.hid hf
  have HT := Lib.hid hT
  have HAa := Lib.hid ha
  have HBb := Lib.hid hb0
  clear h hx hf hT ha hb0
  go_enter Tryz.func3, Tryz.ntmps3
  go_upto_region 3 with (go_at_call 6; (with_reducible refine (plives_any _).mono ?_); rintro e' w1 ⟨rfl, hb⟩; have S1 := Lib.hid (S0.out.on hb); clear hb)
  obtain ⟨x0, x1, x2, x3⟩ := S1.out.box.facts
  go_upto_region 5 with (go_at_call 7; (with_reducible refine (lightCand_any30 c q w1 S1.out.at_).mono ?_); rintro e' w2 ⟨r, rfl, hr, hb⟩; have S2 := Lib.hid (S1.out.on hb); have R2 := Lib.hid (fun (e : r = true) => (hr e).lt HE.out HFW.out); clear hb hr x0 x1 x2 x3; cases r)
  · go_ret
    exact ⟨rfl, S2.out.below⟩
  have LT := Lib.hid (R2.out (by first | rfl | trivial))
  clear R2 S1 S0
  obtain ⟨x0, x1, x2, x3⟩ := S2.out.box.facts
  obtain ⟨m, hm⟩ : ∃ m, Hid (c.may = m) := ⟨_, Lib.hid rfl⟩
  have KC := Lib.hid (rcheck9_is c q w2 LT.out HP.out S2.out.at_ m hm.out)
  go_upto_if 19 with (go_at_call 8; (with_reducible refine (KC.out).mono ?_); rintro e' w3 ⟨rfl, hb⟩; have S3 := Lib.hid (S2.out.on hb); clear hb x0 x1 x2 x3)
  go_cut [1, 2] (fun t1 t2 wx => ∃ a' b', t1 = .int .i64 a' ∧ t2 = .int .i64 b' ∧ Hid (Lk c q w wx))
  case first => as_aux_lemma =>
    cases m with
    | false =>
      go_wp2_with fail
      go_meet
      exact ⟨_, _, rfl, rfl, S3⟩
    | true =>
      obtain ⟨x0, x1, x2, x3⟩ := S3.out.box.facts
      go_upto_region 6 with fail
      have hfr := LT.out.fr
      have SD := Lib.hid (S3.out.on (Below.refl _ _).drew)
      obtain ⟨a1, ha1⟩ : ∃ z, Hid (pickI a ((c.fr.length : Int) + 2) = z) := ⟨_, Lib.hid rfl⟩
      obtain ⟨b1, hb1⟩ : ∃ z, Hid (pickI b ((c.fr.length : Int) + 2) = z) := ⟨_, Lib.hid rfl⟩
      have KA := Lib.hid (fun w0 => Pick_fit a HAa.out ((c.fr.length : Int) + 2) (by omega) w0)
      have KB := Lib.hid (fun w0 => Pick_fit b HBb.out ((c.fr.length : Int) + 2) (by omega) w0)
      rw [ha1.out] at KA
      rw [hb1.out] at KB
      have hw2 : IntKind.i64.wrap ((c.fr.length : Int) + 2) = (c.fr.length : Int) + 2 := by rw [IntWalk.i64_in _ (by omega)]
      go_region_held3 (fun w' => w'.cell? ⟨w.heap.size, 2, none⟩ = some (.slice q.aR c.fr.length q.cR)) (exact SD.out.box.facts.2.2.1)
        ((first
          | (go_at_call 9; (with_reducible refine (KA.out _).mono ?_); rintro e' wa ⟨rfl, rfl⟩)
          | (go_at_call 9; (with_reducible refine (KB.out _).mono ?_); rintro e' wb ⟨rfl, rfl⟩)))
      all_goals
        go_wp2_with fail
        go_meet
        exact ⟨_, _, rfl, rfl, SD⟩
  case rest =>
    obtain ⟨a', b', rfl, rfl, S4⟩ := hcut
    clear S2 S3 KC
    have KO := Lib.hid (ownCand_al c q wc LT.out S4.out.at_)
    obtain ⟨x0, x1, x2, x3⟩ := S4.out.box.facts
    go_upto_region 8 with (go_at_call 10; (with_reducible refine (KO.out).mono ?_); rintro e' w5 ⟨d, q', rfl, hc, hd, hal, hb⟩; have S5 := Lib.hid (S4.out.on hb); have C5 := Lib.hid hc; have LD := Lib.hid hd; have AL := Lib.hid hal; clear hb hc hd hal x0 x1 x2 x3)
    have P5 : Hid (Pb c q d q' w5.heap.size w (w5.alloc (.cells #[.slice q'.aF d.fs.length q'.cF, .slice q'.aH d.nh q'.cH, .slice q'.aR d.fr.length q'.cR, .slice q'.aO d.od.length q'.cO] 26))) := Lib.hid ⟨S5.out.on (box_below w5 _), CdAt.new d q' w5, C5.out.below (box_below w5 _)⟩
    go_name_world W5 hW5
    rw [hW5] at P5
    obtain ⟨gD, hgD⟩ : ∃ g, w5.heap.size = g := ⟨_, rfl⟩
    rw [hgD] at P5 ⊢
    clear hW5 hgD S4 S5 C5 KO
    obtain ⟨L, hLL⟩ : ∃ L, pairsW c = L := ⟨_, rfl⟩
    have HLen : Hid (L.length ≤ 3600) := Lib.hid (by
      rw [← hLL]
      unfold pairsW
      split
      · have := pairsOut_len c LT.out.n c.N 0; have := LT.out.n; omega
      · simp)
    have KP := Lib.hid (fun w0 h0 => (show Calls Tryz.prog 11 #[cdV d q'] w0 fun e w' => ∃ a cp base, e = .returned (.slice a L.length cp) ∧ w'.ownsRow base 36 2 (.slice a L.length cp) L.length (rowP2 L) ∧ Below w0.heap.size w0 w' from by
      have := own_pairs d q' w0 LD.out h0
      rw [AL.out.pairs, hLL] at this
      exact this))
    have KQ := Lib.hid (fun w0 h0 => (show Calls Tryz.prog 12 #[cdV c q] w0 fun e w' => ∃ a cp base, e = .returned (.slice a L.length cp) ∧ w'.ownsRow base 36 2 (.slice a L.length cp) L.length (rowP2 L) ∧ Below w0.heap.size w0 w' from by
      have := rPairs_any c q w0 LT.out HP.out h0
      rw [hLL] at this
      exact this))
    obtain ⟨n, hn⟩ : ∃ z, Hid (ruleW c a' b' = z) := ⟨_, Lib.hid rfl⟩
    obtain ⟨h, hh⟩ : ∃ z, Hid (holdsW c a' b' k = z) := ⟨_, Lib.hid rfl⟩
    obtain ⟨u, hu⟩ : ∃ z, Hid (wholeW c a' b' = z) := ⟨_, Lib.hid rfl⟩
    obtain ⟨f, hf⟩ : ∃ z, Hid (fullW c = z) := ⟨_, Lib.hid rfl⟩
    have KR := Lib.hid (fun w0 h0 => (show Calls Tryz.prog 14 #[cdV d q', .int .i64 a', .int .i64 b'] w0 fun e w' => FirstIs w0 n e w' from by
      have := Rule_any d q' w0 LD.out h0 a' b'
      rw [AL.out.ruleW, hn.out] at this
      exact this))
    have KRd := Lib.hid (fun w0 h0 => (show Calls Tryz.prog 15 #[cdV c q, .int .i64 a', .int .i64 b'] w0 fun e w' => FirstIs w0 n e w' from by
      have := rRule_any c q w0 LT.out HP.out h0 a' b'
      rw [hn.out] at this
      exact this))
    have KH := Lib.hid (fun w0 h0 => Holds_any d q' w0 LD.out h0 a' b' k h (by rw [AL.out.holdsW]; exact hh.out))
    have KHd := Lib.hid (fun w0 h0 => rHolds_any c q w0 LT.out HP.out h0 a' b' k h hh.out)
    have KW := Lib.hid (fun w0 h0 hT => Whole_any d q' w0 LD.out h0 hT a' b' u (by rw [AL.out.wholeW]; exact hu.out))
    have KWd := Lib.hid (fun w0 h0 => rWhole_any c q w0 LT.out HP.out h0 a' b' u hu.out)
    have KF := Lib.hid (fun w0 h0 => Full_any d q' w0 LD.out h0 f (by rw [AL.out.fullW]; exact hf.out))
    have KFd := Lib.hid (fun w0 h0 => rFull_any c q w0 LT.out HP.out h0 f hf.out)
    clear hLL
    have PD := Lib.hid (P5.out.on (Below.refl _ _).drew)
    go_cut [10, 11] (fun t10 t11 wx => ∃ a1 c1 b1 a2 c2 b2, t10 = .slice a1 L.length c1 ∧ t11 = .slice a2 L.length c2 ∧ Hid (Pb c q d q' gD w wx) ∧ Hid (wx.ownsRow b1 36 2 (.slice a1 L.length c1) L.length (rowP2 L) ∧ wx.ownsRow b2 36 2 (.slice a2 L.length c2) L.length (rowP2 L)))
    case first => as_aux_lemma =>
      go_region_held3 (fun w' => w'.cell? ⟨w.heap.size, 0, none⟩ = some (.slice q.aF c.fs.length q.cF) ∧ w'.cell? ⟨w.heap.size, 1, none⟩ = some (.slice q.aH c.nh q.cH) ∧ w'.cell? ⟨w.heap.size, 2, none⟩ = some (.slice q.aR c.fr.length q.cR) ∧ w'.cell? ⟨w.heap.size, 3, none⟩ = some (.slice q.aO c.od.length q.cO) ∧ w'.cell? ⟨gD, 0, none⟩ = some (.slice q'.aF d.fs.length q'.cF) ∧ w'.cell? ⟨gD, 1, none⟩ = some (.slice q'.aH d.nh q'.cH) ∧ w'.cell? ⟨gD, 2, none⟩ = some (.slice q'.aR d.fr.length q'.cR) ∧ w'.cell? ⟨gD, 3, none⟩ = some (.slice q'.aO d.od.length q'.cO))
        (first | exact PD.out.facts | exact P6.out.facts | exact P7.out.facts)
        ((first
          | (go_at_call 11; (with_reducible refine (KP.out _ PD.out.at_).mono ?_); rintro e' w6 ⟨a1, c1, b1, rfl, ho1, hb⟩; have P6 := Lib.hid (PD.out.on hb); have O1 := Lib.hid ho1; clear hb ho1)
          | (go_at_call 12; (with_reducible refine (KQ.out _ P6.out.lk.at_).mono ?_); rintro e' w7 ⟨a2, c2, b2, rfl, ho2, hb⟩; have P7 := Lib.hid (P6.out.on hb); have O12 := Lib.hid (own_on O1.out hb); have O2 := Lib.hid ho2; clear hb ho2)))
      all_goals
        go_wp2_with fail
        go_meet
        exact ⟨_, _, _, _, _, _, rfl, rfl, P7, Lib.hid ⟨O12.out, O2.out⟩⟩
    case rest =>
      obtain ⟨a1, c1, b1, a2, c2, b2, rfl, rfl, P8, O8⟩ := hcut
      clear PD P5 KP KQ
      have KS := Lib.hid (fun w0 (h0 : w0.ownsRow b1 36 2 (.slice a1 L.length c1) L.length (rowP2 L) ∧ w0.ownsRow b2 36 2 (.slice a2 L.length c2) L.length (rowP2 L)) => same_pairs L HLen.out a1 a2 c1 c2 b1 b2 w0 h0.1 h0.2)
      have P0 := Lib.hid (P8.out.on (Below.refl _ _).drew)
      have OS : Hid (wc.drew.ownsRow b1 36 2 (.slice a1 L.length c1) L.length (rowP2 L) ∧ wc.drew.ownsRow b2 36 2 (.slice a2 L.length c2) L.length (rowP2 L)) := Lib.hid ⟨own_on O8.out.1 (Below.refl _ _).drew, own_on O8.out.2 (Below.refl _ _).drew⟩
      clear P8 O8
      have eh : (h == h) = true := by simp
      have eu : (u == u) = true := by simp
      have ef : (f == f) = true := by simp
      have en : (((n : Nat) : Int) == ((n : Nat) : Int)) = true := by simp
      go_upto_region 9 with fail
      go_region_held3 (fun w' => w'.cell? ⟨w.heap.size, 0, none⟩ = some (.slice q.aF c.fs.length q.cF) ∧ w'.cell? ⟨w.heap.size, 1, none⟩ = some (.slice q.aH c.nh q.cH) ∧ w'.cell? ⟨w.heap.size, 2, none⟩ = some (.slice q.aR c.fr.length q.cR) ∧ w'.cell? ⟨w.heap.size, 3, none⟩ = some (.slice q.aO c.od.length q.cO) ∧ w'.cell? ⟨gD, 0, none⟩ = some (.slice q'.aF d.fs.length q'.cF) ∧ w'.cell? ⟨gD, 1, none⟩ = some (.slice q'.aH d.nh q'.cH) ∧ w'.cell? ⟨gD, 2, none⟩ = some (.slice q'.aR d.fr.length q'.cR) ∧ w'.cell? ⟨gD, 3, none⟩ = some (.slice q'.aO d.od.length q'.cO))
        (first | exact P0.out.facts | exact P1.out.facts | exact P2.out.facts | exact P3.out.facts | exact P4.out.facts | exact P5.out.facts | exact P6.out.facts | exact P7.out.facts | exact P8.out.facts | exact P9.out.facts)
        ((first
          | (go_at_call 13; (with_reducible refine (KS.out _ OS.out).mono ?_); rintro e' w20 ⟨rfl, hb⟩; have P1 := Lib.hid (P0.out.on hb); clear hb)
          | (go_at_call 14; (with_reducible refine (KR.out _ P1.out.at_).mono ?_); rintro e' w21 ⟨rfl, hb⟩; have P2 := Lib.hid (P1.out.on hb); clear hb)
          | (go_at_call 15; (with_reducible refine (KRd.out _ P2.out.lk.at_).mono ?_); rintro e' w22 ⟨rfl, hb⟩; have P3 := Lib.hid (P2.out.on hb); clear hb)
          | (go_at_call 16; (with_reducible refine (KH.out _ P3.out.at_).mono ?_); rintro e' w23 ⟨rfl, hb⟩; have P4 := Lib.hid (P3.out.on hb); clear hb)
          | (go_at_call 17; (with_reducible refine (KHd.out _ P4.out.lk.at_).mono ?_); rintro e' w24 ⟨rfl, hb⟩; have P5 := Lib.hid (P4.out.on hb); clear hb)
          | (go_at_call 18; (with_reducible refine (KW.out _ P5.out.at_ (HT.out.on P5.out.lk.below)).mono ?_); rintro e' w25 ⟨rfl, hb⟩; have P6 := Lib.hid (P5.out.on hb); clear hb)
          | (go_at_call 19; (with_reducible refine (KWd.out _ P6.out.lk.at_).mono ?_); rintro e' w26 ⟨rfl, hb⟩; have P7 := Lib.hid (P6.out.on hb); clear hb)
          | (go_at_call 20; (with_reducible refine (KF.out _ P7.out.at_).mono ?_); rintro e' w27 ⟨rfl, hb⟩; have P8 := Lib.hid (P7.out.on hb); clear hb)
          | (go_at_call 21; (with_reducible refine (KFd.out _ P8.out.lk.at_).mono ?_); rintro e' w28 ⟨rfl, hb⟩; have P9 := Lib.hid (P8.out.on hb); clear hb)))
      go_wp2
      go_ret
      exact ⟨rfl, P9.out.lk.below⟩
end Go.Proofs.YtgkiaeddlahngaaGreatDoor
