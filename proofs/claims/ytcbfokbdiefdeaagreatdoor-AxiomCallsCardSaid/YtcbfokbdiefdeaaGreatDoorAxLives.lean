/-
  Proved here: the document's lives of chapter 11 answers true; nothing that was there is changed. Condition: the table of powers of ten as the library lays it.
  (With it: Words: a candidate of two harts told by rows of events that hang on nothing, and where it lies. No condition.)
  (With it: Proved here: the document's messages of chapter 11, with fences and without: candidates of two harts; nothing that was there is changed. No condition.)
-/
import Derived.Test.YtcbfokbdiefdeaaGreatDoorPpOwn
import Derived.Test.YtcbfokbdiefdeaaGreatDoorAxDoor
namespace Go.Proofs.YtcbfokbdiefdeaaGreatDoor
set_option linter.unusedVariables false
set_option linter.unusedSimpArgs false
open Go.RowKit Go.Maps
attribute [local go_sem ↓] fold_E fold_SE fold_SC

def bareE (e : Ev) : Prop := e.a = .slice none 0 0 ∧ e.d = .slice none 0 0 ∧ e.y = .slice none 0 0 ∧ 0 ≤ e.addr ∧ WordE e
def litEv (es : List Ev) (k : Nat) : Ev := (es[k]?).getD zeroEv
theorem litEv_mem {es : List Ev} {k : Nat} (h : k < es.length) : litEv es k ∈ es := by
  unfold litEv; rw [List.getElem?_eq_getElem h]; exact List.getElem_mem h
/-- two harts -/
def litC (ea eb : List Ev) (fr od : List Int) : Cd := ⟨2, fun h => if h = 0 then ea.length else eb.length, fun h => if h = 0 then litEv ea else litEv eb, fun _ _ => nilL, [], fr, od⟩
def litQ (gH gF gO nf no : Nat) : Cv := ⟨none, 0, some ⟨gH, 0, none⟩, 2, some ⟨gF, 0, none⟩, nf, some ⟨gO, 0, none⟩, no⟩
theorem row_blk {W : World} {g : Nat} {es : List Ev} (h : W.heap[g]? = some (.cells (flat es).toArray 32 (0, 0))) (hb : ∀ e ∈ es, bareE e) : RowV W (.slice (some ⟨g, 0, none⟩) es.length es.length) es.length (litEv es) (fun _ => nilL) := by
  refine ⟨_, _, rfl, Nat.le_refl _, .inr ⟨g, 0, rfl, ⟨fun k hk j u hu => ?_, fun k hk => ?_, fun k hk => (hb _ (litEv_mem hk)).2.2.2.1, fun _ => (Array.getElem?_eq_some_iff.1 h).1⟩⟩⟩
  · have he : es[k]? = some (litEv es k) := by unfold litEv; rw [List.getElem?_eq_getElem hk]; rfl
    have hx := flat_at es k j _ u he (by unfold Ev.row; simpa using hu)
    rw [cell_of_row W g _ _ _ _ h]
    simp only [Nat.zero_add, List.getElem?_toArray]
    exact hx
  · obtain ⟨h1, h2, h3, _⟩ := hb _ (litEv_mem hk)
    exact nil_reads W _ ⟨h1, h2, h3⟩
theorem ints_blk {W : World} {g : Nat} {zs : List Int} (h : W.heap[g]? = some (.cells (zs.map (Value.int .i64)).toArray 3 (0, 0))) (hn : zs.length ≤ 60) : ReadsI W (.slice (some ⟨g, 0, none⟩) zs.length zs.length) zs := by
  refine .inr ⟨g, 0, zs.length, rfl, Nat.le_refl _, by omega, (Array.getElem?_eq_some_iff.1 h).1, fun j hj => ?_⟩
  rw [cell_of_row W g _ _ _ _ h]
  simp only [Nat.zero_add, List.getElem?_toArray, List.getElem?_map, List.getElem?_eq_getElem hj, Option.map_some]
  unfold atI
  rw [List.getD_eq_getElem?_getD, List.getElem?_eq_getElem hj]; rfl
theorem lit_at {W : World} {ea eb : List Ev} {fr od : List Int} {gA gB gH gF gO : Nat} (hA : W.heap[gA]? = some (.cells (flat ea).toArray 32 (0, 0))) (hB : W.heap[gB]? = some (.cells (flat eb).toArray 32 (0, 0)))
    (hH : W.heap[gH]? = some (.cells #[.slice (some ⟨gA, 0, none⟩) ea.length ea.length, .slice (some ⟨gB, 0, none⟩) eb.length eb.length] 33 (0, 0)))
    (hF : W.heap[gF]? = some (.cells (fr.map (Value.int .i64)).toArray 3 (0, 0))) (hO : W.heap[gO]? = some (.cells (od.map (Value.int .i64)).toArray 3 (0, 0)))
    (ba : ∀ e ∈ ea, bareE e) (bb : ∀ e ∈ eb, bareE e) (nf : fr.length ≤ 60) (no : od.length ≤ 60) : CAt (litC ea eb fr od) (litQ gH gF gO fr.length od.length) W := by
  refine ⟨.inl ⟨EmptyS.nil, rfl⟩, .inr ⟨gH, 0, rfl, ⟨fun h hh => ?_, fun _ => (Array.getElem?_eq_some_iff.1 hH).1⟩⟩, Nat.le_refl _, ints_blk hF nf, ints_blk hO no⟩
  have hh' : h < 2 := hh
  rcases h with _ | _ | h
  · exact ⟨_, by rw [cell_of_row W _ _ _ _ _ hH]; rfl, row_blk hA ba⟩
  · exact ⟨_, by rw [cell_of_row W _ _ _ _ _ hH]; rfl, row_blk hB bb⟩
  · omega
theorem lit_lt {ea eb : List Ev} {fr od : List Int} (ba : ∀ e ∈ ea, bareE e) (bb : ∀ e ∈ eb, bareE e) (na : ea.length ≤ 30) (nb : eb.length ≤ 30) (nf : fr.length ≤ 60) (no : od.length ≤ 60) : Lt (litC ea eb fr od) where
  ew := fun h hh k hk => by
    have hh' : h < 2 := hh
    rcases h with _ | _ | h
    · exact (ba _ (litEv_mem hk)).2.2.2.2
    · exact (bb _ (litEv_mem hk)).2.2.2.2
    · omega
  nh := by show (2 : Nat) ≤ 9; omega
  n := by show 0 + ea.length + eb.length ≤ 60; omega
  small := fun h hh => ⟨by show (if h = 0 then ea.length else eb.length) ≤ 60; split <;> omega, fun k _ => ⟨Nat.zero_le _, Nat.zero_le _, Nat.zero_le _⟩⟩
  fs := Nat.zero_le _
  fr := by show fr.length ≤ 120; omega
  od := by show od.length ≤ 120; omega
  fw := fun j hj => absurd hj (by show ¬ j < 0; omega)
theorem blk_load {W : World} {g : Nat} {es : List Ev} (h : W.heap[g]? = some (.cells (flat es).toArray 32 (0, 0))) (k : Nat) (e : Ev) (he : es[k]? = some e) : (LoadE (.pointer (some ⟨g, k * 14, none⟩))).run Tryz.prog W = .ok e.V W :=
  EvIn.load (fun j v hv => by
    rw [cell_of_row W g _ _ _ _ h]
    simp only [List.getElem?_toArray]
    exact flat_at es k j e v he (by unfold Ev.row; simpa using hv))
/-- a candidate's box, written -/
theorem store_c {v0 v1 v2 v3 : Value} {n n0 : Nat} {w0 W : World} (H : CBox v0 v1 v2 v3 n W) (hn : n0 ≤ n) (hb : Below n0 w0 W) (y0 y1 y2 y3 : Value) (h0 : y0.oneCell' = true) (h1 : y1.oneCell' = true) (h2 : y2.oneCell' = true) (h3 : y3.oneCell' = true) :
    ∃ W3, (StoreC (.pointer (some ⟨n, 0, none⟩)) (.agg #[y0, y1, y2, y3])).run Tryz.prog W = .ok () W3 ∧ CBox y0 y1 y2 y3 n W3 ∧ Below n0 w0 W3 ∧ ∀ k, k ≠ n → W3.heap[k]? = W.heap[k]? :=
  ⟨_, run_StoreC H h0 h1 h2 h3, setRow_heap _ _ _ _ _ _ H, hb.trans ⟨rfl, rfl, rfl, by simp, fun j hj => setRow_other _ _ _ _ (by omega)⟩, fun k hk => setRow_other _ _ _ _ hk⟩
end Go.Proofs.YtcbfokbdiefdeaaGreatDoor
namespace Go.Proofs.YtcbfokbdiefdeaaGreatDoor
set_option linter.unusedVariables false
set_option linter.unusedSimpArgs false
open Go.RowKit Go.Maps
attribute [local go_sem ↓] fold_E fold_SE fold_SC
attribute [local irreducible] wpStill

def m0E : Ev := ⟨0, 0, 2, 8, 0, 1, false, false, 0, 0, 0, .slice none 0 0, .slice none 0 0, .slice none 0 0⟩
def m1E : Ev := ⟨0, 1, 2, 16, 0, 1, false, false, 0, 0, 0, .slice none 0 0, .slice none 0 0, .slice none 0 0⟩
def m2E : Ev := ⟨1, 0, 1, 16, 1, 0, false, false, 0, 0, 0, .slice none 0 0, .slice none 0 0, .slice none 0 0⟩
def m3E : Ev := ⟨1, 1, 1, 8, 0, 0, false, false, 0, 0, 0, .slice none 0 0, .slice none 0 0, .slice none 0 0⟩
def fAE : Ev := ⟨0, 1, 6, 0, 0, 0, false, false, 1, 1, 0, .slice none 0 0, .slice none 0 0, .slice none 0 0⟩
def fBE : Ev := ⟨1, 1, 6, 0, 0, 0, false, false, 2, 2, 0, .slice none 0 0, .slice none 0 0, .slice none 0 0⟩
def m1bE : Ev := ⟨0, 2, 2, 16, 0, 1, false, false, 0, 0, 0, .slice none 0 0, .slice none 0 0, .slice none 0 0⟩
def m3bE : Ev := ⟨1, 2, 1, 8, 0, 0, false, false, 0, 0, 0, .slice none 0 0, .slice none 0 0, .slice none 0 0⟩
def msg0 : Cd := litC [m0E, m1E] [m2E, m3E] [-1, -1, 1, -1] [1, 2, 3, 0]
def msg1 : Cd := litC [m0E, fAE, m1bE] [m2E, fBE, m3bE] [-1, -1, -1, 2, -1, -1] [2, 3, 5, 0]
theorem bare0a : ∀ e ∈ [m0E, m1E], bareE e := by
  intro e he; simp only [List.mem_cons, List.not_mem_nil, or_false] at he
  rcases he with rfl | rfl <;> exact ⟨rfl, rfl, rfl, by decide, by decide, by decide⟩
theorem bare0b : ∀ e ∈ [m2E, m3E], bareE e := by
  intro e he; simp only [List.mem_cons, List.not_mem_nil, or_false] at he
  rcases he with rfl | rfl <;> exact ⟨rfl, rfl, rfl, by decide, by decide, by decide⟩
theorem bare1a : ∀ e ∈ [m0E, fAE, m1bE], bareE e := by
  intro e he; simp only [List.mem_cons, List.not_mem_nil, or_false] at he
  rcases he with rfl | rfl | rfl <;> exact ⟨rfl, rfl, rfl, by decide, by decide, by decide⟩
theorem bare1b : ∀ e ∈ [m2E, fBE, m3bE], bareE e := by
  intro e he; simp only [List.mem_cons, List.not_mem_nil, or_false] at he
  rcases he with rfl | rfl | rfl <;> exact ⟨rfl, rfl, rfl, by decide, by decide, by decide⟩
theorem msg0_lt : Lt msg0 := lit_lt bare0a bare0b (by decide) (by decide) (by decide) (by decide)
theorem msg1_lt : Lt msg1 := lit_lt bare1a bare1b (by decide) (by decide) (by decide) (by decide)
def MsgIs (c : Cd) (w : World) (e : Ending) (w' : World) : Prop := ∃ q, e = .returned (cdV c q) ∧ CAt c q w' ∧ Below w.heap.size w w'
set_option maxRecDepth 100000 in
set_option maxHeartbeats 8000000 in
theorem msg_no (w : World) : Calls Tryz.prog 8 #[.bool false] w fun e w' => MsgIs msg0 w e w' := by
  obtain ⟨W0, hW0⟩ : ∃ W, w.alloc (.cells #[.slice none 0 0, .slice none 0 0, .slice none 0 0, .slice none 0 0] 26) = W := ⟨_, rfl⟩
  have B0 : Hid (Below w.heap.size w W0) := Lib.hid (by rw [← hW0]; exact box_below _ _)
  have X0 : Hid (CBox (.slice none 0 0) (.slice none 0 0) (.slice none 0 0) (.slice none 0 0) w.heap.size W0) := Lib.hid (by rw [← hW0]; exact CBox.new _ _ _ _ w)
  have hW0h := Lib.hid hW0
  clear hW0
  obtain ⟨W1, hW1⟩ : ∃ W, W0.alloc (.cells #[.int .i64 0, .int .i64 0, .int .i64 2, .int .u64 8, .int .u64 0, .int .u64 1, .bool false, .bool false, .int .i64 0, .int .i64 0, .int .i64 0, .slice none 0 0, .slice none 0 0, .slice none 0 0, .int .i64 0, .int .i64 1, .int .i64 2, .int .u64 16, .int .u64 0, .int .u64 1, .bool false, .bool false, .int .i64 0, .int .i64 0, .int .i64 0, .slice none 0 0, .slice none 0 0, .slice none 0 0] 32) = W := ⟨_, rfl⟩
  have B1 : Hid (Below W0.heap.size W0 W1) := Lib.hid (by rw [← hW1]; exact box_below _ _)
  have E1 : Hid (W1.heap[W0.heap.size]? = some (.cells #[.int .i64 0, .int .i64 0, .int .i64 2, .int .u64 8, .int .u64 0, .int .u64 1, .bool false, .bool false, .int .i64 0, .int .i64 0, .int .i64 0, .slice none 0 0, .slice none 0 0, .slice none 0 0, .int .i64 0, .int .i64 1, .int .i64 2, .int .u64 16, .int .u64 0, .int .u64 1, .bool false, .bool false, .int .i64 0, .int .i64 0, .int .i64 0, .slice none 0 0, .slice none 0 0, .slice none 0 0] 32 (0, 0))) := Lib.hid (by rw [← hW1]; exact Array.getElem?_push_size)
  have hW1h := Lib.hid hW1
  clear hW1
  obtain ⟨W2, hW2⟩ : ∃ W, W1.alloc (.cells #[.int .i64 1, .int .i64 0, .int .i64 1, .int .u64 16, .int .u64 1, .int .u64 0, .bool false, .bool false, .int .i64 0, .int .i64 0, .int .i64 0, .slice none 0 0, .slice none 0 0, .slice none 0 0, .int .i64 1, .int .i64 1, .int .i64 1, .int .u64 8, .int .u64 0, .int .u64 0, .bool false, .bool false, .int .i64 0, .int .i64 0, .int .i64 0, .slice none 0 0, .slice none 0 0, .slice none 0 0] 32) = W := ⟨_, rfl⟩
  have B2 : Hid (Below W1.heap.size W1 W2) := Lib.hid (by rw [← hW2]; exact box_below _ _)
  have E2 : Hid (W2.heap[W1.heap.size]? = some (.cells #[.int .i64 1, .int .i64 0, .int .i64 1, .int .u64 16, .int .u64 1, .int .u64 0, .bool false, .bool false, .int .i64 0, .int .i64 0, .int .i64 0, .slice none 0 0, .slice none 0 0, .slice none 0 0, .int .i64 1, .int .i64 1, .int .i64 1, .int .u64 8, .int .u64 0, .int .u64 0, .bool false, .bool false, .int .i64 0, .int .i64 0, .int .i64 0, .slice none 0 0, .slice none 0 0, .slice none 0 0] 32 (0, 0))) := Lib.hid (by rw [← hW2]; exact Array.getElem?_push_size)
  have hW2h := Lib.hid hW2
  clear hW2
  have Z1 := Lib.hid (Array.getElem?_eq_some_iff.1 E1.out).1
  have Z2 := Lib.hid (Array.getElem?_eq_some_iff.1 E2.out).1
  have Y0 := Lib.hid X0.out.lt
  have X2 := Lib.hid ((X0.out.on B1.out).on B2.out)
  have E12 := Lib.hid ((B2.out.block _ Z1.out).trans E1.out)
  have BW := Lib.hid ((B0.out.trans (B1.out.mono B0.out.size)).trans (B2.out.mono (Nat.le_trans B0.out.size B1.out.size)))
  obtain ⟨gA, hgA⟩ : ∃ g, W0.heap.size = g := ⟨_, rfl⟩
  obtain ⟨gB, hgB⟩ : ∃ g, W1.heap.size = g := ⟨_, rfl⟩
  rw [hgA] at E12 Z1 Y0
  rw [hgB] at E2 Z2 Z1
  go_enter Tryz.func8, Tryz.ntmps8
  go_upto_region 1 with fail
  rw [hW0h.out]
  go_upto_region 2 with fail
  rw [hW1h.out]
  go_upto_region 3 with fail
  rw [hW2h.out]
  clear hgA hgB
  have E12lt := Lib.hid (Array.getElem?_eq_some_iff.1 E12.out).1
  have E2lt := Lib.hid (Array.getElem?_eq_some_iff.1 E2.out).1
  have b3 := ((box_below W2 (.cells #[.slice (some ⟨gA, 0, none⟩) 2 2, .slice (some ⟨gB, 0, none⟩) 2 2] 33)).trans ((box_below (W2.alloc (.cells #[.slice (some ⟨gA, 0, none⟩) 2 2, .slice (some ⟨gB, 0, none⟩) 2 2] 33)) (.cells #[.int .i64 (-1), .int .i64 (-1), .int .i64 1, .int .i64 (-1)] 3)).mono (by simp))).trans ((box_below ((W2.alloc (.cells #[.slice (some ⟨gA, 0, none⟩) 2 2, .slice (some ⟨gB, 0, none⟩) 2 2] 33)).alloc (.cells #[.int .i64 (-1), .int .i64 (-1), .int .i64 1, .int .i64 (-1)] 3)) (.cells #[.int .i64 1, .int .i64 2, .int .i64 3, .int .i64 0] 3)).mono (by simp; omega))
  have k3 := push_old _ (.cells #[.int .i64 1, .int .i64 2, .int .i64 3, .int .i64 0] 3) _ _ (push_old _ (.cells #[.int .i64 (-1), .int .i64 (-1), .int .i64 1, .int .i64 (-1)] 3) _ _ (push_new W2 (.cells #[.slice (some ⟨gA, 0, none⟩) 2 2, .slice (some ⟨gB, 0, none⟩) 2 2] 33) _ rfl))
  have k4 := push_old _ (.cells #[.int .i64 1, .int .i64 2, .int .i64 3, .int .i64 0] 3) _ _ (push_new (W2.alloc (.cells #[.slice (some ⟨gA, 0, none⟩) 2 2, .slice (some ⟨gB, 0, none⟩) 2 2] 33)) (.cells #[.int .i64 (-1), .int .i64 (-1), .int .i64 1, .int .i64 (-1)] 3) (W2.heap.size + 1) (by simp))
  have k5 := push_new ((W2.alloc (.cells #[.slice (some ⟨gA, 0, none⟩) 2 2, .slice (some ⟨gB, 0, none⟩) 2 2] 33)).alloc (.cells #[.int .i64 (-1), .int .i64 (-1), .int .i64 1, .int .i64 (-1)] 3)) (.cells #[.int .i64 1, .int .i64 2, .int .i64 3, .int .i64 0] 3) (W2.heap.size + 2) (by simp)
  have HLT := Lib.hid (show w.heap.size < W2.heap.size from X2.out.lt)
  obtain ⟨W9, hs9, X9, B9, O9⟩ := store_c (n0 := w.heap.size) (w0 := w) (X2.out.on b3) (Nat.le_refl _) (BW.out.trans (b3.mono BW.out.size)) (.slice none 0 0) (.slice (some ⟨W2.heap.size, 0, none⟩) 2 2) (.slice (some ⟨W2.heap.size + 1, 0, none⟩) 4 4) (.slice (some ⟨W2.heap.size + 2, 0, none⟩) 4 4) rfl rfl rfl rfl
  have K := Lib.hid (lit_at (W := W9) (ea := [m0E, m1E]) (eb := [m2E, m3E]) (fr := [-1, -1, 1, -1]) (od := [1, 2, 3, 0]) ((O9 gA (by have := Y0.out; have := HLT.out; omega)).trans ((b3.block _ (by have := E12lt.out; omega)).trans E12.out)) ((O9 gB (by have := Y0.out; have := HLT.out; have := Z1.out; omega)).trans ((b3.block _ (by have := E2lt.out; omega)).trans E2.out)) ((O9 _ (by have := HLT.out; omega)).trans k3) ((O9 _ (by have := HLT.out; omega)).trans k4) ((O9 _ (by have := HLT.out; omega)).trans k5) bare0a bare0b (by decide) (by decide))
  have XX := Lib.hid X9
  have BB := Lib.hid B9
  clear b3 k3 k4 k5 X9 B9 O9
  go_wp2
  exact bodyPost_ret (v := cdV msg0 (litQ W2.heap.size (W2.heap.size + 1) (W2.heap.size + 2) 4 4)) (cand_end rfl rfl XX.out) rfl ⟨_, rfl, K.out, BB.out⟩
set_option maxRecDepth 100000 in
set_option maxHeartbeats 8000000 in
theorem msg_yes (w : World) : Calls Tryz.prog 8 #[.bool true] w fun e w' => MsgIs msg1 w e w' := by
  obtain ⟨W0, hW0⟩ : ∃ W, w.alloc (.cells #[.slice none 0 0, .slice none 0 0, .slice none 0 0, .slice none 0 0] 26) = W := ⟨_, rfl⟩
  have B0 : Hid (Below w.heap.size w W0) := Lib.hid (by rw [← hW0]; exact box_below _ _)
  have X0 : Hid (CBox (.slice none 0 0) (.slice none 0 0) (.slice none 0 0) (.slice none 0 0) w.heap.size W0) := Lib.hid (by rw [← hW0]; exact CBox.new _ _ _ _ w)
  have hW0h := Lib.hid hW0
  clear hW0
  obtain ⟨W1, hW1⟩ : ∃ W, W0.alloc (.cells #[.int .i64 0, .int .i64 0, .int .i64 2, .int .u64 8, .int .u64 0, .int .u64 1, .bool false, .bool false, .int .i64 0, .int .i64 0, .int .i64 0, .slice none 0 0, .slice none 0 0, .slice none 0 0, .int .i64 0, .int .i64 1, .int .i64 2, .int .u64 16, .int .u64 0, .int .u64 1, .bool false, .bool false, .int .i64 0, .int .i64 0, .int .i64 0, .slice none 0 0, .slice none 0 0, .slice none 0 0] 32) = W := ⟨_, rfl⟩
  have B1 : Hid (Below W0.heap.size W0 W1) := Lib.hid (by rw [← hW1]; exact box_below _ _)
  have E1 : Hid (W1.heap[W0.heap.size]? = some (.cells #[.int .i64 0, .int .i64 0, .int .i64 2, .int .u64 8, .int .u64 0, .int .u64 1, .bool false, .bool false, .int .i64 0, .int .i64 0, .int .i64 0, .slice none 0 0, .slice none 0 0, .slice none 0 0, .int .i64 0, .int .i64 1, .int .i64 2, .int .u64 16, .int .u64 0, .int .u64 1, .bool false, .bool false, .int .i64 0, .int .i64 0, .int .i64 0, .slice none 0 0, .slice none 0 0, .slice none 0 0] 32 (0, 0))) := Lib.hid (by rw [← hW1]; exact Array.getElem?_push_size)
  have hW1h := Lib.hid hW1
  clear hW1
  obtain ⟨W2, hW2⟩ : ∃ W, W1.alloc (.cells #[.int .i64 1, .int .i64 0, .int .i64 1, .int .u64 16, .int .u64 1, .int .u64 0, .bool false, .bool false, .int .i64 0, .int .i64 0, .int .i64 0, .slice none 0 0, .slice none 0 0, .slice none 0 0, .int .i64 1, .int .i64 1, .int .i64 1, .int .u64 8, .int .u64 0, .int .u64 0, .bool false, .bool false, .int .i64 0, .int .i64 0, .int .i64 0, .slice none 0 0, .slice none 0 0, .slice none 0 0] 32) = W := ⟨_, rfl⟩
  have B2 : Hid (Below W1.heap.size W1 W2) := Lib.hid (by rw [← hW2]; exact box_below _ _)
  have E2 : Hid (W2.heap[W1.heap.size]? = some (.cells #[.int .i64 1, .int .i64 0, .int .i64 1, .int .u64 16, .int .u64 1, .int .u64 0, .bool false, .bool false, .int .i64 0, .int .i64 0, .int .i64 0, .slice none 0 0, .slice none 0 0, .slice none 0 0, .int .i64 1, .int .i64 1, .int .i64 1, .int .u64 8, .int .u64 0, .int .u64 0, .bool false, .bool false, .int .i64 0, .int .i64 0, .int .i64 0, .slice none 0 0, .slice none 0 0, .slice none 0 0] 32 (0, 0))) := Lib.hid (by rw [← hW2]; exact Array.getElem?_push_size)
  have hW2h := Lib.hid hW2
  clear hW2
  have Z1 := Lib.hid (Array.getElem?_eq_some_iff.1 E1.out).1
  have Z2 := Lib.hid (Array.getElem?_eq_some_iff.1 E2.out).1
  have Y0 := Lib.hid X0.out.lt
  have X2 := Lib.hid ((X0.out.on B1.out).on B2.out)
  have E12 := Lib.hid ((B2.out.block _ Z1.out).trans E1.out)
  have BW := Lib.hid ((B0.out.trans (B1.out.mono B0.out.size)).trans (B2.out.mono (Nat.le_trans B0.out.size B1.out.size)))
  obtain ⟨gA, hgA⟩ : ∃ g, W0.heap.size = g := ⟨_, rfl⟩
  obtain ⟨gB, hgB⟩ : ∃ g, W1.heap.size = g := ⟨_, rfl⟩
  rw [hgA] at E12 Z1 Y0
  rw [hgB] at E2 Z2 Z1
  go_enter Tryz.func8, Tryz.ntmps8
  go_upto_region 1 with fail
  rw [hW0h.out]
  go_upto_region 2 with fail
  rw [hW1h.out]
  go_upto_region 3 with fail
  rw [hW2h.out]
  clear hgA hgB
  have D2 := Lib.hid ((Below.refl W2.heap.size W2).drew)
  have ED1 := Lib.hid ((D2.out.block _ (Array.getElem?_eq_some_iff.1 E12.out).1).trans E12.out)
  have ED2 := Lib.hid ((D2.out.block _ (Array.getElem?_eq_some_iff.1 E2.out).1).trans E2.out)
  have l0 : (LoadE (.pointer (some ⟨gA, 0, none⟩))).run Tryz.prog W2.drew = .ok (.agg #[.int .i64 0, .int .i64 0, .int .i64 2, .int .u64 8, .int .u64 0, .int .u64 1, .bool false, .bool false, .int .i64 0, .int .i64 0, .int .i64 0, .slice none 0 0, .slice none 0 0, .slice none 0 0]) W2.drew := blk_load (es := [m0E, m1E]) ED1.out 0 m0E rfl
  have l1 : (LoadE (.pointer (some ⟨gA, 14, none⟩))).run Tryz.prog W2.drew = .ok (.agg #[.int .i64 0, .int .i64 1, .int .i64 2, .int .u64 16, .int .u64 0, .int .u64 1, .bool false, .bool false, .int .i64 0, .int .i64 0, .int .i64 0, .slice none 0 0, .slice none 0 0, .slice none 0 0]) W2.drew := blk_load (es := [m0E, m1E]) ED1.out 1 m1E rfl
  go_upto_region 5 with fail
  refine wp_region_still_tail 7 (by kernel_rfl) (by kernel_rfl) ?_
  simp only [List.take_succ_cons, List.take_zero, List.drop_succ_cons, List.drop_zero]
  iterate 7 still_step
  refine wpStill_nil ?_
  change wpList _ _ _ _ _ (World.drew _)
  go_upto_region 6 with fail
  obtain ⟨W3, hW3⟩ : ∃ W, (W2.alloc (.cells #[.int .i64 0, .int .i64 0, .int .i64 2, .int .u64 8, .int .u64 0, .int .u64 1, .bool false, .bool false, .int .i64 0, .int .i64 0, .int .i64 0, .slice none 0 0, .slice none 0 0, .slice none 0 0, .int .i64 0, .int .i64 1, .int .i64 6, .int .u64 0, .int .u64 0, .int .u64 0, .bool false, .bool false, .int .i64 1, .int .i64 1, .int .i64 0, .slice none 0 0, .slice none 0 0, .slice none 0 0, .int .i64 0, .int .i64 1, .int .i64 2, .int .u64 16, .int .u64 0, .int .u64 1, .bool false, .bool false, .int .i64 0, .int .i64 0, .int .i64 0, .slice none 0 0, .slice none 0 0, .slice none 0 0] 32)).drew = W := ⟨_, rfl⟩
  have B3 : Hid (Below W2.heap.size W2 W3) := Lib.hid (by rw [← hW3]; exact (box_below _ _).trans (Below.refl _ _).drew)
  have E3 : Hid (W3.heap[W2.heap.size]? = some (.cells #[.int .i64 0, .int .i64 0, .int .i64 2, .int .u64 8, .int .u64 0, .int .u64 1, .bool false, .bool false, .int .i64 0, .int .i64 0, .int .i64 0, .slice none 0 0, .slice none 0 0, .slice none 0 0, .int .i64 0, .int .i64 1, .int .i64 6, .int .u64 0, .int .u64 0, .int .u64 0, .bool false, .bool false, .int .i64 1, .int .i64 1, .int .i64 0, .slice none 0 0, .slice none 0 0, .slice none 0 0, .int .i64 0, .int .i64 1, .int .i64 2, .int .u64 16, .int .u64 0, .int .u64 1, .bool false, .bool false, .int .i64 0, .int .i64 0, .int .i64 0, .slice none 0 0, .slice none 0 0, .slice none 0 0] 32 (0, 0))) := Lib.hid (by rw [← hW3]; exact Array.getElem?_push_size)
  rw [hW3]
  clear hW3 l0 l1 ED1
  have Z3 := Lib.hid (Array.getElem?_eq_some_iff.1 E3.out).1
  have X3 := Lib.hid (X2.out.on B3.out)
  have BW3 := Lib.hid (BW.out.trans (B3.out.mono BW.out.size))
  have E23 := Lib.hid ((B3.out.block _ Z2.out).trans E2.out)
  obtain ⟨gC, hgC⟩ : ∃ g, W2.heap.size = g := ⟨_, rfl⟩
  rw [hgC] at E3 Z3 Z2 ⊢
  clear hgC
  have D3 := Lib.hid ((Below.refl W3.heap.size W3).drew)
  have ED2 := Lib.hid ((D3.out.block _ (Array.getElem?_eq_some_iff.1 E23.out).1).trans E23.out)
  have l0 : (LoadE (.pointer (some ⟨gB, 0, none⟩))).run Tryz.prog W3.drew = .ok (.agg #[.int .i64 1, .int .i64 0, .int .i64 1, .int .u64 16, .int .u64 1, .int .u64 0, .bool false, .bool false, .int .i64 0, .int .i64 0, .int .i64 0, .slice none 0 0, .slice none 0 0, .slice none 0 0]) W3.drew := blk_load (es := [m2E, m3E]) ED2.out 0 m2E rfl
  have l1 : (LoadE (.pointer (some ⟨gB, 14, none⟩))).run Tryz.prog W3.drew = .ok (.agg #[.int .i64 1, .int .i64 1, .int .i64 1, .int .u64 8, .int .u64 0, .int .u64 0, .bool false, .bool false, .int .i64 0, .int .i64 0, .int .i64 0, .slice none 0 0, .slice none 0 0, .slice none 0 0]) W3.drew := blk_load (es := [m2E, m3E]) ED2.out 1 m3E rfl
  refine wp_region_still_tail 7 (by kernel_rfl) (by kernel_rfl) ?_
  simp only [List.take_succ_cons, List.take_zero, List.drop_succ_cons, List.drop_zero]
  iterate 7 still_step
  refine wpStill_nil ?_
  change wpList _ _ _ _ _ (World.drew _)
  go_upto_region 7 with fail
  obtain ⟨W4, hW4⟩ : ∃ W, (W3.alloc (.cells #[.int .i64 1, .int .i64 0, .int .i64 1, .int .u64 16, .int .u64 1, .int .u64 0, .bool false, .bool false, .int .i64 0, .int .i64 0, .int .i64 0, .slice none 0 0, .slice none 0 0, .slice none 0 0, .int .i64 1, .int .i64 1, .int .i64 6, .int .u64 0, .int .u64 0, .int .u64 0, .bool false, .bool false, .int .i64 2, .int .i64 2, .int .i64 0, .slice none 0 0, .slice none 0 0, .slice none 0 0, .int .i64 1, .int .i64 1, .int .i64 1, .int .u64 8, .int .u64 0, .int .u64 0, .bool false, .bool false, .int .i64 0, .int .i64 0, .int .i64 0, .slice none 0 0, .slice none 0 0, .slice none 0 0] 32)).drew = W := ⟨_, rfl⟩
  have B4 : Hid (Below W3.heap.size W3 W4) := Lib.hid (by rw [← hW4]; exact (box_below _ _).trans (Below.refl _ _).drew)
  have E4 : Hid (W4.heap[W3.heap.size]? = some (.cells #[.int .i64 1, .int .i64 0, .int .i64 1, .int .u64 16, .int .u64 1, .int .u64 0, .bool false, .bool false, .int .i64 0, .int .i64 0, .int .i64 0, .slice none 0 0, .slice none 0 0, .slice none 0 0, .int .i64 1, .int .i64 1, .int .i64 6, .int .u64 0, .int .u64 0, .int .u64 0, .bool false, .bool false, .int .i64 2, .int .i64 2, .int .i64 0, .slice none 0 0, .slice none 0 0, .slice none 0 0, .int .i64 1, .int .i64 1, .int .i64 1, .int .u64 8, .int .u64 0, .int .u64 0, .bool false, .bool false, .int .i64 0, .int .i64 0, .int .i64 0, .slice none 0 0, .slice none 0 0, .slice none 0 0] 32 (0, 0))) := Lib.hid (by rw [← hW4]; exact Array.getElem?_push_size)
  rw [hW4]
  clear hW4 l0 l1 ED2
  have Z4 := Lib.hid (Array.getElem?_eq_some_iff.1 E4.out).1
  have E34 := Lib.hid ((B4.out.block _ Z3.out).trans E3.out)
  have X4 := Lib.hid (X3.out.on B4.out)
  have BW4 := Lib.hid (BW3.out.trans (B4.out.mono BW3.out.size))
  obtain ⟨gD, hgD⟩ : ∃ g, W3.heap.size = g := ⟨_, rfl⟩
  rw [hgD] at E4 Z4 Z3 ⊢
  clear hgD
  have c1 : W4.cell? ⟨gC, 29, none⟩ = some (.int .i64 1) := by rw [cell_of_row W4 gC 29 _ _ _ E34.out]; rfl
  have f1 := frozen_of_row W4 gC 29 _ _ E34.out
  obtain ⟨W5, hW5⟩ : ∃ W, Hid (W4.setCell ⟨gC, 29, none⟩ (.int .i64 2) = W) := ⟨_, Lib.hid rfl⟩
  have hne := Lib.hid (show gD ≠ gC by have := Z3.out; omega)
  have E35 : Hid (W5.heap[gC]? = some (.cells #[.int .i64 0, .int .i64 0, .int .i64 2, .int .u64 8, .int .u64 0, .int .u64 1, .bool false, .bool false, .int .i64 0, .int .i64 0, .int .i64 0, .slice none 0 0, .slice none 0 0, .slice none 0 0, .int .i64 0, .int .i64 1, .int .i64 6, .int .u64 0, .int .u64 0, .int .u64 0, .bool false, .bool false, .int .i64 1, .int .i64 1, .int .i64 0, .slice none 0 0, .slice none 0 0, .slice none 0 0, .int .i64 0, .int .i64 2, .int .i64 2, .int .u64 16, .int .u64 0, .int .u64 1, .bool false, .bool false, .int .i64 0, .int .i64 0, .int .i64 0, .slice none 0 0, .slice none 0 0, .slice none 0 0] 32 (0, 0))) := Lib.hid (by rw [← hW5.out]; exact set_at W4 gC 29 _ _ _ _ E34.out)
  have E45 : Hid (W5.heap[gD]? = some (.cells #[.int .i64 1, .int .i64 0, .int .i64 1, .int .u64 16, .int .u64 1, .int .u64 0, .bool false, .bool false, .int .i64 0, .int .i64 0, .int .i64 0, .slice none 0 0, .slice none 0 0, .slice none 0 0, .int .i64 1, .int .i64 1, .int .i64 6, .int .u64 0, .int .u64 0, .int .u64 0, .bool false, .bool false, .int .i64 2, .int .i64 2, .int .i64 0, .slice none 0 0, .slice none 0 0, .slice none 0 0, .int .i64 1, .int .i64 1, .int .i64 1, .int .u64 8, .int .u64 0, .int .u64 0, .bool false, .bool false, .int .i64 0, .int .i64 0, .int .i64 0, .slice none 0 0, .slice none 0 0, .slice none 0 0] 32 (0, 0))) := Lib.hid (by rw [← hW5.out]; exact (Below.heap_setCell W4 ⟨gC, 29, none⟩ _ gD hne.out).trans E4.out)
  have X5 : Hid (CBox (.slice none 0 0) (.slice none 0 0) (.slice none 0 0) (.slice none 0 0) w.heap.size W5) := Lib.hid (by rw [← hW5.out]; exact (Below.heap_setCell W4 ⟨gC, 29, none⟩ _ w.heap.size (by show w.heap.size ≠ gC; have := Y0.out; have := Z1.out; have := Z2.out; omega)).trans X4.out)
  have BW5 : Hid (Below w.heap.size w W5) := Lib.hid (by rw [← hW5.out]; exact BW4.out.setCell (by show w.heap.size ≤ gC; have := Y0.out; have := Z1.out; have := Z2.out; omega) _)
  have c2 : (W4.setCell ⟨gC, 29, none⟩ (.int .i64 2)).cell? ⟨gD, 29, none⟩ = some (.int .i64 1) := by rw [hW5.out, cell_of_row W5 gD 29 _ _ _ E45.out]; rfl
  have f2 : (W4.setCell ⟨gC, 29, none⟩ (.int .i64 2)).frozen? ⟨gD, 29, none⟩ = false := by rw [hW5.out]; exact frozen_of_row W5 gD 29 _ _ E45.out
  obtain ⟨W6, hW6⟩ : ∃ W, Hid (W5.setCell ⟨gD, 29, none⟩ (.int .i64 2) = W) := ⟨_, Lib.hid rfl⟩
  have E36 : Hid (W6.heap[gC]? = some (.cells #[.int .i64 0, .int .i64 0, .int .i64 2, .int .u64 8, .int .u64 0, .int .u64 1, .bool false, .bool false, .int .i64 0, .int .i64 0, .int .i64 0, .slice none 0 0, .slice none 0 0, .slice none 0 0, .int .i64 0, .int .i64 1, .int .i64 6, .int .u64 0, .int .u64 0, .int .u64 0, .bool false, .bool false, .int .i64 1, .int .i64 1, .int .i64 0, .slice none 0 0, .slice none 0 0, .slice none 0 0, .int .i64 0, .int .i64 2, .int .i64 2, .int .u64 16, .int .u64 0, .int .u64 1, .bool false, .bool false, .int .i64 0, .int .i64 0, .int .i64 0, .slice none 0 0, .slice none 0 0, .slice none 0 0] 32 (0, 0))) := Lib.hid (by rw [← hW6.out]; exact (Below.heap_setCell W5 ⟨gD, 29, none⟩ _ gC (fun e => hne.out e.symm)).trans E35.out)
  have E46 : Hid (W6.heap[gD]? = some (.cells #[.int .i64 1, .int .i64 0, .int .i64 1, .int .u64 16, .int .u64 1, .int .u64 0, .bool false, .bool false, .int .i64 0, .int .i64 0, .int .i64 0, .slice none 0 0, .slice none 0 0, .slice none 0 0, .int .i64 1, .int .i64 1, .int .i64 6, .int .u64 0, .int .u64 0, .int .u64 0, .bool false, .bool false, .int .i64 2, .int .i64 2, .int .i64 0, .slice none 0 0, .slice none 0 0, .slice none 0 0, .int .i64 1, .int .i64 2, .int .i64 1, .int .u64 8, .int .u64 0, .int .u64 0, .bool false, .bool false, .int .i64 0, .int .i64 0, .int .i64 0, .slice none 0 0, .slice none 0 0, .slice none 0 0] 32 (0, 0))) := Lib.hid (by rw [← hW6.out]; exact set_at W5 gD 29 _ _ _ _ E45.out)
  have X6 : Hid (CBox (.slice none 0 0) (.slice none 0 0) (.slice none 0 0) (.slice none 0 0) w.heap.size W6) := Lib.hid (by rw [← hW6.out]; exact (Below.heap_setCell W5 ⟨gD, 29, none⟩ _ w.heap.size (by show w.heap.size ≠ gD; have := Y0.out; have := Z1.out; have := Z2.out; have := Z3.out; omega)).trans X5.out)
  have BW6 : Hid (Below w.heap.size w W6) := Lib.hid (by rw [← hW6.out]; exact BW5.out.setCell (by show w.heap.size ≤ gD; have := Y0.out; have := Z1.out; have := Z2.out; have := Z3.out; omega) _)
  have Y2 := Lib.hid (show w.heap.size < gC from by have := Y0.out; have := Z1.out; have := Z2.out; omega)
  clear Y0 Z1
  have Y0 := Lib.hid Y2.out
  have Z1 := Lib.hid (show gC < gD from Z3.out)
  go_upto_region 8 with fail
  rw [hW5.out, hW6.out]
  clear c1 f1 c2 f2 hW5 hW6
  have E36lt := Lib.hid (Array.getElem?_eq_some_iff.1 E36.out).1
  have E46lt := Lib.hid (Array.getElem?_eq_some_iff.1 E46.out).1
  have b3 := ((box_below W6 (.cells #[.slice (some ⟨gC, 0, none⟩) 3 3, .slice (some ⟨gD, 0, none⟩) 3 3] 33)).trans ((box_below (W6.alloc (.cells #[.slice (some ⟨gC, 0, none⟩) 3 3, .slice (some ⟨gD, 0, none⟩) 3 3] 33)) (.cells #[.int .i64 (-1), .int .i64 (-1), .int .i64 (-1), .int .i64 2, .int .i64 (-1), .int .i64 (-1)] 3)).mono (by simp))).trans ((box_below ((W6.alloc (.cells #[.slice (some ⟨gC, 0, none⟩) 3 3, .slice (some ⟨gD, 0, none⟩) 3 3] 33)).alloc (.cells #[.int .i64 (-1), .int .i64 (-1), .int .i64 (-1), .int .i64 2, .int .i64 (-1), .int .i64 (-1)] 3)) (.cells #[.int .i64 2, .int .i64 3, .int .i64 5, .int .i64 0] 3)).mono (by simp; omega))
  have k3 := push_old _ (.cells #[.int .i64 2, .int .i64 3, .int .i64 5, .int .i64 0] 3) _ _ (push_old _ (.cells #[.int .i64 (-1), .int .i64 (-1), .int .i64 (-1), .int .i64 2, .int .i64 (-1), .int .i64 (-1)] 3) _ _ (push_new W6 (.cells #[.slice (some ⟨gC, 0, none⟩) 3 3, .slice (some ⟨gD, 0, none⟩) 3 3] 33) _ rfl))
  have k4 := push_old _ (.cells #[.int .i64 2, .int .i64 3, .int .i64 5, .int .i64 0] 3) _ _ (push_new (W6.alloc (.cells #[.slice (some ⟨gC, 0, none⟩) 3 3, .slice (some ⟨gD, 0, none⟩) 3 3] 33)) (.cells #[.int .i64 (-1), .int .i64 (-1), .int .i64 (-1), .int .i64 2, .int .i64 (-1), .int .i64 (-1)] 3) (W6.heap.size + 1) (by simp))
  have k5 := push_new ((W6.alloc (.cells #[.slice (some ⟨gC, 0, none⟩) 3 3, .slice (some ⟨gD, 0, none⟩) 3 3] 33)).alloc (.cells #[.int .i64 (-1), .int .i64 (-1), .int .i64 (-1), .int .i64 2, .int .i64 (-1), .int .i64 (-1)] 3)) (.cells #[.int .i64 2, .int .i64 3, .int .i64 5, .int .i64 0] 3) (W6.heap.size + 2) (by simp)
  have HLT := Lib.hid (show w.heap.size < W6.heap.size from X6.out.lt)
  obtain ⟨W9, hs9, X9, B9, O9⟩ := store_c (n0 := w.heap.size) (w0 := w) (X6.out.on b3) (Nat.le_refl _) (BW6.out.trans (b3.mono BW6.out.size)) (.slice none 0 0) (.slice (some ⟨W6.heap.size, 0, none⟩) 2 2) (.slice (some ⟨W6.heap.size + 1, 0, none⟩) 6 6) (.slice (some ⟨W6.heap.size + 2, 0, none⟩) 4 4) rfl rfl rfl rfl
  have K := Lib.hid (lit_at (W := W9) (ea := [m0E, fAE, m1bE]) (eb := [m2E, fBE, m3bE]) (fr := [-1, -1, -1, 2, -1, -1]) (od := [2, 3, 5, 0]) ((O9 gC (by have := Y0.out; have := HLT.out; omega)).trans ((b3.block _ (by have := E36lt.out; omega)).trans E36.out)) ((O9 gD (by have := Y0.out; have := HLT.out; have := Z1.out; omega)).trans ((b3.block _ (by have := E46lt.out; omega)).trans E46.out)) ((O9 _ (by have := HLT.out; omega)).trans k3) ((O9 _ (by have := HLT.out; omega)).trans k4) ((O9 _ (by have := HLT.out; omega)).trans k5) bare1a bare1b (by decide) (by decide))
  have XX := Lib.hid X9
  have BB := Lib.hid B9
  clear b3 k3 k4 k5 X9 B9 O9
  go_wp2
  exact bodyPost_ret (v := cdV msg1 (litQ W6.heap.size (W6.heap.size + 1) (W6.heap.size + 2) 6 4)) (cand_end rfl rfl XX.out) rfl ⟨_, rfl, K.out, BB.out⟩
end Go.Proofs.YtcbfokbdiefdeaaGreatDoor
namespace Go.Proofs.YtcbfokbdiefdeaaGreatDoor
set_option linter.unusedVariables false
set_option linter.unusedSimpArgs false
open Go.RowKit Go.Maps
attribute [local go_sem ↓] fold_E fold_SE fold_SJ
attribute [local irreducible] wpStill

theorem msg0_judge : (judgeW msg0).ok = true ∧ (judgeW msg0).why = 0 ∧ (judgeW msg0).a = -1 ∧ (judgeW msg0).b = -1 := by decide +kernel
theorem msg1_judge : (judgeW msg1).ok = false ∧ (judgeW msg1).why = 2 ∧ (judgeW msg1).a = 0 ∧ (judgeW msg1).b = 2 := by decide +kernel
theorem jd_of {j : Jd} {o : Bool} {y a b : Int} (h : j.ok = o ∧ j.why = y ∧ j.a = a ∧ j.b = b) : j = ⟨o, y, a, b⟩ := by
  obtain ⟨rfl, rfl, rfl, rfl⟩ := h; rfl
theorem line02 : lineL false 2 0 2 = [111, 114, 100, 101, 114, 32, 48, 32, 50] := by decide +kernel
set_option maxRecDepth 100000 in
set_option maxHeartbeats 4000000 in
theorem alives_any (w : World) (hT : TabP w) : Calls Tryz.prog 10 #[] w fun e w' => SameOk w true e w' := by
  have K0 := Lib.hid (fun w0 => msg_no w0)
  have K1 := Lib.hid (fun w0 => msg_yes w0)
  have KJ0 := Lib.hid (fun q w0 (h0 : CAt msg0 q w0) => (show Calls Tryz.prog 11 #[cdV msg0 q] w0 fun e w' => AnsIs true 0 (-1) (-1) w0 e w' from by
    have := Judge_any msg0 q w0 msg0_lt h0
    rw [jd_of msg0_judge] at this
    exact this))
  have KJ1 := Lib.hid (fun q w0 (h0 : CAt msg1 q w0) => (show Calls Tryz.prog 11 #[cdV msg1 q] w0 fun e w' => AnsIs false 2 0 2 w0 e w' from by
    have := Judge_any msg1 q w0 msg1_lt h0
    rw [jd_of msg1_judge] at this
    exact this))
  have KL := Lib.hid (fun w0 (h0 : TabP w0) => (show Calls Tryz.prog 14 #[.agg #[.bool false, .int .i64 2, .int .i64 0, .int .i64 2]] w0 fun e w' => e = .returned (.string ⟨#[111, 114, 100, 101, 114, 32, 48, 32, 50]⟩) ∧ Below w0.heap.size w0 w' from by
    have := Line_any false 2 0 2 w0 h0 (by omega) (by omega)
    unfold TextIsL at this
    rw [line02] at this
    exact this))
  have heq : ∀ W : World, (Op.equalIn 10000 37 (.agg #[.bool true, .int .i64 0, .int .i64 (-1), .int .i64 (-1)]) (.agg #[.bool true, .int .i64 0, .int .i64 (-1), .int .i64 (-1)])).run Tryz.prog W = .ok true W := fun W => by kernel_rfl
  have HT := Lib.hid hT
  clear hT
  have L := Lib.hid (Below.refl w.heap.size w)
  go_enter Tryz.func10, Tryz.ntmps10
  go_wp2_with (first
    | (go_at_call 8; (with_reducible (first | refine (K0.out _).mono ?_ | refine (K1.out _).mono ?_)); rintro e' w1 ⟨q, rfl, hc, hb⟩; have C1 := Lib.hid hc; replace L := Lib.hid (L.out.trans (hb.mono L.out.size)); clear hc hb)
    | (go_at_call 11; (with_reducible (first | refine (KJ0.out _ _ C1.out).mono ?_ | refine (KJ1.out _ _ C1.out).mono ?_)); rintro e' w2 ⟨rfl, hb⟩; replace L := Lib.hid (L.out.trans (hb.mono L.out.size)); clear hb)
    | (go_at_call 14; (with_reducible refine (KL.out _ (HT.out.on L.out)).mono ?_); rintro e' w3 ⟨rfl, hb⟩; replace L := Lib.hid (L.out.trans (hb.mono L.out.size)); clear hb))
  go_ret
  exact ⟨rfl, L.out⟩
end Go.Proofs.YtcbfokbdiefdeaaGreatDoor
