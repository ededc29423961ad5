/-
  Proved here: the package taint's hung answers on what an instruction hangs, by address, by data, by the way, in new lists; nothing that was there is changed. Condition: at most 10,000 numbers a list; registers from 0 to 31.
-/
import Derived.Test.YtfbnijcmfaeoeaaGreatTaintHung
namespace Go.Proofs.YtfbnijcmfaeoeaaGreat
open Go.RowKit
attribute [local go_sem ↓] fold_T fold_I

theorem hung_end {fn : Func} {tmps : Array Value} {p : Tmp} {a d y : Value} {n : Nat} {w : World} (h : fn.results = #[.cell p 31]) (hp : tmps.getD p undef = .pointer (some ⟨n, 0, none⟩)) (H : DAt a d y n w) :
    (results fn tmps).run Tryz.prog w = .ok (.agg #[a, d, y]) w :=
  results_cell_row h tmps w n _ _ (0, 0) _ hp H Tryz.underlying31 rfl (by as_aux_lemma => kernel_rfl)
/-- behind the last store -/
theorem hung_done {t : Ta} {l : Tl} {i : Ins} {w W w1 : World} {g : Nat} {a d y : Value} {al dl yl : List Int} (h : Hung t l i w g a d y W) (hr : DepsN (w.heap.size + 3) W a d y al dl yl)
    (ho : ∀ j, j ≠ w.heap.size + 2 → w1.heap[j]? = W.heap[j]?) (hb : Below (w.heap.size + 2) W w1) (hz : w1.heap.size = W.heap.size) : HungOk w al dl yl (.returned (.agg #[a, d, y])) w1 := by
  have one : ∀ v zs, ReadsN (w.heap.size + 3) W v zs → ReadsN w.heap.size w1 v zs := by
    intro v zs hv
    refine ⟨?_, fun k hk => by have := hv.2 k hk; omega⟩
    rcases hv.1 with h0 | ⟨b, off, c, e, h2, h3, h4, h5⟩
    · exact .inl h0
    · subst e
      have hbn := hv.2 b rfl
      refine .inr ⟨b, off, c, rfl, h2, h3, by omega, fun j hj => ?_⟩
      rw [← h5 j hj]
      exact World.cell?_of_block (ho b (by omega))
  exact ⟨a, d, y, rfl, ⟨one _ _ hr.1, one _ _ hr.2.1, one _ _ hr.2.2⟩, h.both.below.trans (hb.mono (by omega))⟩
theorem Both.under {t : Ta} {l : Tl} {i : Ins} {w W W2 : World} {B : Nat} (h : Both t l i w W) (hb : Below B W W2) (hB : w.heap.size + 1 < B) : Both t l i w W2 :=
  ⟨h.at0.below hb (by omega), h.at1.below hb hB, h.here, h.below.trans (hb.mono (by omega))⟩
theorem hung_start {t : Ta} {l : Tl} {i : Ins} {w w1 w2 : World} {n : Nat} {v1 : Value} {zs : List Int} {o : Obj} (h : Both t l i w w1) (hr : DAt (.slice none 0 0) (.slice none 0 0) (.slice none 0 0) (w.heap.size + 2) w1) (hz : w.heap.size + 3 ≤ w1.heap.size) (hv : ReadsN n w1 v1 zs)
    (D : DAt (.slice none 0 0) (.slice none 0 0) v1 w1.heap.size w2) (hb : Below w1.heap.size (w1.alloc o) w2) : Hung t l i w w1.heap.size (.slice none 0 0) (.slice none 0 0) v1 w2 ∧ ReadsN n w2 v1 zs := by
  have hb' : Below w1.heap.size w1 w2 := (box_below w1 o).trans hb
  exact ⟨⟨h.under hb' (by omega), hr.below hb' (by omega), D, by omega⟩, hv.on hb'⟩
theorem ReadsI.lt {w : World} {v : Value} {zs : List Int} (h : ReadsI w v zs) : zs = [] ∨ v.ownBlock ≠ some w.heap.size := by
  rcases h with ⟨_, h0⟩ | ⟨b, off, c, rfl, _, _, h3, _⟩
  · exact .inl h0
  · refine .inr fun h => ?_
    simp [Value.ownBlock] at h
    omega
theorem reads_one_at (w : World) (a : Int) (g : Nat) (hg : w.heap.size = g) : ReadsI (w.alloc (.cells #[.int .i64 a] 3)) (.slice (some ⟨g, 0, none⟩) 1 1) [a] := by
  subst hg; exact reads_one w a
theorem ReadsN.far {n g k : Nat} {w : World} {v : Value} {zs : List Int} (h : ReadsN n w v zs) (x : Value) (hg : zs = [] ∨ v.ownBlock ≠ some g) : ReadsN n (w.setCell ⟨g, k, none⟩ x) v zs := ⟨h.1.set g k x hg, h.2⟩
set_option maxRecDepth 100000 in
set_option maxHeartbeats 4000000 in
theorem hung_no (t : Ta) (l : Tl) (i : Ins) (w : World) (h : TReads w t l) (hs : l.short) (hl : loadsB i.op = false) (hst : storesB i.op = false) :
    Calls Tryz.prog 23 #[t.V, i.V] w fun e w' => HungOk w [] [] l.way e w' := by
  have B0 := Lib.hid ((Both.start t l i w h).alloc (.cells #[.slice none 0 0, .slice none 0 0, .slice none 0 0] 31))
  have D0 := DAt.new (.slice none 0 0) (.slice none 0 0) (.slice none 0 0) ((w.alloc (.cells (tC t) 25)).alloc (.cells (insCells i) 27))
  have hz0 : (((w.alloc (.cells (tC t) 25)).alloc (.cells (insCells i) 27)).alloc (.cells #[.slice none 0 0, .slice none 0 0, .slice none 0 0] 31)).heap.size = w.heap.size + 3 := by simp
  simp only [World.size_alloc] at D0
  have HME := Lib.hid (Memory_b i.op false false hl hst)
  have HFR := Lib.hid (fun (w0 : World) (b : Both t l i w w0) => fresh_any t.way l.way w0 b.reads.w (by have := hs.w; omega))
  clear h hs hl hst
  go_enter Tryz.func23, Tryz.ntmps23
  go_upto_region 1 with fail
  obtain ⟨W, HW⟩ : ∃ W, Hid (((w.alloc (.cells (tC t) 25)).alloc (.cells (insCells i) 27)).alloc (.cells #[.slice none 0 0, .slice none 0 0, .slice none 0 0] 31) = W) := ⟨_, Lib.hid rfl⟩
  rw [HW.out] at B0 D0 hz0 ⊢
  have R0 : Hid (DAt (.slice none 0 0) (.slice none 0 0) (.slice none 0 0) (w.heap.size + 2) W) := Lib.hid D0
  clear D0
  have cw := B0.out.cw
  go_wp2_with (first
    | (go_at_call 42; (with_reducible refine (HFR.out _ B0.out).mono ?_); rintro e w1 ⟨v1, rfl, hw1, hb1⟩; obtain ⟨a1, e1, rfl⟩ := hw1.1.len; have ho1 := Lib.hid hw1.one; have N1 := Lib.hid hw1.1.lt; have V1 := Lib.hid (hw1.mono (Nat.le_of_eq hz0.symm)); have B1 := Lib.hid (B0.out.on hb1); have R1 := Lib.hid (R0.out.below hb1 R0.out.lt); have hz1 := hb1.size; rw [hz0] at hz1; clear hw1 hb1)
    | (refine store_d (DAt.new _ _ _ w1) rfl (.tmp 5) (.tmp 12) rfl _ _ _ rfl rfl ho1.out rfl rfl ?_; intro w2 D2 _ hb2 _; have HH2 := hung_start B1.out R1.out hz1 V1.out D2 hb2; have H2 := Lib.hid HH2.1; have V2 := Lib.hid HH2.2; clear HH2 D2 hb2; obtain ⟨hz, c0, c1, c2, c3, c4, c5, c6, c7, c8⟩ := H2.out.both.at1.facts)
    | (go_at_call 45; (with_reducible refine (HME.out _).mono ?_); rintro e w3 ⟨rfl, hb3⟩; have H3 := Lib.hid (H2.out.on hb3); have V3 := Lib.hid (V2.out.on hb3); clear hb3; clear hz c0 c1 c2 c3 c4 c5 c6 c7 c8; obtain ⟨hz, c0, c1, c2, c3, c4, c5, c6, c7, c8⟩ := H3.out.both.at1.facts; have cl := H3.out.both.load)
    | (refine load_d H3.out.box rfl (.tmp 5) rfl rfl ?_)
    | (refine store_d H3.out.res rfl (.tmp 4) (.tmp 37) rfl _ _ _ rfl rfl V3.out.one rfl rfl ?_; intro w9 D9 ho9 hb9 hz9))
  refine bodyPost_ret (hung_end rfl rfl D9) rfl ?_
  exact hung_done H3.out ⟨ReadsN.nil _ _, ReadsN.nil _ _, V3.out⟩ ho9 hb9 hz9
set_option maxRecDepth 100000 in
set_option maxHeartbeats 4000000 in
theorem hung_load (t : Ta) (l : Tl) (i : Ins) (w : World) (h : TReads w t l) (hs : l.short) (h1 : 0 ≤ i.rs1 ∧ i.rs1 < 32) (hl : loadsB i.op = true) (hst : storesB i.op = false) :
    Calls Tryz.prog 23 #[t.V, i.V] w fun e w' => HungOk w (hangL l [i.rs1]) [] l.way e w' := by
  have B0 := Lib.hid ((Both.start t l i w h).alloc (.cells #[.slice none 0 0, .slice none 0 0, .slice none 0 0] 31))
  have D0 := DAt.new (.slice none 0 0) (.slice none 0 0) (.slice none 0 0) ((w.alloc (.cells (tC t) 25)).alloc (.cells (insCells i) 27))
  have hz0 : (((w.alloc (.cells (tC t) 25)).alloc (.cells (insCells i) 27)).alloc (.cells #[.slice none 0 0, .slice none 0 0, .slice none 0 0] 31)).heap.size = w.heap.size + 3 := by simp
  simp only [World.size_alloc] at D0
  have HME := Lib.hid (Memory_b i.op true false hl hst)
  have HFR := Lib.hid (fun (w0 : World) (b : Both t l i w w0) => fresh_any t.way l.way w0 b.reads.w (by have := hs.w; omega))
  have HRD := Lib.hid (fun (vr : Value) (w0 : World) (b : Both t l i w w0) (hr : ReadsI w0 vr [i.rs1]) => read_any t l vr [i.rs1] w0 b.reads hs hr.any (atI_one _ h1) (by simp))
  obtain ⟨al, hal⟩ : ∃ al, Hid (hangL l [i.rs1] = al) := ⟨_, Lib.hid rfl⟩
  rw [hal.out] at HRD ⊢
  clear h hs hl hst h1
  go_enter Tryz.func23, Tryz.ntmps23
  go_upto_region 1 with fail
  obtain ⟨W, HW⟩ : ∃ W, Hid (((w.alloc (.cells (tC t) 25)).alloc (.cells (insCells i) 27)).alloc (.cells #[.slice none 0 0, .slice none 0 0, .slice none 0 0] 31) = W) := ⟨_, Lib.hid rfl⟩
  rw [HW.out] at B0 D0 hz0 ⊢
  have R0 : Hid (DAt (.slice none 0 0) (.slice none 0 0) (.slice none 0 0) (w.heap.size + 2) W) := Lib.hid D0
  clear D0
  have cw := B0.out.cw
  go_wp2_with (first
    | (go_at_call 42; (with_reducible refine (HFR.out _ B0.out).mono ?_); rintro e w1 ⟨v1, rfl, hw1, hb1⟩; obtain ⟨a1, e1, rfl⟩ := hw1.1.len; have ho1 := Lib.hid hw1.one; have N1 := Lib.hid hw1.1.lt; have V1 := Lib.hid (hw1.mono (Nat.le_of_eq hz0.symm)); have B1 := Lib.hid (B0.out.on hb1); have R1 := Lib.hid (R0.out.below hb1 R0.out.lt); have hz1 := hb1.size; rw [hz0] at hz1; clear hw1 hb1)
    | (refine store_d (DAt.new _ _ _ w1) rfl (.tmp 5) (.tmp 12) rfl _ _ _ rfl rfl ho1.out rfl rfl ?_; intro w2 D2 _ hb2 _; have HH2 := hung_start B1.out R1.out hz1 V1.out D2 hb2; have H2 := Lib.hid HH2.1; have V2 := Lib.hid HH2.2; clear HH2 D2 hb2; obtain ⟨hz, c0, c1, c2, c3, c4, c5, c6, c7, c8⟩ := H2.out.both.at1.facts)
    | (go_at_call 45; (with_reducible refine (HME.out _).mono ?_); rintro e w3 ⟨rfl, hb3⟩; have H3 := Lib.hid (H2.out.on hb3); have V3 := Lib.hid (V2.out.on hb3); clear hb3; clear hz c0 c1 c2 c3 c4 c5 c6 c7 c8; obtain ⟨hz, c0, c1, c2, c3, c4, c5, c6, c7, c8⟩ := H3.out.both.at1.facts; have cl := H3.out.both.load)
    | (go_at_call 46; (with_reducible refine (HRD.out _ _ (H3.out.both.alloc _) (reads_one _ _)).mono ?_); rintro e w4 ⟨v4, rfl, hw4, hb4⟩; clear HRD; obtain ⟨a4, e4, rfl⟩ := hw4.1.len; have H4 := Lib.hid ((H3.out.on (box_below _ _)).on hb4); have V4 := Lib.hid ((V3.out.on (box_below _ _)).on hb4); have A4 := Lib.hid (hw4.mono (show w1.heap.size + 1 ≤ _ from Nat.le_trans (Nat.succ_le_of_lt H3.out.box.lt) (box_below _ _).size)); clear hw4 hb4; clear hz c0 c1 c2 c3 c4 c5 c6 c7 c8 cl; obtain ⟨_, d0, _, _, z0, _, _⟩ := H4.out.box.facts; have H5 := Lib.hid (H4.out.set0 (.slice a4 al.length e4)); have V5 := Lib.hid (V4.out.far (k := 0) (.slice a4 al.length e4) N1.out); have A5 := Lib.hid (A4.out.set (k := 0) (.slice a4 al.length e4) (Nat.lt_succ_self _)); obtain ⟨hz, c0, c1, c2, c3, c4, c5, c6, c7, c8⟩ := H5.out.both.at1.facts; have cl := H5.out.both.load)
    | (refine load_d H5.out.box rfl (.tmp 5) rfl rfl ?_)
    | (refine store_d H5.out.res rfl (.tmp 4) (.tmp 37) rfl _ _ _ A5.out.one rfl V5.out.one rfl rfl ?_; intro w9 D9 ho9 hb9 hz9))
  have hq : w.heap.size + 3 ≤ w1.heap.size + 1 := by omega
  refine bodyPost_ret (hung_end rfl rfl D9) rfl ?_
  exact hung_done H5.out ⟨A5.out.mono hq, ReadsN.nil _ _, V5.out⟩ ho9 hb9 hz9
set_option maxRecDepth 100000 in
set_option maxHeartbeats 4000000 in
theorem hung_store (t : Ta) (l : Tl) (i : Ins) (w : World) (h : TReads w t l) (hs : l.short) (h1 : 0 ≤ i.rs1 ∧ i.rs1 < 32) (h2 : 0 ≤ i.rs2 ∧ i.rs2 < 32) (hl : loadsB i.op = false) (hst : storesB i.op = true) :
    Calls Tryz.prog 23 #[t.V, i.V] w fun e w' => HungOk w (hangL l [i.rs1]) (hangL l [i.rs2]) l.way e w' := by
  have B0 := Lib.hid ((Both.start t l i w h).alloc (.cells #[.slice none 0 0, .slice none 0 0, .slice none 0 0] 31))
  have D0 := DAt.new (.slice none 0 0) (.slice none 0 0) (.slice none 0 0) ((w.alloc (.cells (tC t) 25)).alloc (.cells (insCells i) 27))
  have hz0 : (((w.alloc (.cells (tC t) 25)).alloc (.cells (insCells i) 27)).alloc (.cells #[.slice none 0 0, .slice none 0 0, .slice none 0 0] 31)).heap.size = w.heap.size + 3 := by simp
  simp only [World.size_alloc] at D0
  have HME := Lib.hid (Memory_b i.op false true hl hst)
  have HFR := Lib.hid (fun (w0 : World) (b : Both t l i w w0) => fresh_any t.way l.way w0 b.reads.w (by have := hs.w; omega))
  have HRD := Lib.hid (fun (vr : Value) (w0 : World) (b : Both t l i w w0) (hr : ReadsI w0 vr [i.rs1]) => read_any t l vr [i.rs1] w0 b.reads hs hr.any (atI_one _ h1) (by simp))
  have HRE := Lib.hid (fun (vr : Value) (w0 : World) (b : Both t l i w w0) (hr : ReadsI w0 vr [i.rs2]) => read_any t l vr [i.rs2] w0 b.reads hs hr.any (atI_one _ h2) (by simp))
  obtain ⟨al, hal⟩ : ∃ al, Hid (hangL l [i.rs1] = al) := ⟨_, Lib.hid rfl⟩
  obtain ⟨dl, hdl⟩ : ∃ dl, Hid (hangL l [i.rs2] = dl) := ⟨_, Lib.hid rfl⟩
  rw [hal.out] at HRD ⊢
  rw [hdl.out] at HRE ⊢
  clear h hs hl hst h1 h2
  go_enter Tryz.func23, Tryz.ntmps23
  go_upto_region 1 with fail
  obtain ⟨W, HW⟩ : ∃ W, Hid (((w.alloc (.cells (tC t) 25)).alloc (.cells (insCells i) 27)).alloc (.cells #[.slice none 0 0, .slice none 0 0, .slice none 0 0] 31) = W) := ⟨_, Lib.hid rfl⟩
  rw [HW.out] at B0 D0 hz0 ⊢
  have R0 : Hid (DAt (.slice none 0 0) (.slice none 0 0) (.slice none 0 0) (w.heap.size + 2) W) := Lib.hid D0
  clear D0
  have cw := B0.out.cw
  go_wp2_with (first
    | (go_at_call 42; (with_reducible refine (HFR.out _ B0.out).mono ?_); rintro e w1 ⟨v1, rfl, hw1, hb1⟩; obtain ⟨a1, e1, rfl⟩ := hw1.1.len; have ho1 := Lib.hid hw1.one; have N1 := Lib.hid hw1.1.lt; have V1 := Lib.hid (hw1.mono (Nat.le_of_eq hz0.symm)); have B1 := Lib.hid (B0.out.on hb1); have R1 := Lib.hid (R0.out.below hb1 R0.out.lt); have hz1 := hb1.size; rw [hz0] at hz1; clear hw1 hb1)
    | (refine store_d (DAt.new _ _ _ w1) rfl (.tmp 5) (.tmp 12) rfl _ _ _ rfl rfl ho1.out rfl rfl ?_; intro w2 D2 _ hb2 _; have HH2 := hung_start B1.out R1.out hz1 V1.out D2 hb2; have H2 := Lib.hid HH2.1; have V2 := Lib.hid HH2.2; clear HH2 D2 hb2; obtain ⟨hz, c0, c1, c2, c3, c4, c5, c6, c7, c8⟩ := H2.out.both.at1.facts)
    | (go_at_call 45; (with_reducible refine (HME.out _).mono ?_); rintro e w3 ⟨rfl, hb3⟩; have H3 := Lib.hid (H2.out.on hb3); have V3 := Lib.hid (V2.out.on hb3); clear hb3; clear hz c0 c1 c2 c3 c4 c5 c6 c7 c8; obtain ⟨hz, c0, c1, c2, c3, c4, c5, c6, c7, c8⟩ := H3.out.both.at1.facts; have cl := H3.out.both.load)
    | (go_at_call 46; (with_reducible refine (HRD.out _ _ (H3.out.both.alloc _) (reads_one _ _)).mono ?_); rintro e w4 ⟨v4, rfl, hw4, hb4⟩; clear HRD; obtain ⟨a4, e4, rfl⟩ := hw4.1.len; have H4 := Lib.hid ((H3.out.on (box_below _ _)).on hb4); have V4 := Lib.hid ((V3.out.on (box_below _ _)).on hb4); have A4 := Lib.hid (hw4.mono (show w1.heap.size + 1 ≤ _ from Nat.le_trans (Nat.succ_le_of_lt H3.out.box.lt) (box_below _ _).size)); clear hw4 hb4; clear hz c0 c1 c2 c3 c4 c5 c6 c7 c8 cl; obtain ⟨_, d0, _, _, z0, _, _⟩ := H4.out.box.facts; have H5 := Lib.hid (H4.out.set0 (.slice a4 al.length e4)); have V5 := Lib.hid (V4.out.far (k := 0) (.slice a4 al.length e4) N1.out); have A5 := Lib.hid (A4.out.set (k := 0) (.slice a4 al.length e4) (Nat.lt_succ_self _)); obtain ⟨hz, c0, c1, c2, c3, c4, c5, c6, c7, c8⟩ := H5.out.both.at1.facts; have cl := H5.out.both.load)
    | (go_at_call 46; (with_reducible refine (HRE.out _ _ (H5.out.both.alloc _) (reads_one_at _ _ w4.heap.size (by simp))).mono ?_); rintro e w6 ⟨v6, rfl, hw6, hb6⟩; obtain ⟨a6, e6, rfl⟩ := hw6.1.len; have H6 := Lib.hid ((H5.out.on (box_below _ _)).on hb6); have V6 := Lib.hid ((V5.out.on (box_below _ _)).on hb6); have A6 := Lib.hid ((A5.out.on (box_below _ _)).on hb6); have E6 := Lib.hid (hw6.mono (show w1.heap.size + 1 ≤ _ from Nat.le_trans (Nat.succ_le_of_lt H5.out.box.lt) (box_below _ _).size)); clear hw6 hb6; clear hz c0 c1 c2 c3 c4 c5 c6 c7 c8 cl d0 z0; obtain ⟨_, _, d1, _, _, z1, _⟩ := H6.out.box.facts; have H7 := Lib.hid (H6.out.set1 (.slice a6 dl.length e6)); have V7 := Lib.hid (V6.out.far (k := 1) (.slice a6 dl.length e6) N1.out); have A7 := Lib.hid (A6.out.set (k := 1) (.slice a6 dl.length e6) (Nat.lt_succ_self _)); have E7 := Lib.hid (E6.out.set (k := 1) (.slice a6 dl.length e6) (Nat.lt_succ_self _)))
    | (refine load_d H7.out.box rfl (.tmp 5) rfl rfl ?_)
    | (refine store_d H7.out.res rfl (.tmp 4) (.tmp 37) rfl _ _ _ A7.out.one E7.out.one V7.out.one rfl rfl ?_; intro w9 D9 ho9 hb9 hz9))
  have hq : w.heap.size + 3 ≤ w1.heap.size + 1 := by omega
  refine bodyPost_ret (hung_end rfl rfl D9) rfl ?_
  exact hung_done H7.out ⟨A7.out.mono hq, E7.out.mono hq, V7.out⟩ ho9 hb9 hz9
set_option maxRecDepth 100000 in
set_option maxHeartbeats 4000000 in
theorem hung_both (t : Ta) (l : Tl) (i : Ins) (w : World) (h : TReads w t l) (hs : l.short) (h1 : 0 ≤ i.rs1 ∧ i.rs1 < 32) (h2 : 0 ≤ i.rs2 ∧ i.rs2 < 32) (hl : loadsB i.op = true) (hst : storesB i.op = true) :
    Calls Tryz.prog 23 #[t.V, i.V] w fun e w' => HungOk w (hangL l [i.rs1]) (hangL l [i.rs2]) l.way e w' := by
  have B0 := Lib.hid ((Both.start t l i w h).alloc (.cells #[.slice none 0 0, .slice none 0 0, .slice none 0 0] 31))
  have D0 := DAt.new (.slice none 0 0) (.slice none 0 0) (.slice none 0 0) ((w.alloc (.cells (tC t) 25)).alloc (.cells (insCells i) 27))
  have hz0 : (((w.alloc (.cells (tC t) 25)).alloc (.cells (insCells i) 27)).alloc (.cells #[.slice none 0 0, .slice none 0 0, .slice none 0 0] 31)).heap.size = w.heap.size + 3 := by simp
  simp only [World.size_alloc] at D0
  have HME := Lib.hid (Memory_b i.op true true hl hst)
  have HFR := Lib.hid (fun (w0 : World) (b : Both t l i w w0) => fresh_any t.way l.way w0 b.reads.w (by have := hs.w; omega))
  have HRD := Lib.hid (fun (vr : Value) (w0 : World) (b : Both t l i w w0) (hr : ReadsI w0 vr [i.rs1]) => read_any t l vr [i.rs1] w0 b.reads hs hr.any (atI_one _ h1) (by simp))
  have HRE := Lib.hid (fun (vr : Value) (w0 : World) (b : Both t l i w w0) (hr : ReadsI w0 vr [i.rs2]) => read_any t l vr [i.rs2] w0 b.reads hs hr.any (atI_one _ h2) (by simp))
  obtain ⟨al, hal⟩ : ∃ al, Hid (hangL l [i.rs1] = al) := ⟨_, Lib.hid rfl⟩
  obtain ⟨dl, hdl⟩ : ∃ dl, Hid (hangL l [i.rs2] = dl) := ⟨_, Lib.hid rfl⟩
  rw [hal.out] at HRD ⊢
  rw [hdl.out] at HRE ⊢
  clear h hs hl hst h1 h2
  go_enter Tryz.func23, Tryz.ntmps23
  go_upto_region 1 with fail
  obtain ⟨W, HW⟩ : ∃ W, Hid (((w.alloc (.cells (tC t) 25)).alloc (.cells (insCells i) 27)).alloc (.cells #[.slice none 0 0, .slice none 0 0, .slice none 0 0] 31) = W) := ⟨_, Lib.hid rfl⟩
  rw [HW.out] at B0 D0 hz0 ⊢
  have R0 : Hid (DAt (.slice none 0 0) (.slice none 0 0) (.slice none 0 0) (w.heap.size + 2) W) := Lib.hid D0
  clear D0
  have cw := B0.out.cw
  go_wp2_with (first
    | (go_at_call 42; (with_reducible refine (HFR.out _ B0.out).mono ?_); rintro e w1 ⟨v1, rfl, hw1, hb1⟩; obtain ⟨a1, e1, rfl⟩ := hw1.1.len; have ho1 := Lib.hid hw1.one; have N1 := Lib.hid hw1.1.lt; have V1 := Lib.hid (hw1.mono (Nat.le_of_eq hz0.symm)); have B1 := Lib.hid (B0.out.on hb1); have R1 := Lib.hid (R0.out.below hb1 R0.out.lt); have hz1 := hb1.size; rw [hz0] at hz1; clear hw1 hb1)
    | (refine store_d (DAt.new _ _ _ w1) rfl (.tmp 5) (.tmp 12) rfl _ _ _ rfl rfl ho1.out rfl rfl ?_; intro w2 D2 _ hb2 _; have HH2 := hung_start B1.out R1.out hz1 V1.out D2 hb2; have H2 := Lib.hid HH2.1; have V2 := Lib.hid HH2.2; clear HH2 D2 hb2; obtain ⟨hz, c0, c1, c2, c3, c4, c5, c6, c7, c8⟩ := H2.out.both.at1.facts)
    | (go_at_call 45; (with_reducible refine (HME.out _).mono ?_); rintro e w3 ⟨rfl, hb3⟩; have H3 := Lib.hid (H2.out.on hb3); have V3 := Lib.hid (V2.out.on hb3); clear hb3; clear hz c0 c1 c2 c3 c4 c5 c6 c7 c8; obtain ⟨hz, c0, c1, c2, c3, c4, c5, c6, c7, c8⟩ := H3.out.both.at1.facts; have cl := H3.out.both.load)
    | (go_at_call 46; (with_reducible refine (HRD.out _ _ (H3.out.both.alloc _) (reads_one _ _)).mono ?_); rintro e w4 ⟨v4, rfl, hw4, hb4⟩; clear HRD; obtain ⟨a4, e4, rfl⟩ := hw4.1.len; have H4 := Lib.hid ((H3.out.on (box_below _ _)).on hb4); have V4 := Lib.hid ((V3.out.on (box_below _ _)).on hb4); have A4 := Lib.hid (hw4.mono (show w1.heap.size + 1 ≤ _ from Nat.le_trans (Nat.succ_le_of_lt H3.out.box.lt) (box_below _ _).size)); clear hw4 hb4; clear hz c0 c1 c2 c3 c4 c5 c6 c7 c8 cl; obtain ⟨_, d0, _, _, z0, _, _⟩ := H4.out.box.facts; have H5 := Lib.hid (H4.out.set0 (.slice a4 al.length e4)); have V5 := Lib.hid (V4.out.far (k := 0) (.slice a4 al.length e4) N1.out); have A5 := Lib.hid (A4.out.set (k := 0) (.slice a4 al.length e4) (Nat.lt_succ_self _)); obtain ⟨hz, c0, c1, c2, c3, c4, c5, c6, c7, c8⟩ := H5.out.both.at1.facts; have cl := H5.out.both.load)
    | (go_at_call 46; (with_reducible refine (HRE.out _ _ (H5.out.both.alloc _) (reads_one_at _ _ w4.heap.size (by simp))).mono ?_); rintro e w6 ⟨v6, rfl, hw6, hb6⟩; obtain ⟨a6, e6, rfl⟩ := hw6.1.len; have H6 := Lib.hid ((H5.out.on (box_below _ _)).on hb6); have V6 := Lib.hid ((V5.out.on (box_below _ _)).on hb6); have A6 := Lib.hid ((A5.out.on (box_below _ _)).on hb6); have E6 := Lib.hid (hw6.mono (show w1.heap.size + 1 ≤ _ from Nat.le_trans (Nat.succ_le_of_lt H5.out.box.lt) (box_below _ _).size)); clear hw6 hb6; clear hz c0 c1 c2 c3 c4 c5 c6 c7 c8 cl d0 z0; obtain ⟨_, _, d1, _, _, z1, _⟩ := H6.out.box.facts; have H7 := Lib.hid (H6.out.set1 (.slice a6 dl.length e6)); have V7 := Lib.hid (V6.out.far (k := 1) (.slice a6 dl.length e6) N1.out); have A7 := Lib.hid (A6.out.set (k := 1) (.slice a6 dl.length e6) (Nat.lt_succ_self _)); have E7 := Lib.hid (E6.out.set (k := 1) (.slice a6 dl.length e6) (Nat.lt_succ_self _)))
    | (refine load_d H7.out.box rfl (.tmp 5) rfl rfl ?_)
    | (refine store_d H7.out.res rfl (.tmp 4) (.tmp 37) rfl _ _ _ A7.out.one E7.out.one V7.out.one rfl rfl ?_; intro w9 D9 ho9 hb9 hz9))
  have hq : w.heap.size + 3 ≤ w1.heap.size + 1 := by omega
  refine bodyPost_ret (hung_end rfl rfl D9) rfl ?_
  exact hung_done H7.out ⟨A7.out.mono hq, E7.out.mono hq, V7.out⟩ ho9 hb9 hz9
theorem hung_any (t : Ta) (l : Tl) (i : Ins) (w : World) (h : TReads w t l) (hs : l.short) (h1 : 0 ≤ i.rs1 ∧ i.rs1 < 32) (h2 : 0 ≤ i.rs2 ∧ i.rs2 < 32) :
    Calls Tryz.prog 23 #[t.V, i.V] w fun e w' => HungOk w (addrL l i) (dataL l i) l.way e w' := by
  unfold addrL dataL
  cases hl : loadsB i.op <;> cases hst : storesB i.op
  · exact hung_no t l i w h hs hl hst
  · exact hung_store t l i w h hs h1 h2 hl hst
  · exact hung_load t l i w h hs h1 hl hst
  · exact hung_both t l i w h hs h1 h2 hl hst
end Go.Proofs.YtfbnijcmfaeoeaaGreat
