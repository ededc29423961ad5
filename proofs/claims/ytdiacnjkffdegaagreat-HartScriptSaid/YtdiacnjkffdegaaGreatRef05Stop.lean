/-
  Proved here: the document's own Step (layer 5) of a hart that may not do the instruction, or that it ends; it writes nothing that was there. Conditions: the number is of 64 bits; the registers are of 32.
-/
import Derived.Test.YtdiacnjkffdegaaGreatRef05Ends
namespace Go.Proofs.YtdiacnjkffdegaaGreat
set_option linter.unusedSimpArgs false
set_option linter.unusedVariables false
open Go.RowKit
theorem three_in (h : Ha) (op : Int) (d a b : Int) (v : BitVec 64) (aq rl : Bool) (p q : Int) (w : World) : ∃ W, Hid ((((w.alloc (.cells (hC h) 25)).alloc (.cells #[.int .i64 op, .int .i64 (d : Int), .int .i64 (a : Int), .int .i64 (b : Int), .int .i64 (S v), .bool aq, .bool rl, .int .i64 p, .int .i64 q] 34)).alloc (.cells (hC zeroHa) 25)) = W) ∧ Hid (HAt 25 h w.heap.size W) ∧ Hid (HAt 25 zeroHa (w.heap.size + 1 + 1) W) ∧ Hid (W.heap[w.heap.size + 1]? = some (.cells #[.int .i64 op, .int .i64 (d : Int), .int .i64 (a : Int), .int .i64 (b : Int), .int .i64 (S v), .bool aq, .bool rl, .int .i64 p, .int .i64 q] 34 (0, 0))) ∧ Hid (Below w.heap.size w W) ∧ W.heap.size = w.heap.size + 3 := by
  refine ⟨_, Lib.hid rfl, Lib.hid (((HAt.new 25 h w).alloc _).alloc _), ?_, ?_, Lib.hid ((((Below.refl _ _).alloc (Nat.le_refl _) _).alloc (by simp) _).alloc (by simp; omega) _), by simp⟩
  · have := HAt.new 25 zeroHa ((w.alloc (.cells (hC h) 25)).alloc (.cells #[.int .i64 op, .int .i64 (d : Int), .int .i64 (a : Int), .int .i64 (b : Int), .int .i64 (S v), .bool aq, .bool rl, .int .i64 p, .int .i64 q] 34))
    simp only [World.size_alloc] at this
    exact Lib.hid this
  · refine Lib.hid ((Below.heap_alloc _ _ _ (by simp)).trans ?_)
    have := Array.getElem?_push_size (xs := (w.alloc (.cells (hC h) 25)).heap) (x := Obj.cells #[.int .i64 op, .int .i64 (d : Int), .int .i64 (a : Int), .int .i64 (b : Int), .int .i64 (S v), .bool aq, .bool rl, .int .i64 p, .int .i64 q] 34)
    simp only [World.size_alloc] at this
    exact this
set_option maxHeartbeats 2000000 in
set_option maxRecDepth 100000 in
theorem Step5_refused (op : Int) (d a b : Int) (v : BitVec 64) (aq rl : Bool) (p q : Int) (found : BitVec 64) (won : Bool) (h : Ha) (w : World) (m : Int) (hm : mayH h ⟨op, d, a, b, S v, aq, rl, p, q⟩ = m) (hm0 : m ≠ 0) :
    Calls Tryz.prog 6 #[h.V, insV op d a b (S v) aq rl p q, .int .u64 (U found), .bool won] w fun e w' => e = .returned (.tuple #[zeroHa.V, .int .i64 m]) ∧ Below w.heap.size w w' := by
  obtain ⟨W, HW, H1, H2, HI, HB, hzW⟩ := three_in h op d a b v aq rl p q w
  have HM := Lib.hid (fun w => may5_any h op d a b v aq rl p q w)
  rw [hm] at HM
  have b0 : (m != 0) = true := by simpa using hm0
  clear hm hm0
  unfold Ha.V at *
  go_enter Tryz.func6, Tryz.ntmps6
  go_upto_region 1 with fail
  rw [zero_cells, HW.out]
  go_wp2_with (first | (refine load_ha row_hart H1.out rfl _ rfl rfl ?_) | (refine wpList_load_row rfl 34 _ rfl (w.heap.size + 1) rfl 34 _ (0, 0) _ HI.out Tryz.underlying34 rfl (by as_aux_lemma => kernel_rfl) ?_) | (go_at_call 15; (with_reducible refine (HM.out _).mono ?_); rintro e w1 ⟨rfl, hb⟩; have hz1 : W.heap.size ≤ w1.heap.size := hb.size; have H1a := Lib.hid (H1.out.below hb (by omega)); have H2a := Lib.hid (H2.out.below hb (by omega)); have HIa := Lib.hid ((hb.block (w.heap.size + 1) (by omega)).trans HI.out); have HB1 : Hid (Below w.heap.size w w1) := Lib.hid (HB.out.trans (hb.mono (by omega))); clear hb) | (refine store_ha row_hart zeroHa H2a.out rfl _ _ rfl rfl (by exact congrArg Value.agg zero_cells) ?_; intro w3 h3 ho3 hb3 hz3; have H3 := Lib.hid (And.intro h3 hb3); clear h3 ho3 hb3 hz3))
  refine bodyPost_ret (results_cell_tmp rfl rfl (hart_load H3.out.1)) rfl ?_
  exact ⟨rfl, HB1.out.trans (H3.out.2.mono (by omega))⟩
set_option maxHeartbeats 2000000 in
set_option maxRecDepth 100000 in
theorem Step5_halted (op : Int) (d a b : Nat) (ha : a < 32) (hb' : b < 32) (v : BitVec 64) (aq rl : Bool) (p q : Int) (found : BitVec 64) (won : Bool) (h : Ha) (w : World) (hm : mayH h ⟨op, d, a, b, S v, aq, rl, p, q⟩ = 0) (hE : endHI h op a b v = 1) :
    Calls Tryz.prog 6 #[h.V, insV op d a b (S v) aq rl p q, .int .u64 (U found), .bool won] w fun e w' => e = .returned (.tuple #[((h.atE 1).atCode (h.x 10)).V, .int .i64 0]) ∧ Below w.heap.size w w' := by
  obtain ⟨W, HW, H1, H2, HI, HB, hzW⟩ := three_in h op d a b v aq rl p q w
  have HM := Lib.hid (fun w => may5_any h op d a b v aq rl p q w)
  have HE := Lib.hid (fun w => end5_at h op d a b ha hb' v aq rl p q _ _ _ _ _ rfl rfl rfl rfl rfl w)
  have hE' : endI op (U (h.x 17)) (sizeOf' op) (U (h.x a + v)) (U (toH h op a b v)) (jumpH h op a b) = 1 := hE
  rw [hE'] at HE
  rw [hm] at HM
  clear hm hE hE'
  unfold Ha.V at *
  go_enter Tryz.func6, Tryz.ntmps6
  go_upto_region 1 with fail
  rw [zero_cells, HW.out]
  go_wp2_with (first | (refine load_ha row_hart (T := 25) (h := ((h.atE 1).atCode (h.x 10))) (n := w.heap.size) ?_ rfl _ rfl rfl ?_; · exact (HAt.setCode (HAt.setE H1b.out 1) (h.x 10))) | (refine load_ha row_hart H1a.out rfl _ rfl rfl ?_) | (refine load_ha row_hart H1.out rfl _ rfl rfl ?_) | (refine wpList_load_row rfl 34 _ rfl (w.heap.size + 1) rfl 34 _ (0, 0) _ HIa.out Tryz.underlying34 rfl (by as_aux_lemma => kernel_rfl) ?_) | (refine wpList_load_row rfl 34 _ rfl (w.heap.size + 1) rfl 34 _ (0, 0) _ HI.out Tryz.underlying34 rfl (by as_aux_lemma => kernel_rfl) ?_) | (go_at_call 15; (with_reducible refine (HM.out _).mono ?_); rintro e w1 ⟨rfl, hb⟩; have hz1 : W.heap.size ≤ w1.heap.size := hb.size; have H1a := Lib.hid (H1.out.below hb (by omega)); have H2a := Lib.hid (H2.out.below hb (by omega)); have HIa := Lib.hid ((hb.block (w.heap.size + 1) (by omega)).trans HI.out); have HB1 : Hid (Below w.heap.size w w1) := Lib.hid (HB.out.trans (hb.mono (by omega))); clear hb) | (go_at_call 16; (with_reducible refine (HE.out _).mono ?_); rintro e w2 ⟨rfl, hb⟩; have H1b := Lib.hid (H1a.out.below hb (by omega)); have H2b := Lib.hid (H2a.out.below hb (by omega)); have HIb := Lib.hid ((hb.block (w.heap.size + 1) (by omega)).trans HIa.out); have HB2 : Hid (Below w.heap.size w w2) := Lib.hid (HB1.out.trans (hb.mono (by omega))); have hz2 : w1.heap.size ≤ w2.heap.size := hb.size; have c33 := H1b.out.c33; have c34 := H1b.out.c34; have f33 := H1b.out.frozen 33; have f34 := H1b.out.frozen 34; have c11 : w2.cell? ⟨w.heap.size, 11, none⟩ = some (.int .u64 (U (h.x 10))) := H1b.out.cx 10 (by omega); clear hb) | (refine store_ha row_hart ((h.atE 1).atCode (h.x 10)) (T := 25) (h0 := zeroHa) (n := w.heap.size + 1 + 1) ?_ rfl _ _ rfl rfl rfl ?_; exact (HAt.setOther (HAt.setOther H2b.out _ _ (by simp; try omega)) _ _ (by simp; try omega)); intro w3 h3 ho3 hb3 hz3; have H3 := Lib.hid (And.intro h3 hb3); clear h3 ho3 hb3 hz3))
  refine bodyPost_ret (results_cell_tmp rfl rfl (hart_load H3.out.1)) rfl ?_
  exact ⟨rfl, ((HB2.out.setCell (by simp) _).setCell (by simp) _).trans (H3.out.2.mono (by omega))⟩
set_option maxHeartbeats 2000000 in
set_option maxRecDepth 100000 in
theorem Step5_stopped (op : Int) (d a b : Nat) (ha : a < 32) (hb' : b < 32) (v : BitVec 64) (aq rl : Bool) (p q : Int) (found : BitVec 64) (won : Bool) (h : Ha) (w : World) (hm : mayH h ⟨op, d, a, b, S v, aq, rl, p, q⟩ = 0) (how : Int) (hE : endHI h op a b v = how) (h0 : how ≠ 0) (h1 : how ≠ 1) :
    Calls Tryz.prog 6 #[h.V, insV op d a b (S v) aq rl p q, .int .u64 (U found), .bool won] w fun e w' => e = .returned (.tuple #[(h.atE how).V, .int .i64 0]) ∧ Below w.heap.size w w' := by
  obtain ⟨W, HW, H1, H2, HI, HB, hzW⟩ := three_in h op d a b v aq rl p q w
  have HM := Lib.hid (fun w => may5_any h op d a b v aq rl p q w)
  have HE := Lib.hid (fun w => end5_at h op d a b ha hb' v aq rl p q _ _ _ _ _ rfl rfl rfl rfl rfl w)
  have hE' : endI op (U (h.x 17)) (sizeOf' op) (U (h.x a + v)) (U (toH h op a b v)) (jumpH h op a b) = how := hE
  rw [hE'] at HE
  rw [hm] at HM
  have b0 : (how != 0) = true := by simpa using h0
  have b1 : (how == 1) = false := by simpa using h1
  clear h0 h1
  clear hm hE hE'
  unfold Ha.V at *
  go_enter Tryz.func6, Tryz.ntmps6
  go_upto_region 1 with fail
  rw [zero_cells, HW.out]
  go_wp2_with (first | (refine load_ha row_hart (T := 25) (h := (h.atE how)) (n := w.heap.size) ?_ rfl _ rfl rfl ?_; · exact (HAt.setE H1b.out how)) | (refine load_ha row_hart H1a.out rfl _ rfl rfl ?_) | (refine load_ha row_hart H1.out rfl _ rfl rfl ?_) | (refine wpList_load_row rfl 34 _ rfl (w.heap.size + 1) rfl 34 _ (0, 0) _ HIa.out Tryz.underlying34 rfl (by as_aux_lemma => kernel_rfl) ?_) | (refine wpList_load_row rfl 34 _ rfl (w.heap.size + 1) rfl 34 _ (0, 0) _ HI.out Tryz.underlying34 rfl (by as_aux_lemma => kernel_rfl) ?_) | (go_at_call 15; (with_reducible refine (HM.out _).mono ?_); rintro e w1 ⟨rfl, hb⟩; have hz1 : W.heap.size ≤ w1.heap.size := hb.size; have H1a := Lib.hid (H1.out.below hb (by omega)); have H2a := Lib.hid (H2.out.below hb (by omega)); have HIa := Lib.hid ((hb.block (w.heap.size + 1) (by omega)).trans HI.out); have HB1 : Hid (Below w.heap.size w w1) := Lib.hid (HB.out.trans (hb.mono (by omega))); clear hb) | (go_at_call 16; (with_reducible refine (HE.out _).mono ?_); rintro e w2 ⟨rfl, hb⟩; have H1b := Lib.hid (H1a.out.below hb (by omega)); have H2b := Lib.hid (H2a.out.below hb (by omega)); have HIb := Lib.hid ((hb.block (w.heap.size + 1) (by omega)).trans HIa.out); have HB2 : Hid (Below w.heap.size w w2) := Lib.hid (HB1.out.trans (hb.mono (by omega))); have hz2 : w1.heap.size ≤ w2.heap.size := hb.size; have c33 := H1b.out.c33; have c34 := H1b.out.c34; have f33 := H1b.out.frozen 33; have f34 := H1b.out.frozen 34; have c11 : w2.cell? ⟨w.heap.size, 11, none⟩ = some (.int .u64 (U (h.x 10))) := H1b.out.cx 10 (by omega); clear hb) | (refine store_ha row_hart (h.atE how) (T := 25) (h0 := zeroHa) (n := w.heap.size + 1 + 1) ?_ rfl _ _ rfl rfl rfl ?_; exact (HAt.setOther H2b.out _ _ (by simp; try omega)); intro w3 h3 ho3 hb3 hz3; have H3 := Lib.hid (And.intro h3 hb3); clear h3 ho3 hb3 hz3))
  refine bodyPost_ret (results_cell_tmp rfl rfl (hart_load H3.out.1)) rfl ?_
  exact ⟨rfl, (HB2.out.setCell (by simp) _).trans (H3.out.2.mono (by omega))⟩
end Go.Proofs.YtdiacnjkffdegaaGreat
