/-
  Proved here: what the package hart's Step answers of a hart, an instruction: refused, done, ended. Condition: the registers are 0 to 31.
-/
import Derived.Test.YtdiacnjkffdegaaGreatHartCatch
import Derived.Test.YtdiacnjkffdegaaGreatHartMay
namespace Go.Proofs.YtdiacnjkffdegaaGreat
set_option linter.unusedSimpArgs false
set_option linter.unusedVariables false
open Go.RowKit
theorem HAt.zero (T : TypeId) (w : World) : HAt T zeroHa w.heap.size (w.alloc (.cells (#[.int .u64 0, .int .u64 0, .int .u64 0, .int .u64 0, .int .u64 0, .int .u64 0, .int .u64 0, .int .u64 0, .int .u64 0, .int .u64 0, .int .u64 0, .int .u64 0, .int .u64 0, .int .u64 0, .int .u64 0, .int .u64 0, .int .u64 0, .int .u64 0, .int .u64 0, .int .u64 0, .int .u64 0, .int .u64 0, .int .u64 0, .int .u64 0, .int .u64 0, .int .u64 0, .int .u64 0, .int .u64 0, .int .u64 0, .int .u64 0, .int .u64 0, .int .u64 0, .int .u64 0, .int .i64 0, .int .u64 0] : Array Value) T)) := by rw [zero_cells]; exact HAt.new _ _ _
theorem results_cell_tmp {P : Program} {fn : Func} {tmps : Array Value} {t u : Tmp} {ty : TypeId} {ad : Addr} {v : Value} {w : World} (h : fn.results = #[.cell t ty, .tmp u]) (hb : tmps.getD t undef = .pointer (some ad)) (hl : (loadVar ty ad).run P w = .ok v w) :
    (results fn tmps).run P w = .ok (.tuple #[v, tmps.getD u undef]) w := by
  have hb' : tmps[t]?.getD undef = .pointer (some ad) := by simpa using hb
  simp [results, h, hb', asAddr, hl]
theorem hart_load {T : TypeId} {h : Ha} {n : Nat} {w : World} (H : HAt T h n w) : (loadVar 25 ⟨n, 0, none⟩).run Tryz.prog w = .ok h.V w := by
  obtain ⟨d, hu, hd, hi⟩ := row_hart
  exact run_loadVar_row w n T 25 (hC h) (0, 0) d H hu (by cases d <;> simp_all [rowD]) (by rw [hC_size]; exact hi)

set_option maxHeartbeats 2000000 in
set_option maxRecDepth 100000 in
theorem Step_refused (op : Int) (d a b : Int) (v : BitVec 64) (aq rl : Bool) (p q : Int) (found : BitVec 64) (won : Bool) (h : Ha) (w : World) (m : Int) (hm : mayH h ⟨op, d, a, b, S v, aq, rl, p, q⟩ = m) (hm0 : m ≠ 0) :
    Calls Tryz.prog 5 #[h.V, insV op d a b (S v) aq rl p q, .int .u64 (U found), .bool won] w fun e w' => e = .returned (.tuple #[zeroHa.V, .int .i64 m]) ∧ Below w.heap.size w w' := by
  have hmf : ∀ (fn : Fn) (first cap : Array Value) (w : World), (Instr.makeFunc fn first cap).run Tryz.prog w = .ok (.func fn first cap) w := fun _ _ _ _ => rfl
  obtain ⟨W, hW⟩ : ∃ W, (((w.alloc (.cells (hC h) 25)).alloc (.cells #[.int .i64 op, .int .i64 (d : Int), .int .i64 (a : Int), .int .i64 (b : Int), .int .i64 (S v), .bool aq, .bool rl, .int .i64 p, .int .i64 q] 34)).alloc (.cells (hC zeroHa) 25)) = W := ⟨_, rfl⟩
  have HW := Lib.hid hW
  clear hW
  have H1 : Hid (HAt 25 h w.heap.size W) := by
    rw [← HW.out]
    exact Lib.hid (((HAt.new 25 h w).alloc _).alloc _)
  have H2 : Hid (HAt 25 zeroHa (w.heap.size + 1 + 1) W) := by
    rw [← HW.out]
    have := HAt.new 25 zeroHa ((w.alloc (.cells (hC h) 25)).alloc (.cells #[.int .i64 op, .int .i64 (d : Int), .int .i64 (a : Int), .int .i64 (b : Int), .int .i64 (S v), .bool aq, .bool rl, .int .i64 p, .int .i64 q] 34))
    simp only [World.size_alloc] at this
    exact Lib.hid this
  have HI : Hid (W.heap[w.heap.size + 1]? = some (.cells #[.int .i64 op, .int .i64 (d : Int), .int .i64 (a : Int), .int .i64 (b : Int), .int .i64 (S v), .bool aq, .bool rl, .int .i64 p, .int .i64 q] 34 (0, 0))) := by
    rw [← HW.out]
    refine Lib.hid ((Below.heap_alloc _ _ _ (by simp)).trans ?_)
    have := Array.getElem?_push_size (xs := (w.alloc (.cells (hC h) 25)).heap) (x := Obj.cells #[.int .i64 op, .int .i64 (d : Int), .int .i64 (a : Int), .int .i64 (b : Int), .int .i64 (S v), .bool aq, .bool rl, .int .i64 p, .int .i64 q] 34)
    simp only [World.size_alloc] at this
    exact this
  have HB : Hid (Below w.heap.size w W) := by
    rw [← HW.out]
    exact Lib.hid ((((Below.refl _ _).alloc (Nat.le_refl _) _).alloc (by simp) _).alloc (by simp; omega) _)
  have hzW : W.heap.size = w.heap.size + 3 := by rw [← HW.out]; simp
  have HM := Lib.hid (fun w => may_any h ⟨op, d, a, b, S v, aq, rl, p, q⟩ w)
  rw [hm] at HM
  have b0 : (m == 0) = false := by simpa using hm0
  clear hm hm0
  go_enter_defers Tryz.func5, Tryz.ntmps5
  go_upto_region 1 with fail
  rw [zero_cells, HW.out]
  go_wp2_with (first | (refine load_ha row_hart H1.out rfl _ rfl rfl ?_) | (refine wpList_load_row rfl 34 _ rfl (w.heap.size + 1) rfl 34 _ (0, 0) _ HI.out Tryz.underlying34 rfl (by as_aux_lemma => kernel_rfl) ?_) | (go_at_call 11; (with_reducible refine (HM.out _).mono ?_); rintro e w1 ⟨rfl, hb⟩; have hz1 : W.heap.size ≤ w1.heap.size := hb.size; have H1a := Lib.hid (H1.out.below hb (by omega)); have H2a := Lib.hid (H2.out.below hb (by omega)); have HIa := Lib.hid ((hb.block (w.heap.size + 1) (by omega)).trans HI.out); have HB1 : Hid (Below w.heap.size w w1) := Lib.hid (HB.out.trans (hb.mono (by omega))); clear hb) | (refine store_ha row_hart zeroHa H2a.out rfl _ _ rfl rfl (by exact congrArg Value.agg zero_cells) ?_; intro w3 h3 ho3 hb3 hz3; have H3 := Lib.hid (And.intro h3 hb3); clear h3 ho3 hb3 hz3))
  simp only [bodyPostD, Leaves]
  refine ⟨_, results_cell_tmp rfl rfl (hart_load H3.out.1), rfl, ?_⟩
  exact HB1.out.trans (H3.out.2.mono (by omega))
set_option maxHeartbeats 2000000 in
set_option maxRecDepth 100000 in
theorem Step_done (op : Int) (d a b : Nat) (hd : d < 32) (ha : a < 32) (hb' : b < 32) (v : BitVec 64) (aq rl : Bool) (p q : Int) (found : BitVec 64) (won : Bool) (h : Ha) (w : World) (hm : mayH h ⟨op, d, a, b, S v, aq, rl, p, q⟩ = 0) (hE : doE5 h op a b v = none) :
    Calls Tryz.prog 5 #[h.V, insV op d a b (S v) aq rl p q, .int .u64 (U found), .bool won] w fun e w' => e = .returned (.tuple #[(doneH h op d a b v found won).V, .int .i64 0]) ∧ Below w.heap.size w w' := by
  have hmf : ∀ (fn : Fn) (first cap : Array Value) (w : World), (Instr.makeFunc fn first cap).run Tryz.prog w = .ok (.func fn first cap) w := fun _ _ _ _ => rfl
  obtain ⟨W, hW⟩ : ∃ W, (((w.alloc (.cells (hC h) 25)).alloc (.cells #[.int .i64 op, .int .i64 (d : Int), .int .i64 (a : Int), .int .i64 (b : Int), .int .i64 (S v), .bool aq, .bool rl, .int .i64 p, .int .i64 q] 34)).alloc (.cells (hC zeroHa) 25)) = W := ⟨_, rfl⟩
  have HW := Lib.hid hW
  clear hW
  have H1 : Hid (HAt 25 h w.heap.size W) := by
    rw [← HW.out]
    exact Lib.hid (((HAt.new 25 h w).alloc _).alloc _)
  have H2 : Hid (HAt 25 zeroHa (w.heap.size + 1 + 1) W) := by
    rw [← HW.out]
    have := HAt.new 25 zeroHa ((w.alloc (.cells (hC h) 25)).alloc (.cells #[.int .i64 op, .int .i64 (d : Int), .int .i64 (a : Int), .int .i64 (b : Int), .int .i64 (S v), .bool aq, .bool rl, .int .i64 p, .int .i64 q] 34))
    simp only [World.size_alloc] at this
    exact Lib.hid this
  have HI : Hid (W.heap[w.heap.size + 1]? = some (.cells #[.int .i64 op, .int .i64 (d : Int), .int .i64 (a : Int), .int .i64 (b : Int), .int .i64 (S v), .bool aq, .bool rl, .int .i64 p, .int .i64 q] 34 (0, 0))) := by
    rw [← HW.out]
    refine Lib.hid ((Below.heap_alloc _ _ _ (by simp)).trans ?_)
    have := Array.getElem?_push_size (xs := (w.alloc (.cells (hC h) 25)).heap) (x := Obj.cells #[.int .i64 op, .int .i64 (d : Int), .int .i64 (a : Int), .int .i64 (b : Int), .int .i64 (S v), .bool aq, .bool rl, .int .i64 p, .int .i64 q] 34)
    simp only [World.size_alloc] at this
    exact this
  have HB : Hid (Below w.heap.size w W) := by
    rw [← HW.out]
    exact Lib.hid ((((Below.refl _ _).alloc (Nat.le_refl _) _).alloc (by simp) _).alloc (by simp; omega) _)
  have hzW : W.heap.size = w.heap.size + 3 := by rw [← HW.out]; simp
  have HM := Lib.hid (fun w => may_any h ⟨op, d, a, b, S v, aq, rl, p, q⟩ w)
  rw [hm] at HM
  clear hm
  have HD := Lib.hid (fun w n H => (show Calls Tryz.prog 14 #[.pointer (some ⟨n, 0, none⟩), insV op d a b (S v) aq rl p q, .int .u64 (U found), .bool won] w fun e w' => e = .returned (.tuple #[]) ∧ HAt 48 (doneH h op d a b v found won) n w' ∧ Below n w w' from by
    have := do_any op d a b hd ha hb' v aq rl p q found won n h w H
    unfold DoPost at this
    rw [hE] at this
    exact this))
  clear hE
  go_enter_defers Tryz.func5, Tryz.ntmps5
  go_upto_region 1 with fail
  rw [zero_cells, HW.out]
  go_wp2_with (first | (refine load_ha row_hart H1.out rfl _ rfl rfl ?_) | (refine wpList_load_row rfl 34 _ rfl (w.heap.size + 1) rfl 34 _ (0, 0) _ HI.out Tryz.underlying34 rfl (by as_aux_lemma => kernel_rfl) ?_) | (go_at_call 11; (with_reducible refine (HM.out _).mono ?_); rintro e w1 ⟨rfl, hb⟩; have hz1 : W.heap.size ≤ w1.heap.size := hb.size; have H1a := Lib.hid (H1.out.below hb (by omega)); have H2a := Lib.hid (H2.out.below hb (by omega)); have HIa := Lib.hid ((hb.block (w.heap.size + 1) (by omega)).trans HI.out); have HB1 : Hid (Below w.heap.size w w1) := Lib.hid (HB.out.trans (hb.mono (by omega))); clear hb) | (refine load_ha row_hart H1a.out rfl _ rfl rfl ?_) | (refine store_ha row_state h (HAt.zero _ _) rfl _ _ rfl rfl rfl ?_; intro w2 h2 ho2 hb2 hz2; have hz2' : w2.heap.size = w1.heap.size + 1 := (by simpa using hz2); have HS := Lib.hid h2; have HB2 : Hid (Below w1.heap.size w1 w2) := Lib.hid (((Below.refl _ _).alloc (Nat.le_refl _) _).trans hb2); have H1b := Lib.hid (H1a.out.below HB2.out (by omega)); have H2b := Lib.hid (H2a.out.below HB2.out (by omega)); have HIb := Lib.hid ((HB2.out.block (w.heap.size + 1) (by omega)).trans HIa.out); clear h2 ho2 hb2 hz2) | (refine wpList_load_row rfl 34 _ rfl (w.heap.size + 1) rfl 34 _ (0, 0) _ HIb.out Tryz.underlying34 rfl (by as_aux_lemma => kernel_rfl) ?_) | (go_at_call 14; (with_reducible refine (HD.out _ _ HS.out).mono ?_); rintro e w3 ⟨rfl, h3, hb3⟩; have H3 := Lib.hid h3; have hz3 : w2.heap.size ≤ w3.heap.size := hb3.size; have H2c := Lib.hid (H2b.out.below hb3 (by omega)); have HB3 : Hid (Below w.heap.size w w3) := Lib.hid ((HB1.out.trans (HB2.out.mono (by omega))).trans (hb3.mono (by omega))); clear h3 hb3) | (refine load_ha row_state H3.out rfl _ rfl rfl ?_) | (refine store_ha row_hart (doneH h op d a b v found won) H2c.out rfl _ _ rfl rfl rfl ?_; intro w4 h4 ho4 hb4 hz4; have H4 := Lib.hid (And.intro h4 hb4); have hz4' := hz4; clear h4 ho4 hb4 hz4))
  simp only [bodyPostD]
  refine leaves_cons (f := 12) (args := #[.pointer (some ⟨w.heap.size, 0, none⟩), .pointer (some ⟨w.heap.size + 1 + 1, 0, none⟩)]) (by simp) (by simp [go_sem]) ?_
  refine (catch_idle _ _ _).mono ?_
  rintro e u' w5 ⟨rfl, rfl, hb5⟩
  have h5 := H4.out.1.below hb5 (by omega)
  simp only [settle, Leaves]
  refine ⟨_, results_cell_tmp rfl rfl (hart_load h5), rfl, ?_⟩
  exact (HB3.out.trans (H4.out.2.mono (by omega))).trans (hb5.mono (by omega))
set_option maxHeartbeats 2000000 in
set_option maxRecDepth 100000 in
theorem Step_ended (op : Int) (d a b : Nat) (hd : d < 32) (ha : a < 32) (hb' : b < 32) (v : BitVec 64) (aq rl : Bool) (p q : Int) (found : BitVec 64) (won : Bool) (h : Ha) (w : World) (how : Int) (c : BitVec 64) (hm : mayH h ⟨op, d, a, b, S v, aq, rl, p, q⟩ = 0) (hE : doE5 h op a b v = some (how, c)) :
    Calls Tryz.prog 5 #[h.V, insV op d a b (S v) aq rl p q, .int .u64 (U found), .bool won] w fun e w' => e = .returned (.tuple #[((h.atE how).atCode c).V, .int .i64 0]) ∧ Below w.heap.size w w' := by
  have hmf : ∀ (fn : Fn) (first cap : Array Value) (w : World), (Instr.makeFunc fn first cap).run Tryz.prog w = .ok (.func fn first cap) w := fun _ _ _ _ => rfl
  obtain ⟨W, hW⟩ : ∃ W, (((w.alloc (.cells (hC h) 25)).alloc (.cells #[.int .i64 op, .int .i64 (d : Int), .int .i64 (a : Int), .int .i64 (b : Int), .int .i64 (S v), .bool aq, .bool rl, .int .i64 p, .int .i64 q] 34)).alloc (.cells (hC zeroHa) 25)) = W := ⟨_, rfl⟩
  have HW := Lib.hid hW
  clear hW
  have H1 : Hid (HAt 25 h w.heap.size W) := by
    rw [← HW.out]
    exact Lib.hid (((HAt.new 25 h w).alloc _).alloc _)
  have H2 : Hid (HAt 25 zeroHa (w.heap.size + 1 + 1) W) := by
    rw [← HW.out]
    have := HAt.new 25 zeroHa ((w.alloc (.cells (hC h) 25)).alloc (.cells #[.int .i64 op, .int .i64 (d : Int), .int .i64 (a : Int), .int .i64 (b : Int), .int .i64 (S v), .bool aq, .bool rl, .int .i64 p, .int .i64 q] 34))
    simp only [World.size_alloc] at this
    exact Lib.hid this
  have HI : Hid (W.heap[w.heap.size + 1]? = some (.cells #[.int .i64 op, .int .i64 (d : Int), .int .i64 (a : Int), .int .i64 (b : Int), .int .i64 (S v), .bool aq, .bool rl, .int .i64 p, .int .i64 q] 34 (0, 0))) := by
    rw [← HW.out]
    refine Lib.hid ((Below.heap_alloc _ _ _ (by simp)).trans ?_)
    have := Array.getElem?_push_size (xs := (w.alloc (.cells (hC h) 25)).heap) (x := Obj.cells #[.int .i64 op, .int .i64 (d : Int), .int .i64 (a : Int), .int .i64 (b : Int), .int .i64 (S v), .bool aq, .bool rl, .int .i64 p, .int .i64 q] 34)
    simp only [World.size_alloc] at this
    exact this
  have HB : Hid (Below w.heap.size w W) := by
    rw [← HW.out]
    exact Lib.hid ((((Below.refl _ _).alloc (Nat.le_refl _) _).alloc (by simp) _).alloc (by simp; omega) _)
  have hzW : W.heap.size = w.heap.size + 3 := by rw [← HW.out]; simp
  have HM := Lib.hid (fun w => may_any h ⟨op, d, a, b, S v, aq, rl, p, q⟩ w)
  rw [hm] at HM
  clear hm
  have HD := Lib.hid (fun w n H => (show Calls Tryz.prog 14 #[.pointer (some ⟨n, 0, none⟩), insV op d a b (S v) aq rl p q, .int .u64 (U found), .bool won] w fun e w' => e = .panicked (endV how c) ∧ Below w.heap.size w w' from by
    have := do_any op d a b hd ha hb' v aq rl p q found won n h w H
    unfold DoPost at this
    rw [hE] at this
    exact this))
  clear hE
  go_enter_defers Tryz.func5, Tryz.ntmps5
  go_upto_region 1 with fail
  rw [zero_cells, HW.out]
  go_wp2_with (first | (refine load_ha row_hart H1.out rfl _ rfl rfl ?_) | (refine wpList_load_row rfl 34 _ rfl (w.heap.size + 1) rfl 34 _ (0, 0) _ HI.out Tryz.underlying34 rfl (by as_aux_lemma => kernel_rfl) ?_) | (go_at_call 11; (with_reducible refine (HM.out _).mono ?_); rintro e w1 ⟨rfl, hb⟩; have hz1 : W.heap.size ≤ w1.heap.size := hb.size; have H1a := Lib.hid (H1.out.below hb (by omega)); have H2a := Lib.hid (H2.out.below hb (by omega)); have HIa := Lib.hid ((hb.block (w.heap.size + 1) (by omega)).trans HI.out); have HB1 : Hid (Below w.heap.size w w1) := Lib.hid (HB.out.trans (hb.mono (by omega))); clear hb) | (refine load_ha row_hart H1a.out rfl _ rfl rfl ?_) | (refine store_ha row_state h (HAt.zero _ _) rfl _ _ rfl rfl rfl ?_; intro w2 h2 ho2 hb2 hz2; have hz2' : w2.heap.size = w1.heap.size + 1 := (by simpa using hz2); have HS := Lib.hid h2; have HB2 : Hid (Below w1.heap.size w1 w2) := Lib.hid (((Below.refl _ _).alloc (Nat.le_refl _) _).trans hb2); have H1b := Lib.hid (H1a.out.below HB2.out (by omega)); have H2b := Lib.hid (H2a.out.below HB2.out (by omega)); have HIb := Lib.hid ((HB2.out.block (w.heap.size + 1) (by omega)).trans HIa.out); clear h2 ho2 hb2 hz2) | (refine wpList_load_row rfl 34 _ rfl (w.heap.size + 1) rfl 34 _ (0, 0) _ HIb.out Tryz.underlying34 rfl (by as_aux_lemma => kernel_rfl) ?_) | (go_at_call 14; (with_reducible refine (HD.out _ _ HS.out).mono ?_); rintro e w3 ⟨rfl, hb3⟩; have hz3 : w2.heap.size ≤ w3.heap.size := hb3.size; have H1c := Lib.hid (H1b.out.below hb3 (by omega)); have H2c := Lib.hid (H2b.out.below hb3 (by omega)); have HB3 : Hid (Below w.heap.size w w3) := Lib.hid ((HB1.out.trans (HB2.out.mono (by omega))).trans (hb3.mono (by omega))); clear hb3))
  simp only [bodyPostD]
  refine leaves_cons (f := 12) (args := #[.pointer (some ⟨w.heap.size, 0, none⟩), .pointer (some ⟨w.heap.size + 1 + 1, 0, none⟩)]) (by simp) (by simp [go_sem]) ?_
  refine (catch_end _ _ how c h zeroHa [] _ H1c.out H2c.out (by omega)).mono ?_
  rintro e u' w5 ⟨rfl, rfl, h5, hb5⟩
  simp only [settle, List.dropWhile_nil, Leaves]
  refine ⟨_, results_cell_tmp rfl rfl (hart_load h5), rfl, ?_⟩
  exact HB3.out.trans (hb5.mono (by omega))
/-- the hart behind an instruction, and the error, as Step answers them -/
def stepHa (h : Ha) (op : Int) (d a b : Nat) (v found : BitVec 64) (won : Bool) : Ha := match doE5 h op a b v with
  | some (how, c) => (h.atE how).atCode c
  | none => doneH h op d a b v found won
theorem Step_any (op : Int) (d a b : Nat) (hd : d < 32) (ha : a < 32) (hb : b < 32) (v : BitVec 64) (aq rl : Bool) (p q : Int) (found : BitVec 64) (won : Bool) (h : Ha) (w : World) (hm : mayH h ⟨op, d, a, b, S v, aq, rl, p, q⟩ = 0) :
    Calls Tryz.prog 5 #[h.V, insV op d a b (S v) aq rl p q, .int .u64 (U found), .bool won] w fun e w' => e = .returned (.tuple #[(stepHa h op d a b v found won).V, .int .i64 0]) ∧ Below w.heap.size w w' := by
  unfold stepHa
  cases hE : doE5 h op a b v with
  | none => exact Step_done op d a b hd ha hb v aq rl p q found won h w hm hE
  | some z =>
    obtain ⟨how, c⟩ := z
    exact Step_ended op d a b hd ha hb v aq rl p q found won h w how c hm hE
end Go.Proofs.YtdiacnjkffdegaaGreat
