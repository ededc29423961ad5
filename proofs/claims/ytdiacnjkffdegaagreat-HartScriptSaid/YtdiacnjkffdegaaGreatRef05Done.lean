/-
  Proved here: the document's own Step (layer 5) of an instruction that is done, and so of any: it answers what the program's does; it writes nothing that was there. Conditions: the number is of 64 bits; the registers are of 32.
-/
import Derived.Test.YtdiacnjkffdegaaGreatRef05Stop
import Derived.Deep.RegionHeld3
import Derived.Deep.CutBlock
import Derived.Deep.DeepCutAuto
namespace Go.Proofs.YtdiacnjkffdegaaGreat
set_option linter.unusedVariables false
set_option linter.unusedSimpArgs false
open Go.RowKit

/-! ### what is written, as the document makes it -/
def Tab5 (k : Int) : Prop := (loadsB k = true ∧ (formOf k = 4 ∨ formOf k = 11 ∨ formOf k = 12) ∧ k ≠ 69 ∧ k ≠ 3 ∧ k ≠ 4 ∧ k ≠ 2) ∨ (loadsB k = false ∧ k = 69) ∨
  (loadsB k = false ∧ ¬ (formOf k = 4 ∨ formOf k = 11 ∨ formOf k = 12) ∧ k ≠ 69 ∧ ((doE k = 0 ∧ (formOf k = 1 ∨ formOf k = 3 ∨ formOf k = 7) ∧ formOf k ≠ 8) ∨ (doE k = 0 ∧ ¬ (formOf k = 1 ∨ formOf k = 3 ∨ formOf k = 7) ∧ formOf k = 8) ∨ (doE k ≠ 0 ∧ ¬ (formOf k = 1 ∨ formOf k = 3 ∨ formOf k = 7) ∧ formOf k ≠ 8) ∨ k = 2 ∨ k = 3 ∨ k = 4))
instance (k : Int) : Decidable (Tab5 k) := by unfold Tab5; infer_instance
theorem tab5 : ∀ k : Nat, k < 88 → k ≠ 68 → Tab5 (k : Int) := by decide +kernel
def valD (h : Ha) (op : Int) (a b : Nat) (v found : BitVec 64) (won : Bool) : BitVec 64 :=
  if op = 69 then (if won = true then 0 else 1) else if loadsB op = true then found else if op = 3 ∨ op = 4 then h.pc + 4 else if op = 2 then h.pc + doB 1 0 v else if doE op = 0 then doB op (h.x a) (if formOf op = 8 then h.x b else v) else 0
theorem val_doc (h : Ha) (op : Int) (a b : Nat) (v found : BitVec 64) (won : Bool) (k : Nat) (hk : op = (k : Int)) (h88 : k < 88) (h68 : k ≠ 68) : valH h op a b v found won = valD h op a b v found won := by
  have ht := tab5 k h88 h68
  rw [← hk] at ht
  unfold valH valD
  have nl : loadsB op = false → ¬ loadsB op = true := fun h => by rw [h]; decide
  rcases ht with ⟨h1, h2, h3, h4, h5, h6⟩ | ⟨h1, rfl⟩ | ⟨h1, h2, h3, h4⟩
  · rw [if_neg (show ¬ (op = 3 ∨ op = 4) by omega), if_neg h6, if_neg h3, if_pos h2, if_neg h3, if_pos h1]
  · rw [if_neg (show ¬ ((69 : Int) = 3 ∨ (69 : Int) = 4) by omega), if_neg (show ¬ ((69 : Int) = 2) by omega), if_pos rfl, if_pos rfl]
  · by_cases h34 : op = 3 ∨ op = 4
    · rw [if_pos h34, if_neg h3, if_neg (nl h1), if_pos h34]
    by_cases h02 : op = 2
    · rw [if_neg h34, if_pos h02, if_neg h3, if_neg (nl h1), if_neg h34, if_pos h02]
    rw [if_neg h34, if_neg h02, if_neg h3, if_neg h2, if_neg h3, if_neg (nl h1), if_neg h34, if_neg h02]
    rcases h4 with ⟨g1, g2, g3⟩ | ⟨g1, g2, g3⟩ | ⟨g1, g2, g3⟩ | h4
    · rw [if_pos g2, if_pos g1, if_neg g3]
    · rw [if_neg g2, if_pos g3, if_pos g1, if_pos g3]
    · rw [if_neg g2, if_neg g3, if_neg g1]
    · exact absurd h4 (by omega)
/-- the call's boxes -/
structure At5 (h : Ha) (op : Int) (d a b : Nat) (v : BitVec 64) (aq rl : Bool) (p q : Int) (w W : World) : Prop where
  bx : HAt 25 h w.heap.size W
  bi : W.heap[w.heap.size + 1]? = some (.cells #[.int .i64 op, .int .i64 (d : Int), .int .i64 (a : Int), .int .i64 (b : Int), .int .i64 (S v), .bool aq, .bool rl, .int .i64 p, .int .i64 q] 34 (0, 0))
  rz : HAt 25 zeroHa (w.heap.size + 1 + 1) W
  low : Below w.heap.size w W
theorem At5.on {h : Ha} {op : Int} {d a b : Nat} {v : BitVec 64} {aq rl : Bool} {p q : Int} {w W W2 : World} (H : At5 h op d a b v aq rl p q w W) (hb : Below W.heap.size W W2) : At5 h op d a b v aq rl p q w W2 :=
  ⟨H.bx.below hb H.bx.lt, (hb.block _ (Array.getElem?_eq_some_iff.1 H.bi).1).trans H.bi, H.rz.below hb H.rz.lt, H.low.trans (hb.mono H.low.size)⟩
theorem At5.drew {h : Ha} {op : Int} {d a b : Nat} {v : BitVec 64} {aq rl : Bool} {p q : Int} {w W : World} (H : At5 h op d a b v aq rl p q w W) : At5 h op d a b v aq rl p q w W.drew := H.on (Below.refl _ _).drew
theorem At5.cells {h : Ha} {op : Int} {d a b : Nat} {v : BitVec 64} {aq rl : Bool} {p q : Int} {w W : World} (H : At5 h op d a b v aq rl p q w W) : w.heap.size + 1 + 1 < W.heap.size ∧ W.cell? ⟨w.heap.size + 1, 0, none⟩ = some (.int .i64 op) ∧ W.cell? ⟨w.heap.size + 1, 1, none⟩ = some (.int .i64 (d : Int)) ∧ W.cell? ⟨w.heap.size + 1, 2, none⟩ = some (.int .i64 (a : Int)) ∧ W.cell? ⟨w.heap.size + 1, 3, none⟩ = some (.int .i64 (b : Int)) ∧ W.cell? ⟨w.heap.size + 1, 4, none⟩ = some (.int .i64 (S v)) :=
  ⟨H.rz.lt, (cell_of_row W _ 0 _ _ _ H.bi).trans rfl, (cell_of_row W _ 1 _ _ _ H.bi).trans rfl, (cell_of_row W _ 2 _ _ _ H.bi).trans rfl, (cell_of_row W _ 3 _ _ _ H.bi).trans rfl, (cell_of_row W _ 4 _ _ _ H.bi).trans rfl⟩
theorem At5.three {h : Ha} {op : Int} {d a b : Nat} {v : BitVec 64} {aq rl : Bool} {p q : Int} {w W : World} (H : At5 h op d a b v aq rl p q w W) (ha : a < 32) : W.cell? ⟨w.heap.size + 1, 0, none⟩ = some (.int .i64 op) ∧ W.cell? ⟨w.heap.size + 1, 2, none⟩ = some (.int .i64 (a : Int)) ∧ W.cell? ⟨w.heap.size, 1 + a, none⟩ = some (.int .u64 (U (h.x a))) :=
  ⟨H.cells.2.1, H.cells.2.2.2.1, H.bx.cx a ha⟩
theorem At5.setPc {h : Ha} {op : Int} {d a b : Nat} {v : BitVec 64} {aq rl : Bool} {p q : Int} {w W : World} (H : At5 h op d a b v aq rl p q w W) (x : BitVec 64) : At5 (h.atPc x) op d a b v aq rl p q w (W.setCell ⟨w.heap.size, 0, none⟩ (.int .u64 (U x))) :=
  ⟨H.bx.setPc x, (Below.heap_setCell W _ _ _ (by show w.heap.size + 1 ≠ w.heap.size; omega)).trans H.bi, HAt.setOther H.rz _ _ (by show w.heap.size + 1 + 1 ≠ w.heap.size; omega), H.low.setCell (p := ⟨w.heap.size, 0, none⟩) (Nat.le_refl _) _⟩
theorem At5.setX {h : Ha} {op : Int} {d a b : Nat} {v : BitVec 64} {aq rl : Bool} {p q : Int} {w W : World} (H : At5 h op d a b v aq rl p q w W) (k : Nat) (hk : k < 32) (x : BitVec 64) : At5 (h.atX k x) op d a b v aq rl p q w (W.setCell ⟨w.heap.size, 1 + k, none⟩ (.int .u64 (U x))) :=
  ⟨H.bx.setX k hk x, (Below.heap_setCell W _ _ _ (by show w.heap.size + 1 ≠ w.heap.size; omega)).trans H.bi, HAt.setOther H.rz _ _ (by show w.heap.size + 1 + 1 ≠ w.heap.size; omega), H.low.setCell (p := ⟨w.heap.size, 1 + k, none⟩) (Nat.le_refl _) _⟩
theorem may_ok {h : Ha} {i : Ins} (hm : mayH h i = 0) : i.ok = true := by
  unfold mayH at hm
  split at hm
  · unfold errI at hm; cases hk : i.ok <;> simp_all
  · exact absurd hm (by assumption)
theorem size68 : sizeOf' 68 = 4 := by decide +kernel
theorem code_zero {h : Ha} {i : Ins} (hm : mayH h i = 0) : h.code = 0 := by
  have hc : h.chk = 0 := by
    unfold mayH at hm
    split at hm
    · assumption
    · exact absurd hm (by assumption)
  unfold Ha.chk at hc
  by_cases c : U (h.x 0) = 0 ∧ (0 ≤ h.e ∧ h.e ≤ 6) ∧ (U h.code = 0 ∨ h.e = 1)
  · rw [if_pos c] at hc
    by_cases e : h.e = 0
    · have : U h.code = 0 := c.2.2.resolve_right (by omega)
      have h0 : U (0 : BitVec 64) = 0 := rfl
      exact U_inj (this.trans h0.symm)
    · rw [if_neg e] at hc; omega
  · rw [if_neg c] at hc; omega
set_option maxHeartbeats 16000000 in
set_option maxRecDepth 100000 in
theorem Step5_done (op : Int) (d a b : Nat) (hd : d < 32) (ha : a < 32) (hb' : b < 32) (v : BitVec 64) (aq rl : Bool) (p q : Int) (found : BitVec 64) (won : Bool) (h : Ha) (w : World) (hm : mayH h ⟨op, d, a, b, S v, aq, rl, p, q⟩ = 0) (hE : endHI h op a b v = 0) :
    Calls Tryz.prog 6 #[h.V, insV op d a b (S v) aq rl p q, .int .u64 (U found), .bool won] w fun e w' => e = .returned (.tuple #[(doneH h op d a b v found won).V, .int .i64 0]) ∧ Below w.heap.size w w' := by
  obtain ⟨W, HW, H1, H2, HI, HB, hzW⟩ := three_in h op d a b v aq rl p q w
  have G0 : Hid (At5 h op d a b v aq rl p q w W) := Lib.hid ⟨H1.out, HI.out, H2.out, HB.out⟩
  have HM := Lib.hid (fun w => may5_any h op d a b v aq rl p q w)
  have HE := Lib.hid (fun w => end5_at h op d a b ha hb' v aq rl p q _ _ _ _ _ rfl rfl rfl rfl rfl w)
  have hE' : endI op (U (h.x 17)) (sizeOf' op) (U (h.x a + v)) (U (toH h op a b v)) (jumpH h op a b) = 0 := hE
  rw [hE'] at HE
  rw [hm] at HM
  have hk : Ins.ok ⟨op, d, a, b, S v, aq, rl, p, q⟩ = true := may_ok hm
  have HR := Lib.hid (fun w => writes5_any op d a b v aq rl p q w)
  rw [if_pos hk] at HR
  have HT := Lib.hid (fun w => target5_any h op d a b ha hb' v aq rl p q w)
  obtain ⟨ldb, hld⟩ : ∃ z, loadsB op = z := ⟨_, rfl⟩
  have HY0 := rMem_any op
  rw [hld] at HY0
  have HY := Lib.hid HY0
  clear HY0
  have HF := Lib.hid (fun w => rForm_any op w)
  obtain ⟨kk, hkk, h88, hk0⟩ := (may_of _ hk).op
  have h68 : kk ≠ 68 := by
    rintro rfl
    have ho : op = 68 := hkk
    have hj := jump_not h op a b (.inr (by omega))
    rw [ho, size68] at hE'
    rw [ho] at hj
    rw [hj] at hE'
    unfold endI at hE'
    simp at hE'
  have HV := Lib.hid (val_doc h op a b v found won kk hkk h88 h68)
  obtain ⟨xv, hxv⟩ : ∃ xv, valH h op a b v found won = xv := ⟨_, rfl⟩
  rw [hxv] at HV
  unfold valD at HV
  rw [hld] at HV
  have HD0 : Hid (doneH h op d a b v found won = (h.atPc (toH h op a b v)).putX d xv) := Lib.hid (by unfold doneH; rw [hxv])
  obtain ⟨tg, hto⟩ : ∃ tg, toH h op a b v = tg := ⟨_, rfl⟩
  rw [hto] at HD0 HT
  obtain ⟨bb, hbb⟩ : ∃ bb, (if formOf op = 8 then h.x b else v) = bb := ⟨_, rfl⟩
  have HBB := Lib.hid hbb
  have HDO : Hid (∀ w, Calls Tryz.prog 18 #[.int .i64 op, .int .u64 (U (h.x a)), .int .u64 (U bb)] w fun e w' => e = .returned (.tuple #[.int .u64 (U (doB op (h.x a) bb)), .int .i64 (doE op)]) ∧ Below w.heap.size w w') := Lib.hid (fun w => by rw [← doX_U]; exact rDo_any op (h.x a) bb w)
  have HD1 : Hid (∀ w, Calls Tryz.prog 18 #[.int .i64 1, .int .u64 0, .int .u64 (U v)] w fun e w' => e = .returned (.tuple #[.int .u64 (U (doB 1 0 v)), .int .i64 (doE 1)]) ∧ Below w.heap.size w w') := Lib.hid (fun w => by rw [← doX_U]; exact rDo_any 1 0 v w)
  have t1 := wrapU_S v
  have t2 : IntKind.u64.wrap (U h.pc + 4) = U (h.pc + 4) := by rw [four_U]; exact add_U _ _
  have t3 : IntKind.u64.wrap (U h.pc + U (doB 1 0 v)) = U (h.pc + doB 1 0 v) := add_U _ _
  rw [HD0.out]
  clear hld hm hE hE' hk H1 H2 HI HB hzW hxv hto hbb HD0 hkk h88 hk0 h68
  have ia := index_x w.heap.size a ha
  have ib := index_x w.heap.size b hb'
  have id := index_x w.heap.size d hd
  unfold Ha.V at *
  go_enter Tryz.func6, Tryz.ntmps6
  go_upto_region 1 with fail
  rw [zero_cells, HW.out]
  clear HW
  go_upto_region 10 with (first | (refine load_ha row_hart (T := 25) (h := h) (n := w.heap.size) G0.out.bx rfl _ rfl rfl ?_) | (refine load_ha row_hart (T := 25) (h := h) (n := w.heap.size) G1.out.bx rfl _ rfl rfl ?_) | (refine wpList_load_row rfl 34 _ rfl (w.heap.size + 1) rfl 34 _ (0, 0) _ G0.out.bi Tryz.underlying34 rfl (by as_aux_lemma => kernel_rfl) ?_) | (refine wpList_load_row rfl 34 _ rfl (w.heap.size + 1) rfl 34 _ (0, 0) _ G1.out.bi Tryz.underlying34 rfl (by as_aux_lemma => kernel_rfl) ?_) | (go_at_call 15; (with_reducible refine (HM.out _).mono ?_); rintro e w1 ⟨rfl, hb⟩; have G1 := Lib.hid (G0.out.on hb); clear hb) | (go_at_call 16; (with_reducible refine (HE.out _).mono ?_); rintro e w2 ⟨rfl, hb⟩; have G2 := Lib.hid (G1.out.on hb); clear hb))
  clear HM HE G0 G1
  obtain ⟨hz, ci0, ci1, ci2, ci3, ci4⟩ := G2.out.cells
  have cb := G2.out.bx.cx b hb'
  go_cut [12] (fun u W => u = .int .u64 (U (h.x b)) ∧ Hid (At5 h op d a b v aq rl p q w W))
  case first =>
    go_wp2
    go_meet
    exact ⟨rfl, G2⟩
  case rest =>
  obtain ⟨rfl, G3⟩ := hcut
  clear G2 hz ci0 ci1 ci2 ci3 ci4 cb
  apply_assumption
  refine wp_seq_k fun K11 hK11 => ?_
  go_cut [12] (fun u W => u = .int .u64 (U bb) ∧ Hid (At5 h op d a b v aq rl p q w W))
  case first =>
    obtain ⟨hz, ci0, ci1, ci2, ci3, ci4⟩ := G3.out.cells
    by_cases f8 : formOf op = 8
    · have e8 : (formOf op != 8) = false := by simp [f8]
      have EB : Hid (h.x b = bb) := Lib.hid (by rw [← HBB.out, if_pos f8])
      clear f8
      go_wp2_with (go_at_call 17; (with_reducible refine (HF.out _).mono ?_); rintro e w3 ⟨rfl, rfl⟩)
      go_meet
      exact ⟨by rw [EB.out], G3⟩
    · have e8 : (formOf op != 8) = true := by simpa using f8
      have EB : Hid (v = bb) := Lib.hid (by rw [← HBB.out, if_neg f8])
      clear f8
      go_wp2_with (go_at_call 17; (with_reducible refine (HF.out _).mono ?_); rintro e w3 ⟨rfl, rfl⟩)
      go_meet
      exact ⟨by rw [EB.out], G3⟩
  case rest =>
  obtain ⟨rfl, G4⟩ := hcut
  clear G3 HF
  refine hK11 _ _ ?_
  go_upto_region 13 with fail
  have G4d := Lib.hid G4.out.drew
  go_cut [13, 14] (fun u e W => u = .int .u64 (U (doB op (h.x a) bb)) ∧ e = .int .i64 (doE op) ∧ Hid (At5 h op d a b v aq rl p q w W))
  case first =>
    go_region_held3 (fun w' => w'.cell? ⟨w.heap.size + 1, 0, none⟩ = some (.int .i64 op) ∧ w'.cell? ⟨w.heap.size + 1, 2, none⟩ = some (.int .i64 (a : Int)) ∧ w'.cell? ⟨w.heap.size, 1 + a, none⟩ = some (.int .u64 (U (h.x a))))
      (first | with_reducible exact G5.out.three ha | with_reducible exact G4d.out.three ha)
      ((go_at_call 18; (with_reducible refine (HDO.out _).mono ?_); rintro e w4 ⟨rfl, hb⟩; have G5 := Lib.hid (G4d.out.on hb); clear hb))
    all_goals
      go_wp2_with fail
      go_meet
      exact ⟨rfl, rfl, G5⟩
  case rest =>
  obtain ⟨rfl, rfl, G6⟩ := hcut
  clear G4 G4d HDO
  obtain ⟨hz, ci0, ci1, ci2, ci3, ci4⟩ := G6.out.cells
  go_upto_region 14 with fail
  go_cut [15] (fun u W => u = .bool ldb ∧ Hid (At5 h op d a b v aq rl p q w W))
  case first =>
    go_wp2_with (go_at_call 19; (with_reducible refine (HY.out _).mono ?_); rintro e w5 ⟨rfl, hb⟩; have G7 := Lib.hid (G6.out.on hb); clear hb hz ci0 ci1 ci2 ci3 ci4)
    go_meet
    exact ⟨rfl, G7⟩
  case rest =>
  obtain ⟨rfl, G8⟩ := hcut
  clear G6 HY hz ci0 ci1 ci2 ci3 ci4
  apply_assumption
  refine wp_seq_k fun K15 hK15 => ?_
  go_cut [13] (fun u W => u = .int .u64 (U xv) ∧ Hid (At5 h op d a b v aq rl p q w W))
  case first =>
    obtain ⟨hz, ci0, ci1, ci2, ci3, ci4⟩ := G8.out.cells
    have cp := G8.out.bx.c0
    by_cases c1 : op = 69
    · rw [if_pos c1] at HV
      have e1 : (op == 69) = true := by simp [c1]
      clear c1
      cases won
      · have EV : Hid (xv = 1) := Lib.hid HV.out
        go_wp2
        go_meet
        exact ⟨by rw [EV.out]; rfl, G8⟩
      · have EV : Hid (xv = 0) := Lib.hid HV.out
        go_wp2
        go_meet
        exact ⟨by rw [EV.out]; rfl, G8⟩
    rw [if_neg c1] at HV
    have e1 : (op == 69) = false := by simpa using c1
    clear c1
    cases ldb
    case true =>
      have EV : Hid (xv = found) := Lib.hid HV.out
      go_wp2
      go_meet
      exact ⟨by rw [EV.out], G8⟩
    rw [if_neg (by decide)] at HV
    by_cases c3 : op = 3
    · rw [if_pos (.inl c3)] at HV
      have e3 : (op == 3) = true := by simp [c3]
      clear c3
      go_wp2
      go_meet
      exact ⟨by rw [HV.out]; rfl, G8⟩
    have e3 : (op == 3) = false := by simpa using c3
    by_cases c4 : op = 4
    · rw [if_pos (.inr c4)] at HV
      have e4 : (op == 4) = true := by simp [c4]
      clear c3 c4
      go_wp2
      go_meet
      exact ⟨by rw [HV.out]; rfl, G8⟩
    rw [if_neg (by omega)] at HV
    have e4 : (op == 4) = false := by simpa using c4
    clear c3 c4
    by_cases c5 : op = 2
    · rw [if_pos c5] at HV
      have e5 : (op == 2) = true := by simp [c5]
      clear c5
      go_wp2_with (go_at_call 18; (with_reducible refine (HD1.out _).mono ?_); rintro e w8 ⟨rfl, hb⟩; have G9 := Lib.hid (G8.out.on hb); have cp9 := G9.out.bx.c0; clear hb hz ci0 ci1 ci2 ci3 ci4 cp)
      go_meet
      exact ⟨by rw [HV.out]; exact congrArg _ (add_U _ _), G9⟩
    rw [if_neg c5] at HV
    have e5 : (op == 2) = false := by simpa using c5
    clear c5
    by_cases c6 : doE op = 0
    · rw [if_pos c6, HBB.out] at HV
      have e6 : (doE op != 0) = false := by simp [c6]
      clear c6
      go_wp2
      go_meet
      exact ⟨by rw [HV.out], G8⟩
    · rw [if_neg c6] at HV
      have e6 : (doE op != 0) = true := by simpa using c6
      clear c6
      go_wp2
      go_meet
      exact ⟨by rw [HV.out]; rfl, G8⟩
  case rest =>
  obtain ⟨rfl, G10⟩ := hcut
  clear G8 HV HBB HD1
  refine hK15 _ _ ?_
  go_upto_region 28 with fail
  have HTo := HT
  go_cut [12] (fun u W => Hid (At5 (h.atPc tg) op d a b v aq rl p q w W))
  case first =>
    go_wp2_with (first | (refine load_ha row_hart (T := 25) (h := h) (n := w.heap.size) G10.out.bx rfl _ rfl rfl ?_) | (refine wpList_load_row rfl 34 _ rfl (w.heap.size + 1) rfl 34 _ (0, 0) _ G10.out.bi Tryz.underlying34 rfl (by as_aux_lemma => kernel_rfl) ?_) | (go_at_call 20; (with_reducible refine (HT.out _).mono ?_); rintro e w6 ⟨rfl, hb⟩; have G11 := Lib.hid (G10.out.on hb); clear hb; have f0 := G11.out.bx.frozen 0; have c0 := G11.out.bx.c0; have zb := G11.out.bx.lt))
    go_meet
    exact Lib.hid (G11.out.setPc tg)
  case rest =>
  have G12 : Hid (At5 (h.atPc tg) op d a b v aq rl p q w wc) := hcut
  clear hcut G10 HT HTo
  go_upto_region 29 with fail
  go_cut [18] (fun u W => u = .int .i64 (d : Int) ∧ Hid (At5 (h.atPc tg) op d a b v aq rl p q w W))
  case first =>
    go_wp2_with (first | (refine wpList_load_row rfl 34 _ rfl (w.heap.size + 1) rfl 34 _ (0, 0) _ G12.out.bi Tryz.underlying34 rfl (by as_aux_lemma => kernel_rfl) ?_) | (go_at_call 21; (with_reducible refine (HR.out _).mono ?_); rintro e w7 ⟨rfl, hb⟩; have G13 := Lib.hid (G12.out.on hb); clear hb))
    go_meet
    exact ⟨rfl, G13⟩
  case rest =>
  obtain ⟨rfl, G14⟩ := hcut
  clear G12 HR
  apply_assumption
  refine wp_seq_k fun K30 hK30 => ?_
  go_cut [18] (fun u W => Hid (At5 ((h.atPc tg).putX d xv) op d a b v aq rl p q w W))
  case first =>
    by_cases c0 : d = 0
    · have EP : Hid ((h.atPc tg).putX d xv = h.atPc tg) := Lib.hid (by unfold Ha.putX; rw [if_pos c0])
      have e0 : decide ((0 : Int) < (d : Int)) = false := by simp; omega
      have e1 : decide (0 < d) = false := by simp; omega
      clear c0
      go_wp2
      go_meet
      exact Lib.hid (by rw [EP.out]; exact G14.out)
    · have EP : Hid ((h.atPc tg).putX d xv = (h.atPc tg).atX d xv) := Lib.hid (by unfold Ha.putX; rw [if_neg c0])
      have e0 : decide ((0 : Int) < (d : Int)) = true := by simp; omega
      have e1 : decide (0 < d) = true := by simp; omega
      clear c0
      have fd := G14.out.bx.frozen (1 + d)
      have cd := G14.out.bx.cx d hd
      have zb := G14.out.bx.lt
      go_wp2
      go_meet
      exact Lib.hid (by rw [EP.out]; exact G14.out.setX d hd xv)
  case rest =>
  have G15 : Hid (At5 ((h.atPc tg).putX d xv) op d a b v aq rl p q w wc) := hcut
  clear hcut G14
  refine hK30 _ _ ?_
  go_wp2_with (first | (refine load_ha row_hart (T := 25) (h := ((h.atPc tg).putX d xv)) (n := w.heap.size) G15.out.bx rfl _ rfl rfl ?_) | (refine store_ha row_hart ((h.atPc tg).putX d xv) (T := 25) (h0 := zeroHa) (n := w.heap.size + 1 + 1) G15.out.rz rfl _ _ rfl rfl rfl ?_; intro w9 h9 ho9 hb9 hz9; have H9 := Lib.hid (And.intro h9 hb9); clear h9 ho9 hb9 hz9))
  refine bodyPost_ret (results_cell_tmp rfl rfl (hart_load H9.out.1)) rfl ?_
  exact ⟨rfl, G15.out.low.trans (H9.out.2.mono (by omega))⟩
theorem Step5_any (op : Int) (d a b : Nat) (hd : d < 32) (ha : a < 32) (hb' : b < 32) (v : BitVec 64) (aq rl : Bool) (p q : Int) (found : BitVec 64) (won : Bool) (h : Ha) (w : World) (hm : mayH h ⟨op, d, a, b, S v, aq, rl, p, q⟩ = 0) :
    Calls Tryz.prog 6 #[h.V, insV op d a b (S v) aq rl p q, .int .u64 (U found), .bool won] w fun e w' => e = .returned (.tuple #[(stepHa h op d a b v found won).V, .int .i64 0]) ∧ Below w.heap.size w w' := by
  have hends := end_doE5 h op a b v
  unfold stepHa
  cases hD : doE5 h op a b v with
  | none =>
    rw [hD] at hends
    exact Step5_done op d a b hd ha hb' v aq rl p q found won h w hm hends
  | some z =>
    obtain ⟨how, c⟩ := z
    rw [hD] at hends
    obtain ⟨h1, h2, h3⟩ := hends
    by_cases hh : how = 1
    · subst hh
      rw [if_pos rfl] at h3
      show Calls _ _ _ _ fun e w' => e = .returned (.tuple #[((h.atE 1).atCode c).V, .int .i64 0]) ∧ Below w.heap.size w w'
      rw [h3]
      exact Step5_halted op d a b ha hb' v aq rl p q found won h w hm h1
    · rw [if_neg hh] at h3
      have hc := code_zero hm
      have he : ((h.atE how).atCode c) = h.atE how := by
        rw [h3, ← hc]; rfl
      show Calls _ _ _ _ fun e w' => e = .returned (.tuple #[((h.atE how).atCode c).V, .int .i64 0]) ∧ Below w.heap.size w w'
      rw [he]
      exact Step5_stopped op d a b ha hb' v aq rl p q found won h w hm how h1 h2 hh
end Go.Proofs.YtdiacnjkffdegaaGreat
