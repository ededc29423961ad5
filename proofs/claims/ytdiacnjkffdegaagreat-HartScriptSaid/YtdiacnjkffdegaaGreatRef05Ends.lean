/-
  Proved here: the document's own end (layer 5) answers how an instruction ends a hart; it writes nothing that was there. Conditions: the number is of 64 bits; the registers are of 32.
  Proved here: how the document's own end and the program's doing end a hart is the same (layer 5). No condition.
-/
import Derived.Test.YtdiacnjkffdegaaGreatRef05Target
import Derived.Test.YtdiacnjkffdegaaGreatHartStep
namespace Go.Proofs.YtdiacnjkffdegaaGreat
section
set_option linter.unusedSimpArgs false
set_option linter.unusedVariables false
open Go.RowKit
/-- how an instruction ends a hart: 0 if it doesn't -/
def endI (op x17 sz ad tg : Int) (j : Bool) : Int := if op = 65 then 2 else if op = 64 ∧ x17 = 0 then 1 else if op = 64 ∧ x17 ≠ 1 then 3 else if 0 < sz ∧ sz < 8 then 5 else if 0 < sz ∧ ad.tmod 8 ≠ 0 then 4 else if j = true ∧ tg.tmod 4 ≠ 0 then 6 else 0
set_option maxHeartbeats 2000000 in
set_option maxRecDepth 100000 in
theorem end5_at (h : Ha) (op : Int) (d a b : Nat) (ha : a < 32) (hb' : b < 32) (v : BitVec 64) (aq rl : Bool) (p q : Int) (x17 sz ad tg : Int) (j : Bool) (h17 : U (h.x 17) = x17) (hsz : sizeOf' op = sz) (had : U (h.x a + v) = ad) (hto : U (toH h op a b v) = tg) (hj : jumpH h op a b = j) (w : World) : Calls Tryz.prog 16 #[h.V, insV op d a b (S v) aq rl p q] w fun e w' => e = .returned (.int .i64 (endI op x17 sz ad tg j)) ∧ Below w.heap.size w w' := by
  have HA := Lib.hid (fun w => address5_any h op d a b ha v aq rl p q w)
  have HT := Lib.hid (fun w => target5_any h op d a b ha hb' v aq rl p q w)
  rw [hsz, had] at HA
  rw [hto, hj] at HT
  have HE := Lib.hid (rfl : endI op x17 sz ad tg j = endI op x17 sz ad tg j)
  unfold Ha.V at *
  have G0 : Hid (HAt 25 h w.heap.size ((w.alloc (.cells (hC h) 25)).alloc (.cells #[.int .i64 op, .int .i64 (d : Int), .int .i64 (a : Int), .int .i64 (b : Int), .int .i64 (S v), .bool aq, .bool rl, .int .i64 p, .int .i64 q] 34))) := Lib.hid ((HAt.new 25 h w).alloc _)
  have c17 := G0.out.cx 17 (by omega)
  rw [h17] at c17
  simp only [Nat.reduceAdd] at c17
  have c17b := (HAt.new 25 h w).cx 17 (by omega)
  rw [h17] at c17b
  simp only [Nat.reduceAdd] at c17b
  have c17a := hC_x h 17 (by omega)
  rw [h17] at c17a
  simp only [Nat.reduceAdd] at c17a
  clear h17 hsz had hto hj
  go_enter Tryz.func16, Tryz.ntmps16
  go_wp2_with (first | (refine load_ha row_hart G1.out rfl _ rfl rfl ?_) | (refine load_ha row_hart G0.out rfl _ rfl rfl ?_) | (go_at_call 33; (with_reducible refine (HA.out _).mono ?_); rintro e w1 ⟨rfl, hb⟩; obtain ⟨hc1, hf1⟩ := bcell hb; have G1 := Lib.hid (G0.out.below hb (by simp; omega)); have HB := Lib.hid hb; clear hb) | (go_at_call 20; (with_reducible refine (HT.out _).mono ?_); rintro e w2 ⟨rfl, hb⟩; clear hc1 hf1; have HB2 := Lib.hid (HB.out.trans (hb.mono HB.out.size)); obtain ⟨hc2, hf2⟩ := bcell HB2.out; have G2 := Lib.hid (G0.out.below HB2.out (by simp; omega)); clear hb))
  all_goals
    go_ret
    refine ⟨congrArg (fun n => Ending.returned (.int .i64 n)) ?_, (((Below.refl _ _).alloc (Nat.le_refl _) _).alloc (by simp) _).trans (HB2.out.mono (by simp; omega))⟩
    unfold endI
    repeat' split
    all_goals first | omega | (simp only [bne_eq_false_iff_eq, bne_iff_ne, ne_eq, beq_iff_eq, beq_eq_false_iff_ne, decide_eq_true_eq, decide_eq_false_iff_not] at *; omega) | (simp_all; done) | (simp_all; omega)
end
section
set_option linter.unusedSimpArgs false
set_option linter.unusedVariables false
open Go.RowKit
def isM (op : Int) : Prop := formOf op = 4 ∨ formOf op = 5 ∨ formOf op = 11 ∨ formOf op = 12
instance (op : Int) : Decidable (isM op) := by unfold isM; infer_instance
def Cls (op : Int) : Prop := (isM op ∧ 0 < sizeOf' op ∧ sizeOf' op ≤ 8 ∧ op ≠ 64 ∧ op ≠ 65 ∧ (op < 3 ∨ 10 < op)) ∨ (¬ isM op ∧ sizeOf' op = 0 ∧ formOf op = 10 ∧ (op = 64 ∨ op = 65)) ∨ (¬ isM op ∧ sizeOf' op = 0 ∧ formOf op ≠ 10 ∧ op ≠ 64 ∧ op ≠ 65)
instance (op : Int) : Decidable (Cls op) := by unfold Cls; infer_instance
theorem cls_in : ∀ k : Nat, k < 88 → Cls (k : Int) := by decide +kernel
theorem cls_any (op : Int) : Cls op := by
  rcases (by omega : (op < 0 ∨ 88 ≤ op) ∨ (0 ≤ op ∧ op < 88)) with h | h
  · have h1 : formOf op = 0 := by unfold formOf; rw [row_none op h]; rfl
    have h2 : sizeOf' op = 0 := by unfold sizeOf'; rw [row_none op h]; rfl
    unfold Cls isM
    rw [h1, h2]
    omega
  · obtain ⟨k, rfl⟩ : ∃ k : Nat, op = (k : Int) := ⟨op.toNat, by omega⟩
    exact cls_in k (by omega)
abbrev endHI (h : Ha) (op : Int) (a b : Nat) (v : BitVec 64) : Int := endI op (U (h.x 17)) (sizeOf' op) (U (h.x a + v)) (U (toH h op a b v)) (jumpH h op a b)
theorem jump_not (h : Ha) (op : Int) (a b : Nat) (ho : op < 3 ∨ 10 < op) : jumpH h op a b = false := by
  unfold jumpH
  rw [decide_eq_false (by omega), Bool.false_or]
  unfold tkX; rw [if_neg (by omega)]
def EndsAs (E : Int) (h : Ha) : Option (Int × BitVec 64) → Prop
  | none => E = 0
  | some (how, c) => E = how ∧ how ≠ 0 ∧ c = (if how = 1 then h.x 10 else 0)
theorem end_doE5 (h : Ha) (op : Int) (a b : Nat) (v : BitVec 64) : EndsAs (endHI h op a b v) h (doE5 h op a b v) := by
  have hj := jump_not h op a b
  rcases cls_any op with ⟨hm, h1, h2, n64, n65, nj⟩ | ⟨hm, h1, h2, h64⟩ | ⟨hm, h1, h2, n64, n65⟩
  · have hj := hj nj
    have hA : askE h op a v = accE h op a v := if_pos hm
    have hF : fetchH h op a b v = false := by unfold fetchH; rw [hj]; rfl
    unfold doE5
    rw [hA, hF]
    unfold endHI endI accE
    rw [hj, if_neg n65, if_neg (by omega), if_neg (by omega)]
    by_cases h8 : sizeOf' op = 8
    · by_cases hal : (U (h.x a + v)).tmod 8 = 0 <;> simp [EndsAs, h8, hal]
    · rw [if_pos (by omega : 0 < sizeOf' op ∧ sizeOf' op < 8), if_pos (by simpa using h8)]
      simp [EndsAs]
  · have hj := hj (by omega)
    have hA : askE h op a v = sysE h op := by unfold askE; rw [if_neg (by exact hm), if_pos h2]
    have hF : fetchH h op a b v = false := by unfold fetchH; rw [hj]; rfl
    unfold doE5
    rw [hA, hF]
    unfold endHI endI sysE
    rw [hj, h1]
    by_cases h65 : op = 65
    · simp [EndsAs, h65]
    · have h4 : op = 64 := by omega
      by_cases z0 : U (h.x 17) = 0
      · simp [EndsAs, h4, z0]
      · by_cases z1 : U (h.x 17) = 1 <;> simp [EndsAs, h4, z0, z1]
  · have hA : askE h op a v = none := by unfold askE; rw [if_neg (by exact hm), if_neg h2]
    unfold doE5
    rw [hA]
    unfold endHI endI fetchH
    rw [h1, if_neg n65, if_neg (by omega), if_neg (by omega), if_neg (by omega), if_neg (by omega)]
    cases hJ : jumpH h op a b <;> by_cases h4 : (U (toH h op a b v)).tmod 4 = 0 <;> simp [EndsAs, h4]
end
end Go.Proofs.YtdiacnjkffdegaaGreat
