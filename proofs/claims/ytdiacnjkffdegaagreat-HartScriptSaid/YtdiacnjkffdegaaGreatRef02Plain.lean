/-
  Plain facts: what is against an instruction, by the document's own Check, is what makes it one that may not be. No condition; no Go text is named.
-/
import Derived.Test.YtdiacnjkffdegaaGreatRef02Test
namespace Go.Proofs.YtdiacnjkffdegaaGreat
set_option linter.unusedSimpArgs false
set_option linter.unusedVariables false
def flagsB (k : Nat) : Bool :=
  hasB (shapeS (k : Int)) 100 == (hasT (formOf (k : Int)).toNat).1 && hasB (shapeS (k : Int)) 49 == (hasT (formOf (k : Int)).toNat).2.1 && hasB (shapeS (k : Int)) 50 == (hasT (formOf (k : Int)).toNat).2.2.1
  && hasB (shapeS (k : Int)) 112 == decide (formOf (k : Int) = 9) && hasB (shapeS (k : Int)) 115 == decide (formOf (k : Int) = 9) && hasB (shapeS (k : Int)) 109 == (decide (formOf (k : Int) = 11) || decide (formOf (k : Int) = 12))
  && (hasT (formOf (k : Int)).toNat).2.2.2 == decide (1 ≤ formOf (k : Int) ∧ formOf (k : Int) ≤ 7)
  && (!decide (formOf (k : Int) = 7) || decide (32 ≤ (k : Int)) == decide ((k : Int) = 32 ∨ (k : Int) = 33 ∨ (k : Int) = 34))
theorem flags_all : ∀ k : Fin 88, k.1 ≠ 0 → flagsB k.1 = true := by decide +kernel
theorem up_iff (fl : Bool) (x last : Int) (s : List UInt8) (c : UInt8) (hl : 0 ≤ last) (h : hasB s c = fl) : upToB s last c x = true ↔ (fl = true ∨ x = 0) ∧ ¬ x < 0 ∧ ¬ last < x := by
  unfold upToB
  rw [h]
  cases fl
  · simp; omega
  · simp; omega
theorem good_iff (op : Int) (v : BitVec 64) (h7 : formOf op = 7 → (32 ≤ op ↔ op = 32 ∨ op = 33 ∨ op = 34)) (im : Bool) (him : im = decide (1 ≤ formOf op ∧ formOf op ≤ 7)) :
    goodB op (formOf op) (S v) = true ↔ (im = true ∨ S v = 0) ∧ ¬ (im = true ∧ numB op (S v) = false) := by
  have hh := form_hi op
  unfold numB
  obtain ⟨f, hf⟩ : ∃ f, formOf op = f := ⟨_, rfl⟩
  rw [hf] at h7 him hh ⊢
  clear hf
  rcases (by omega : f = 0 ∨ f = 1 ∨ f = 2 ∨ f = 3 ∨ f = 4 ∨ f = 5 ∨ f = 6 ∨ f = 7 ∨ f = 8 ∨ f = 9 ∨ f = 10 ∨ f = 11 ∨ f = 12) with rfl | rfl | rfl | rfl | rfl | rfl | rfl | rfl | rfl | rfl | rfl | rfl | rfl
  all_goals (simp at him; subst him)
  case inr.inr.inr.inr.inr.inr.inr.inl =>
    have h7 := h7 rfl
    unfold goodB lastI
    by_cases c : op = 32 ∨ op = 33 ∨ op = 34
    · have c2 := h7.2 c
      simp [c, c2]
    · have c2 : ¬ 32 ≤ op := fun h => c (h7.1 h)
      simp [c, c2]
  all_goals simp [goodB, evenB]
/-- may be, by the document's own Check -/
def Refuses (i : Ins) (v : BitVec 64) : Prop :=
  Bad (formOf i.op) (((hasT (formOf i.op).toNat).1 || i.rd == 0) && ((hasT (formOf i.op).toNat).2.1 || i.rs1 == 0) && ((hasT (formOf i.op).toNat).2.2.1 || i.rs2 == 0) && ((hasT (formOf i.op).toNat).2.2.2 || i.imm == 0)
    && ((decide (formOf i.op = 11) || decide (formOf i.op = 12)) || (!i.aq && !i.rl)) && (decide (formOf i.op = 9) || (i.pred == 0 && i.succ == 0))) i.rd i.rs1 i.rs2 (hasT (formOf i.op).toNat).2.2.2 (numB i.op (S v)) i.pred i.succ
theorem refuses_iff (i : Ins) (v : BitVec 64) (hv : i.imm = S v) : i.ok = true ↔ ¬ Refuses i v := by
  by_cases hf : formOf i.op = 0
  · have e1 : Refuses i v := Or.inl hf
    unfold Ins.ok checkB
    simp [hf, e1]
  · obtain ⟨k, hk, hk2, hk3⟩ := op_in i.op hf
    have fl := flags_all ⟨k, hk2⟩ hk3
    unfold flagsB at fl
    simp only [Bool.and_eq_true, beq_iff_eq] at fl
    rw [← hk] at fl
    obtain ⟨⟨⟨⟨⟨⟨⟨f1, f2⟩, f3⟩, f4⟩, f5⟩, f6⟩, f7⟩, f8⟩ := fl
    have u1 := up_iff _ i.rd 31 _ _ (by omega) f1
    have u2 := up_iff _ i.rs1 31 _ _ (by omega) f2
    have u3 := up_iff _ i.rs2 31 _ _ (by omega) f3
    have u4 := up_iff _ i.pred 15 _ _ (by omega) f4
    have u5 := up_iff _ i.succ 15 _ _ (by omega) f5
    have h7 : formOf i.op = 7 → (32 ≤ i.op ↔ i.op = 32 ∨ i.op = 33 ∨ i.op = 34) := by
      intro h
      rw [h] at f8
      simp only [decide_true, Bool.not_true, Bool.false_or, beq_iff_eq, decide_eq_decide] at f8
      exact f8
    have u6 := good_iff i.op v h7 _ f7
    unfold Ins.ok checkB partsB Refuses Bad
    simp only [Bool.and_eq_true, decide_eq_true_eq, List.all_cons, List.all_nil, id_eq, and_true]
    rw [u1, u2, u3, u4, u5, f6, hv, u6]
    generalize (hasT (formOf i.op).toNat).1 = a1
    generalize (hasT (formOf i.op).toNat).2.1 = a2
    generalize (hasT (formOf i.op).toNat).2.2.1 = a3
    generalize (hasT (formOf i.op).toNat).2.2.2 = im
    generalize numB i.op (S v) = nb
    generalize (decide (formOf i.op = 11) || decide (formOf i.op = 12) || !i.aq && !i.rl) = M
    generalize hfe : decide (formOf i.op = 9) = fe
    generalize S v = n
    generalize formOf i.op = f at *
    generalize i.rd = rd
    generalize i.rs1 = rs1
    generalize i.rs2 = rs2
    generalize i.pred = p
    generalize i.succ = q
    clear hfe u1 u2 u3 u4 u5 u6 h7 f1 f2 f3 f4 f5 f6 f7 f8
    grind
end Go.Proofs.YtdiacnjkffdegaaGreat
