/-
  Plain facts: what is against an instruction, by the document's own Check, is what makes it one that may not be. No condition; no Go text is named.
  (With it: Proved here: the great test of the document's own Check (layer 2), once for all forms. Condition: as said.)
-/
import Derived.Test.YtbchecnidiiddaaGreatDoorRef02Has
import Derived.Test.YtbchecnidiiddaaGreatDoorInsnStand
namespace Go.Proofs.YtbchecnidiiddaaGreatDoor
open Go.RowKit
def sndC : Code → Code
  | .seq _ y => y
  | c => c
def fstC : Code → Code
  | .seq x _ => x
  | c => c
noncomputable def chkCode : Code := fstC (fstC (sndC (sndC (sndC (sndC (sndC (sndC (sndC (sndC (sndC (sndC (Tryz.f77.body.getD .skip))))))))))))
theorem number_is (op : Int) (v : BitVec 64) (b : Bool) (hb : Hid (numB op (S v) = b)) (w : World) : Calls Tryz.prog 103 #[.int .i64 op, .int .i64 (S v)] w fun e w' => e = .returned (.bool b) ∧ w = w' := hb.out ▸ rnumber_any op v w
/-- what is against an instruction -/
def Bad (f : Int) (E : Bool) (rd rs1 rs2 : Int) (im nb : Bool) (p q : Int) : Prop :=
  f = 0 ∨ E = false ∨ rd < 0 ∨ 31 < rd ∨ rs1 < 0 ∨ 31 < rs1 ∨ rs2 < 0 ∨ 31 < rs2 ∨ (im = true ∧ nb = false) ∨ p < 0 ∨ 15 < p ∨ q < 0 ∨ 15 < q
set_option maxHeartbeats 4000000 in
set_option maxRecDepth 100000 in
theorem chk_reg (op rd rs1 rs2 : Int) (v : BitVec 64) (aq rl : Bool) (p q : Int) (f : Int) (E im nb : Bool) (k0 k1 k2 k3 k4 k5 k6 k7 k8 : Value) (m n : Nat) (x0 x2 x4 x5 x6 x9 x10 x11 x12 x13 x14 x15 x16 x17 x18 x19 x20 x21 x22 x23 x24 x25 x26 x27 x28 x29 x30 x31 x32 x33 x34 x35 x36 x37 x38 x39 x40 x41 x42 x43 x44 x45 x46 x47 x48 x49 x50 x51 x52 x53 x54 x55 x56 x57 : Value) (Q : Exit → Act → World → Prop) (w : World)
    (HN : Hid (numB op (S v) = nb)) (hE : ∀ w, (binOp .neq 23 (.agg #[k0, k1, k2, k3, k4, k5, k6, k7, k8]) (insV op rd rs1 rs2 (S v) aq rl p q)).run Tryz.prog w = .ok (.bool !E) w)
    (d0 : w.cell? ⟨n, 0, none⟩ = some k0) (d1 : w.cell? ⟨n, 1, none⟩ = some k1) (d2 : w.cell? ⟨n, 2, none⟩ = some k2) (d3 : w.cell? ⟨n, 3, none⟩ = some k3) (d4 : w.cell? ⟨n, 4, none⟩ = some k4) (d5 : w.cell? ⟨n, 5, none⟩ = some k5) (d6 : w.cell? ⟨n, 6, none⟩ = some k6) (d7 : w.cell? ⟨n, 7, none⟩ = some k7) (d8 : w.cell? ⟨n, 8, none⟩ = some k8)
    (c0 : w.cell? ⟨m, 0, none⟩ = some (.int .i64 op)) (c1 : w.cell? ⟨m, 1, none⟩ = some (.int .i64 rd)) (c2 : w.cell? ⟨m, 2, none⟩ = some (.int .i64 rs1)) (c3 : w.cell? ⟨m, 3, none⟩ = some (.int .i64 rs2)) (c4 : w.cell? ⟨m, 4, none⟩ = some (.int .i64 (S v)))
    (c5 : w.cell? ⟨m, 5, none⟩ = some (.bool aq)) (c6 : w.cell? ⟨m, 6, none⟩ = some (.bool rl)) (c7 : w.cell? ⟨m, 7, none⟩ = some (.int .i64 p)) (c8 : w.cell? ⟨m, 8, none⟩ = some (.int .i64 q))
    (hq : ∀ (y3 y7 x58 x59 x60 x61 x62 x63 x64 x65 x66 x67 x68 x69 x70 x71 x72 x73 x74 x75 x76 x77 x78 x79 x80 x81 x82 x83 x84 x85 x86 x87 x88 x89 x90 x91 x92 x93 x94 x95 x96 x97 x98 x99 x100 x101 x102 x103 x104 x105 x106 x107 x108 x109 x110 x111 x112 x113 x114 x115 x116 x117 x118 x119 x120 x121 x122 x123 x124 : Value) (r : Bool), (r = true ↔ Bad f E rd rs1 rs2 im nb p q) → Q .normal { tmps := #[x0, .pointer (some ⟨m, 0, none⟩), x2, y3, x4, x5, x6, y7, .pointer (some ⟨n, 0, none⟩), x9, x10, x11, x12, x13, x14, x15, x16, x17, x18, x19, x20, x21, x22, x23, x24, x25, x26, x27, x28, x29, x30, x31, x32, x33, x34, x35, x36, x37, x38, x39, x40, x41, x42, x43, x44, x45, x46, x47, x48, x49, x50, x51, x52, x53, x54, x55, x56, x57, x58, x59, x60, x61, x62, x63, x64, x65, x66, x67, x68, x69, x70, x71, x72, x73, x74, x75, x76, x77, x78, x79, x80, x81, x82, x83, x84, x85, x86, x87, x88, x89, x90, x91, x92, x93, x94, x95, x96, x97, x98, x99, x100, x101, x102, x103, x104, x105, x106, x107, x108, x109, x110, x111, x112, x113, x114, x115, x116, x117, x118, x119, x120, x121, x122, x123, x124, .bool r], defers := [] } w) :
    chkCode.wp Tryz.prog Q { tmps := #[x0, .pointer (some ⟨m, 0, none⟩), x2, .int .i64 f, x4, x5, x6, .bool im, .pointer (some ⟨n, 0, none⟩), x9, x10, x11, x12, x13, x14, x15, x16, x17, x18, x19, x20, x21, x22, x23, x24, x25, x26, x27, x28, x29, x30, x31, x32, x33, x34, x35, x36, x37, x38, x39, x40, x41, x42, x43, x44, x45, x46, x47, x48, x49, x50, x51, x52, x53, x54, x55, x56, x57, undef, undef, undef, undef, undef, undef, undef, undef, undef, undef, undef, undef, undef, undef, undef, undef, undef, undef, undef, undef, undef, undef, undef, undef, undef, undef, undef, undef, undef, undef, undef, undef, undef, undef, undef, undef, undef, undef, undef, undef, undef, undef, undef, undef, undef, undef, undef, undef, undef, undef, undef, undef, undef, undef, undef, undef, undef, undef, undef, undef, undef, undef, undef, undef, undef, undef, undef, undef], defers := [] } w := by
  unfold chkCode
  simp only [Tryz.f77, Option.getD, fstC, sndC, List.append_eq, List.cons_append, List.nil_append]
  unfold Bad at hq
  have HQ := Lib.hid hq
  clear hq
  go_wp2_with (first | (go_at_call 103; (with_reducible refine (number_is op v nb HN _).mono ?_); rintro e w' ⟨rfl, rfl⟩))
  all_goals first
    | (refine HQ.out _ _ _ _ _ _ _ _ _ _ _ _ _ _ _ _ _ _ _ _ _ _ _ _ _ _ _ _ _ _ _ _ _ _ _ _ _ _ _ _ _ _ _ _ _ _ _ _ _ _ _ _ _ _ _ _ _ _ _ _ _ _ _ _ _ _ _ _ _ true ?_; simp_all; done)
    | (refine HQ.out _ _ _ _ _ _ _ _ _ _ _ _ _ _ _ _ _ _ _ _ _ _ _ _ _ _ _ _ _ _ _ _ _ _ _ _ _ _ _ _ _ _ _ _ _ _ _ _ _ _ _ _ _ _ _ _ _ _ _ _ _ _ _ _ _ _ _ _ _ false ?_; simp_all; done)
    | (refine HQ.out _ _ _ _ _ _ _ _ _ _ _ _ _ _ _ _ _ _ _ _ _ _ _ _ _ _ _ _ _ _ _ _ _ _ _ _ _ _ _ _ _ _ _ _ _ _ _ _ _ _ _ _ _ _ _ _ _ _ _ _ _ _ _ _ _ _ _ _ _ true ?_; simp only [true_iff, bne_eq_false_iff_eq, bne_iff_ne, ne_eq, beq_iff_eq] at *; omega)
    | (refine HQ.out _ _ _ _ _ _ _ _ _ _ _ _ _ _ _ _ _ _ _ _ _ _ _ _ _ _ _ _ _ _ _ _ _ _ _ _ _ _ _ _ _ _ _ _ _ _ _ _ _ _ _ _ _ _ _ _ _ _ _ _ _ _ _ _ _ _ _ _ _ false ?_; simp_all; omega)
    | (refine HQ.out _ _ _ _ _ _ _ _ _ _ _ _ _ _ _ _ _ _ _ _ _ _ _ _ _ _ _ _ _ _ _ _ _ _ _ _ _ _ _ _ _ _ _ _ _ _ _ _ _ _ _ _ _ _ _ _ _ _ _ _ _ _ _ _ _ _ _ _ _ _ ?_; have e1 : (E = false) = False := (by simp [*]); have e2 : (im = true ∧ nb = false) = False := (by simp [*]); simp only [Bool.or_eq_true, beq_iff_eq, decide_eq_true_eq, e1, e2, false_or]; omega)
end Go.Proofs.YtbchecnidiiddaaGreatDoor
namespace Go.Proofs.YtbchecnidiiddaaGreatDoor
def flagsB (k : Nat) : Bool :=
  hasB (shapeS (k : Int)) 100 == (hasT (formOf (k : Int)).toNat).1 && hasB (shapeS (k : Int)) 49 == (hasT (formOf (k : Int)).toNat).2.1 && hasB (shapeS (k : Int)) 50 == (hasT (formOf (k : Int)).toNat).2.2.1
  && hasB (shapeS (k : Int)) 112 == decide (formOf (k : Int) = 9) && hasB (shapeS (k : Int)) 115 == decide (formOf (k : Int) = 9) && hasB (shapeS (k : Int)) 109 == (decide (formOf (k : Int) = 11) || decide (formOf (k : Int) = 12))
  && (hasT (formOf (k : Int)).toNat).2.2.2 == decide (1 ≤ formOf (k : Int) ∧ formOf (k : Int) ≤ 7)
  && (!decide (formOf (k : Int) = 7) || decide (32 ≤ (k : Int)) == decide ((k : Int) = 32 ∨ (k : Int) = 33 ∨ (k : Int) = 34))
theorem flags_all : ∀ k : Fin 88, k.1 ≠ 0 → flagsB k.1 = true := by decide +kernel
theorem up_iff (fl : Bool) (x last : Int) (s : List UInt8) (c : UInt8) (hl : 0 ≤ last) (h : hasB s c = fl) : upToB s last c x = true ↔ (fl = true ∨ x = 0) ∧ ¬ x < 0 ∧ ¬ last < x := by
  unfold upToB
  rw [h]
  cases fl
  · simp; omega
  · simp; omega
theorem good_iff (op : Int) (v : BitVec 64) (h7 : formOf op = 7 → (32 ≤ op ↔ op = 32 ∨ op = 33 ∨ op = 34)) (im : Bool) (him : im = decide (1 ≤ formOf op ∧ formOf op ≤ 7)) :
    goodB op (formOf op) (S v) = true ↔ (im = true ∨ S v = 0) ∧ ¬ (im = true ∧ numB op (S v) = false) := by
  have hh := form_hi op
  unfold numB
  obtain ⟨f, hf⟩ : ∃ f, formOf op = f := ⟨_, rfl⟩
  rw [hf] at h7 him hh ⊢
  clear hf
  rcases (by omega : f = 0 ∨ f = 1 ∨ f = 2 ∨ f = 3 ∨ f = 4 ∨ f = 5 ∨ f = 6 ∨ f = 7 ∨ f = 8 ∨ f = 9 ∨ f = 10 ∨ f = 11 ∨ f = 12) with rfl | rfl | rfl | rfl | rfl | rfl | rfl | rfl | rfl | rfl | rfl | rfl | rfl
  all_goals (simp at him; subst him)
  case inr.inr.inr.inr.inr.inr.inr.inl =>
    have h7 := h7 rfl
    unfold goodB lastI
    by_cases c : op = 32 ∨ op = 33 ∨ op = 34
    · have c2 := h7.2 c
      simp [c, c2]
    · have c2 : ¬ 32 ≤ op := fun h => c (h7.1 h)
      simp [c, c2]
  all_goals simp [goodB, evenB]
/-- may be, by the document's own Check -/
def Refuses (i : Ins) (v : BitVec 64) : Prop :=
  Bad (formOf i.op) (((hasT (formOf i.op).toNat).1 || i.rd == 0) && ((hasT (formOf i.op).toNat).2.1 || i.rs1 == 0) && ((hasT (formOf i.op).toNat).2.2.1 || i.rs2 == 0) && ((hasT (formOf i.op).toNat).2.2.2 || i.imm == 0)
    && ((decide (formOf i.op = 11) || decide (formOf i.op = 12)) || (!i.aq && !i.rl)) && (decide (formOf i.op = 9) || (i.pred == 0 && i.succ == 0))) i.rd i.rs1 i.rs2 (hasT (formOf i.op).toNat).2.2.2 (numB i.op (S v)) i.pred i.succ
theorem refuses_iff (i : Ins) (v : BitVec 64) (hv : i.imm = S v) : i.ok = true ↔ ¬ Refuses i v := by
  by_cases hf : formOf i.op = 0
  · have e1 : Refuses i v := Or.inl hf
    unfold Ins.ok checkB
    simp [hf, e1]
  · obtain ⟨k, hk, hk2, hk3⟩ := op_in i.op hf
    have fl := flags_all ⟨k, hk2⟩ hk3
    unfold flagsB at fl
    simp only [Bool.and_eq_true, beq_iff_eq] at fl
    rw [← hk] at fl
    obtain ⟨⟨⟨⟨⟨⟨⟨f1, f2⟩, f3⟩, f4⟩, f5⟩, f6⟩, f7⟩, f8⟩ := fl
    have u1 := up_iff _ i.rd 31 _ _ (by omega) f1
    have u2 := up_iff _ i.rs1 31 _ _ (by omega) f2
    have u3 := up_iff _ i.rs2 31 _ _ (by omega) f3
    have u4 := up_iff _ i.pred 15 _ _ (by omega) f4
    have u5 := up_iff _ i.succ 15 _ _ (by omega) f5
    have h7 : formOf i.op = 7 → (32 ≤ i.op ↔ i.op = 32 ∨ i.op = 33 ∨ i.op = 34) := by
      intro h
      rw [h] at f8
      simp only [decide_true, Bool.not_true, Bool.false_or, beq_iff_eq, decide_eq_decide] at f8
      exact f8
    have u6 := good_iff i.op v h7 _ f7
    unfold Ins.ok checkB partsB Refuses Bad
    simp only [Bool.and_eq_true, decide_eq_true_eq, List.all_cons, List.all_nil, id_eq, and_true]
    rw [u1, u2, u3, u4, u5, f6, hv, u6]
    generalize (hasT (formOf i.op).toNat).1 = a1
    generalize (hasT (formOf i.op).toNat).2.1 = a2
    generalize (hasT (formOf i.op).toNat).2.2.1 = a3
    generalize (hasT (formOf i.op).toNat).2.2.2 = im
    generalize numB i.op (S v) = nb
    generalize (decide (formOf i.op = 11) || decide (formOf i.op = 12) || !i.aq && !i.rl) = M
    generalize hfe : decide (formOf i.op = 9) = fe
    generalize S v = n
    generalize formOf i.op = f at *
    generalize i.rd = rd
    generalize i.rs1 = rs1
    generalize i.rs2 = rs2
    generalize i.pred = p
    generalize i.succ = q
    clear hfe u1 u2 u3 u4 u5 u6 h7 f1 f2 f3 f4 f5 f6 f7 f8
    grind
end Go.Proofs.YtbchecnidiiddaaGreatDoor
