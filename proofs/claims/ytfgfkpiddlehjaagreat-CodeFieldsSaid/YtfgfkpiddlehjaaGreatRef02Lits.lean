/-
  Proved here: the document's own eater (layer 2) at texts that are written out. Condition: a text has at most 10000 bytes.
-/
import Derived.Test.YtfgfkpiddlehjaaGreatRef02Parts
namespace Go.Proofs.YtfgfkpiddlehjaaGreat
set_option linter.unusedVariables false
open Go.RowKit

theorem lit_list (l : List UInt8) : (⟨l.toArray⟩ : ByteArray).toList = l := by rw [ByteArray.toList_eq]
theorem lit_of {P : ByteArray} {l : List UInt8} (h : P.toList = l) : P = ⟨l.toArray⟩ := by
  refine ByteArray.ext ?_
  rw [ByteArray.toList_eq] at h
  rw [← h]
theorem lit_size (l : List UInt8) : (⟨l.toArray⟩ : ByteArray).size = l.length := by show l.toArray.size = _; simp
def LitOk (n : Nat) (x : Value) (r : List UInt8) (w : World) (e : Ending) (w' : World) : Prop := e = .returned x ∧ EatAt n ⟨r.toArray⟩ false w' ∧ Oth n w w'
theorem eat_lit (n : Nat) (s p r : List UInt8) (h : Hid (s = p ++ r ∧ s.length ≤ 10000)) (w : World) (hE : EatAt n ⟨s.toArray⟩ false w) : Calls Tryz.prog 26 #[.pointer (some ⟨n, 0, none⟩), .string ⟨p.toArray⟩] w fun e w' => LitOk n (.tuple #[]) r w e w' := by
  refine (eat_yes n _ _ false r w hE (Lib.hid (by rw [lit_list, lit_list]; exact h.out.1)) (by rw [lit_size]; exact h.out.2)).mono ?_
  rintro e w' ⟨R, rfl, hR, hE2, hO⟩
  rw [lit_of hR] at hE2
  exact ⟨rfl, hE2, hO⟩
theorem upTo_lit (n : Nat) (s g p r : List UInt8) (h : Hid (s.takeWhile (fun c => !g.contains c) = p ∧ s.dropWhile (fun c => !g.contains c) = r ∧ s.length ≤ 10000 ∧ g.length ≤ 10)) (w : World) (hE : EatAt n ⟨s.toArray⟩ false w) : Calls Tryz.prog 24 #[.pointer (some ⟨n, 0, none⟩), .string ⟨g.toArray⟩] w fun e w' => LitOk n (.string ⟨p.toArray⟩) r w e w' := by
  refine (eatTo_any n _ ⟨g.toArray⟩ false w hE (by rw [lit_size]; exact h.out.2.2.1) (by rw [lit_size]; exact h.out.2.2.2)).mono ?_
  rintro e w' ⟨P, R, rfl, hP, hR, hE2, hO⟩
  unfold inG at hP hR
  rw [lit_list g, lit_list s, h.out.1] at hP
  rw [lit_list g, lit_list s, h.out.2.1] at hR
  rw [lit_of hR] at hE2
  rw [lit_of hP]
  exact ⟨rfl, hE2, hO⟩
theorem num_of (D T : List UInt8) (h : (D.all digB && decide (1 ≤ D.length) && decide (D.length ≤ 9) && (match T with | [] => true | c :: _ => [44, 32, 40, 41].contains c)) = true) : Num D T := by
  simp only [Bool.and_eq_true, List.all_eq_true, decide_eq_true_eq] at h
  refine ⟨h.1.1.1, h.1.1.2, h.1.2, ?_⟩
  cases T with
  | nil => exact .inl rfl
  | cons c r => exact .inr ⟨c, r, rfl, by unfold inG GL; rw [ByteArray.toList_eq]; exact h.2⟩
def NumH (D T : List UInt8) (v : Nat) (n : Nat) : Bool := (D.all digB && decide (1 ≤ D.length) && decide (D.length ≤ 9) && (match T with | [] => true | c :: _ => [44, 32, 40, 41].contains c)) && decide (decV D = v) && decide (v ≤ 1000000000) && decide (n ≤ 10000)
theorem reg_lit (n : Nat) (D T : List UInt8) (v : Nat) (V : Int) (hV : Hid (V = (v : Int))) (h : Hid (NumH D T v (D ++ T).length = true)) (w : World) (s : List UInt8) (hs : Hid (s = 120 :: (D ++ T) ∧ s.length ≤ 10000)) (hE : EatAt n ⟨s.toArray⟩ false w) : Calls Tryz.prog 27 #[.pointer (some ⟨n, 0, none⟩)] w fun e w' => LitOk n (.int .i64 V) T w e w' := by
  have hh := h.out
  unfold NumH at hh
  rw [Bool.and_eq_true, Bool.and_eq_true, Bool.and_eq_true] at hh
  simp only [decide_eq_true_eq] at hh
  refine (reg_yes n _ D T v (Lib.hid hh.1.1.2) (Lib.hid (num_of D T hh.1.1.1)) (Lib.hid (by rw [lit_list]; exact hs.out.1)) (by rw [lit_size]; exact hs.out.2) w hE).mono ?_
  rintro e w' ⟨R, rfl, hR, hE2, hO⟩
  rw [lit_of hR] at hE2
  exact ⟨by rw [hV.out], hE2, hO⟩
theorem immp_lit (n : Nat) (D T : List UInt8) (v : Nat) (V : Int) (hV : Hid (V = (v : Int))) (h : Hid (NumH D T v (D ++ T).length = true)) (w : World) (s : List UInt8) (hs : Hid (s = D ++ T ∧ s.length ≤ 10000)) (hE : EatAt n ⟨s.toArray⟩ false w) : Calls Tryz.prog 28 #[.pointer (some ⟨n, 0, none⟩)] w fun e w' => LitOk n (.int .i64 V) T w e w' := by
  have hh := h.out
  unfold NumH at hh
  rw [Bool.and_eq_true, Bool.and_eq_true, Bool.and_eq_true] at hh
  simp only [decide_eq_true_eq] at hh
  refine (imm_pos n _ D T v (Lib.hid hh.1.1.2) hh.1.2 (Lib.hid (num_of D T hh.1.1.1)) (Lib.hid (by rw [lit_list]; exact hs.out.1)) (by rw [lit_size]; exact hs.out.2) w hE).mono ?_
  rintro e w' ⟨R, rfl, hR, hE2, hO⟩
  rw [lit_of hR] at hE2
  exact ⟨by rw [hV.out], hE2, hO⟩
theorem immn_lit (n : Nat) (D T : List UInt8) (v : Nat) (V : Int) (hV : Hid (V = -(v : Int))) (h : Hid (NumH D T v (D ++ T).length = true)) (w : World) (s : List UInt8) (hs : Hid (s = 45 :: (D ++ T) ∧ s.length ≤ 10000)) (hE : EatAt n ⟨s.toArray⟩ false w) : Calls Tryz.prog 28 #[.pointer (some ⟨n, 0, none⟩)] w fun e w' => LitOk n (.int .i64 V) T w e w' := by
  have hh := h.out
  unfold NumH at hh
  rw [Bool.and_eq_true, Bool.and_eq_true, Bool.and_eq_true] at hh
  simp only [decide_eq_true_eq] at hh
  refine (imm_neg n _ D T v (Lib.hid hh.1.1.2) hh.1.2 (Lib.hid (num_of D T hh.1.1.1)) (Lib.hid (by rw [lit_list]; exact hs.out.1)) (by rw [lit_size]; exact hs.out.2) w hE).mono ?_
  rintro e w' ⟨R, rfl, hR, hE2, hO⟩
  rw [lit_of hR] at hE2
  exact ⟨by rw [hV.out], hE2, hO⟩
theorem part_lit (m n : Nat) (V : Int) (hV : Hid (V = (n : Int))) (T s : List UInt8) (h : Hid (n < 16 ∧ s = partsL n ++ T ∧ s.length ≤ 10000 ∧ (match T with | [] => true | c :: _ => [44, 32, 40, 41].contains c) = true)) (w : World) (hE : EatAt m ⟨s.toArray⟩ false w) : Calls Tryz.prog 29 #[.pointer (some ⟨m, 0, none⟩)] w fun e w' => LitOk m (.int .i64 V) T w e w' := by
  obtain ⟨h1, h2, h3, h4⟩ := h.out
  refine (part_yes m _ n h1 T (by cases T with | nil => exact .inl rfl | cons c r => exact .inr ⟨c, r, rfl, by unfold inG GL; rw [ByteArray.toList_eq]; exact h4⟩) (Lib.hid (by rw [lit_list]; exact h2)) (by rw [lit_size]; exact h3) w hE).mono ?_
  rintro e w' ⟨R, rfl, hR, hE2, hO⟩
  rw [lit_of hR] at hE2
  exact ⟨by rw [hV.out], hE2, hO⟩
theorem named_lit (s : List UInt8) (k0 : Nat) (V : Int) (h : Hid (((List.range 88).all (fun j => j == 0 || decide (k0 ≤ j) || !(nameOf (j : Nat) == s)) && (decide (k0 = 88) || nameOf (k0 : Nat) == s) && decide (1 ≤ k0) && decide (k0 ≤ 88) && decide ((if k0 < 88 then (k0 : Int) else 0) = V)) = true)) (w : World) : Calls Tryz.prog 25 #[.string ⟨s.toArray⟩] w fun e w' => PtOk0 (.int .i64 V) w e w' := by
  have hh := h.out
  rw [Bool.and_eq_true, Bool.and_eq_true, Bool.and_eq_true, Bool.and_eq_true] at hh
  obtain ⟨⟨⟨⟨h1, h2⟩, h3⟩, h4⟩, h5⟩ := hh
  simp only [decide_eq_true_eq] at h3 h4 h5
  refine named_at ⟨s.toArray⟩ k0 V (Lib.hid h5) ⟨h3, h4⟩ (fun j hj1 hj2 => ?_) (fun h88 => ?_) w
  · rw [List.all_eq_true] at h1
    have := h1 j (by simp; omega)
    rw [lit_list]
    simp only [Bool.or_eq_true, beq_iff_eq, decide_eq_true_eq, Bool.not_eq_true'] at this
    rcases this with (h | h) | h
    · omega
    · omega
    · exact h
  · rw [lit_list]
    rw [Bool.or_eq_true] at h2
    rcases h2 with h2 | h2
    · have := of_decide_eq_true h2; omega
    · exact h2
theorem x_lit (n : Nat) (V : Int) (hV : Hid (V = (n : Int) ∧ n < 9223372036854775808)) (s : List UInt8) (hs : Hid (s = xL n)) (w : World) : Calls Tryz.prog 50 #[.int .i64 V] w fun e w' => e = .returned (.string ⟨s.toArray⟩) ∧ w = w' := by
  rw [hV.out.1]
  exact x_any n hV.out.2 ⟨s.toArray⟩ (Lib.hid (by rw [lit_list]; exact hs.out)) w
theorem sgp_lit (n : Nat) (V : Int) (hV : Hid (V = (n : Int) ∧ n < 9223372036854775808)) (s : List UInt8) (hs : Hid (s = Lib.decDigits n)) (w : World) : Calls Tryz.prog 51 #[.int .i64 V] w fun e w' => e = .returned (.string ⟨s.toArray⟩) ∧ w = w' := by
  rw [hV.out.1]
  exact signed_pos n hV.out.2 ⟨s.toArray⟩ (Lib.hid (by rw [lit_list]; exact hs.out)) w
theorem sgn_lit (n : Nat) (V : Int) (hV : Hid (V = -(n : Int) ∧ 0 < n ∧ n < 9223372036854775808)) (s : List UInt8) (hs : Hid (s = 45 :: Lib.decDigits n)) (w : World) : Calls Tryz.prog 51 #[.int .i64 V] w fun e w' => e = .returned (.string ⟨s.toArray⟩) ∧ w = w' :=
  signed_neg n hV.out.2.1 hV.out.2.2 V hV.out.1 ⟨s.toArray⟩ (Lib.hid (by rw [lit_list]; exact hs.out)) w
theorem name_lit (k : Nat) (V : Int) (s : List UInt8) (h : Hid (V = (k : Int) ∧ k < 88 ∧ formOf (k : Int) ≠ 0 ∧ nameOf (k : Int) = s)) (w : World) : Calls Tryz.prog 49 #[.int .i64 V] w fun e w' => e = .returned (.string ⟨s.toArray⟩) ∧ Below w.heap.size w w' := by
  obtain ⟨h1, h2, h3, h4⟩ := h.out
  rw [h1]
  have := rName_some k h2 h3 w
  rw [h4] at this
  exact this
theorem parts_lit (n : Nat) (V : Int) (s : List UInt8) (h : Hid (V = (n : Int) ∧ n < 16 ∧ partsL n = s)) (w : World) : Calls Tryz.prog 48 #[.int .i64 V] w fun e w' => e = .returned (.string ⟨s.toArray⟩) ∧ w = w' := by
  obtain ⟨h1, h2, h3⟩ := h.out
  rw [h1]
  refine (parts16 n h2 w).mono ?_
  rintro e w' ⟨T, rfl, hT, rfl⟩
  rw [h3] at hT
  rw [lit_of hT]
  exact ⟨rfl, rfl⟩
theorem form_lit (op f : Int) (h : Hid (formOf op = f)) (w : World) : Calls Tryz.prog 11 #[.int .i64 op] w fun e w' => e = .returned (.int .i64 f) ∧ w = w' := by
  rw [← h.out]; exact rForm_any op w
theorem rCheck_ins (i : Ins) (k : Bool) (hb : Hid (i.ok = k)) (h : Hid (-9223372036854775808 ≤ i.imm ∧ i.imm ≤ 9223372036854775807)) (w : World) : Calls Tryz.prog 9 #[i.V] w fun e w' => e = .returned (.int .i64 (errI k)) ∧ Below w.heap.size w w' := by
  obtain ⟨v, hv⟩ := wf_S (a := i.imm) (by have h1 := h.out.1; have h2 := h.out.2; simp [Lit.wf, IntKind.min, IntKind.max, IntKind.signed, IntKind.bits]; omega)
  have H := rCheck_any i.op i.rd i.rs1 i.rs2 v i.aq i.rl i.pred i.succ w
  rw [← hv] at H
  have e : Ins.ok ⟨i.op, i.rd, i.rs1, i.rs2, i.imm, i.aq, i.rl, i.pred, i.succ⟩ = k := hb.out
  rw [e] at H
  exact H
theorem rCheck_no (i : Ins) (hb : Hid (i.ok = false)) (h : Hid (-9223372036854775808 ≤ i.imm ∧ i.imm ≤ 9223372036854775807)) (w : World) : Calls Tryz.prog 9 #[i.V] w fun e w' => e = .returned (.int .i64 2) ∧ Below w.heap.size w w' := rCheck_ins i false hb h w
theorem rCheck_ok (i : Ins) (hb : Hid (i.ok = true)) (h : Hid (-9223372036854775808 ≤ i.imm ∧ i.imm ≤ 9223372036854775807)) (w : World) : Calls Tryz.prog 9 #[i.V] w fun e w' => e = .returned (.int .i64 0) ∧ Below w.heap.size w w' := rCheck_ins i true hb h w
end Go.Proofs.YtfgfkpiddlehjaaGreat
