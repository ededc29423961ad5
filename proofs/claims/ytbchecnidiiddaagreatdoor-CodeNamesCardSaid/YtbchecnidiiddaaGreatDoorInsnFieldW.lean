/-
  Proved here: what the package insn's writer puts of an instruction's fields: register, marks, between, field. Conditions: a register from 0 to 31, a fence's part from 0 to 15.
  (With it: Plain facts on the chapter's texts of instructions that may be: the name ahead, marks, how many commas and parentheses, how long, how it begins and ends. No condition; no Go text is named.)
-/
import Derived.Test.YtbchecnidiiddaaGreatDoorInsnBackPlain
import Derived.Lib.ItoaLen
import Derived.Test.YtbchecnidiiddaaGreatDoorInsnStand
import Derived.Test.YtbchecnidiiddaaGreatDoorInsnWriter
import Derived.Test.YtbchecnidiiddaaGreatDoorShelf
import Derived.Lib.AppendIntMem
namespace Go.Proofs.YtbchecnidiiddaaGreatDoor

/-! ### signs that no field has -/
theorem between_mem (set : Int) (c : UInt8) (h : c ∈ betweenL set) : c = 48 ∨ c = 105 ∨ c = 111 ∨ c = 114 ∨ c = 119 := by
  unfold betweenL at h
  rcases List.mem_append.1 h with h | h
  · split at h
    · simp at h; exact Or.inl h
    · simp at h
  · simp only [fenceL, List.mem_flatMap, List.mem_cons, List.not_mem_nil, or_false] at h
    obtain ⟨p, hp, hc⟩ := h
    split at hc
    · simp at hc
    · simp only [List.mem_singleton] at hc
      rcases hp with rfl | rfl | rfl | rfl <;> simp [hc]
theorem marks_all : ∀ aq rl : Bool, ∀ c ∈ marksL aq rl, c = 46 ∨ c = 97 ∨ c = 113 ∨ c = 114 ∨ c = 108 := by decide
theorem marks_mem (aq rl : Bool) (c : UInt8) (h : c ∈ marksL aq rl) : c = 46 ∨ c = 97 ∨ c = 113 ∨ c = 114 ∨ c = 108 := marks_all aq rl c h
theorem cut_mem (c : UInt8) (h : cutL.contains c = true) : c ∈ cutL := by simpa using h
def sign3 (c : UInt8) : Bool := c == 44 || c == 40 || c == 41
theorem sign_cut : ∀ c ∈ cutL, sign3 c = false ∧ c ≠ 32 ∧ c ≠ 46 := by decide
theorem field_signs (i : Ins) (d c : UInt8) (hc : sign3 c = true) : (fieldL i d).count c = if d = c then 1 else 0 := by
  by_cases hp : plainC d = true
  · rw [field_plain i d hp]
    by_cases e : d = c
    · subst e; simp
    · simp [e]
  · have hd : d ≠ c := by
      intro e; subst e
      apply hp
      simp only [sign3, Bool.or_eq_true, beq_iff_eq] at hc
      rcases hc with (rfl | rfl) | rfl <;> decide
    rw [if_neg hd, List.count_eq_zero]
    have n1 : c ∉ cutL := fun h => by have := (sign_cut c h).1; rw [hc] at this; cases this
    have n2 : c ≠ 120 ∧ c ≠ 46 ∧ c ≠ 97 ∧ c ≠ 113 ∧ c ≠ 114 ∧ c ≠ 108 ∧ c ≠ 48 ∧ c ≠ 105 ∧ c ≠ 111 ∧ c ≠ 119 := by
      simp only [sign3, Bool.or_eq_true, beq_iff_eq] at hc
      rcases hc with (rfl | rfl) | rfl <;> decide
    have nr : ∀ x, c ∉ regL x := by
      intro x h
      unfold regL at h
      rcases List.mem_cons.1 h with h | h
      · exact n2.1 h
      · exact n1 (cut_mem c (dec_cut _ c h))
    have nb : ∀ x, c ∉ betweenL x := by
      intro x h
      have := between_mem x c h
      rcases this with h | h | h | h | h <;> simp_all
    unfold plainC at hp
    simp only [Bool.and_eq_true, bne_iff_ne, ne_eq] at hp
    unfold fieldL
    split
    · exact nr _
    split
    · exact nr _
    split
    · exact nr _
    split
    · exact fun h => n1 (cut_mem c (itoa_cut _ c h))
    split
    · intro h
      have := marks_mem _ _ c h
      rcases this with h | h | h | h | h <;> simp_all
    split
    · exact nb _
    split
    · exact nb _
    · exfalso; apply hp; simp_all
theorem fields_signs (i : Ins) (c : UInt8) (hc : sign3 c = true) : ∀ cs : List UInt8, (cs.flatMap (fieldL i)).count c = cs.count c
  | [] => rfl
  | d :: cs => by
    rw [List.flatMap_cons, List.count_append, field_signs i d c hc, fields_signs i c hc cs, List.count_cons]
    by_cases e : d = c
    · subst e; simp; omega
    · simp [e]
theorem name_signs : ∀ k : Fin 88, (nameOf (k.1 : Nat)).count 44 = 0 ∧ (nameOf (k.1 : Nat)).count 40 = 0 ∧ (nameOf (k.1 : Nat)).count 41 = 0 := by decide +kernel
theorem text_signs (i : Ins) (hm : May i) : (textL i).count 44 = (shapeS i.op).count 44 ∧ (textL i).count 40 = (shapeS i.op).count 40 ∧ (textL i).count 41 = (shapeS i.op).count 41 := by
  obtain ⟨k, e, hk, hk0⟩ := hm.op
  have h := name_signs ⟨k, hk⟩
  simp only at h
  unfold textL
  rw [List.count_append, List.count_append, List.count_append, fields_signs i 44 (by decide), fields_signs i 40 (by decide), fields_signs i 41 (by decide), e, h.1, h.2.1, h.2.2]
  omega

/-! ### how many -/
def commasOf (op form : Int) : Int := if op = 4 ∨ form = 4 ∨ form = 5 ∨ form = 11 then 1 else if form = 1 ∨ form = 2 ∨ form = 9 then 1 else if form = 10 then 0 else 2
def openOf (op form : Int) : Int := if op = 4 ∨ form = 4 ∨ form = 5 ∨ form = 11 then 1 else if form = 12 then 1 else 0
theorem count_all : ∀ k : Fin 88, k.1 ≠ 0 → ((shapeS (k.1 : Nat)).count 44 : Int) = commasOf (k.1 : Nat) (formOf (k.1 : Nat)) ∧ ((shapeS (k.1 : Nat)).count 40 : Int) = openOf (k.1 : Nat) (formOf (k.1 : Nat)) ∧ ((shapeS (k.1 : Nat)).count 41 : Int) = openOf (k.1 : Nat) (formOf (k.1 : Nat)) := by decide +kernel
theorem text_counts (i : Ins) (hm : May i) : ((textL i).count 44 : Int) = commasOf i.op (formOf i.op) ∧ ((textL i).count 40 : Int) = openOf i.op (formOf i.op) ∧ ((textL i).count 41 : Int) = openOf i.op (formOf i.op) := by
  obtain ⟨h1, h2, h3⟩ := text_signs i hm
  obtain ⟨k, e, hk, hk0⟩ := hm.op
  have h := count_all ⟨k, hk⟩ hk0
  simp only at h
  rw [h1, h2, h3, e]; exact h

/-! ### how long -/
def weight (c : UInt8) : Nat := if c = 105 then 21 else if c = 109 then 5 else if c = 112 ∨ c = 115 then 5 else if c = 100 ∨ c = 49 ∨ c = 50 then 3 else 1
theorem reg_len (x : Int) (h0 : 0 ≤ x) (h1 : x ≤ 31) : (regL x).length ≤ 3 := by
  unfold regL
  rcases (by omega : x < 10 ∨ ¬ x < 10) with h | h
  · rw [Lib.decDigits_one (by omega)]; simp
  · rw [Lib.decDigits_two (by omega) (by omega)]; simp
theorem marks_len (aq rl : Bool) : (marksL aq rl).length ≤ 5 := by cases aq <;> cases rl <;> decide
theorem between_len (set : Int) : (betweenL set).length ≤ 5 := by
  unfold betweenL fenceL
  simp only [List.flatMap_cons, List.flatMap_nil, List.length_append]
  split <;> split <;> split <;> split <;> split <;> simp
theorem field_len (i : Ins) (hm : May i) (hi0 : -9223372036854775808 ≤ i.imm) (hi1 : i.imm ≤ 9223372036854775807) (c : UInt8) : (fieldL i c).length ≤ weight c := by
  unfold fieldL weight
  by_cases h1 : c = 100
  · subst h1; simpa using reg_len i.rd hm.rd.1 hm.rd.2.1
  by_cases h2 : c = 49
  · subst h2; simpa using reg_len i.rs1 hm.rs1.1 hm.rs1.2.1
  by_cases h3 : c = 50
  · subst h3; simpa using reg_len i.rs2 hm.rs2.1 hm.rs2.2.1
  by_cases h4 : c = 105
  · subst h4; simpa using Lib.itoa_length_le i.imm hi0 hi1
  by_cases h5 : c = 109
  · subst h5; simpa using marks_len i.aq i.rl
  by_cases h6 : c = 112
  · subst h6; simpa using between_len i.pred
  by_cases h7 : c = 115
  · subst h7; simpa using between_len i.succ
  simp [h1, h2, h3, h4, h5, h6, h7]
theorem fields_len (i : Ins) (hm : May i) (hi0 : -9223372036854775808 ≤ i.imm) (hi1 : i.imm ≤ 9223372036854775807) : ∀ cs : List UInt8, (cs.flatMap (fieldL i)).length ≤ (cs.map weight).sum
  | [] => by simp
  | c :: cs => by
    have h1 := field_len i hm hi0 hi1 c
    have h2 := fields_len i hm hi0 hi1 cs
    rw [List.flatMap_cons, List.length_append, List.map_cons, List.sum_cons]; omega
theorem weights : ∀ k : Fin 88, (nameOf (k.1 : Nat)).length + ((shapeS (k.1 : Nat)).map weight).sum ≤ 60 := by decide +kernel
theorem text_len (i : Ins) (hm : May i) (hi0 : -9223372036854775808 ≤ i.imm) (hi1 : i.imm ≤ 9223372036854775807) : (textL i).length ≤ 60 := by
  obtain ⟨k, e, hk, hk0⟩ := hm.op
  have h := weights ⟨k, hk⟩
  simp only at h
  have h2 := fields_len i hm hi0 hi1 (shapeS i.op)
  unfold textL
  rw [List.length_append, e] at *
  rw [e] at h2; omega

/-! ### what stands behind the name; how a text begins and ends -/
theorem head_count : ∀ k : Fin 88, k.1 ≠ 0 → (commasOf (k.1 : Nat) (formOf (k.1 : Nat)) = 0 → shapeS (k.1 : Nat) = []) ∧ (0 < commasOf (k.1 : Nat) (formOf (k.1 : Nat)) → shapeS (k.1 : Nat) ≠ []) ∧ (shapeS (k.1 : Nat) = [] → 109 ∉ shapeS (k.1 : Nat)) ∧ ((shapeS (k.1 : Nat)).head? = some 32 → 109 ∉ shapeS (k.1 : Nat)) := by decide +kernel
def behind (i : Ins) : List UInt8 := (shapeS i.op).flatMap (fieldL i)
theorem text_is (i : Ins) : textL i = nameOf i.op ++ behind i := rfl
theorem behind_head (i : Ins) (hm : May i) : (commasOf i.op (formOf i.op) = 0 → behind i = []) ∧ ((i.aq || i.rl) = true ↔ (behind i).head? = some 46) ∧ (0 < commasOf i.op (formOf i.op) → (i.aq || i.rl) = false → (behind i).head? = some 32) := by
  obtain ⟨k, e, hk, hk0⟩ := hm.op
  have h := head_count ⟨k, hk⟩ hk0
  have hh := head_all ⟨k, hk⟩
  simp only at h hh
  have hmk := hm.marks
  unfold behind
  rw [e] at hmk ⊢
  refine ⟨fun h0 => by rw [h.1 h0]; rfl, ?_⟩
  rcases hh with hh | hh | ⟨hh, h2⟩
  · have hz := hmk (by rw [hh]; simp)
    refine ⟨by rw [hh]; simp [hz], fun h0 => absurd hh (h.2.1 h0)⟩
  · have hz := hmk (h.2.2.2 hh)
    cases es : shapeS (k : Int) with
    | nil => rw [es] at hh; simp at hh
    | cons d cs =>
      rw [es] at hh
      simp at hh; subst hh
      rw [List.flatMap_cons, field_plain i 32 (by decide)]
      simp [hz]
  · cases es : shapeS (k : Int) with
    | nil => rw [es] at hh; simp at hh
    | cons d cs =>
      rw [es] at hh h2
      simp at hh h2; subst hh
      cases cs with
      | nil => simp at h2
      | cons d2 cs =>
        simp at h2; subst h2
        rw [List.flatMap_cons, List.flatMap_cons, field_plain i 32 (by decide)]
        have e9 : fieldL i 109 = marksL i.aq i.rl := by simp [fieldL]
        rw [e9]
        cases ha : i.aq <;> cases hr : i.rl <;> simp [marksL]
theorem name_head : ∀ k : Fin 88, k.1 ≠ 0 → (nameOf (k.1 : Nat)).head? ≠ some 32 ∧ nameOf (k.1 : Nat) ≠ [] := by decide +kernel
theorem text_head (i : Ins) (hm : May i) : (textL i).head? ≠ some 32 := by
  obtain ⟨k, e, hk, hk0⟩ := hm.op
  have h := name_head ⟨k, hk⟩ hk0
  simp only at h
  rw [text_is, e, List.head?_append]
  cases hn : nameOf (k : Int) with
  | nil => exact absurd hn h.2
  | cons c r => rw [hn] at h; simpa using h.1
theorem text_ne (i : Ins) (hm : May i) : textL i ≠ [] := by
  obtain ⟨k, e, hk, hk0⟩ := hm.op
  have h := (name_head ⟨k, hk⟩ hk0).2
  simp only at h
  rw [text_is, e]; intro h2; exact h (List.append_eq_nil_iff.1 h2).1
theorem last_all : ∀ k : Fin 88, k.1 ≠ 0 → ((shapeS (k.1 : Nat)).getLast? = none ∧ (nameOf (k.1 : Nat)).getLast? ≠ some 32) ∨ (shapeS (k.1 : Nat)).getLast? = some 105 ∨ (shapeS (k.1 : Nat)).getLast? = some 41 ∨ (shapeS (k.1 : Nat)).getLast? = some 50 ∨ (shapeS (k.1 : Nat)).getLast? = some 115 := by decide +kernel
theorem field_last (i : Ins) (hm : May i) (c : UInt8) (h : c = 105 ∨ c = 41 ∨ c = 50 ∨ c = 115) : fieldL i c ≠ [] ∧ (32 : UInt8) ∉ fieldL i c := by
  rcases h with rfl | rfl | rfl | rfl
  · have e : fieldL i 105 = Lib.itoa i.imm := by simp [fieldL]
    rw [e]
    refine ⟨?_, fun h => (sign_cut 32 (cut_mem 32 (itoa_cut _ _ h))).2.1 rfl⟩
    unfold Lib.itoa; split
    · simp
    · exact dec_ne _
  · simp [fieldL]
  · have e : fieldL i 50 = regL i.rs2 := by simp [fieldL]
    rw [e]
    refine ⟨by simp [regL], fun h => ?_⟩
    unfold regL at h
    rcases List.mem_cons.1 h with h | h
    · simp at h
    · exact (sign_cut 32 (cut_mem 32 (dec_cut _ _ h))).2.1 rfl
  · have e : fieldL i 115 = betweenL i.succ := by simp [fieldL]
    rw [e]
    refine ⟨?_, fun h => by have := between_mem _ _ h; simp at this⟩
    have h0 := hm.succ.1; have h1 := hm.succ.2.1
    have hs : i.succ = 0 ∨ i.succ = 1 ∨ i.succ = 2 ∨ i.succ = 3 ∨ i.succ = 4 ∨ i.succ = 5 ∨ i.succ = 6 ∨ i.succ = 7 ∨ i.succ = 8 ∨ i.succ = 9 ∨ i.succ = 10 ∨ i.succ = 11 ∨ i.succ = 12 ∨ i.succ = 13 ∨ i.succ = 14 ∨ i.succ = 15 := by omega
    rcases hs with hs | hs | hs | hs | hs | hs | hs | hs | hs | hs | hs | hs | hs | hs | hs | hs <;> rw [hs] <;> decide
theorem last_flat (i : Ins) (hm : May i) (c : UInt8) (hc : c = 105 ∨ c = 41 ∨ c = 50 ∨ c = 115) (cs : List UInt8) (h : cs.getLast? = some c) : (cs.flatMap (fieldL i)).getLast? ≠ some 32 ∧ cs.flatMap (fieldL i) ≠ [] := by
  obtain ⟨r, rfl⟩ : ∃ r, cs = r ++ [c] := List.getLast?_eq_some_iff.1 h
  obtain ⟨f1, f2⟩ := field_last i hm c hc
  rw [List.flatMap_append]
  have e : List.flatMap (fieldL i) [c] = fieldL i c := by simp
  rw [e]
  refine ⟨?_, by simp [f1]⟩
  rw [List.getLast?_append]
  cases h2 : (fieldL i c).getLast? with
  | none => rw [List.getLast?_eq_none_iff] at h2; exact absurd h2 f1
  | some d =>
    intro h3
    simp at h3; subst h3
    exact f2 (List.mem_of_getLast? h2)
theorem text_last (i : Ins) (hm : May i) : (textL i).getLast? ≠ some 32 := by
  obtain ⟨k, e, hk, hk0⟩ := hm.op
  have h := last_all ⟨k, hk⟩ hk0
  simp only at h
  rw [text_is]
  unfold behind
  rw [e, List.getLast?_append]
  rcases h with ⟨h, h2⟩ | h
  · rw [List.getLast?_eq_none_iff] at h
    rw [h]; simpa using h2
  · obtain ⟨c, hc, hl⟩ : ∃ c : UInt8, (c = 105 ∨ c = 41 ∨ c = 50 ∨ c = 115) ∧ (shapeS (k : Int)).getLast? = some c := by
      rcases h with h | h | h | h
      · exact ⟨_, Or.inl rfl, h⟩
      · exact ⟨_, Or.inr (Or.inl rfl), h⟩
      · exact ⟨_, Or.inr (Or.inr (Or.inl rfl)), h⟩
      · exact ⟨_, Or.inr (Or.inr (Or.inr rfl)), h⟩
    obtain ⟨g1, g2⟩ := last_flat i hm c hc _ hl
    cases h2 : ((shapeS (k : Int)).flatMap (fieldL i)).getLast? with
    | none => rw [List.getLast?_eq_none_iff] at h2; exact absurd h2 g2
    | some d => rw [h2] at g1; simpa using g1
end Go.Proofs.YtbchecnidiiddaaGreatDoor
namespace Go.Proofs.YtbchecnidiiddaaGreatDoor
open Go.RowKit

theorem register_k (x : Int) (b : Nat) (l : List UInt8) (w : World) (h : IsW b b l w) (h0 : 0 ≤ x) (h1 : x ≤ 31) (hlen : l.length ≤ 1000) :
    Calls Tryz.prog 70 #[.pointer (some ⟨b, 0, none⟩), .int .i64 x] w fun e w' => e = .returned (.tuple #[]) ∧ Wrote b (l ++ regL x) w w' := by
  obtain ⟨n, rfl⟩ : ∃ n : Nat, x = (n : Int) := ⟨x.toNat, by omega⟩
  have hr := reg_len n h0 h1
  have HR := Lib.hid (show l.length + (([120] : List UInt8).length + (Lib.decDigits n).length) ≤ 100000 by unfold regL at hr; simp at hr ⊢; omega)
  clear hr
  go_enter Tryz.func70, Tryz.ntmps70
  go_wp2_with (first | (go_at_call 98; (with_reducible refine (Tryz.strconv_Itoa_small n (by omega) _).mono ?_); rintro e w' ⟨rfl, rfl⟩) | (go_at_call 30; (with_reducible refine (put_two [120] (Lib.decDigits n) b l _ _ (Lib.hid rfl) h HR.out).mono ?_); rintro e w' ⟨rfl, hw⟩))
  go_end0
  exact ⟨rfl, hw⟩

set_option maxHeartbeats 1000000 in
theorem marks_k (aq rl : Bool) (b : Nat) (l : List UInt8) (w : World) (h : IsW b b l w) (hlen : l.length ≤ 1000) :
    Calls Tryz.prog 72 #[.pointer (some ⟨b, 0, none⟩), .bool aq, .bool rl] w fun e w' => e = .returned (.tuple #[]) ∧ Wrote b (l ++ marksL aq rl) w w' := by
  have h46 : ∀ m : List UInt8, m.length ≤ 1100 → m.length + ([46] : List UInt8).length ≤ 100000 := fun m hm => by simp; omega
  have h97 : ∀ m : List UInt8, m.length ≤ 1100 → m.length + ([97, 113] : List UInt8).length ≤ 100000 := fun m hm => by simp; omega
  have h114 : ∀ m : List UInt8, m.length ≤ 1100 → m.length + ([114, 108] : List UInt8).length ≤ 100000 := fun m hm => by simp; omega
  have H46 := Lib.hid h46
  have H97 := Lib.hid h97
  have H114 := Lib.hid h114
  clear h46 h97 h114
  cases aq <;> cases rl
  · go_enter Tryz.func72, Tryz.ntmps72
    go_wp2
    go_end0
    exact ⟨rfl, by simpa [marksL] using Wrote.refl h⟩
  · go_enter Tryz.func72, Tryz.ntmps72
    go_wp2_with (go_at_call 30; (with_reducible refine (put_one [46] b l _ _ (Lib.hid rfl) h (H46.out _ (by omega))).mono ?_); rintro e w1 ⟨rfl, hw1⟩; have HW1 := Lib.hid hw1; clear hw1)
    go_wp2_with (go_at_call 30; (with_reducible refine (put_one [114, 108] b (l ++ [46]) _ _ (Lib.hid rfl) HW1.out.is (H114.out _ (by simp; omega))).mono ?_); rintro e w2 ⟨rfl, hw2⟩; have HW2 := Lib.hid hw2; clear hw2)
    go_end0
    exact ⟨rfl, by simpa [marksL] using HW1.out.trans HW2.out⟩
  · go_enter Tryz.func72, Tryz.ntmps72
    go_wp2_with (go_at_call 30; (with_reducible refine (put_one [46] b l _ _ (Lib.hid rfl) h (H46.out _ (by omega))).mono ?_); rintro e w1 ⟨rfl, hw1⟩; have HW1 := Lib.hid hw1; clear hw1)
    go_wp2_with (go_at_call 30; (with_reducible refine (put_one [97, 113] b (l ++ [46]) _ _ (Lib.hid rfl) HW1.out.is (H97.out _ (by simp; omega))).mono ?_); rintro e w2 ⟨rfl, hw2⟩; have HW2 := Lib.hid hw2; clear hw2)
    go_end0
    exact ⟨rfl, by simpa [marksL] using HW1.out.trans HW2.out⟩
  · go_enter Tryz.func72, Tryz.ntmps72
    go_wp2_with (go_at_call 30; (with_reducible refine (put_one [46] b l _ _ (Lib.hid rfl) h (H46.out _ (by omega))).mono ?_); rintro e w1 ⟨rfl, hw1⟩; have HW1 := Lib.hid hw1; clear hw1)
    go_wp2_with (go_at_call 30; (with_reducible refine (put_one [97, 113] b (l ++ [46]) _ _ (Lib.hid rfl) HW1.out.is (H97.out _ (by simp; omega))).mono ?_); rintro e w2 ⟨rfl, hw2⟩; have HW2 := Lib.hid hw2; clear hw2)
    go_wp2_with (go_at_call 30; (with_reducible refine (put_one [114, 108] b (l ++ [46] ++ [97, 113]) _ _ (Lib.hid rfl) HW2.out.is (H114.out _ (by simp; omega))).mono ?_); rintro e w3 ⟨rfl, hw3⟩; have HW3 := Lib.hid hw3; clear hw3)
    go_end0
    exact ⟨rfl, by simpa [marksL] using (HW1.out.trans HW2.out).trans HW3.out⟩

def partsV : Value := .agg #[.int .i64 8, .string ⟨#[105]⟩, .int .i64 4, .string ⟨#[111]⟩, .int .i64 2, .string ⟨#[114]⟩, .int .i64 1, .string ⟨#[119]⟩]
theorem partsF_any (w : World) : Calls Tryz.prog 100 #[] w fun e w' => e = .returned partsV ∧ w' = w.alloc (.cells #[.int .i64 8, .string ⟨#[105]⟩, .int .i64 4, .string ⟨#[111]⟩, .int .i64 2, .string ⟨#[114]⟩, .int .i64 1, .string ⟨#[119]⟩] 145) := by
  go_enter Tryz.func100, Tryz.ntmps100
  go_wp2
  exact bodyPost_ret (v := partsV) (by simp [results, Tryz.results100, go_sem, partsV]) rfl ⟨rfl, rfl⟩
def fbit (k : Nat) : Nat := (fenceL.getD k (0, 0)).1
def fsign (k : Nat) : UInt8 := (fenceL.getD k (0, 0)).2
def bitB (set : Int) (k : Nat) : Bool := set.toNat &&& fbit k != 0
theorem bit_is (set : Int) (h0 : 0 ≤ set) (h1 : set ≤ 15) (k : Nat) (hk : k < 4) : (bits BinOp.and IntKind.i64 set ((fbit k : Nat) : Int) != 0) = bitB set k := by
  have h : ∀ s : Fin 16, ∀ k : Fin 4, (bits BinOp.and IntKind.i64 (s.1 : Nat) ((fbit k.1 : Nat) : Int) != 0) = bitB (s.1 : Nat) k.1 := by decide +kernel
  have := h ⟨set.toNat, by omega⟩ ⟨k, hk⟩
  simpa [Int.toNat_of_nonneg h0] using this
def betweenP (set : Int) (k : Nat) : List UInt8 := (if set = 0 then [48] else []) ++ (fenceL.take k).flatMap fun p => if set.toNat &&& p.1 = 0 then [] else [p.2]
theorem betweenP_4 (set : Int) : betweenP set 4 = betweenL set := rfl
theorem betweenP_succ (set : Int) (k : Nat) (hk : k < 4) : betweenP set (k + 1) = betweenP set k ++ (if bitB set k then [fsign k] else []) := by
  have hl : k < fenceL.length := hk
  have e : fenceL[k] = (fbit k, fsign k) := by simp [fbit, fsign, hl]
  unfold betweenP bitB
  rw [List.take_succ_eq_append_getElem hl, List.flatMap_append, e, ← List.append_assoc]
  congr 1
  by_cases hx : set.toNat &&& fbit k = 0 <;> simp [hx]
theorem betweenP_len (set : Int) (k : Nat) (hk : k ≤ 4) : (betweenP set k).length ≤ 5 := by
  have h : (betweenP set k).length ≤ (betweenP set 4).length := by
    have hs : k = 0 ∨ k = 1 ∨ k = 2 ∨ k = 3 ∨ k = 4 := by omega
    unfold betweenP
    rcases hs with rfl | rfl | rfl | rfl | rfl <;> simp [fenceL] <;> omega
  rw [betweenP_4] at h
  have := between_len set; omega
theorem index_part0 (w : World) : (Instr.index 145 partsV (.int .i64 0)).run Tryz.prog w = .ok (.agg #[.int .i64 8, .string ⟨#[105]⟩]) w := by kernel_rfl
theorem index_part1 (w : World) : (Instr.index 145 partsV (.int .i64 1)).run Tryz.prog w = .ok (.agg #[.int .i64 4, .string ⟨#[111]⟩]) w := by kernel_rfl
theorem index_part2 (w : World) : (Instr.index 145 partsV (.int .i64 2)).run Tryz.prog w = .ok (.agg #[.int .i64 2, .string ⟨#[114]⟩]) w := by kernel_rfl
theorem index_part3 (w : World) : (Instr.index 145 partsV (.int .i64 3)).run Tryz.prog w = .ok (.agg #[.int .i64 1, .string ⟨#[119]⟩]) w := by kernel_rfl
theorem index_parts (k : Nat) (hk : k < 4) (w : World) : (Instr.index 145 partsV (.int .i64 k)).run Tryz.prog w = .ok (.agg #[.int .i64 (fbit k : Nat), .string ⟨#[fsign k]⟩]) w := by
  have hs : k = 0 ∨ k = 1 ∨ k = 2 ∨ k = 3 := by omega
  rcases hs with rfl | rfl | rfl | rfl
  · exact index_part0 w
  · exact index_part1 w
  · exact index_part2 w
  · exact index_part3 w
theorem put_zero (set : Int) (hz : set = 0) (b : Nat) (l : List UInt8) (w : World) (g : Nat) (hgw : Hid (w.heap.size = g)) (h : IsW b b l w) (hlen : l.length ≤ 1000) :
    Calls Tryz.prog 30 #[.pointer (some ⟨b, 0, none⟩), .slice (some ⟨g, 0, none⟩) 1 1] (w.alloc (.cells #[.string ⟨#[48]⟩] 9)) fun e w' => e = .returned (.tuple #[]) ∧ Wrote b (l ++ betweenP set 0) w w' := by
  have e0 : betweenP set 0 = [48] := by unfold betweenP; rw [if_pos hz]; rfl
  rw [e0]
  exact put_one [48] b l w g hgw h (by simp; omega)
theorem put_sign (set : Int) (k : Nat) (hk : k < 4) (hb : bitB set k = true) (b : Nat) (l : List UInt8) (w : World) (g : Nat) (hgw : Hid (w.heap.size = g)) (h : IsW b b (l ++ betweenP set k) w) (hlen : l.length ≤ 1000) :
    Calls Tryz.prog 30 #[.pointer (some ⟨b, 0, none⟩), .slice (some ⟨g, 0, none⟩) 1 1] (w.alloc (.cells #[.string ⟨#[fsign k]⟩] 9)) fun e w' => e = .returned (.tuple #[]) ∧ Wrote b (l ++ betweenP set (k + 1)) w w' := by
  have e : l ++ betweenP set (k + 1) = (l ++ betweenP set k) ++ [fsign k] := by rw [betweenP_succ set k hk, hb, if_pos rfl, List.append_assoc]
  rw [e]
  have := betweenP_len set k (by omega)
  exact put_one [fsign k] b _ w g hgw h (by simp; omega)
set_option maxHeartbeats 1000000 in
theorem between_k (set : Int) (b : Nat) (l : List UInt8) (w : World) (h : IsW b b l w) (h0 : 0 ≤ set) (h1 : set ≤ 15) (hlen : l.length ≤ 1000) :
    Calls Tryz.prog 73 #[.pointer (some ⟨b, 0, none⟩), .int .i64 set] w fun e w' => e = .returned (.tuple #[]) ∧ Wrote b (l ++ betweenL set) w w' := by
  have HB := Lib.hid (bit_is set h0 h1)
  have HH := Lib.hid h
  clear h
  by_cases hz : set = 0
  · have hz1 : (set == 0) = true := by simpa using hz
    have HZ := Lib.hid hz
    clear hz
    go_enter Tryz.func73, Tryz.ntmps73
    go_wp2_with (go_at_call 30; (with_reducible refine (put_zero set HZ.out b l _ _ (Lib.hid rfl) HH.out hlen).mono ?_); rintro e w1 ⟨rfl, hw1⟩; have HW1 := Lib.hid hw1; clear hw1)
    go_wp2_with (go_at_call 100; (with_reducible refine (partsF_any _).mono ?_); rintro e w2 ⟨rfl, rfl⟩)
    go_loopw [5, 12] (fun _ i wr => ∃ k : Nat, k ≤ 4 ∧ i = .int .i64 k ∧ Wrote b (l ++ betweenP set k) w wr) (fun _ i _ => 4 - (intOf i).toNat)
    case atStart => exact ⟨0, by omega, rfl, HW1.out.alloc _⟩
    case round =>
      obtain ⟨k, hk, rfl, hw⟩ := hrel
      have HW := Lib.hid hw
      clear hw
      by_cases hlt : k < 4
      · have hix := index_parts k hlt
        have hbi := HB.out k hlt
        by_cases hb : bitB set k = true
        · have HBK := Lib.hid hb
          rw [hb] at hbi
          clear hb
          go_wp2_with (go_at_call 30; (with_reducible refine (put_sign set k hlt HBK.out b l _ _ (Lib.hid (by simp)) (HW.out.alloc _).is hlen).mono ?_); rintro e w3 ⟨rfl, hw3⟩; have HW3 := Lib.hid hw3; clear hw3)
          go_roundw
          case rel => exact ⟨k + 1, by omega, by go_num, (HW.out.alloc _).trans HW3.out⟩
          case measure => simp [intOf]; omega
        · have hb' : bitB set k = false := by simpa using hb
          have HBK := Lib.hid hb'
          rw [hb'] at hbi
          clear hb hb'
          go_wp2
          go_roundw
          case rel => exact ⟨k + 1, by omega, by go_num, by rw [betweenP_succ set k hlt, HBK.out]; simpa using HW.out.alloc _⟩
          case measure => simp [intOf]; omega
      · go_wp2
        go_end0
        have e : k = 4 := by omega
        subst e
        exact ⟨rfl, HW.out⟩
  · have hz1 : (set == 0) = false := by simpa using hz
    have HZ := Lib.hid hz
    clear hz
    have hw1 : Wrote b (l ++ betweenP set 0) w w := by
      have e0 : betweenP set 0 = [] := by unfold betweenP; rw [if_neg HZ.out]; rfl
      rw [e0, List.append_nil]; exact Wrote.refl HH.out
    have HW1 := Lib.hid hw1
    clear hw1
    go_enter Tryz.func73, Tryz.ntmps73
    go_wp2_with (go_at_call 100; (with_reducible refine (partsF_any _).mono ?_); rintro e w2 ⟨rfl, rfl⟩)
    go_loopw [5, 12] (fun _ i wr => ∃ k : Nat, k ≤ 4 ∧ i = .int .i64 k ∧ Wrote b (l ++ betweenP set k) w wr) (fun _ i _ => 4 - (intOf i).toNat)
    case atStart => exact ⟨0, by omega, rfl, HW1.out.alloc _⟩
    case round =>
      obtain ⟨k, hk, rfl, hw⟩ := hrel
      have HW := Lib.hid hw
      clear hw
      by_cases hlt : k < 4
      · have hix := index_parts k hlt
        have hbi := HB.out k hlt
        by_cases hb : bitB set k = true
        · have HBK := Lib.hid hb
          rw [hb] at hbi
          clear hb
          go_wp2_with (go_at_call 30; (with_reducible refine (put_sign set k hlt HBK.out b l _ _ (Lib.hid (by simp)) (HW.out.alloc _).is hlen).mono ?_); rintro e w3 ⟨rfl, hw3⟩; have HW3 := Lib.hid hw3; clear hw3)
          go_roundw
          case rel => exact ⟨k + 1, by omega, by go_num, (HW.out.alloc _).trans HW3.out⟩
          case measure => simp [intOf]; omega
        · have hb' : bitB set k = false := by simpa using hb
          have HBK := Lib.hid hb'
          rw [hb'] at hbi
          clear hb hb'
          go_wp2
          go_roundw
          case rel => exact ⟨k + 1, by omega, by go_num, by rw [betweenP_succ set k hlt, HBK.out]; simpa using HW.out.alloc _⟩
          case measure => simp [intOf]; omega
      · go_wp2
        go_end0
        have e : k = 4 := by omega
        subst e
        exact ⟨rfl, HW.out⟩

theorem WB.grow {b : Nat} {p : Value} {l : List UInt8} {w : World} (h : WB b b p l w) (k : Nat) (os : Array Obj) : WB b b p l (Sort.grow (w.drewN k) os) := by
  obtain ⟨hB, v, hb, hown, hne⟩ := h
  exact ⟨hB, v, (Lib.heap_grow_old w k os b (Array.getElem?_eq_some_iff.1 hb).1).trans hb, Lib.ownsRow_grow hown k os, hne⟩
theorem IsW.grow {b : Nat} {l : List UInt8} {w : World} (h : IsW b b l w) (k : Nat) (os : Array Obj) : IsW b b l (Sort.grow (w.drewN k) os) :=
  h.elim (fun x => .inl (WB.grow x k os)) (fun x => .inr (WB.grow x k os))
theorem Wrote.grow {b : Nat} {l : List UInt8} {w : World} (h : IsW b b l w) (k : Nat) (os : Array Obj) : Wrote b l w (Sort.grow (w.drewN k) os) :=
  ⟨h.grow k os, Lib.below_grow b w (Nat.le_of_lt h.lt) k os, fun j _ hj _ _ => (Lib.heap_grow_old w k os j (Array.getElem?_eq_some_iff.1 hj).1).trans hj⟩
theorem field_100 (i : Ins) (hm : May i) (b : Nat) (l : List UInt8) (w : World) (h : IsW b b l w) (hlen : l.length ≤ 1000) :
    Calls Tryz.prog 32 #[.pointer (some ⟨b, 0, none⟩), .int .i32 100, i.V] w fun e w' => e = .returned (.tuple #[]) ∧ Wrote b (l ++ fieldL i 100) w w' := by
  have HM := Lib.hid hm
  clear hm
  go_enter Tryz.func32, Tryz.ntmps32
  go_wp2_with (go_at_call 70; (with_reducible refine (register_k i.rd b l _ (h.alloc _) HM.out.rd.1 HM.out.rd.2.1 hlen).mono ?_); rintro e w1 ⟨rfl, hw1⟩; have HW1 := Lib.hid hw1; clear hw1)
  go_end0
  exact ⟨rfl, by simpa [fieldL] using (Wrote.alloc (Wrote.refl h) _).trans HW1.out⟩
theorem field_49 (i : Ins) (hm : May i) (b : Nat) (l : List UInt8) (w : World) (h : IsW b b l w) (hlen : l.length ≤ 1000) :
    Calls Tryz.prog 32 #[.pointer (some ⟨b, 0, none⟩), .int .i32 49, i.V] w fun e w' => e = .returned (.tuple #[]) ∧ Wrote b (l ++ fieldL i 49) w w' := by
  have HM := Lib.hid hm
  clear hm
  go_enter Tryz.func32, Tryz.ntmps32
  go_wp2_with (go_at_call 70; (with_reducible refine (register_k i.rs1 b l _ (h.alloc _) HM.out.rs1.1 HM.out.rs1.2.1 hlen).mono ?_); rintro e w1 ⟨rfl, hw1⟩; have HW1 := Lib.hid hw1; clear hw1)
  go_end0
  exact ⟨rfl, by simpa [fieldL] using (Wrote.alloc (Wrote.refl h) _).trans HW1.out⟩
theorem field_50 (i : Ins) (hm : May i) (b : Nat) (l : List UInt8) (w : World) (h : IsW b b l w) (hlen : l.length ≤ 1000) :
    Calls Tryz.prog 32 #[.pointer (some ⟨b, 0, none⟩), .int .i32 50, i.V] w fun e w' => e = .returned (.tuple #[]) ∧ Wrote b (l ++ fieldL i 50) w w' := by
  have HM := Lib.hid hm
  clear hm
  go_enter Tryz.func32, Tryz.ntmps32
  go_wp2_with (go_at_call 70; (with_reducible refine (register_k i.rs2 b l _ (h.alloc _) HM.out.rs2.1 HM.out.rs2.2.1 hlen).mono ?_); rintro e w1 ⟨rfl, hw1⟩; have HW1 := Lib.hid hw1; clear hw1)
  go_end0
  exact ⟨rfl, by simpa [fieldL] using (Wrote.alloc (Wrote.refl h) _).trans HW1.out⟩
theorem field_109 (i : Ins) (b : Nat) (l : List UInt8) (w : World) (h : IsW b b l w) (hlen : l.length ≤ 1000) :
    Calls Tryz.prog 32 #[.pointer (some ⟨b, 0, none⟩), .int .i32 109, i.V] w fun e w' => e = .returned (.tuple #[]) ∧ Wrote b (l ++ fieldL i 109) w w' := by
  go_enter Tryz.func32, Tryz.ntmps32
  go_wp2_with (go_at_call 72; (with_reducible refine (marks_k i.aq i.rl b l _ (h.alloc _) hlen).mono ?_); rintro e w1 ⟨rfl, hw1⟩; have HW1 := Lib.hid hw1; clear hw1)
  go_end0
  exact ⟨rfl, by simpa [fieldL] using (Wrote.alloc (Wrote.refl h) _).trans HW1.out⟩
theorem field_112 (i : Ins) (hm : May i) (b : Nat) (l : List UInt8) (w : World) (h : IsW b b l w) (hlen : l.length ≤ 1000) :
    Calls Tryz.prog 32 #[.pointer (some ⟨b, 0, none⟩), .int .i32 112, i.V] w fun e w' => e = .returned (.tuple #[]) ∧ Wrote b (l ++ fieldL i 112) w w' := by
  have HM := Lib.hid hm
  clear hm
  go_enter Tryz.func32, Tryz.ntmps32
  go_wp2_with (go_at_call 73; (with_reducible refine (between_k i.pred b l _ (h.alloc _) HM.out.pred.1 HM.out.pred.2.1 hlen).mono ?_); rintro e w1 ⟨rfl, hw1⟩; have HW1 := Lib.hid hw1; clear hw1)
  go_end0
  exact ⟨rfl, by simpa [fieldL] using (Wrote.alloc (Wrote.refl h) _).trans HW1.out⟩
theorem field_115 (i : Ins) (hm : May i) (b : Nat) (l : List UInt8) (w : World) (h : IsW b b l w) (hlen : l.length ≤ 1000) :
    Calls Tryz.prog 32 #[.pointer (some ⟨b, 0, none⟩), .int .i32 115, i.V] w fun e w' => e = .returned (.tuple #[]) ∧ Wrote b (l ++ fieldL i 115) w w' := by
  have HM := Lib.hid hm
  clear hm
  go_enter Tryz.func32, Tryz.ntmps32
  go_wp2_with (go_at_call 73; (with_reducible refine (between_k i.succ b l _ (h.alloc _) HM.out.succ.1 HM.out.succ.2.1 hlen).mono ?_); rintro e w1 ⟨rfl, hw1⟩; have HW1 := Lib.hid hw1; clear hw1)
  go_end0
  exact ⟨rfl, by simpa [fieldL] using (Wrote.alloc (Wrote.refl h) _).trans HW1.out⟩
theorem field_32 (i : Ins) (b : Nat) (l : List UInt8) (w : World) (h : IsW b b l w) (hlen : l.length ≤ 1000) :
    Calls Tryz.prog 32 #[.pointer (some ⟨b, 0, none⟩), .int .i32 32, i.V] w fun e w' => e = .returned (.tuple #[]) ∧ Wrote b (l ++ fieldL i 32) w w' := by
  have hlen2 := Lib.hid (show l.length + ([32] : List UInt8).length ≤ 100000 by simp; omega)
  have hcv : ∀ w : World, (convert 21 9 (.int .i32 32)).run Tryz.prog w = .ok (.string ⟨#[32]⟩) w := fun _ => by kernel_rfl
  go_enter Tryz.func32, Tryz.ntmps32
  go_wp2_with (go_at_call 30; (with_reducible refine (put_one [32] b l _ _ (Lib.hid (by simp)) (h.alloc _) hlen2.out).mono ?_); rintro e w1 ⟨rfl, hw1⟩; have HW1 := Lib.hid hw1; clear hw1)
  go_end0
  exact ⟨rfl, by simpa [fieldL] using (Wrote.alloc (Wrote.refl h) _).trans HW1.out⟩
theorem field_44 (i : Ins) (b : Nat) (l : List UInt8) (w : World) (h : IsW b b l w) (hlen : l.length ≤ 1000) :
    Calls Tryz.prog 32 #[.pointer (some ⟨b, 0, none⟩), .int .i32 44, i.V] w fun e w' => e = .returned (.tuple #[]) ∧ Wrote b (l ++ fieldL i 44) w w' := by
  have hlen2 := Lib.hid (show l.length + ([44] : List UInt8).length ≤ 100000 by simp; omega)
  have hcv : ∀ w : World, (convert 21 9 (.int .i32 44)).run Tryz.prog w = .ok (.string ⟨#[44]⟩) w := fun _ => by kernel_rfl
  go_enter Tryz.func32, Tryz.ntmps32
  go_wp2_with (go_at_call 30; (with_reducible refine (put_one [44] b l _ _ (Lib.hid (by simp)) (h.alloc _) hlen2.out).mono ?_); rintro e w1 ⟨rfl, hw1⟩; have HW1 := Lib.hid hw1; clear hw1)
  go_end0
  exact ⟨rfl, by simpa [fieldL] using (Wrote.alloc (Wrote.refl h) _).trans HW1.out⟩
theorem field_40 (i : Ins) (b : Nat) (l : List UInt8) (w : World) (h : IsW b b l w) (hlen : l.length ≤ 1000) :
    Calls Tryz.prog 32 #[.pointer (some ⟨b, 0, none⟩), .int .i32 40, i.V] w fun e w' => e = .returned (.tuple #[]) ∧ Wrote b (l ++ fieldL i 40) w w' := by
  have hlen2 := Lib.hid (show l.length + ([40] : List UInt8).length ≤ 100000 by simp; omega)
  have hcv : ∀ w : World, (convert 21 9 (.int .i32 40)).run Tryz.prog w = .ok (.string ⟨#[40]⟩) w := fun _ => by kernel_rfl
  go_enter Tryz.func32, Tryz.ntmps32
  go_wp2_with (go_at_call 30; (with_reducible refine (put_one [40] b l _ _ (Lib.hid (by simp)) (h.alloc _) hlen2.out).mono ?_); rintro e w1 ⟨rfl, hw1⟩; have HW1 := Lib.hid hw1; clear hw1)
  go_end0
  exact ⟨rfl, by simpa [fieldL] using (Wrote.alloc (Wrote.refl h) _).trans HW1.out⟩
theorem field_41 (i : Ins) (b : Nat) (l : List UInt8) (w : World) (h : IsW b b l w) (hlen : l.length ≤ 1000) :
    Calls Tryz.prog 32 #[.pointer (some ⟨b, 0, none⟩), .int .i32 41, i.V] w fun e w' => e = .returned (.tuple #[]) ∧ Wrote b (l ++ fieldL i 41) w w' := by
  have hlen2 := Lib.hid (show l.length + ([41] : List UInt8).length ≤ 100000 by simp; omega)
  have hcv : ∀ w : World, (convert 21 9 (.int .i32 41)).run Tryz.prog w = .ok (.string ⟨#[41]⟩) w := fun _ => by kernel_rfl
  go_enter Tryz.func32, Tryz.ntmps32
  go_wp2_with (go_at_call 30; (with_reducible refine (put_one [41] b l _ _ (Lib.hid (by simp)) (h.alloc _) hlen2.out).mono ?_); rintro e w1 ⟨rfl, hw1⟩; have HW1 := Lib.hid hw1; clear hw1)
  go_end0
  exact ⟨rfl, by simpa [fieldL] using (Wrote.alloc (Wrote.refl h) _).trans HW1.out⟩
theorem field_105 (i : Ins) (hi0 : -9223372036854775808 ≤ i.imm) (hi1 : i.imm ≤ 9223372036854775807) (b : Nat) (l : List UInt8) (w : World) (h : IsW b b l w) (hlen : l.length ≤ 1000) (htab : Lib.TabIs Tryz.prog w "internal/strconv.uint64pow10" .u64 Lib.pow10Tab) :
    Calls Tryz.prog 32 #[.pointer (some ⟨b, 0, none⟩), .int .i32 105, i.V] w fun e w' => e = .returned (.tuple #[]) ∧ Wrote b (l ++ fieldL i 105) w w' := by
  have hlen2 := Lib.hid (show l.length + (Lib.itoa i.imm).length ≤ 100000 by have := Lib.itoa_length_le i.imm hi0 hi1; omega)
  have HT := Lib.hid htab
  clear htab
  go_enter Tryz.func32, Tryz.ntmps32
  go_wp2_with (go_at_call 71; (with_reducible refine (Tryz.strconv_FormatInt_10 i.imm hi0 hi1 _ (Lib.tabIs_alloc HT.out _)).mono ?_); rintro e w1 ⟨rfl, n, os, hw1⟩; have HW1 : Hid (Wrote b l w w1) := Lib.hid (by rw [hw1]; exact (Wrote.alloc (Wrote.refl h) _).trans (Wrote.grow (h.alloc _) n os)); clear hw1)
  go_wp2_with (go_at_call 30; (with_reducible refine (put_one (Lib.itoa i.imm) b l _ _ (Lib.hid rfl) HW1.out.is hlen2.out).mono ?_); rintro e w2 ⟨rfl, hw2⟩; have HW2 := Lib.hid hw2; clear hw2)
  go_end0
  exact ⟨rfl, by simpa [fieldL] using HW1.out.trans HW2.out⟩
end Go.Proofs.YtbchecnidiiddaaGreatDoor
