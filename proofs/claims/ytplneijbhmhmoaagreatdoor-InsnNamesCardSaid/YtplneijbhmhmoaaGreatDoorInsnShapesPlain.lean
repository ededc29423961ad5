/-
  Plain facts on the chapter's texts of instructions that may be: the name ahead, marks, how many commas and parentheses, how long, how it begins and ends. No condition; no Go text is named.
-/
import Derived.Test.YtplneijbhmhmoaaGreatDoorInsnBackPlain
import Derived.Lib.ItoaLen
namespace Go.Proofs.YtplneijbhmhmoaaGreatDoor

/-! ### signs that no field has -/
theorem between_mem (set : Int) (c : UInt8) (h : c ∈ betweenL set) : c = 48 ∨ c = 105 ∨ c = 111 ∨ c = 114 ∨ c = 119 := by
  unfold betweenL at h
  rcases List.mem_append.1 h with h | h
  · split at h
    · simp at h; exact Or.inl h
    · simp at h
  · simp only [fenceL, List.mem_flatMap, List.mem_cons, List.not_mem_nil, or_false] at h
    obtain ⟨p, hp, hc⟩ := h
    split at hc
    · simp at hc
    · simp only [List.mem_singleton] at hc
      rcases hp with rfl | rfl | rfl | rfl <;> simp [hc]
theorem marks_all : ∀ aq rl : Bool, ∀ c ∈ marksL aq rl, c = 46 ∨ c = 97 ∨ c = 113 ∨ c = 114 ∨ c = 108 := by decide
theorem marks_mem (aq rl : Bool) (c : UInt8) (h : c ∈ marksL aq rl) : c = 46 ∨ c = 97 ∨ c = 113 ∨ c = 114 ∨ c = 108 := marks_all aq rl c h
theorem cut_mem (c : UInt8) (h : cutL.contains c = true) : c ∈ cutL := by simpa using h
def sign3 (c : UInt8) : Bool := c == 44 || c == 40 || c == 41
theorem sign_cut : ∀ c ∈ cutL, sign3 c = false ∧ c ≠ 32 ∧ c ≠ 46 := by decide
theorem field_signs (i : Ins) (d c : UInt8) (hc : sign3 c = true) : (fieldL i d).count c = if d = c then 1 else 0 := by
  by_cases hp : plainC d = true
  · rw [field_plain i d hp]
    by_cases e : d = c
    · subst e; simp
    · simp [e]
  · have hd : d ≠ c := by
      intro e; subst e
      apply hp
      simp only [sign3, Bool.or_eq_true, beq_iff_eq] at hc
      rcases hc with (rfl | rfl) | rfl <;> decide
    rw [if_neg hd, List.count_eq_zero]
    have n1 : c ∉ cutL := fun h => by have := (sign_cut c h).1; rw [hc] at this; cases this
    have n2 : c ≠ 120 ∧ c ≠ 46 ∧ c ≠ 97 ∧ c ≠ 113 ∧ c ≠ 114 ∧ c ≠ 108 ∧ c ≠ 48 ∧ c ≠ 105 ∧ c ≠ 111 ∧ c ≠ 119 := by
      simp only [sign3, Bool.or_eq_true, beq_iff_eq] at hc
      rcases hc with (rfl | rfl) | rfl <;> decide
    have nr : ∀ x, c ∉ regL x := by
      intro x h
      unfold regL at h
      rcases List.mem_cons.1 h with h | h
      · exact n2.1 h
      · exact n1 (cut_mem c (dec_cut _ c h))
    have nb : ∀ x, c ∉ betweenL x := by
      intro x h
      have := between_mem x c h
      rcases this with h | h | h | h | h <;> simp_all
    unfold plainC at hp
    simp only [Bool.and_eq_true, bne_iff_ne, ne_eq] at hp
    unfold fieldL
    split
    · exact nr _
    split
    · exact nr _
    split
    · exact nr _
    split
    · exact fun h => n1 (cut_mem c (itoa_cut _ c h))
    split
    · intro h
      have := marks_mem _ _ c h
      rcases this with h | h | h | h | h <;> simp_all
    split
    · exact nb _
    split
    · exact nb _
    · exfalso; apply hp; simp_all
theorem fields_signs (i : Ins) (c : UInt8) (hc : sign3 c = true) : ∀ cs : List UInt8, (cs.flatMap (fieldL i)).count c = cs.count c
  | [] => rfl
  | d :: cs => by
    rw [List.flatMap_cons, List.count_append, field_signs i d c hc, fields_signs i c hc cs, List.count_cons]
    by_cases e : d = c
    · subst e; simp; omega
    · simp [e]
theorem name_signs : ∀ k : Fin 88, (nameOf (k.1 : Nat)).count 44 = 0 ∧ (nameOf (k.1 : Nat)).count 40 = 0 ∧ (nameOf (k.1 : Nat)).count 41 = 0 := by decide +kernel
theorem text_signs (i : Ins) (hm : May i) : (textL i).count 44 = (shapeS i.op).count 44 ∧ (textL i).count 40 = (shapeS i.op).count 40 ∧ (textL i).count 41 = (shapeS i.op).count 41 := by
  obtain ⟨k, e, hk, hk0⟩ := hm.op
  have h := name_signs ⟨k, hk⟩
  simp only at h
  unfold textL
  rw [List.count_append, List.count_append, List.count_append, fields_signs i 44 (by decide), fields_signs i 40 (by decide), fields_signs i 41 (by decide), e, h.1, h.2.1, h.2.2]
  omega

/-! ### how many -/
def commasOf (op form : Int) : Int := if op = 4 ∨ form = 4 ∨ form = 5 ∨ form = 11 then 1 else if form = 1 ∨ form = 2 ∨ form = 9 then 1 else if form = 10 then 0 else 2
def openOf (op form : Int) : Int := if op = 4 ∨ form = 4 ∨ form = 5 ∨ form = 11 then 1 else if form = 12 then 1 else 0
theorem count_all : ∀ k : Fin 88, k.1 ≠ 0 → ((shapeS (k.1 : Nat)).count 44 : Int) = commasOf (k.1 : Nat) (formOf (k.1 : Nat)) ∧ ((shapeS (k.1 : Nat)).count 40 : Int) = openOf (k.1 : Nat) (formOf (k.1 : Nat)) ∧ ((shapeS (k.1 : Nat)).count 41 : Int) = openOf (k.1 : Nat) (formOf (k.1 : Nat)) := by decide +kernel
theorem text_counts (i : Ins) (hm : May i) : ((textL i).count 44 : Int) = commasOf i.op (formOf i.op) ∧ ((textL i).count 40 : Int) = openOf i.op (formOf i.op) ∧ ((textL i).count 41 : Int) = openOf i.op (formOf i.op) := by
  obtain ⟨h1, h2, h3⟩ := text_signs i hm
  obtain ⟨k, e, hk, hk0⟩ := hm.op
  have h := count_all ⟨k, hk⟩ hk0
  simp only at h
  rw [h1, h2, h3, e]; exact h

/-! ### how long -/
def weight (c : UInt8) : Nat := if c = 105 then 21 else if c = 109 then 5 else if c = 112 ∨ c = 115 then 5 else if c = 100 ∨ c = 49 ∨ c = 50 then 3 else 1
theorem reg_len (x : Int) (h0 : 0 ≤ x) (h1 : x ≤ 31) : (regL x).length ≤ 3 := by
  unfold regL
  rcases (by omega : x < 10 ∨ ¬ x < 10) with h | h
  · rw [Lib.decDigits_one (by omega)]; simp
  · rw [Lib.decDigits_two (by omega) (by omega)]; simp
theorem marks_len (aq rl : Bool) : (marksL aq rl).length ≤ 5 := by cases aq <;> cases rl <;> decide
theorem between_len (set : Int) : (betweenL set).length ≤ 5 := by
  unfold betweenL fenceL
  simp only [List.flatMap_cons, List.flatMap_nil, List.length_append]
  split <;> split <;> split <;> split <;> split <;> simp
theorem field_len (i : Ins) (hm : May i) (hi0 : -9223372036854775808 ≤ i.imm) (hi1 : i.imm ≤ 9223372036854775807) (c : UInt8) : (fieldL i c).length ≤ weight c := by
  unfold fieldL weight
  by_cases h1 : c = 100
  · subst h1; simpa using reg_len i.rd hm.rd.1 hm.rd.2.1
  by_cases h2 : c = 49
  · subst h2; simpa using reg_len i.rs1 hm.rs1.1 hm.rs1.2.1
  by_cases h3 : c = 50
  · subst h3; simpa using reg_len i.rs2 hm.rs2.1 hm.rs2.2.1
  by_cases h4 : c = 105
  · subst h4; simpa using Lib.itoa_length_le i.imm hi0 hi1
  by_cases h5 : c = 109
  · subst h5; simpa using marks_len i.aq i.rl
  by_cases h6 : c = 112
  · subst h6; simpa using between_len i.pred
  by_cases h7 : c = 115
  · subst h7; simpa using between_len i.succ
  simp [h1, h2, h3, h4, h5, h6, h7]
theorem fields_len (i : Ins) (hm : May i) (hi0 : -9223372036854775808 ≤ i.imm) (hi1 : i.imm ≤ 9223372036854775807) : ∀ cs : List UInt8, (cs.flatMap (fieldL i)).length ≤ (cs.map weight).sum
  | [] => by simp
  | c :: cs => by
    have h1 := field_len i hm hi0 hi1 c
    have h2 := fields_len i hm hi0 hi1 cs
    rw [List.flatMap_cons, List.length_append, List.map_cons, List.sum_cons]; omega
theorem weights : ∀ k : Fin 88, (nameOf (k.1 : Nat)).length + ((shapeS (k.1 : Nat)).map weight).sum ≤ 60 := by decide +kernel
theorem text_len (i : Ins) (hm : May i) (hi0 : -9223372036854775808 ≤ i.imm) (hi1 : i.imm ≤ 9223372036854775807) : (textL i).length ≤ 60 := by
  obtain ⟨k, e, hk, hk0⟩ := hm.op
  have h := weights ⟨k, hk⟩
  simp only at h
  have h2 := fields_len i hm hi0 hi1 (shapeS i.op)
  unfold textL
  rw [List.length_append, e] at *
  rw [e] at h2; omega

/-! ### what stands behind the name; how a text begins and ends -/
theorem head_count : ∀ k : Fin 88, k.1 ≠ 0 → (commasOf (k.1 : Nat) (formOf (k.1 : Nat)) = 0 → shapeS (k.1 : Nat) = []) ∧ (0 < commasOf (k.1 : Nat) (formOf (k.1 : Nat)) → shapeS (k.1 : Nat) ≠ []) ∧ (shapeS (k.1 : Nat) = [] → 109 ∉ shapeS (k.1 : Nat)) ∧ ((shapeS (k.1 : Nat)).head? = some 32 → 109 ∉ shapeS (k.1 : Nat)) := by decide +kernel
def behind (i : Ins) : List UInt8 := (shapeS i.op).flatMap (fieldL i)
theorem text_is (i : Ins) : textL i = nameOf i.op ++ behind i := rfl
theorem behind_head (i : Ins) (hm : May i) : (commasOf i.op (formOf i.op) = 0 → behind i = []) ∧ ((i.aq || i.rl) = true ↔ (behind i).head? = some 46) ∧ (0 < commasOf i.op (formOf i.op) → (i.aq || i.rl) = false → (behind i).head? = some 32) := by
  obtain ⟨k, e, hk, hk0⟩ := hm.op
  have h := head_count ⟨k, hk⟩ hk0
  have hh := head_all ⟨k, hk⟩
  simp only at h hh
  have hmk := hm.marks
  unfold behind
  rw [e] at hmk ⊢
  refine ⟨fun h0 => by rw [h.1 h0]; rfl, ?_⟩
  rcases hh with hh | hh | ⟨hh, h2⟩
  · have hz := hmk (by rw [hh]; simp)
    refine ⟨by rw [hh]; simp [hz], fun h0 => absurd hh (h.2.1 h0)⟩
  · have hz := hmk (h.2.2.2 hh)
    cases es : shapeS (k : Int) with
    | nil => rw [es] at hh; simp at hh
    | cons d cs =>
      rw [es] at hh
      simp at hh; subst hh
      rw [List.flatMap_cons, field_plain i 32 (by decide)]
      simp [hz]
  · cases es : shapeS (k : Int) with
    | nil => rw [es] at hh; simp at hh
    | cons d cs =>
      rw [es] at hh h2
      simp at hh h2; subst hh
      cases cs with
      | nil => simp at h2
      | cons d2 cs =>
        simp at h2; subst h2
        rw [List.flatMap_cons, List.flatMap_cons, field_plain i 32 (by decide)]
        have e9 : fieldL i 109 = marksL i.aq i.rl := by simp [fieldL]
        rw [e9]
        cases ha : i.aq <;> cases hr : i.rl <;> simp [marksL]
theorem name_head : ∀ k : Fin 88, k.1 ≠ 0 → (nameOf (k.1 : Nat)).head? ≠ some 32 ∧ nameOf (k.1 : Nat) ≠ [] := by decide +kernel
theorem text_head (i : Ins) (hm : May i) : (textL i).head? ≠ some 32 := by
  obtain ⟨k, e, hk, hk0⟩ := hm.op
  have h := name_head ⟨k, hk⟩ hk0
  simp only at h
  rw [text_is, e, List.head?_append]
  cases hn : nameOf (k : Int) with
  | nil => exact absurd hn h.2
  | cons c r => rw [hn] at h; simpa using h.1
theorem text_ne (i : Ins) (hm : May i) : textL i ≠ [] := by
  obtain ⟨k, e, hk, hk0⟩ := hm.op
  have h := (name_head ⟨k, hk⟩ hk0).2
  simp only at h
  rw [text_is, e]; intro h2; exact h (List.append_eq_nil_iff.1 h2).1
theorem last_all : ∀ k : Fin 88, k.1 ≠ 0 → ((shapeS (k.1 : Nat)).getLast? = none ∧ (nameOf (k.1 : Nat)).getLast? ≠ some 32) ∨ (shapeS (k.1 : Nat)).getLast? = some 105 ∨ (shapeS (k.1 : Nat)).getLast? = some 41 ∨ (shapeS (k.1 : Nat)).getLast? = some 50 ∨ (shapeS (k.1 : Nat)).getLast? = some 115 := by decide +kernel
theorem field_last (i : Ins) (hm : May i) (c : UInt8) (h : c = 105 ∨ c = 41 ∨ c = 50 ∨ c = 115) : fieldL i c ≠ [] ∧ (32 : UInt8) ∉ fieldL i c := by
  rcases h with rfl | rfl | rfl | rfl
  · have e : fieldL i 105 = Lib.itoa i.imm := by simp [fieldL]
    rw [e]
    refine ⟨?_, fun h => (sign_cut 32 (cut_mem 32 (itoa_cut _ _ h))).2.1 rfl⟩
    unfold Lib.itoa; split
    · simp
    · exact dec_ne _
  · simp [fieldL]
  · have e : fieldL i 50 = regL i.rs2 := by simp [fieldL]
    rw [e]
    refine ⟨by simp [regL], fun h => ?_⟩
    unfold regL at h
    rcases List.mem_cons.1 h with h | h
    · simp at h
    · exact (sign_cut 32 (cut_mem 32 (dec_cut _ _ h))).2.1 rfl
  · have e : fieldL i 115 = betweenL i.succ := by simp [fieldL]
    rw [e]
    refine ⟨?_, fun h => by have := between_mem _ _ h; simp at this⟩
    have h0 := hm.succ.1; have h1 := hm.succ.2.1
    have hs : i.succ = 0 ∨ i.succ = 1 ∨ i.succ = 2 ∨ i.succ = 3 ∨ i.succ = 4 ∨ i.succ = 5 ∨ i.succ = 6 ∨ i.succ = 7 ∨ i.succ = 8 ∨ i.succ = 9 ∨ i.succ = 10 ∨ i.succ = 11 ∨ i.succ = 12 ∨ i.succ = 13 ∨ i.succ = 14 ∨ i.succ = 15 := by omega
    rcases hs with hs | hs | hs | hs | hs | hs | hs | hs | hs | hs | hs | hs | hs | hs | hs | hs <;> rw [hs] <;> decide
theorem last_flat (i : Ins) (hm : May i) (c : UInt8) (hc : c = 105 ∨ c = 41 ∨ c = 50 ∨ c = 115) (cs : List UInt8) (h : cs.getLast? = some c) : (cs.flatMap (fieldL i)).getLast? ≠ some 32 ∧ cs.flatMap (fieldL i) ≠ [] := by
  obtain ⟨r, rfl⟩ : ∃ r, cs = r ++ [c] := List.getLast?_eq_some_iff.1 h
  obtain ⟨f1, f2⟩ := field_last i hm c hc
  rw [List.flatMap_append]
  have e : List.flatMap (fieldL i) [c] = fieldL i c := by simp
  rw [e]
  refine ⟨?_, by simp [f1]⟩
  rw [List.getLast?_append]
  cases h2 : (fieldL i c).getLast? with
  | none => rw [List.getLast?_eq_none_iff] at h2; exact absurd h2 f1
  | some d =>
    intro h3
    simp at h3; subst h3
    exact f2 (List.mem_of_getLast? h2)
theorem text_last (i : Ins) (hm : May i) : (textL i).getLast? ≠ some 32 := by
  obtain ⟨k, e, hk, hk0⟩ := hm.op
  have h := last_all ⟨k, hk⟩ hk0
  simp only at h
  rw [text_is]
  unfold behind
  rw [e, List.getLast?_append]
  rcases h with ⟨h, h2⟩ | h
  · rw [List.getLast?_eq_none_iff] at h
    rw [h]; simpa using h2
  · obtain ⟨c, hc, hl⟩ : ∃ c : UInt8, (c = 105 ∨ c = 41 ∨ c = 50 ∨ c = 115) ∧ (shapeS (k : Int)).getLast? = some c := by
      rcases h with h | h | h | h
      · exact ⟨_, Or.inl rfl, h⟩
      · exact ⟨_, Or.inr (Or.inl rfl), h⟩
      · exact ⟨_, Or.inr (Or.inr (Or.inl rfl)), h⟩
      · exact ⟨_, Or.inr (Or.inr (Or.inr rfl)), h⟩
    obtain ⟨g1, g2⟩ := last_flat i hm c hc _ hl
    cases h2 : ((shapeS (k : Int)).flatMap (fieldL i)).getLast? with
    | none => rw [List.getLast?_eq_none_iff] at h2; exact absurd h2 g2
    | some d => rw [h2] at g1; simpa using g1
end Go.Proofs.YtplneijbhmhmoaaGreatDoor
