/-
  Plain facts on the chapter's texts of instructions: read back, the text of an instruction that may be is that instruction; how such a text begins and ends. Condition: its number is of 64 bits. No Go text is named.
-/
import Derived.Test.YtbchecnidiiddaaGreatDoorInsnRound
namespace Go.Proofs.YtbchecnidiiddaaGreatDoor

/-! ### what may be -/
theorem hasB_mem (s : List UInt8) (c : UInt8) : hasB s c = true ↔ c ∈ s := by
  unfold hasB
  induction s with
  | nil => simp [Lib.indexByte]
  | cons b s ih =>
    have hg := Lib.indexByte_ge s c
    rw [Lib.indexByte]
    by_cases h : b = c
    · simp [h]
    · have h' : (b == c) = false := by simpa using h
      rw [h']
      simp only [Bool.false_eq_true, if_false, List.mem_cons]
      by_cases h2 : Lib.indexByte s c = -1
      · have : (Lib.indexByte s c == -1) = true := by simp [h2]
        rw [this]
        simp [h2] at ih ⊢
        exact ⟨fun e => h e.symm, ih⟩
      · have : (Lib.indexByte s c == -1) = false := by simpa using h2
        rw [this]
        simp only [Bool.false_eq_true, if_false, decide_eq_true_eq]
        have e1 : (0 ≤ Lib.indexByte s c) ↔ c ∈ s := by simpa using ih
        constructor
        · intro _; exact Or.inr (e1.1 (by omega))
        · rintro (e | e)
          · exact absurd e.symm h
          · have := e1.2 e; omega
theorem upTo_fact {s : List UInt8} {last x : Int} {c : UInt8} (h : upToB s last c x = true) (hl : 0 ≤ last) : 0 ≤ x ∧ x ≤ last ∧ (¬ c ∈ s → x = 0) := by
  unfold upToB at h
  simp only [Bool.or_eq_true, Bool.and_eq_true, decide_eq_true_eq, hasB_mem] at h
  rcases h with h | ⟨⟨h1, h2⟩, h3⟩
  · subst h; exact ⟨by omega, hl, fun _ => rfl⟩
  · exact ⟨by omega, h3, fun h => absurd h1 h⟩
theorem op_in (op : Int) (h : formOf op ≠ 0) : ∃ k : Nat, op = (k : Int) ∧ k < 88 ∧ k ≠ 0 := by
  rcases (by omega : op < 0 ∨ 88 ≤ op ∨ op = 0 ∨ (0 < op ∧ op < 88)) with h1 | h1 | h1 | h1
  · exact absurd (by unfold formOf; rw [row_none op (Or.inl h1)]; rfl) h
  · exact absurd (by unfold formOf; rw [row_none op (Or.inr h1)]; rfl) h
  · subst h1; exact absurd (by decide +kernel) h
  · exact ⟨op.toNat, by omega, by omega, by omega⟩
theorem form_in : ∀ k : Fin 88, k.1 ≠ 0 → formOf (k.1 : Nat) ≠ 0 := by decide +kernel
theorem no_imm : ∀ k : Fin 88, (105 : UInt8) ∉ shapeS (k.1 : Nat) → formOf (k.1 : Nat) < 1 ∨ 7 < formOf (k.1 : Nat) := by decide +kernel
structure May (i : Ins) : Prop where
  op : ∃ k : Nat, i.op = (k : Int) ∧ k < 88 ∧ k ≠ 0
  rd : 0 ≤ i.rd ∧ i.rd ≤ 31 ∧ (¬ 100 ∈ shapeS i.op → i.rd = 0)
  rs1 : 0 ≤ i.rs1 ∧ i.rs1 ≤ 31 ∧ (¬ 49 ∈ shapeS i.op → i.rs1 = 0)
  rs2 : 0 ≤ i.rs2 ∧ i.rs2 ≤ 31 ∧ (¬ 50 ∈ shapeS i.op → i.rs2 = 0)
  pred : 0 ≤ i.pred ∧ i.pred ≤ 15 ∧ (¬ 112 ∈ shapeS i.op → i.pred = 0)
  succ : 0 ≤ i.succ ∧ i.succ ≤ 15 ∧ (¬ 115 ∈ shapeS i.op → i.succ = 0)
  marks : ¬ 109 ∈ shapeS i.op → i.aq = false ∧ i.rl = false
  imm : goodB i.op (formOf i.op) i.imm = true
  imm0 : ¬ 105 ∈ shapeS i.op → i.imm = 0
theorem may_of (i : Ins) (h : i.ok = true) : May i := by
  unfold Ins.ok checkB partsB at h
  simp only [Bool.and_eq_true, decide_eq_true_eq, List.all_cons, List.all_nil, id_eq, and_true] at h
  obtain ⟨hf, h1, h2, h3, h4, h5, h6, h7⟩ := h
  obtain ⟨k, hk, hk2, hk3⟩ := op_in i.op hf
  refine ⟨⟨k, hk, hk2, hk3⟩, upTo_fact h1 (by omega), upTo_fact h2 (by omega), upTo_fact h3 (by omega), upTo_fact h4 (by omega), upTo_fact h5 (by omega), fun hm => ?_, h7, fun hm => ?_⟩
  · simp only [Bool.or_eq_true, hasB_mem, Bool.and_eq_true, Bool.not_eq_true'] at h6
    rcases h6 with h6 | h6
    · exact absurd h6 hm
    · exact h6
  · rw [hk] at hm h7
    have hn := no_imm ⟨k, hk2⟩ hm
    simp only at hn
    unfold goodB at h7
    rw [if_neg (by omega), if_neg (by omega), if_neg (by omega), if_neg (by omega), if_neg (by omega), if_neg (by omega), if_neg (by omega)] at h7
    simpa using h7

/-! ### there and back -/
def setF (i : Ins) (j : Ins) (c : UInt8) : Ins :=
  if c = 100 then { j with rd := i.rd } else if c = 49 then { j with rs1 := i.rs1 } else if c = 50 then { j with rs2 := i.rs2 } else if c = 105 then { j with imm := i.imm }
  else if c = 109 then { j with aq := i.aq, rl := i.rl } else if c = 112 then { j with pred := i.pred } else if c = 115 then { j with succ := i.succ } else j
def plainC (c : UInt8) : Bool := c != 100 && c != 49 && c != 50 && c != 105 && c != 109 && c != 112 && c != 115
def nextB (c : UInt8) (cs : List UInt8) : Bool :=
  if c = 100 || c = 49 || c = 50 || c = 105 then (match cs with | [] => true | d :: _ => plainC d && !cutL.contains d)
  else if c = 109 then (match cs with | [] => false | d :: _ => d == 32)
  else if c = 112 || c = 115 then (match cs with | [] => true | d :: _ => d == 44) else true
def chainB : List UInt8 → Bool
  | [] => true
  | c :: cs => nextB c cs && chainB cs
theorem chain_all : ∀ k : Fin 88, chainB (shapeS (k.1 : Nat)) = true := by decide +kernel
theorem field_plain (i : Ins) (c : UInt8) (h : plainC c = true) : fieldL i c = [c] := by
  unfold plainC at h
  simp only [Bool.and_eq_true, bne_iff_ne, ne_eq] at h
  unfold fieldL
  simp [h]
theorem apart_of (i : Ins) (d : UInt8) (cs : List UInt8) (h1 : plainC d = true) (h2 : cutL.contains d = false) : apart ((d :: cs).flatMap (fieldL i)) := by
  intro c hc
  rw [List.flatMap_cons, field_plain i d h1] at hc
  simp at hc
  subst hc; exact h2
theorem fieldR_app (i j : Ins) (c : UInt8) (cs : List UInt8) (hm : May i) (hi0 : -9223372036854775808 ≤ i.imm) (hi1 : i.imm ≤ 9223372036854775807) (hn : nextB c cs = true) :
    fieldR (j, fieldL i c ++ cs.flatMap (fieldL i)) c = (setF i j c, cs.flatMap (fieldL i)) := by
  by_cases hr : c = 100 ∨ c = 49 ∨ c = 50 ∨ c = 105
  · have ht : apart (cs.flatMap (fieldL i)) := by
      unfold nextB at hn
      rw [if_pos (by rcases hr with rfl | rfl | rfl | rfl <;> decide)] at hn
      cases cs with
      | nil => intro c hc; simp at hc
      | cons d cs =>
        simp only [Bool.and_eq_true, Bool.not_eq_true'] at hn
        exact apart_of i d cs hn.1 hn.2
    rcases hr with rfl | rfl | rfl | rfl
    · have := reg_app i.rd hm.rd.1 hm.rd.2.1 _ ht
      simp [fieldR, fieldL, setF, this]
    · have := reg_app i.rs1 hm.rs1.1 hm.rs1.2.1 _ ht
      simp [fieldR, fieldL, setF, this]
    · have := reg_app i.rs2 hm.rs2.1 hm.rs2.2.1 _ ht
      simp [fieldR, fieldL, setF, this]
    · have := num_app i.imm hi0 hi1 _ ht
      simp [fieldR, fieldL, setF, this]
  · by_cases h9 : c = 109
    · subst h9
      obtain ⟨r, e⟩ : ∃ r, cs.flatMap (fieldL i) = 32 :: r := by
        cases cs with
        | nil => simp [nextB] at hn
        | cons d cs =>
          have hd : d = 32 := by simpa [nextB] using hn
          subst hd
          exact ⟨cs.flatMap (fieldL i), by rw [List.flatMap_cons, field_plain i 32 (by decide)]; rfl⟩
      have := marks_app i.aq i.rl r
      rw [e]
      simp [fieldR, fieldL, setF, this]
    · by_cases hp : c = 112 ∨ c = 115
      · have ht : apartF (cs.flatMap (fieldL i)) := by
          unfold nextB at hn
          rw [if_neg (by rcases hp with rfl | rfl <;> decide), if_neg (by rcases hp with rfl | rfl <;> decide), if_pos (by rcases hp with rfl | rfl <;> decide)] at hn
          cases cs with
          | nil => exact Or.inl rfl
          | cons d cs =>
            have hd : d = 44 := by simpa using hn
            subst hd
            exact Or.inr ⟨cs.flatMap (fieldL i), by rw [List.flatMap_cons, field_plain i 44 (by decide)]; rfl⟩
        rcases hp with rfl | rfl
        · have := between_app i.pred hm.pred.1 hm.pred.2.1 _ ht
          simp [fieldR, fieldL, setF, this]
        · have := between_app i.succ hm.succ.1 hm.succ.2.1 _ ht
          simp [fieldR, fieldL, setF, this]
      · have h1 : ¬ c = 100 := fun h => hr (by simp [h])
        have h2 : ¬ c = 49 := fun h => hr (by simp [h])
        have h3 : ¬ c = 50 := fun h => hr (by simp [h])
        have h4 : ¬ c = 105 := fun h => hr (by simp [h])
        have h5 : ¬ c = 112 := fun h => hp (by simp [h])
        have h6 : ¬ c = 115 := fun h => hp (by simp [h])
        have e : fieldL i c = [c] := field_plain i c (by unfold plainC; simp [h1, h2, h3, h4, h5, h6, h9])
        rw [e]
        have e2 := trim_one c (cs.flatMap (fieldL i))
        simp [fieldR, setF, h1, h2, h3, h4, h5, h6, h9, e2]
theorem fields_back (i : Ins) (hm : May i) (hi0 : -9223372036854775808 ≤ i.imm) (hi1 : i.imm ≤ 9223372036854775807) : ∀ (cs : List UInt8) (j : Ins), chainB cs = true →
    cs.foldl fieldR (j, cs.flatMap (fieldL i)) = (cs.foldl (setF i) j, [])
  | [], _, _ => rfl
  | c :: cs, j, h => by
    simp only [chainB, Bool.and_eq_true] at h
    rw [List.flatMap_cons, List.foldl_cons, List.foldl_cons, fieldR_app i j c cs hm hi0 hi1 h.1]
    exact fields_back i hm hi0 hi1 cs _ h.2
theorem set_all (i : Ins) : ∀ (cs : List UInt8) (j : Ins), cs.foldl (setF i) j =
    ⟨j.op, if 100 ∈ cs then i.rd else j.rd, if 49 ∈ cs then i.rs1 else j.rs1, if 50 ∈ cs then i.rs2 else j.rs2, if 105 ∈ cs then i.imm else j.imm, if 109 ∈ cs then i.aq else j.aq, if 109 ∈ cs then i.rl else j.rl, if 112 ∈ cs then i.pred else j.pred, if 115 ∈ cs then i.succ else j.succ⟩
  | [], j => by simp
  | c :: cs, j => by
    rw [List.foldl_cons, set_all i cs]
    unfold setF
    by_cases h1 : c = 100
    · subst h1; simp
    by_cases h2 : c = 49
    · subst h2; simp
    by_cases h3 : c = 50
    · subst h3; simp
    by_cases h4 : c = 105
    · subst h4; simp
    by_cases h5 : c = 109
    · subst h5; simp
    by_cases h6 : c = 112
    · subst h6; simp
    by_cases h7 : c = 115
    · subst h7; simp
    simp [h1, h2, h3, h4, h5, h6, h7, Ne.symm h1, Ne.symm h2, Ne.symm h3, Ne.symm h4, Ne.symm h5, Ne.symm h6, Ne.symm h7]
theorem set_back (i : Ins) (hm : May i) : (shapeS i.op).foldl (setF i) (Ins.none i.op) = i := by
  rw [set_all]
  have a1 := hm.rd.2.2; have a2 := hm.rs1.2.2; have a3 := hm.rs2.2.2; have a4 := hm.pred.2.2; have a5 := hm.succ.2.2; have a6 := hm.marks; have a7 := hm.imm0
  obtain ⟨op, rd, rs1, rs2, imm, aq, rl, pred, succ⟩ := i
  simp only at a1 a2 a3 a4 a5 a6 a7 ⊢
  unfold Ins.none
  congr 1
  · split
    · rfl
    · rename_i h; exact (a1 h).symm
  · split
    · rfl
    · rename_i h; exact (a2 h).symm
  · split
    · rfl
    · rename_i h; exact (a3 h).symm
  · split
    · rfl
    · rename_i h; exact (a7 h).symm
  · split
    · rfl
    · rename_i h; exact (a6 h).1.symm
  · split
    · rfl
    · rename_i h; exact (a6 h).2.symm
  · split
    · rfl
    · rename_i h; exact (a4 h).symm
  · split
    · rfl
    · rename_i h; exact (a5 h).symm
theorem head_all : ∀ k : Fin 88, shapeS (k.1 : Nat) = [] ∨ (shapeS (k.1 : Nat)).head? = some 32 ∨ ((shapeS (k.1 : Nat)).head? = some 109 ∧ (shapeS (k.1 : Nat)).tail.head? = some 32) := by decide +kernel
theorem tail_fields (i : Ins) (k : Nat) (hk : k < 88) : tailed ((shapeS (k : Int)).flatMap (fieldL i)) := by
  have h := head_all ⟨k, hk⟩
  simp only at h
  intro c hc
  rcases h with h | h | ⟨h, h2⟩
  · rw [h] at hc; simp at hc
  · cases e : shapeS (k : Int) with
    | nil => rw [e] at h; simp at h
    | cons d cs =>
      rw [e] at h hc
      simp at h; subst h
      rw [List.flatMap_cons, field_plain i 32 (by decide)] at hc
      simp at hc; exact Or.inl hc.symm
  · cases e : shapeS (k : Int) with
    | nil => rw [e] at h; simp at h
    | cons d cs =>
      rw [e] at h h2 hc
      simp at h h2; subst h
      cases cs with
      | nil => simp at h2
      | cons d2 cs =>
        simp at h2; subst h2
        rw [List.flatMap_cons, List.flatMap_cons, field_plain i 32 (by decide)] at hc
        have e9 : fieldL i 109 = marksL i.aq i.rl := by simp [fieldL]
        rw [e9] at hc
        cases ha : i.aq <;> cases hr : i.rl <;> simp [ha, hr, marksL] at hc <;> simp [← hc]
theorem back (i : Ins) (h : i.ok = true) (hi0 : -9223372036854775808 ≤ i.imm) (hi1 : i.imm ≤ 9223372036854775807) : readL (textL i) = i := by
  have hm := may_of i h
  obtain ⟨k, e, hk, hk0⟩ := hm.op
  unfold readL textL
  have ho := opS_app k hk hk0 _ (tail_fields i k hk)
  rw [e, ho]
  simp only
  rw [trim_app, fields_back i hm hi0 hi1 _ _ (chain_all ⟨k, hk⟩)]
  simp only
  rw [← e]
  exact set_back i hm
end Go.Proofs.YtbchecnidiiddaaGreatDoor
