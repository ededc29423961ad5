/-
  Plain facts on the chapter's words of instructions: how a word is made of an instruction, field by field, how it is read, and that what is made is read back. No condition beside that its number is of 64 bits; no Go text is named.
-/
import Derived.Test.YtbchecnidiiddaaGreatDoorInsnBackPlain
namespace Go.Proofs.YtbchecnidiiddaaGreatDoor
/-- a span: a word's bit, how many, a number's bit -/
abbrev Sp := Nat × Nat × Nat
def inS (v : BitVec 64) : List Sp → BitVec 64 → BitVec 64
  | [], b => b
  | s :: l, b => inS v l (put b s.1 s.2.1 (part v s.2.2 s.2.1))
def outS (b : BitVec 64) : List Sp → BitVec 64 → BitVec 64
  | [], v => v
  | s :: l, v => outS b l (put v s.2.2 s.2.1 (part b s.1 s.2.1))
/-- the number's bit that a word's bit is -/
def srcS : List Sp → Nat → Option Nat
  | [], _ => none
  | s :: l, j => match srcS l j with
    | some x => some x
    | none => if s.1 ≤ j ∧ j < s.1 + s.2.1 then some (s.2.2 + (j - s.1)) else none
/-- the word's bit that a number's bit is -/
def dstS : List Sp → Nat → Option Nat
  | [], _ => none
  | s :: l, x => match dstS l x with
    | some j => some j
    | none => if s.2.2 ≤ x ∧ x < s.2.2 + s.2.1 then some (s.1 + (x - s.2.2)) else none
theorem bit_inS (v : BitVec 64) : ∀ (l : List Sp) (b : BitVec 64) (j : Nat), j < 64 → (inS v l b).getLsbD j = match srcS l j with | some x => v.getLsbD x | none => b.getLsbD j := by
  intro l
  induction l with
  | nil => intro b j _; rfl
  | cons s l ih =>
    intro b j hj
    show (inS v l (put b s.1 s.2.1 (part v s.2.2 s.2.1))).getLsbD j = _
    rw [ih _ j hj]
    show _ = match (match srcS l j with | some x => some x | none => if s.1 ≤ j ∧ j < s.1 + s.2.1 then some (s.2.2 + (j - s.1)) else none) with | some x => v.getLsbD x | none => b.getLsbD j
    cases srcS l j with
    | some x => rfl
    | none =>
      show (put b s.1 s.2.1 (part v s.2.2 s.2.1)).getLsbD j = _
      rw [bit_put _ _ _ _ _ hj]
      by_cases h : s.1 ≤ j ∧ j < s.1 + s.2.1
      · rw [if_pos h, if_pos h, bit_part]
        have : decide (j - s.1 < s.2.1) = true := by simp; omega
        rw [this, Bool.and_true]
      · rw [if_neg h, if_neg h]
theorem bit_outS (b : BitVec 64) : ∀ (l : List Sp) (v : BitVec 64) (x : Nat), x < 64 → (outS b l v).getLsbD x = match dstS l x with | some j => b.getLsbD j | none => v.getLsbD x := by
  intro l
  induction l with
  | nil => intro b j _; rfl
  | cons s l ih =>
    intro v x hx
    show (outS b l (put v s.2.2 s.2.1 (part b s.1 s.2.1))).getLsbD x = _
    rw [ih _ x hx]
    show _ = match (match dstS l x with | some j => some j | none => if s.2.2 ≤ x ∧ x < s.2.2 + s.2.1 then some (s.1 + (x - s.2.2)) else none) with | some j => b.getLsbD j | none => v.getLsbD x
    cases dstS l x with
    | some x => rfl
    | none =>
      show (put v s.2.2 s.2.1 (part b s.1 s.2.1)).getLsbD x = _
      rw [bit_put _ _ _ _ _ hx]
      by_cases h : s.2.2 ≤ x ∧ x < s.2.2 + s.2.1
      · rw [if_pos h, if_pos h, bit_part]
        have : decide (x - s.2.2 < s.2.1) = true := by simp; omega
        rw [this, Bool.and_true]
      · rw [if_neg h, if_neg h]

/-! ### the kinds of fields: 0 rd, 1 rs1, 2 rs2, 3 I, 4 Store, 5 U, 6 B, 7 J, 8 Shift, 9 pred, 10 succ, 11 aq, 12 rl -/
def spansK : Nat → List Sp
  | 0 => [(7, 5, 0)]
  | 1 => [(15, 5, 0)]
  | 2 => [(20, 5, 0)]
  | 3 => [(20, 12, 0)]
  | 4 => [(25, 7, 5), (7, 5, 0)]
  | 5 => [(12, 20, 0)]
  | 6 => [(31, 1, 12), (25, 6, 5), (8, 4, 1), (7, 1, 11)]
  | 7 => [(31, 1, 20), (21, 10, 1), (20, 1, 11), (12, 8, 12)]
  | 8 => [(20, 6, 0)]
  | 9 => [(24, 4, 0)]
  | 10 => [(20, 4, 0)]
  | 11 => [(26, 1, 0)]
  | _ => [(25, 1, 0)]
/-- the bits of a kind's number, of a signed one -/
def wideK : Nat → Nat
  | 3 => 12
  | 4 => 12
  | 5 => 20
  | 6 => 13
  | _ => 21
def B (x : Int) : BitVec 64 := BitVec.ofInt 64 x
def flagV (b : Bool) : BitVec 64 := if b then 1 else 0
def valK (k : Nat) (i : Ins) : BitVec 64 :=
  match k with
  | 0 => B i.rd | 1 => B i.rs1 | 2 => B i.rs2 | 9 => B i.pred | 10 => B i.succ | 11 => flagV i.aq | 12 => flagV i.rl | _ => B i.imm
def setK (k : Nat) (i : Ins) (v : BitVec 64) : Ins :=
  match k with
  | 0 => { i with rd := S v } | 1 => { i with rs1 := S v } | 2 => { i with rs2 := S v } | 9 => { i with pred := S v } | 10 => { i with succ := S v }
  | 11 => { i with aq := v == 1 } | 12 => { i with rl := v == 1 } | 8 => { i with imm := S v }
  | k => { i with imm := S (sign v (wideK k)) }
def kindsF : Nat → List Nat
  | 1 => [0, 5]
  | 2 => [0, 7]
  | 3 => [0, 1, 3]
  | 4 => [0, 1, 3]
  | 5 => [1, 2, 4]
  | 6 => [1, 2, 6]
  | 7 => [0, 1, 8]
  | 8 => [0, 1, 2]
  | 9 => [9, 10]
  | 11 => [0, 1, 11, 12]
  | 12 => [0, 1, 2, 11, 12]
  | _ => []
/-- a field carried in, carried out -/
def inK (i : Ins) (b : BitVec 64) (k : Nat) : BitVec 64 := inS (valK k i) (spansK k) b
def outK (b : BitVec 64) (i : Ins) (k : Nat) : Ins := setK k i (outS b (spansK k) (valK k i))

/-! ### parts: opcode, funct3, top -/
abbrev Pt := Nat × Nat × Nat
def codesL : List Pt := [(0, 0, 0),
  (55, 0, 0), (23, 0, 0), (111, 0, 0), (103, 0, 0), (99, 0, 0), (99, 1, 0), (99, 4, 0), (99, 5, 0), (99, 6, 0), (99, 7, 0),
  (3, 0, 0), (3, 1, 0), (3, 2, 0), (3, 3, 0), (3, 4, 0), (3, 5, 0), (3, 6, 0), (35, 0, 0), (35, 1, 0), (35, 2, 0), (35, 3, 0),
  (19, 0, 0), (19, 2, 0), (19, 3, 0), (19, 4, 0), (19, 6, 0), (19, 7, 0), (19, 1, 0), (19, 5, 0), (19, 5, 16), (27, 0, 0), (27, 1, 0), (27, 5, 0), (27, 5, 32),
  (51, 0, 0), (51, 0, 32), (51, 1, 0), (51, 2, 0), (51, 3, 0), (51, 4, 0), (51, 5, 0), (51, 5, 32), (51, 6, 0), (51, 7, 0), (59, 0, 0), (59, 0, 32), (59, 1, 0), (59, 5, 0), (59, 5, 32),
  (51, 0, 1), (51, 1, 1), (51, 2, 1), (51, 3, 1), (51, 4, 1), (51, 5, 1), (51, 6, 1), (51, 7, 1), (59, 0, 1), (59, 4, 1), (59, 5, 1), (59, 6, 1), (59, 7, 1),
  (15, 0, 0), (115, 0, 0), (115, 0, 1), (47, 2, 2), (47, 3, 2), (47, 2, 3), (47, 3, 3),
  (47, 2, 1), (47, 2, 0), (47, 2, 4), (47, 2, 12), (47, 2, 8), (47, 2, 16), (47, 2, 20), (47, 2, 24), (47, 2, 28),
  (47, 3, 1), (47, 3, 0), (47, 3, 4), (47, 3, 12), (47, 3, 8), (47, 3, 16), (47, 3, 20), (47, 3, 24), (47, 3, 28)]
theorem codes_len : codesL.length = 88 := by decide +kernel
def hasF (c : Nat) : Bool := !(c == 55 || c == 23 || c == 111)
def topF (c f : Nat) : Nat :=
  if c = 115 then 20 else if c = 51 ∨ c = 59 ∨ (c = 27 ∧ (f = 1 ∨ f = 5)) then 25 else if c = 19 ∧ (f = 1 ∨ f = 5) then 26 else if c = 47 then 27 else 32
def funF (w : BitVec 64) : Nat := if hasF (low w 7).toNat then (part w 12 3).toNat else 0
def topN (w : BitVec 64) : Nat := topF (low w 7).toNat (funF w)
def splitL (w : BitVec 64) : Pt := ((low w 7).toNat, funF w, (part w (topN w) (32 - topN w)).toNat)
def bareP (p : Pt) : BitVec 64 := BitVec.ofNat 64 p.1 ||| (BitVec.ofNat 64 p.2.1 <<< 12) ||| (BitVec.ofNat 64 p.2.2 <<< topF p.1 p.2.1)
def codeOf (op : Nat) : Pt := codesL.getD op (0, 0, 0)
theorem codes_apart : ∀ j k : Fin 88, codeOf j.1 = codeOf k.1 → j = k := by decide +kernel
/-- the op whose parts these are -/
def opP (p : Pt) : Nat := ((List.range 88).find? fun k => decide (k ≠ 0 ∧ codeOf k = p)).getD 0
theorem opP_code (k : Fin 88) (h : k.1 ≠ 0) : opP (codeOf k.1) = k.1 := by
  unfold opP
  have hm : ((List.range 88).find? fun x => decide (x ≠ 0 ∧ codeOf x = codeOf k.1)) = some k.1 := by
    cases hf : (List.range 88).find? fun x => decide (x ≠ 0 ∧ codeOf x = codeOf k.1) with
    | none =>
      have := List.find?_eq_none.1 hf k.1 (by simp)
      simp [h] at this
    | some x =>
      have h1 := List.find?_some hf
      have h2 : x < 88 := by have := List.mem_of_find?_eq_some hf; simpa using this
      simp only [ne_eq, decide_eq_true_eq] at h1
      have := codes_apart ⟨x, h2⟩ k h1.2
      rw [← this]
  rw [hm]; rfl
theorem opP_lt (p : Pt) : opP p < 88 := by
  unfold opP
  cases hf : (List.range 88).find? fun k => decide (k ≠ 0 ∧ codeOf k = p) with
  | none => decide
  | some x => have := List.mem_of_find?_eq_some hf; simpa using this
theorem opP_is (p : Pt) (h : opP p ≠ 0) : codeOf (opP p) = p := by
  unfold opP at h ⊢
  cases hf : (List.range 88).find? fun k => decide (k ≠ 0 ∧ codeOf k = p) with
  | none => rw [hf] at h; exact absurd rfl h
  | some x => have := List.find?_some hf; simp only [ne_eq, decide_eq_true_eq] at this; exact this.2

/-! ### the word of an instruction, the instruction of a word -/
def formN (op : Int) : Nat := (formOf op).toNat
def wordL (i : Ins) : BitVec 64 := (kindsF (formN i.op)).foldl (inK i) (bareP (codeOf i.op.toNat))
def readW (w : BitVec 64) : Ins := (kindsF (formN (opP (splitL w)))).foldl (outK w) (Ins.none (opP (splitL w)))

/-- the field and its bit that a word's bit is -/
def srcF : List Nat → Nat → Option (Nat × Nat)
  | [], _ => none
  | k :: l, j => match srcF l j with
    | some x => some x
    | none => (srcS (spansK k) j).map fun x => (k, x)
theorem bit_fold (i : Ins) : ∀ (l : List Nat) (b : BitVec 64) (j : Nat), j < 64 → (l.foldl (inK i) b).getLsbD j = match srcF l j with | some (k, x) => (valK k i).getLsbD x | none => b.getLsbD j := by
  intro l
  induction l with
  | nil => intro b j _; rfl
  | cons k l ih =>
    intro b j hj
    rw [List.foldl_cons, ih _ j hj]
    show _ = match (match srcF l j with | some x => some x | none => (srcS (spansK k) j).map fun x => (k, x)) with | some (k, x) => (valK k i).getLsbD x | none => b.getLsbD j
    cases srcF l j with
    | some x => rfl
    | none =>
      show (inK i b k).getLsbD j = _
      unfold inK
      rw [bit_inS _ _ _ j hj]
      cases srcS (spansK k) j with
      | some x => rfl
      | none => rfl
/-- where a form's fields stand: each bit of each field's number is found; none stands where the op's parts stand -/
def backB (f k : Nat) : Bool := (List.range 64).all fun x => match dstS (spansK k) x with
  | some j => decide (j < 64) && decide (srcF (kindsF f) j = some (k, x))
  | none => true
theorem back_all : ∀ f : Fin 13, (kindsF f.1).all (backB f.1) = true := by decide +kernel
def freeB (op : Nat) : Bool := (List.range 64).all fun j =>
  !(decide (j < 7) || (decide (12 ≤ j ∧ j < 15) && hasF (codeOf op).1) || decide (topF (codeOf op).1 (codeOf op).2.1 ≤ j)) || (if 32 ≤ op ∧ op ≤ 34 ∧ j = 25 then decide (srcF (kindsF (formN op)) j = some (8, 5)) && !(bareP (codeOf op)).getLsbD j else decide (srcF (kindsF (formN op)) j = none))
theorem free_all : ∀ op : Fin 88, op.1 ≠ 0 → freeB op.1 = true := by decide +kernel
def bareB (op : Nat) : Bool := decide (splitL (bareP (codeOf op)) = codeOf op) && (List.range 64).all fun j => decide (j < 32) || !(bareP (codeOf op)).getLsbD j
theorem bare_all : ∀ op : Fin 88, op.1 ≠ 0 → bareB op.1 = true := by decide +kernel
/-! ### what is made is read back -/
structure Fair (i : Ins) : Prop where
  may : May i
  i0 : -9223372036854775808 ≤ i.imm
  i1 : i.imm ≤ 9223372036854775807
theorem S_B (x : Int) (h0 : -9223372036854775808 ≤ x) (h1 : x ≤ 9223372036854775807) : S (B x) = x := by
  unfold S B; rw [BitVec.toInt_ofInt, Int.bmod_def]; omega
theorem bit_small (x : Int) (n j : Nat) (h0 : 0 ≤ x) (h1 : x < 2 ^ n) (hj : n ≤ j) : (B x).getLsbD j = false := by
  obtain ⟨m, rfl⟩ := Int.eq_ofNat_of_zero_le h0
  unfold B
  have h2 : m < 2 ^ n := by exact_mod_cast h1
  rw [BitVec.ofInt_natCast, BitVec.getLsbD_ofNat]
  have : m.testBit j = false := Nat.testBit_lt_two_pow (Nat.lt_of_lt_of_le h2 (Nat.pow_le_pow_right (by omega) hj))
  rw [this, Bool.and_false]
theorem op_form (i : Ins) (h : May i) : ∃ k : Fin 88, k.1 ≠ 0 ∧ i.op = (k.1 : Nat) ∧ i.op.toNat = k.1 := by
  obtain ⟨k, h1, h2, h3⟩ := h.op
  exact ⟨⟨k, h2⟩, h3, h1, by rw [h1]; rfl⟩
theorem short_small (i : Ins) (h : May i) (ho : 32 ≤ i.op.toNat ∧ i.op.toNat ≤ 34) : (B i.imm).getLsbD 5 = false := by
  obtain ⟨k, hk, h1, h2⟩ := op_form i h
  have hi := h.imm
  have : i.op = 32 ∨ i.op = 33 ∨ i.op = 34 := by omega
  have hf : formOf i.op = 7 := by rcases this with e | e | e <;> rw [e] <;> decide +kernel
  rw [hf] at hi
  unfold goodB lastI at hi
  rw [if_pos this] at hi
  simp at hi
  exact bit_small _ 5 5 (by omega) (by omega) (by omega)
theorem topF_le (c f : Nat) : topF c f ≤ 32 := by
  unfold topF
  repeat' split
  all_goals omega
theorem word_bits (i : Ins) (h : May i) (j : Nat) (hj : j < 64) (hp : (decide (j < 7) || (decide (12 ≤ j ∧ j < 15) && hasF (codeOf i.op.toNat).1) || decide (topF (codeOf i.op.toNat).1 (codeOf i.op.toNat).2.1 ≤ j)) = true) :
    (wordL i).getLsbD j = (bareP (codeOf i.op.toNat)).getLsbD j := by
  obtain ⟨k, hk, h1, h2⟩ := op_form i h
  have hf := free_all k hk
  unfold freeB at hf
  rw [List.all_eq_true] at hf
  have hf := hf j (by simp [hj])
  rw [← h2, hp] at hf
  simp only [Bool.not_true, Bool.false_or] at hf
  unfold wordL
  rw [bit_fold _ _ _ _ hj]
  have e : formN ((k.1 : Nat) : Int) = formN i.op := by rw [h1]
  have e2 : ((i.op.toNat : Nat) : Int) = i.op := by rw [h2, h1]
  rw [e2] at hf
  split at hf
  · rename_i hc
    simp only [Bool.and_eq_true, decide_eq_true_eq, Bool.not_eq_true'] at hf
    rw [hf.1, hf.2]
    exact short_small i h ⟨hc.1, hc.2.1⟩
  · rw [of_decide_eq_true hf]
theorem low_eq {a b : BitVec 64} {n : Nat} (h : ∀ j, j < n → j < 64 → a.getLsbD j = b.getLsbD j) : low a n = low b n := by
  refine bits_ext fun j hj => ?_
  rw [bit_low, bit_low]
  by_cases hn : j < n
  · rw [h j hn hj]
  · simp [hn]
theorem part_eq {a b : BitVec 64} {f n : Nat} (h : ∀ j, f ≤ j → j < f + n → j < 64 → a.getLsbD j = b.getLsbD j) : part a f n = part b f n := by
  refine bits_ext fun j hj => ?_
  rw [bit_part, bit_part]
  by_cases hn : j < n
  · by_cases h6 : f + j < 64
    · rw [h (f + j) (by omega) (by omega) h6]
    · rw [BitVec.getLsbD_of_ge _ _ (by omega), BitVec.getLsbD_of_ge _ _ (by omega)]
  · simp [hn]
theorem split_word (i : Ins) (h : May i) : splitL (wordL i) = codeOf i.op.toNat := by
  obtain ⟨k, hk, h1, h2⟩ := op_form i h
  have hb := bare_all k hk
  unfold bareB at hb
  simp only [Bool.and_eq_true, decide_eq_true_eq] at hb
  rw [← h2] at hb
  have hs := hb.1
  have W := word_bits i h
  clear h1 h2 hk hb k
  generalize codeOf i.op.toNat = p at W hs ⊢
  obtain ⟨c, f, t⟩ := p
  have e1 : low (wordL i) 7 = low (bareP (c, f, t)) 7 := low_eq fun j hj h6 => W j h6 (by simp [hj])
  have hs' := hs
  unfold splitL at hs ⊢
  have c1 : (low (bareP (c, f, t)) 7).toNat = c := congrArg Prod.fst hs
  have c2 : funF (bareP (c, f, t)) = f := congrArg (fun p => p.2.1) hs
  have e2 : funF (wordL i) = f := by
    rw [← c2]
    unfold funF
    rw [e1, c1]
    split
    · rename_i hh
      rw [part_eq (a := wordL i) (b := bareP (c, f, t)) fun j h0 h3 h6 => W j h6 (by simp [hh, h0, h3])]
    · rfl
  have e3 : topN (wordL i) = topF c f := by unfold topN; rw [e1, e2, c1]
  have e4 : topN (bareP (c, f, t)) = topF c f := by unfold topN; rw [c1, c2]
  rw [e1, e2, e3]
  rw [e4] at hs
  rw [part_eq (a := wordL i) (b := bareP (c, f, t)) fun j h0 h3 h6 => W j h6 (by simp [h0])]
  rw [c2] at hs
  exact hs
theorem op_word (i : Ins) (h : May i) : opP (splitL (wordL i)) = i.op.toNat := by
  obtain ⟨k, hk, h1, h2⟩ := op_form i h
  rw [split_word i h, h2]
  exact opP_code k hk
/-- a word has 32 bits -/
theorem word_small (i : Ins) (h : May i) (j : Nat) (hj : 32 ≤ j) : (wordL i).getLsbD j = false := by
  by_cases h6 : j < 64
  · obtain ⟨k, hk, h1, h2⟩ := op_form i h
    have hb := bare_all k hk
    unfold bareB at hb
    simp only [Bool.and_eq_true, decide_eq_true_eq, List.all_eq_true, List.mem_range] at hb
    have hb := hb.2 j h6
    rw [← h2] at hb
    rw [word_bits i h j h6]
    · have : decide (j < 32) = false := by simp; omega
      rw [this] at hb; simpa using hb
    · have : topF (codeOf i.op.toNat).1 (codeOf i.op.toNat).2.1 ≤ 32 := topF_le _ _
      have : decide (topF (codeOf i.op.toNat).1 (codeOf i.op.toNat).2.1 ≤ j) = true := by simp; omega
      rw [this, Bool.or_true]
  · exact BitVec.getLsbD_of_ge _ _ (by omega)
theorem word_lt (i : Ins) (h : May i) : (wordL i).toNat < 4294967296 := by
  have e : wordL i = BitVec.setWidth 64 (BitVec.setWidth 32 (wordL i)) := by
    refine bits_ext fun j hj => ?_
    rw [BitVec.getLsbD_setWidth, BitVec.getLsbD_setWidth]
    by_cases h3 : j < 32
    · simp [hj, h3]
    · rw [word_small i h j (by omega)]; simp
  rw [e, BitVec.toNat_setWidth, BitVec.toNat_setWidth]
  omega
/-- a field that is read out of the word -/
theorem out_bit (i : Ins) (k : Nat) (hk : k ∈ kindsF (formN i.op)) (v : BitVec 64) (x : Nat) (hx : x < 64) : (outS (wordL i) (spansK k) v).getLsbD x = match dstS (spansK k) x with | some _ => (valK k i).getLsbD x | none => v.getLsbD x := by
  have hf := back_all ⟨formN i.op, by have := form_hi i.op; unfold formN; omega⟩
  rw [List.all_eq_true] at hf
  have hb := hf k hk
  unfold backB at hb
  rw [List.all_eq_true] at hb
  have hb := hb x (by simp [hx])
  rw [bit_outS _ _ _ _ hx]
  cases hd : dstS (spansK k) x with
  | none => rfl
  | some j =>
    rw [hd] at hb
    simp only [Bool.and_eq_true, decide_eq_true_eq] at hb
    show (wordL i).getLsbD j = (valK k i).getLsbD x
    unfold wordL
    rw [bit_fold _ _ _ _ hb.1, hb.2]
theorem B_zero : B 0 = 0 := by decide +kernel
theorem small_back (x : Int) (n : Nat) (h0 : 0 ≤ x) (h1 : x < 2 ^ n) (hn : n ≤ 62) (b : BitVec 64) (hb : ∀ j, j < 64 → b.getLsbD j = if j < n then (B x).getLsbD j else false) : S b = x := by
  have e : b = B x := by
    refine bits_ext fun j hj => ?_
    rw [hb j hj]
    split
    · rfl
    · rw [bit_small x n j h0 h1 (by omega)]
  rw [e]
  have : (2 : Int) ^ n ≤ 2 ^ 62 := by exact_mod_cast Nat.pow_le_pow_right (by omega) hn
  exact S_B x (by omega) (by omega)
theorem mark_back (a : Bool) (b : BitVec 64) (hb : ∀ j, j < 64 → b.getLsbD j = if j < 1 then (flagV a).getLsbD j else false) : (b == 1) = a := by
  have e : b = flagV a := by
    refine bits_ext fun j hj => ?_
    rw [hb j hj]
    split
    · rfl
    · cases a
      · simp [flagV]
      · simp [flagV, BitVec.getLsbD_one]; omega
  rw [e]; cases a <;> decide
theorem imm_back (x : Int) (n : Nat) (hn : 0 < n ∧ n ≤ 64) (hx : fitsI x n = true) (h0 : -9223372036854775808 ≤ x) (h1 : x ≤ 9223372036854775807) (b : BitVec 64) (hb : ∀ j, j < n → b.getLsbD j = (B x).getLsbD j) : S (sign b n) = x := by
  have e : sign b n = sign (B x) n := by
    refine bits_ext fun j hj => ?_
    have hn0 : ¬ n = 0 := by omega
    rw [bit_sign _ _ _ hn.2 hj, bit_sign _ _ _ hn.2 hj]
    simp only [if_neg hn0]
    split
    · exact hb j (by omega)
    · exact hb (n - 1) (by omega)
  have hs := S_B x h0 h1
  rw [e]
  rw [← hs, fitsI_S] at hx
  have hx := eq_of_beq hx
  rw [ck_in _ (by omega) (by omega), hs] at hx
  exact hx
theorem even_bit (x : Int) (h : evenB x = true) : (B x).getLsbD 0 = false := by
  unfold evenB at h
  have h := eq_of_beq h
  have h2 : x % 2 = 0 := Int.emod_eq_zero_of_dvd (Int.dvd_of_tmod_eq_zero h)
  unfold B
  rw [← BitVec.testBit_toNat, BitVec.toNat_ofInt, Nat.testBit_zero]
  simp; omega
theorem kinds_some : ∀ k : Fin 13, 3 ≤ k.1 → k.1 ≤ 7 → ∀ j : Fin 64, j.1 < wideK k.1 → dstS (spansK k.1) j.1 = none → j.1 = 0 ∧ (k.1 = 6 ∨ k.1 = 7) := by decide +kernel
def wideR : Nat → Nat
  | 0 => 5 | 1 => 5 | 2 => 5 | 8 => 6 | 9 => 4 | 10 => 4 | _ => 1
theorem regs_some : ∀ k : Fin 13, ¬ (3 ≤ k.1 ∧ k.1 ≤ 7) → ∀ j : Fin 64, (dstS (spansK k.1) j.1).isSome = decide (j.1 < wideR k.1) := by decide +kernel
theorem out_reg (i : Ins) (k : Nat) (hk : k ∈ kindsF (formN i.op)) (h13 : k < 13) (h3 : ¬ (3 ≤ k ∧ k ≤ 7)) (j : Nat) (hj : j < 64) : (outS (wordL i) (spansK k) 0).getLsbD j = if j < wideR k then (valK k i).getLsbD j else false := by
  have hs := regs_some ⟨k, h13⟩ h3 ⟨j, hj⟩
  rw [out_bit i k hk 0 j hj]
  simp only at hs
  cases hd : dstS (spansK k) j with
  | none =>
    rw [hd] at hs
    have : ¬ j < wideR k := by simpa using hs
    rw [if_neg this]; simp
  | some y =>
    rw [hd] at hs
    have : j < wideR k := by simpa using hs
    rw [if_pos this]
theorem out_imm (i : Ins) (h0 : -9223372036854775808 ≤ i.imm) (h1 : i.imm ≤ 9223372036854775807) (k : Nat) (hk : k ∈ kindsF (formN i.op)) (h3 : 3 ≤ k ∧ k ≤ 7) (hf : fitsI i.imm (wideK k) = true) (he : k = 6 ∨ k = 7 → evenB i.imm = true) : S (sign (outS (wordL i) (spansK k) 0) (wideK k)) = i.imm := by
  have hw : 0 < wideK k ∧ wideK k ≤ 21 := by
    rcases (by omega : k = 3 ∨ k = 4 ∨ k = 5 ∨ k = 6 ∨ k = 7) with rfl | rfl | rfl | rfl | rfl <;> decide
  have hv : valK k i = B i.imm := by
    rcases (by omega : k = 3 ∨ k = 4 ∨ k = 5 ∨ k = 6 ∨ k = 7) with rfl | rfl | rfl | rfl | rfl <;> rfl
  refine imm_back i.imm (wideK k) (by omega) hf h0 h1 _ fun j hj => ?_
  rw [out_bit i k hk 0 j (by omega)]
  have hs := kinds_some ⟨k, by omega⟩ h3.1 h3.2 ⟨j, by omega⟩ hj
  simp only at hs
  cases hd : dstS (spansK k) j with
  | some y => show (valK k i).getLsbD j = _; rw [hv]
  | none =>
    obtain ⟨e0, e6⟩ := hs hd
    subst e0
    rw [even_bit _ (he e6)]; simp
theorem formN_in (i : Ins) (h : May i) : 1 ≤ formN i.op ∧ formN i.op ≤ 12 ∧ formOf i.op = (formN i.op : Int) := by
  obtain ⟨k, hk, h1, h2⟩ := op_form i h
  have := form_in k hk
  rw [← h1] at this
  have := form_hi i.op
  unfold formN; omega
/-- which fields a form has -/
def fieldsB (op : Nat) : Bool :=
  (decide (0 ∈ kindsF (formN op)) || !(shapeS (op : Int)).contains 100) && (decide (1 ∈ kindsF (formN op)) || !(shapeS (op : Int)).contains 49) && (decide (2 ∈ kindsF (formN op)) || !(shapeS (op : Int)).contains 50)
  && (decide (9 ∈ kindsF (formN op)) || !(shapeS (op : Int)).contains 112) && (decide (10 ∈ kindsF (formN op)) || !(shapeS (op : Int)).contains 115) && (decide (11 ∈ kindsF (formN op)) || !(shapeS (op : Int)).contains 109)
  && (decide (1 ≤ formN op ∧ formN op ≤ 7) || !(shapeS (op : Int)).contains 105)
theorem fields_all : ∀ op : Fin 88, op.1 ≠ 0 → fieldsB op.1 = true := by decide +kernel
/-- each field of an instruction comes back; what a form has not is nought -/
structure Back (i : Ins) (f : Nat) : Prop where
  rd : 0 ∈ kindsF f → S (outS (wordL i) (spansK 0) 0) = i.rd
  rs1 : 1 ∈ kindsF f → S (outS (wordL i) (spansK 1) 0) = i.rs1
  rs2 : 2 ∈ kindsF f → S (outS (wordL i) (spansK 2) 0) = i.rs2
  pred : 9 ∈ kindsF f → S (outS (wordL i) (spansK 9) 0) = i.pred
  succ : 10 ∈ kindsF f → S (outS (wordL i) (spansK 10) 0) = i.succ
  aq : 11 ∈ kindsF f → (outS (wordL i) (spansK 11) 0 == 1) = i.aq
  rl : 12 ∈ kindsF f → (outS (wordL i) (spansK 12) 0 == 1) = i.rl
  imm : ∀ k, k ∈ kindsF f → 3 ≤ k ∧ k ≤ 7 → S (sign (outS (wordL i) (spansK k) 0) (wideK k)) = i.imm
  sh : 8 ∈ kindsF f → S (outS (wordL i) (spansK 8) 0) = i.imm
  rd0 : 0 ∉ kindsF f → i.rd = 0
  rs10 : 1 ∉ kindsF f → i.rs1 = 0
  rs20 : 2 ∉ kindsF f → i.rs2 = 0
  pred0 : 9 ∉ kindsF f → i.pred = 0
  succ0 : 10 ∉ kindsF f → i.succ = 0
  marks0 : 11 ∉ kindsF f → i.aq = false ∧ i.rl = false
  imm0 : ¬ (1 ≤ f ∧ f ≤ 7) → i.imm = 0
theorem kind_imm : ∀ f : Fin 13, ∀ k ∈ kindsF f.1, 3 ≤ k ∧ k ≤ 7 → (f.1 = 1 ∧ k = 5) ∨ (f.1 = 2 ∧ k = 7) ∨ (f.1 = 3 ∧ k = 3) ∨ (f.1 = 4 ∧ k = 3) ∨ (f.1 = 5 ∧ k = 4) ∨ (f.1 = 6 ∧ k = 6) := by decide +kernel
theorem back_of (i : Ins) (h : Fair i) : Back i (formN i.op) := by
  obtain ⟨k, hk, h1, h2⟩ := op_form i h.may
  have hfl := fields_all k hk
  unfold fieldsB at hfl
  rw [← h1] at hfl
  simp only [Bool.and_eq_true, Bool.or_eq_true, decide_eq_true_eq, Bool.not_eq_true', List.contains_eq_mem, decide_eq_false_iff_not] at hfl
  obtain ⟨⟨⟨⟨⟨⟨g1, g2⟩, g3⟩, g4⟩, g5⟩, g6⟩, g7⟩ := hfl
  obtain ⟨m1, m2, m3⟩ := formN_in i h.may
  have M := h.may
  have hi := M.imm
  refine ⟨fun hm => ?_, fun hm => ?_, fun hm => ?_, fun hm => ?_, fun hm => ?_, fun hm => ?_, fun hm => ?_, fun q hm hq => ?_, fun hm => ?_, fun hm => ?_, fun hm => ?_, fun hm => ?_, fun hm => ?_, fun hm => ?_, fun hm => ?_, fun hm => ?_⟩
  · exact small_back i.rd 5 M.rd.1 (by have := M.rd.2.1; omega) (by omega) _ (out_reg i 0 hm (by omega) (by omega))
  · exact small_back i.rs1 5 M.rs1.1 (by have := M.rs1.2.1; omega) (by omega) _ (out_reg i 1 hm (by omega) (by omega))
  · exact small_back i.rs2 5 M.rs2.1 (by have := M.rs2.2.1; omega) (by omega) _ (out_reg i 2 hm (by omega) (by omega))
  · exact small_back i.pred 4 M.pred.1 (by have := M.pred.2.1; omega) (by omega) _ (out_reg i 9 hm (by omega) (by omega))
  · exact small_back i.succ 4 M.succ.1 (by have := M.succ.2.1; omega) (by omega) _ (out_reg i 10 hm (by omega) (by omega))
  · exact mark_back i.aq _ (out_reg i 11 hm (by omega) (by omega))
  · exact mark_back i.rl _ (out_reg i 12 hm (by omega) (by omega))
  · have hc := kind_imm ⟨formN i.op, by omega⟩ q hm hq
    simp only at hc
    rw [m3] at hi
    refine out_imm i h.i0 h.i1 q hm hq ?_ (fun he => ?_)
    · rcases hc with ⟨e, rfl⟩ | ⟨e, rfl⟩ | ⟨e, rfl⟩ | ⟨e, rfl⟩ | ⟨e, rfl⟩ | ⟨e, rfl⟩ <;> rw [e] at hi <;> simp [goodB] at hi <;> simp [wideK, hi]
    · rcases hc with ⟨e, rfl⟩ | ⟨e, rfl⟩ | ⟨e, rfl⟩ | ⟨e, rfl⟩ | ⟨e, rfl⟩ | ⟨e, rfl⟩ <;> rw [e] at hi <;> simp [goodB] at hi <;> simp at he <;> simp [hi]
  · have e : formN i.op = 7 := by
      have : ∀ f : Fin 13, 8 ∈ kindsF f.1 → f.1 = 7 := by decide +kernel
      exact this ⟨formN i.op, by omega⟩ hm
    rw [m3, e] at hi
    have hl : lastI i.op ≤ 63 := by unfold lastI; split <;> omega
    simp [goodB] at hi
    exact small_back i.imm 6 hi.1 (by omega) (by omega) _ (out_reg i 8 hm (by omega) (by omega))
  · exact M.rd.2.2 (g1.resolve_left hm)
  · exact M.rs1.2.2 (g2.resolve_left hm)
  · exact M.rs2.2.2 (g3.resolve_left hm)
  · exact M.pred.2.2 (g4.resolve_left hm)
  · exact M.succ.2.2 (g5.resolve_left hm)
  · exact M.marks (g6.resolve_left hm)
  · exact M.imm0 (g7.resolve_left hm)
theorem back_fold (i : Ins) (f : Nat) (hf : 1 ≤ f ∧ f ≤ 12) (h : Back i f) : (kindsF f).foldl (outK (wordL i)) (Ins.none i.op) = i := by
  obtain ⟨op, rd, rs1, rs2, imm, aq, rl, pred, succ⟩ := i
  obtain ⟨k1, k2, k3, k4, k5, k6, k7, k8, k9, z1, z2, z3, z4, z5, z6, z7⟩ := h
  generalize wordL _ = w at *
  rcases (by omega : f = 1 ∨ f = 2 ∨ f = 3 ∨ f = 4 ∨ f = 5 ∨ f = 6 ∨ f = 7 ∨ f = 8 ∨ f = 9 ∨ f = 10 ∨ f = 11 ∨ f = 12) with rfl | rfl | rfl | rfl | rfl | rfl | rfl | rfl | rfl | rfl | rfl | rfl
  all_goals
    have K := fun k a b => k8 k a b
    simp [kindsF] at k1 k2 k3 k4 k5 k6 k7 k8 k9 z1 z2 z3 z4 z5 z6 z7
    simp [kindsF, outK, setK, valK, Ins.none, B_zero, flagV, *]
/-- an instruction is read back out of its word -/
theorem read_word (i : Ins) (h : Fair i) : readW (wordL i) = i := by
  obtain ⟨k, hk, h1, h2⟩ := op_form i h.may
  obtain ⟨m1, m2, _⟩ := formN_in i h.may
  unfold readW
  rw [op_word i h.may, h2, ← h1]
  exact back_fold i _ ⟨m1, m2⟩ (back_of i h)
end Go.Proofs.YtbchecnidiiddaaGreatDoor
