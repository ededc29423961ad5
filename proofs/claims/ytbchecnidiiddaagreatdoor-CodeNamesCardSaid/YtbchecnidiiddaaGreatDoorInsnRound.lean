/-
  Plain facts on the chapter's texts of instructions: what Text says and what the reader takes, as functions on bytes; read back, the text of an instruction that may be is that instruction. No condition beside that its number is of 64 bits; no Go text is named.
-/
import Derived.Test.YtbchecnidiiddaaGreatDoorInsnPlain
namespace Go.Proofs.YtbchecnidiiddaaGreatDoor

structure Ins where
  op : Int
  rd : Int
  rs1 : Int
  rs2 : Int
  imm : Int
  aq : Bool
  rl : Bool
  pred : Int
  succ : Int
deriving DecidableEq

def Ins.ok (i : Ins) : Bool := checkB i.op i.rd i.rs1 i.rs2 i.imm i.aq i.rl i.pred i.succ
def Ins.none (op : Int) : Ins := ⟨op, 0, 0, 0, 0, false, false, 0, 0⟩

/-! ### telling -/
def regL (x : Int) : List UInt8 := 120 :: Lib.decDigits x.toNat
def marksL (aq rl : Bool) : List UInt8 := (if aq || rl then [46] else []) ++ ((if aq then [97, 113] else []) ++ (if rl then [114, 108] else []))
def fenceL : List (Nat × UInt8) := [(8, 105), (4, 111), (2, 114), (1, 119)]
def betweenL (set : Int) : List UInt8 := (if set = 0 then [48] else []) ++ fenceL.flatMap fun p => if set.toNat &&& p.1 = 0 then [] else [p.2]
def fieldL (i : Ins) (c : UInt8) : List UInt8 :=
  if c = 100 then regL i.rd else if c = 49 then regL i.rs1 else if c = 50 then regL i.rs2 else if c = 105 then Lib.itoa i.imm
  else if c = 109 then marksL i.aq i.rl else if c = 112 then betweenL i.pred else if c = 115 then betweenL i.succ else [c]
def textL (i : Ins) : List UInt8 := nameOf i.op ++ (shapeS i.op).flatMap (fieldL i)

/-! ### reading -/
def cutL : List UInt8 := [45, 48, 49, 50, 51, 52, 53, 54, 55, 56, 57]
def digitsR (s : List UInt8) : List UInt8 := Lib.trimSuffix s (Lib.trimLeftS s cutL)
def numV (s : List UInt8) : Int := match Lib.parseIntB 64 (digitsR s) with
  | .ok v => v
  | _ => 0
def numR (s : List UInt8) : List UInt8 := Lib.trimPrefix s (digitsR s)
def regV (s : List UInt8) : Int := numV (Lib.trimPrefix s [120])
def regR (s : List UInt8) : List UInt8 := numR (Lib.trimPrefix s [120])
def mark1 (s : List UInt8) : List UInt8 := Lib.trimPrefix s [46]
def mark2 (s : List UInt8) : List UInt8 := Lib.trimPrefix (mark1 s) [97, 113]
def aqV (s : List UInt8) : Bool := Lib.hasPrefix s [46] && Lib.hasPrefix (mark1 s) [97, 113]
def rlV (s : List UInt8) : Bool := Lib.hasPrefix s [46] && Lib.hasPrefix (mark2 s) [114, 108]
def marksR (s : List UInt8) : List UInt8 := if Lib.hasPrefix s [46] then Lib.trimPrefix (mark2 s) [114, 108] else s
def partR (st : Nat × List UInt8) (p : Nat × UInt8) : Nat × List UInt8 := (if Lib.hasPrefix st.2 [p.2] then st.1 ||| p.1 else st.1, Lib.trimPrefix st.2 [p.2])
def betweenS (s : List UInt8) : Nat × List UInt8 := fenceL.foldl partR (0, Lib.trimPrefix s [48])
def fieldR (st : Ins × List UInt8) (c : UInt8) : Ins × List UInt8 :=
  if c = 100 then ({ st.1 with rd := regV st.2 }, regR st.2) else if c = 49 then ({ st.1 with rs1 := regV st.2 }, regR st.2) else if c = 50 then ({ st.1 with rs2 := regV st.2 }, regR st.2)
  else if c = 105 then ({ st.1 with imm := numV st.2 }, numR st.2) else if c = 109 then ({ st.1 with aq := aqV st.2, rl := rlV st.2 }, marksR st.2)
  else if c = 112 then ({ st.1 with pred := (betweenS st.2).1 }, (betweenS st.2).2) else if c = 115 then ({ st.1 with succ := (betweenS st.2).1 }, (betweenS st.2).2)
  else (st.1, Lib.trimPrefix st.2 [c])
def opStep (s : List UInt8) (st : List UInt8 × Nat) (k : Nat) : List UInt8 × Nat := if decide (st.1.length < (nameOf k).length) && Lib.hasPrefix s (nameOf k) then (nameOf k, k) else st
def opS (s : List UInt8) : List UInt8 × Nat := (List.range 88).foldl (opStep s) ([], 0)
def readL (s : List UInt8) : Ins := ((shapeS (opS s).2).foldl fieldR (Ins.none (opS s).2, Lib.trimPrefix s (opS s).1)).1

/-! ### prefixes -/
theorem pre_app (p t : List UInt8) : Lib.hasPrefix (p ++ t) p = true := by unfold Lib.hasPrefix; simp
theorem trim_app (p t : List UInt8) : Lib.trimPrefix (p ++ t) p = t := by unfold Lib.trimPrefix; rw [if_pos (pre_app p t)]; simp
theorem pre_one (c d : UInt8) (t : List UInt8) : Lib.hasPrefix (d :: t) [c] = (c == d) := by unfold Lib.hasPrefix; simp [List.isPrefixOf]
theorem trim_one (c : UInt8) (t : List UInt8) : Lib.trimPrefix (c :: t) [c] = t := trim_app [c] t
theorem trim_not (p t : List UInt8) (h : Lib.hasPrefix t p = false) : Lib.trimPrefix t p = t := by unfold Lib.trimPrefix; rw [h]; simp

/-! ### numbers -/
def apart (t : List UInt8) : Prop := ∀ c, t.head? = some c → cutL.contains c = false
theorem drop_digits (d t : List UInt8) (hd : ∀ c ∈ d, cutL.contains c = true) (ht : apart t) : Lib.trimLeftS (d ++ t) cutL = t := by
  unfold Lib.trimLeftS
  induction d with
  | nil =>
    cases t with
    | nil => rfl
    | cons c t => simp only [List.nil_append]; rw [List.dropWhile_cons, ht c rfl]; simp
  | cons c d ih =>
    rw [List.cons_append, List.dropWhile_cons, hd c (by simp)]
    simp only [if_true]
    exact ih (fun x hx => hd x (by simp [hx]))
theorem digits_app (d t : List UInt8) (hd : ∀ c ∈ d, cutL.contains c = true) (ht : apart t) : digitsR (d ++ t) = d := by
  unfold digitsR Lib.trimSuffix
  rw [drop_digits d t hd ht]
  have h : Lib.hasSuffix (d ++ t) t = true := by unfold Lib.hasSuffix; simp
  rw [if_pos h]; simp
theorem numR_app (d t : List UInt8) (hd : ∀ c ∈ d, cutL.contains c = true) (ht : apart t) : numR (d ++ t) = t := by
  unfold numR; rw [digits_app d t hd ht, trim_app]
theorem dec_cut : ∀ (u : Nat) (c : UInt8), c ∈ Lib.decDigits u → cutL.contains c = true := by
  have h : ∀ d : Fin 10, cutL.contains (UInt8.ofNat (48 + d.1)) = true := by decide +kernel
  intro u
  induction u using Nat.strongRecOn with
  | _ u ih =>
    intro c hc
    rw [Lib.decDigits] at hc
    split at hc
    · rename_i hu
      simp only [List.mem_singleton] at hc
      subst hc; exact h ⟨u, hu⟩
    · rename_i hu
      rcases List.mem_append.1 hc with hc | hc
      · exact ih (u / 10) (by omega) c hc
      · simp only [List.mem_singleton] at hc
        subst hc; exact h ⟨u % 10, by omega⟩
theorem itoa_cut (n : Int) (c : UInt8) (hc : c ∈ Lib.itoa n) : cutL.contains c = true := by
  unfold Lib.itoa at hc
  split at hc
  · rcases List.mem_cons.1 hc with rfl | hc
    · decide
    · exact dec_cut _ c hc
  · exact dec_cut _ c hc
theorem parse_snoc (M : Nat) (c : UInt8) : ∀ (l : List UInt8) (acc a : Nat), Lib.parseUintM M acc l = .ok a → Lib.parseUintM M acc (l ++ [c]) = Lib.parseUintM M a [c]
  | [], acc, a, h => by simp only [Lib.parseUintM] at h; cases h; rfl
  | d :: l, acc, a, h => by
    rw [List.cons_append, Lib.parseUintM]
    rw [Lib.parseUintM] at h
    split
    · rename_i h1
      rw [if_pos h1] at h
      split
      · rename_i h2; rw [if_pos h2] at h; cases h
      · rename_i h2
        rw [if_neg h2] at h
        split
        · rename_i h3; rw [if_pos h3] at h; cases h
        · rename_i h3
          rw [if_neg h3] at h
          exact parse_snoc M c l _ a h
    · rename_i h1; rw [if_neg h1] at h; cases h
theorem digit_nat (d : Nat) (h : d < 10) : (UInt8.ofNat (48 + d)).toNat = 48 + d := by simp; omega
theorem parse_dec (M : Nat) (hM : M < 18446744073709551616) : ∀ u, u ≤ M → Lib.parseUintM M 0 (Lib.decDigits u) = .ok u := by
  intro u
  induction u using Nat.strongRecOn with
  | _ u ih =>
    intro hu
    rw [Lib.decDigits]
    split
    · rename_i h
      rw [Lib.parseUintM, digit_nat u h, if_pos (by omega), if_neg (by omega), if_neg (by omega), Lib.parseUintM]
      congr 1; omega
    · rename_i h
      rw [parse_snoc M _ _ 0 (u / 10) (ih (u / 10) (by omega) (by omega)), Lib.parseUintM, digit_nat (u % 10) (by omega), if_pos (by omega), if_neg (by omega), if_neg (by omega), Lib.parseUintM]
      congr 1; omega
theorem dec_ne (u : Nat) : Lib.decDigits u ≠ [] := by
  rw [Lib.decDigits]; split <;> simp
theorem dec_head (u : Nat) (c : UInt8) (r : List UInt8) (h : Lib.decDigits u = c :: r) : c.toNat ≠ 43 ∧ c.toNat ≠ 45 := by
  have key : ∀ (u : Nat) (c : UInt8), c ∈ Lib.decDigits u → 48 ≤ c.toNat := by
    intro u
    induction u using Nat.strongRecOn with
    | _ u ih =>
      intro c hc
      rw [Lib.decDigits] at hc
      split at hc
      · rename_i hu
        simp only [List.mem_singleton] at hc
        rw [hc, digit_nat u hu]; omega
      · rcases List.mem_append.1 hc with hc | hc
        · exact ih (u / 10) (by omega) c hc
        · simp only [List.mem_singleton] at hc
          rw [hc, digit_nat (u % 10) (by omega)]; omega
  have := key u c (by rw [h]; simp)
  omega
theorem parse_itoa (n : Int) (h0 : -9223372036854775808 ≤ n) (h1 : n ≤ 9223372036854775807) : Lib.parseIntB 64 (Lib.itoa n) = .ok n := by
  unfold Lib.itoa
  split
  · rename_i hn
    unfold Lib.parseIntB
    simp only [Lib.parseUintB]
    have e : (45 : UInt8).toNat = 45 := by decide
    rw [if_pos (Or.inr e), if_neg (dec_ne _), parse_dec _ (by decide) n.natAbs (by omega)]
    simp only [e]
    rw [if_neg (by simp), if_neg (by omega), if_pos trivial]
    congr 1; omega
  · rename_i hn
    obtain ⟨c, r, hc⟩ : ∃ c r, Lib.decDigits n.toNat = c :: r := by
      cases h : Lib.decDigits n.toNat with
      | nil => exact absurd h (dec_ne _)
      | cons c r => exact ⟨c, r, rfl⟩
    have hh := dec_head _ c r hc
    have hp := parse_dec (2 ^ 64 - 1) (by decide) n.toNat (by omega)
    rw [hc] at hp ⊢
    unfold Lib.parseIntB
    simp only [Lib.parseUintB]
    rw [if_neg (show ¬ (c.toNat = 43 ∨ c.toNat = 45) by omega), if_neg (show ¬ c :: r = [] by simp), hp]
    simp only
    rw [if_neg (by omega), if_neg (by omega), if_neg hh.2]
    congr 1; omega
theorem num_app (n : Int) (h0 : -9223372036854775808 ≤ n) (h1 : n ≤ 9223372036854775807) (t : List UInt8) (ht : apart t) : numV (Lib.itoa n ++ t) = n ∧ numR (Lib.itoa n ++ t) = t := by
  refine ⟨?_, numR_app _ t (itoa_cut n) ht⟩
  unfold numV
  rw [digits_app _ t (itoa_cut n) ht, parse_itoa n h0 h1]
theorem reg_app (x : Int) (h0 : 0 ≤ x) (h1 : x ≤ 31) (t : List UInt8) (ht : apart t) : regV (regL x ++ t) = x ∧ regR (regL x ++ t) = t := by
  have e : Lib.itoa x = Lib.decDigits x.toNat := by unfold Lib.itoa; rw [if_neg (by omega)]
  unfold regV regR regL
  rw [List.cons_append, trim_one, ← e]
  exact num_app x (by omega) (by omega) t ht

/-! ### marks, parts -/
theorem marks_app (aq rl : Bool) (t : List UInt8) : aqV (marksL aq rl ++ (32 :: t)) = aq ∧ rlV (marksL aq rl ++ (32 :: t)) = rl ∧ marksR (marksL aq rl ++ (32 :: t)) = 32 :: t := by
  cases aq <;> cases rl <;> simp [aqV, rlV, marksR, marksL, mark1, mark2, Lib.hasPrefix, Lib.trimPrefix, List.isPrefixOf]
def apartF (t : List UInt8) : Prop := t = [] ∨ ∃ r, t = 44 :: r
theorem between_app (set : Int) (h0 : 0 ≤ set) (h1 : set ≤ 15) (t : List UInt8) (ht : apartF t) : ((betweenS (betweenL set ++ t)).1 : Int) = set ∧ (betweenS (betweenL set ++ t)).2 = t := by
  have hs : set = 0 ∨ set = 1 ∨ set = 2 ∨ set = 3 ∨ set = 4 ∨ set = 5 ∨ set = 6 ∨ set = 7 ∨ set = 8 ∨ set = 9 ∨ set = 10 ∨ set = 11 ∨ set = 12 ∨ set = 13 ∨ set = 14 ∨ set = 15 := by omega
  rcases ht with rfl | ⟨r, rfl⟩ <;> rcases hs with rfl | rfl | rfl | rfl | rfl | rfl | rfl | rfl | rfl | rfl | rfl | rfl | rfl | rfl | rfl | rfl <;>
    simp [betweenL, betweenS, fenceL, partR, Lib.hasPrefix, Lib.trimPrefix, List.isPrefixOf]

/-! ### names -/
theorem name_apart : ∀ j k : Fin 88, j ≠ k → (nameOf (j.1 : Nat)).isPrefixOf (nameOf (k.1 : Nat)) = true → (nameOf (j.1 : Nat)).length < (nameOf (k.1 : Nat)).length := by decide +kernel
theorem name_tail : ∀ j k : Fin 88, k.1 ≠ 0 → (nameOf (k.1 : Nat) ++ [32]).isPrefixOf (nameOf (j.1 : Nat)) = false ∧ (nameOf (k.1 : Nat) ++ [46]).isPrefixOf (nameOf (j.1 : Nat)) = false := by decide +kernel
theorem name_ne : ∀ k : Fin 88, k.1 ≠ 0 → (nameOf (k.1 : Nat)).length ≠ 0 := by decide +kernel
def tailed (t : List UInt8) : Prop := ∀ c, t.head? = some c → c = 32 ∨ c = 46
theorem name_short (j k : Fin 88) (hk : k.1 ≠ 0) (hj : j ≠ k) (t : List UInt8) (ht : tailed t) (hp : Lib.hasPrefix (nameOf (k.1 : Nat) ++ t) (nameOf (j.1 : Nat)) = true) : (nameOf (j.1 : Nat)).length < (nameOf (k.1 : Nat)).length := by
  unfold Lib.hasPrefix at hp
  rw [List.isPrefixOf_iff_prefix] at hp
  rcases Nat.lt_or_ge (nameOf (k.1 : Nat)).length (nameOf (j.1 : Nat)).length with hl | hl
  · exfalso
    cases t with
    | nil =>
      rw [List.append_nil] at hp
      have := hp.length_le; omega
    | cons c t =>
      have h1 : (nameOf (k.1 : Nat) ++ [c]) <+: nameOf (j.1 : Nat) := by
        refine List.prefix_of_prefix_length_le (l₃ := nameOf (k.1 : Nat) ++ c :: t) ?_ hp (by simp; omega)
        exact ⟨t, by simp⟩
      have h2 := name_tail j k hk
      rcases ht c rfl with rfl | rfl
      · have := h2.1; rw [← Bool.not_eq_true, List.isPrefixOf_iff_prefix] at this; exact this h1
      · have := h2.2; rw [← Bool.not_eq_true, List.isPrefixOf_iff_prefix] at this; exact this h1
  · refine name_apart j k hj ?_
    rw [List.isPrefixOf_iff_prefix]
    exact List.prefix_of_prefix_length_le hp ⟨t, rfl⟩ hl
theorem opStep_pos (s : List UInt8) (st : List UInt8 × Nat) (k : Nat) (h1 : st.1.length < (nameOf k).length) (h2 : Lib.hasPrefix s (nameOf k) = true) : opStep s st k = (nameOf k, k) := by
  unfold opStep; rw [if_pos (by simp [h1, h2])]
theorem opStep_neg (s : List UInt8) (st : List UInt8 × Nat) (k : Nat) (h : Lib.hasPrefix s (nameOf k) = true → ¬ st.1.length < (nameOf k).length) : opStep s st k = st := by
  unfold opStep; rw [if_neg]
  intro h3
  simp only [Bool.and_eq_true, decide_eq_true_eq] at h3
  exact h h3.2 h3.1
theorem opStep_len (s : List UInt8) (st : List UInt8 × Nat) (k m : Nat) (h1 : st.1.length < m) (h2 : Lib.hasPrefix s (nameOf k) = true → (nameOf k).length < m) : (opStep s st k).1.length < m := by
  unfold opStep; split
  · rename_i h3
    simp only [Bool.and_eq_true, decide_eq_true_eq] at h3
    exact h2 h3.2
  · exact h1
theorem op_fold (k : Fin 88) (hk : k.1 ≠ 0) (t : List UInt8) (ht : tailed t) : ∀ n, n ≤ 88 →
    (k.1 < n → (List.range n).foldl (opStep (nameOf (k.1 : Nat) ++ t)) ([], 0) = (nameOf (k.1 : Nat), k.1)) ∧ (¬ k.1 < n → ((List.range n).foldl (opStep (nameOf (k.1 : Nat) ++ t)) ([], 0)).1.length < (nameOf (k.1 : Nat)).length) := by
  intro n
  induction n with
  | zero =>
    intro _
    refine ⟨fun h => absurd h (by omega), fun _ => ?_⟩
    have := name_ne k hk
    simp; omega
  | succ n ih =>
    intro hn
    obtain ⟨i1, i2⟩ := ih (by omega)
    rw [List.range_succ, List.foldl_append, List.foldl_cons, List.foldl_nil]
    refine ⟨fun h => ?_, fun h => ?_⟩
    · by_cases e : k.1 < n
      · rw [i1 e]
        refine opStep_neg _ _ _ fun hp => ?_
        have := name_short ⟨n, by omega⟩ k hk (by intro e2; have := congrArg Fin.val e2; simp at this; omega) t ht hp
        simp only at this ⊢; omega
      · have e2 : n = k.1 := by omega
        have h4 := i2 e
        subst e2
        exact opStep_pos _ _ _ h4 (pre_app _ _)
    · exact opStep_len _ _ _ _ (i2 (by omega)) fun hp => name_short ⟨n, by omega⟩ k hk (by intro e2; have := congrArg Fin.val e2; simp at this; omega) t ht hp
theorem opS_app (k : Nat) (hk : k < 88) (h0 : k ≠ 0) (t : List UInt8) (ht : tailed t) : opS (nameOf (k : Nat) ++ t) = (nameOf (k : Nat), k) :=
  (op_fold ⟨k, hk⟩ h0 t ht 88 (Nat.le_refl _)).1 hk
end Go.Proofs.YtbchecnidiiddaaGreatDoor
