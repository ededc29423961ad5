/-
  Proved here: the document's cells at the end, put one by one into cells that rise, are those that the last stores left (LastSet), rising; rising lists with the same cells are the same. No condition beside a first list that rises.
-/
import Derived.Test.YtokhnjcbcpmmjaaGreatCdMet
namespace Go.Proofs.YtokhnjcbcpmmjaaGreat
set_option linter.unusedVariables false
set_option linter.unusedSimpArgs false

abbrev Rise (l : List (Int × Int)) : Prop := l.Pairwise (fun p q => p.1 < q.1)
theorem rise_at {l : List (Int × Int)} : (∀ i j, i < j → j < l.length → fA l i < fA l j) ↔ Rise l := by
  rw [Rise, List.pairwise_iff_getElem]
  constructor
  · intro h i j hi hj hij
    have := h i j hij hj
    simpa [fA, hi, hj] using this
  · intro h i j hij hj
    have := h i j (by omega) hj hij
    simpa [fA, show i < l.length by omega, hj] using this
/-- cells into which one is put -/
def putL (l : List (Int × Int)) (x v : Int) : List (Int × Int) := l.takeWhile (fun p => decide (p.1 < x)) ++ ((if v = 0 then [] else [(x, v)]) ++ l.filter (fun p => decide (x < p.1)))
theorem take_filter {x : Int} : ∀ {l : List (Int × Int)}, Rise l → l.takeWhile (fun p => decide (p.1 < x)) = l.filter (fun p => decide (p.1 < x))
  | [], _ => rfl
  | p :: l, h => by
    have hp := List.pairwise_cons.1 h
    by_cases hx : p.1 < x
    · simp [List.takeWhile_cons, List.filter_cons, hx, take_filter hp.2]
    · have hn : l.filter (fun q => decide (q.1 < x)) = [] := by
        rw [List.filter_eq_nil_iff]
        intro q hq
        have := hp.1 q hq
        simp; omega
      simp [List.takeWhile_cons, List.filter_cons, hx, hn]
theorem mem_put {l : List (Int × Int)} (h : Rise l) (x v : Int) (p : Int × Int) : p ∈ putL l x v ↔ (p = (x, v) ∧ v ≠ 0) ∨ (p ∈ l ∧ p.1 ≠ x) := by
  unfold putL
  rw [take_filter h, List.mem_append, List.mem_append, List.mem_filter, List.mem_filter]
  by_cases hv : v = 0
  · rw [if_pos hv]
    simp only [decide_eq_true_eq, List.not_mem_nil, false_or]
    constructor
    · rintro (⟨a, b⟩ | ⟨a, b⟩) <;> exact .inr ⟨a, by omega⟩
    · rintro (⟨_, b⟩ | ⟨a, b⟩)
      · exact absurd hv b
      · rcases Int.lt_or_lt_of_ne b with h1 | h1
        · exact .inl ⟨a, h1⟩
        · exact .inr ⟨a, h1⟩
  · rw [if_neg hv]
    simp only [decide_eq_true_eq, List.mem_singleton]
    constructor
    · rintro (⟨a, b⟩ | a | ⟨a, b⟩)
      · exact .inr ⟨a, by omega⟩
      · exact .inl ⟨a, hv⟩
      · exact .inr ⟨a, by omega⟩
    · rintro (⟨a, _⟩ | ⟨a, b⟩)
      · exact .inr (.inl a)
      · rcases Int.lt_or_lt_of_ne b with h1 | h1
        · exact .inl ⟨a, h1⟩
        · exact .inr (.inr ⟨a, h1⟩)
theorem rise_put {l : List (Int × Int)} (h : Rise l) (x v : Int) : Rise (putL l x v) := by
  unfold putL
  rw [take_filter h]
  have h1 : Rise (l.filter (fun p => decide (p.1 < x))) := h.filter _
  have h2 : Rise (l.filter (fun p => decide (x < p.1))) := h.filter _
  have m2 : ∀ q, q ∈ (if v = 0 then [] else [(x, v)]) ++ l.filter (fun p => decide (x < p.1)) → x ≤ q.1 := by
    intro q hq
    rcases List.mem_append.1 hq with a | a
    · split at a
      · cases a
      · rw [List.mem_singleton] at a; rw [a]; exact Int.le_refl _
    · have := (List.mem_filter.1 a).2
      simp at this; omega
  have h3 : Rise ((if v = 0 then [] else [(x, v)]) ++ l.filter (fun p => decide (x < p.1))) := by
    refine List.pairwise_append.2 ⟨?_, h2, fun p hp q hq => ?_⟩
    · split
      · exact List.Pairwise.nil
      · exact List.pairwise_singleton _ _
    · have e : p = (x, v) := by
        split at hp
        · cases hp
        · exact List.mem_singleton.1 hp
      have := (List.mem_filter.1 hq).2
      rw [e]; simpa using this
  refine List.pairwise_append.2 ⟨h1, h3, fun p hp q hq => ?_⟩
  have a := (List.mem_filter.1 hp).2
  have b := m2 q hq
  simp at a; omega
theorem len_put (l : List (Int × Int)) (x v : Int) (h : Rise l) : (putL l x v).length ≤ l.length + 1 := by
  unfold putL
  rw [take_filter h, List.length_append, List.length_append]
  have h1 : (l.filter (fun p => decide (p.1 < x))).length + (l.filter (fun p => decide (x < p.1))).length ≤ l.length := by
    clear h
    induction l with
    | nil => simp
    | cons p l ih =>
      rw [List.filter_cons, List.filter_cons]
      by_cases a : p.1 < x
      · have b : ¬ x < p.1 := by omega
        simp only [decide_eq_true_eq, if_pos a, if_neg b, List.length_cons]; omega
      · by_cases b : x < p.1
        · simp only [decide_eq_true_eq, if_neg a, if_pos b, List.length_cons]; omega
        · simp only [decide_eq_true_eq, if_neg a, if_neg b, List.length_cons]; omega
  have h2 : (if v = 0 then ([] : List (Int × Int)) else [(x, v)]).length ≤ 1 := by split <;> simp
  omega
/-- what is there at first, put one by one -/
def firstR (fs : List (Int × Int)) : Nat → List (Int × Int)
  | 0 => []
  | k + 1 => putL (firstR fs k) (fA fs k) (fV fs k)
/-- and what is stored, in the order -/
def lastR (c : Cd) : Nat → List (Int × Int)
  | 0 => firstR c.fs c.fs.length
  | k + 1 => if writesE (c.at (atI c.od k).toNat).1 = true then putL (lastR c k) (c.at (atI c.od k).toNat).1.addr (c.at (atI c.od k).toNat).1.store else lastR c k
theorem firstR_rise (fs : List (Int × Int)) : ∀ k, Rise (firstR fs k)
  | 0 => List.Pairwise.nil
  | k + 1 => rise_put (firstR_rise fs k) _ _
theorem lastR_rise (c : Cd) : ∀ k, Rise (lastR c k)
  | 0 => firstR_rise _ _
  | k + 1 => by
    unfold lastR
    split
    · exact rise_put (lastR_rise c k) _ _
    · exact lastR_rise c k
theorem firstR_len (fs : List (Int × Int)) : ∀ k, (firstR fs k).length ≤ k
  | 0 => Nat.le_refl _
  | k + 1 => Nat.le_trans (len_put _ _ _ (firstR_rise fs k)) (by have := firstR_len fs k; omega)
theorem lastR_len (c : Cd) : ∀ k, (lastR c k).length ≤ c.fs.length + k
  | 0 => firstR_len _ _
  | k + 1 => by
    have := lastR_len c k
    unfold lastR
    split
    · exact Nat.le_trans (len_put _ _ _ (lastR_rise c k)) (by omega)
    · omega
theorem firstR_mem {fs : List (Int × Int)} (hr : ∀ i j, i < j → j < fs.length → fA fs i < fA fs j) : ∀ k, k ≤ fs.length → ∀ p, p ∈ firstR fs k ↔ (p ∈ fs.take k ∧ p.2 ≠ 0)
  | 0, _, p => by simp [firstR]
  | k + 1, hk, p => by
    rw [firstR, mem_put (firstR_rise fs k), firstR_mem hr k (by omega) p, take_fP fs k (by omega), List.mem_append, List.mem_singleton]
    constructor
    · rintro (⟨rfl, h⟩ | ⟨⟨a, b⟩, _⟩)
      · exact ⟨.inr rfl, h⟩
      · exact ⟨.inl a, b⟩
    · rintro ⟨a | rfl, b⟩
      · refine .inr ⟨⟨a, b⟩, ?_⟩
        have := mem_take_lt hr (show k < fs.length by omega) a
        omega
      · exact .inl ⟨rfl, b⟩
theorem lastR_mem {c : Cd} (hr : ∀ i j, i < j → j < c.fs.length → fA c.fs i < fA c.fs j) : ∀ k p, p ∈ lastR c k ↔ ((p ∈ c.fs ∧ metL c k p.1 = none ∧ p.2 ≠ 0) ∨ (metL c k p.1 = some p.2 ∧ p.2 ≠ 0))
  | 0, p => by
    rw [lastR, firstR_mem hr _ (Nat.le_refl _), List.take_of_length_le (Nat.le_refl _)]
    simp [metL]
  | k + 1, p => by
    unfold lastR metL
    by_cases hw : writesE (c.at (atI c.od k).toNat).1 = true
    · rw [if_pos hw, mem_put (lastR_rise c k), lastR_mem hr k p]
      by_cases ha : (c.at (atI c.od k).toNat).1.addr = p.1
      · rw [if_pos ⟨hw, ha⟩]
        constructor
        · rintro (⟨e, h⟩ | ⟨_, h⟩)
          · refine .inr ⟨?_, ?_⟩ <;> rw [e]
            exact h
          · exact absurd ha.symm h
        · rintro (⟨_, h, _⟩ | ⟨h, h2⟩)
          · cases h
          · have e := Option.some.inj h
            refine .inl ⟨Prod.ext ha.symm e.symm, by rw [e]; exact h2⟩
      · rw [if_neg (fun h => ha h.2)]
        constructor
        · rintro (⟨e, h⟩ | ⟨h, _⟩)
          · exact absurd (by rw [e]) ha
          · exact h
        · intro h
          exact .inr ⟨h, fun e => ha e.symm⟩
    · rw [if_neg hw, if_neg (fun h => hw h.1)]
      exact lastR_mem hr k p
theorem lastR_is {c : Cd} (hr : ∀ i j, i < j → j < c.fs.length → fA c.fs i < fA c.fs j) (p : Int × Int) : p ∈ lastR c c.od.length ↔ LastSet c p := lastR_mem hr _ p
/-- rising lists with the same members are the same -/
theorem rise_one : ∀ {l m : List (Int × Int)}, Rise l → Rise m → (∀ p, p ∈ l ↔ p ∈ m) → l = m
  | [], [], _, _, _ => rfl
  | [], q :: m, _, _, h => by have := (h q).2 (by simp); cases this
  | p :: l, [], _, _, h => by have := (h p).1 (by simp); cases this
  | p :: l, q :: m, hl, hm, h => by
    have hp := List.pairwise_cons.1 hl
    have hq := List.pairwise_cons.1 hm
    have e : p = q := by
      rcases List.mem_cons.1 ((h p).1 (by simp)) with a | a
      · exact a
      · rcases List.mem_cons.1 ((h q).2 (by simp)) with b | b
        · exact b.symm
        · have := hq.1 p a
          have := hp.1 q b
          omega
    subst e
    rw [rise_one hp.2 hq.2 (fun r => ?_)]
    constructor
    · intro hr
      rcases List.mem_cons.1 ((h r).1 (by simp [hr])) with a | a
      · subst a; have := hp.1 r hr; omega
      · exact a
    · intro hr
      rcases List.mem_cons.1 ((h r).2 (by simp [hr])) with a | a
      · subst a; have := hq.1 r hr; omega
      · exact a
end Go.Proofs.YtokhnjcbcpmmjaaGreat
