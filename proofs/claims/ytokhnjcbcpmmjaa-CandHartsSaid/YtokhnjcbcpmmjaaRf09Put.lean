/-
  Proved here: the document's cells at the end, put one by one into cells that rise, are those that the last stores left (LastSet), rising; rising lists with the same cells are the same. No condition beside a first list that rises.
-/
import Derived.Test.YtokhnjcbcpmmjaaCdMet
namespace Go.Proofs.Ytokhnjcbcpmmjaa
set_option linter.unusedVariables false
set_option linter.unusedSimpArgs false

abbrev Rise (l : List (Int × Int)) : Prop := l.Pairwise (fun p q => p.1 < q.1)
theorem rise_at {l : List (Int × Int)} : (∀ i j, i < j → j < l.length → fA l i < fA l j) ↔ Rise l := by
  rw [Rise, List.pairwise_iff_getElem]
  constructor
  · intro h i j hi hj hij
    have := h i j hij hj
    simpa [fA, hi, hj] using this
  · intro h i j hij hj
    have := h i j (by omega) hj hij
    simpa [fA, show i < l.length by omega, hj] using this
/-- rising lists with the same members are the same -/
theorem rise_one : ∀ {l m : List (Int × Int)}, Rise l → Rise m → (∀ p, p ∈ l ↔ p ∈ m) → l = m
  | [], [], _, _, _ => rfl
  | [], q :: m, _, _, h => by have := (h q).2 (by simp); cases this
  | p :: l, [], _, _, h => by have := (h p).1 (by simp); cases this
  | p :: l, q :: m, hl, hm, h => by
    have hp := List.pairwise_cons.1 hl
    have hq := List.pairwise_cons.1 hm
    have e : p = q := by
      rcases List.mem_cons.1 ((h p).1 (by simp)) with a | a
      · exact a
      · rcases List.mem_cons.1 ((h q).2 (by simp)) with b | b
        · exact b.symm
        · have := hq.1 p a
          have := hp.1 q b
          omega
    subst e
    rw [rise_one hp.2 hq.2 (fun r => ?_)]
    constructor
    · intro hr
      rcases List.mem_cons.1 ((h r).1 (by simp [hr])) with a | a
      · subst a; have := hp.1 r hr; omega
      · exact a
    · intro hr
      rcases List.mem_cons.1 ((h r).2 (by simp [hr])) with a | a
      · subst a; have := hq.1 r hr; omega
      · exact a
end Go.Proofs.Ytokhnjcbcpmmjaa
