/-
  Proved here, of lists and arrays alone: how a merge of two sorted parts goes on behind its turning. No condition.
-/
import Derived.Test.YthkakikigccaaaaDtPure2
namespace Go.Proofs.Ythkakikigccaaaa
set_option linter.unusedVariables false
set_option linter.unusedSimpArgs false
open Go.Sort
variable {α : Type}

/-- the middle parts have changed places -/
def Mid (C X Y D : List α) (s t : Nat) (d : Array α) : Prop := d.toList = C ++ X.take s ++ Y.take t ++ (X.drop s ++ Y.drop t ++ D)
theorem mid_parts {C X Y D : List α} {d : Array α} (hd : d.toList = C ++ X ++ Y ++ D) (s t : Nat) : d.toList = (C ++ X.take s) ++ X.drop s ++ Y.take t ++ (Y.drop t ++ D) := by
  rw [hd]
  have h1 : X.take s ++ X.drop s = X := List.take_append_drop _ _
  have h2 : Y.take t ++ Y.drop t = Y := List.take_append_drop _ _
  conv => lhs; rw [← h1, ← h2]
  simp only [List.append_assoc]
theorem mid_rot {C X Y D : List α} {d : Array α} {s t : Nat} (h : d.toList = (C ++ X.take s) ++ Y.take t ++ X.drop s ++ (Y.drop t ++ D)) : Mid C X Y D s t d := by
  unfold Mid; rw [h]; simp only [List.append_assoc]
theorem mid_no {C X Y D : List α} {d : Array α} {s t : Nat} (hd : d.toList = C ++ X ++ Y ++ D) (h : X.length ≤ s ∨ t = 0) : Mid C X Y D s t d := by
  have := mid_parts hd s t
  unfold Mid
  rw [this]
  rcases h with h | h
  · rw [List.drop_of_length_le h]; simp
  · subst h
    simp only [List.take_zero, List.drop_zero, List.append_nil, List.append_assoc]
/-- the left half is merged -/
def Mid2 (r : α → Int) (C X Y D : List α) (s t : Nat) (Z : List α) (d : Array α) : Prop := d.toList = (C ++ Z) ++ X.drop s ++ Y.drop t ++ D ∧ St r (X.take s ++ Y.take t) Z
theorem mid2_go {r : α → Int} {C X Y D Z : List α} {s t : Nat} {d : Array α} (h : d.toList = C ++ Z ++ (X.drop s ++ Y.drop t ++ D)) (st : St r (X.take s ++ Y.take t) Z) : Mid2 r C X Y D s t Z d :=
  ⟨by rw [h]; simp only [List.append_assoc], st⟩
theorem mid2_no {r : α → Int} {C X Y D : List α} {s t : Nat} {d : Array α} (h : Mid C X Y D s t d) (uX : Up r X) (uY : Up r Y) (h0 : s = 0 ∨ t = 0) : Mid2 r C X Y D s t (X.take s ++ Y.take t) d := by
  refine ⟨by rw [show d.toList = _ from h]; simp only [List.append_assoc], St.refl ?_⟩
  rcases h0 with rfl | rfl
  · simpa using up_take uY t
  · simpa using up_take uX s
/-- all is merged -/
theorem mid3_go {r : α → Int} {C X Y D Z Z2 : List α} {s t : Nat} {d d' : Array α} (h : Mid2 r C X Y D s t Z d) (uX : Up r X) (uY : Up r Y)
    (hc : (∀ x ∈ X.drop s, ∀ y ∈ Y.take t, r y < r x) ∧ (∀ x ∈ X.take s, ∀ y ∈ Y.drop t, r x ≤ r y)) (h' : d'.toList = (C ++ Z) ++ Z2 ++ D) (st : St r (X.drop s ++ Y.drop t) Z2) :
    d'.toList = C ++ (Z ++ Z2) ++ D ∧ St r (X ++ Y) (Z ++ Z2) := by
  refine ⟨by rw [h']; simp only [List.append_assoc], ?_⟩
  have := St.merge (X1 := X.take s) (X2 := X.drop s) (Y1 := Y.take t) (Y2 := Y.drop t) (by rw [List.take_append_drop]; exact uX) (by rw [List.take_append_drop]; exact uY) hc.1 hc.2 h.2 st
  rwa [List.take_append_drop, List.take_append_drop] at this
theorem mid3_no {r : α → Int} {C X Y D Z : List α} {s t : Nat} {d : Array α} (h : Mid2 r C X Y D s t Z d) (uX : Up r X) (uY : Up r Y)
    (hc : (∀ x ∈ X.drop s, ∀ y ∈ Y.take t, r y < r x) ∧ (∀ x ∈ X.take s, ∀ y ∈ Y.drop t, r x ≤ r y)) (h0 : X.length ≤ s ∨ Y.length ≤ t) :
    d.toList = C ++ (Z ++ (X.drop s ++ Y.drop t)) ++ D ∧ St r (X ++ Y) (Z ++ (X.drop s ++ Y.drop t)) := by
  refine mid3_go h uX uY hc (by rw [h.1]; simp only [List.append_assoc]) (St.refl ?_)
  rcases h0 with h0 | h0
  · rw [List.drop_of_length_le h0]; simpa using up_drop uY t
  · rw [List.drop_of_length_le (l := Y) h0]; simpa using up_drop uX s
end Go.Proofs.Ythkakikigccaaaa
