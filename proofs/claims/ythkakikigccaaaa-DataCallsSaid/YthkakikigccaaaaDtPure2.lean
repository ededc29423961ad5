/-
  Proved here, of lists and arrays alone: one element that moves through a sorted part; what a binary search tells; a part's places in an array. No condition.
-/
import Derived.Test.YthkakikigccaaaaDtPure
namespace Go.Proofs.Ythkakikigccaaaa
set_option linter.unusedVariables false
set_option linter.unusedSimpArgs false
open Go.Sort
variable {α : Type} [Inhabited α]

theorem at_part {d : Array α} {C X D : List α} {m : Nat} (h : d.toList = C ++ X ++ D) (hm : m = C.length) {t : Nat} (h1 : m ≤ t) (h2 : t < m + X.length) : d[t]! = X[t - m]'(by omega) := by
  subst hm
  have := at_list h (t - C.length) (by omega)
  rwa [show C.length + (t - C.length) = t by omega] at this
theorem up_at {r : α → Int} {d : Array α} {C X D : List α} {m : Nat} (h : d.toList = C ++ X ++ D) (hm : m = C.length) (u : Up r X) : ∀ s t, m ≤ s → s ≤ t → t < m + X.length → r d[s]! ≤ r d[t]! := by
  intro s t h1 h2 h3
  rw [at_part h hm h1 (by omega), at_part h hm (by omega) h3]
  exact u.le (by omega) (by omega)
/-- x stands behind t of Y's -/
def Mv (C Y D : List α) (x : α) (t : Nat) (d : Array α) : Prop := d.toList = C ++ Y.take t ++ x :: (Y.drop t ++ D)
theorem mv_right {C Y D : List α} {x : α} {t a : Nat} {d : Array α} (ha : a = C.length) (ht : t < Y.length) (h : Mv C Y D x t d) : Mv C Y D x (t + 1) (swp d (a + t) (a + t + 1)) := by
  subst ha
  have hY : Y.drop t = Y[t] :: Y.drop (t + 1) := List.drop_eq_getElem_cons ht
  have h' : d.toList = (C ++ Y.take t) ++ x :: ([] ++ Y[t] :: (Y.drop (t + 1) ++ D)) := by
    unfold Mv at h; rw [h, hY]; simp only [List.cons_append, List.nil_append]
  have := swp_toList h'
  have l1 : (C ++ Y.take t).length = C.length + t := by simp; omega
  rw [l1] at this
  simp only [List.length_nil, Nat.add_zero] at this
  unfold Mv
  rw [this, List.take_succ_eq_append_getElem ht]
  simp only [List.append_assoc, List.cons_append, List.nil_append]
theorem mv_left {C Y D : List α} {x : α} {t a : Nat} {d : Array α} (ha : a = C.length) (ht : t < Y.length) (h : Mv C Y D x (t + 1) d) : Mv C Y D x t (swp d (a + t + 1) (a + t)) := by
  have hY : Y.drop t = Y[t] :: Y.drop (t + 1) := List.drop_eq_getElem_cons ht
  have hd : d.size = C.length + Y.length + 1 + D.length := by
    have := congrArg List.length h; simp at this; omega
  rw [swp_comm _ _ _ (by omega) (by omega)]
  subst ha
  have h' : d.toList = (C ++ Y.take t) ++ Y[t] :: ([] ++ x :: (Y.drop (t + 1) ++ D)) := by
    unfold Mv at h; rw [h, List.take_succ_eq_append_getElem ht]; simp only [List.append_assoc, List.cons_append, List.nil_append]
  have := swp_toList h'
  have l1 : (C ++ Y.take t).length = C.length + t := by simp; omega
  rw [l1] at this
  simp only [List.length_nil, Nat.add_zero] at this
  unfold Mv
  rw [this, hY]
  simp only [List.append_assoc, List.cons_append, List.nil_append]
theorem up_take {β : Type} {r : β → Int} {l : List β} (u : Up r l) (t : Nat) : Up r (l.take t) := by unfold Up at u ⊢; exact u.sublist (List.take_sublist _ _)
theorem up_drop {β : Type} {r : β → Int} {l : List β} (u : Up r l) (t : Nat) : Up r (l.drop t) := by unfold Up at u ⊢; exact u.sublist (List.drop_sublist _ _)
/-- one element, merged into a part from the left -/
theorem st_left {β : Type} {r : β → Int} {Y : List β} {x : β} {t : Nat} (u : Up r Y) (h1 : ∀ y ∈ Y.take t, r y < r x) (h2 : ∀ y ∈ Y.drop t, r x ≤ r y) : St r (x :: Y) (Y.take t ++ x :: Y.drop t) := by
  have s1 : St r ([] ++ Y.take t) (Y.take t) := St.refl (up_take u t)
  have s2 : St r ([x] ++ Y.drop t) ([x] ++ Y.drop t) := St.refl (by
    unfold Up; rw [List.singleton_append, List.pairwise_cons]; exact ⟨h2, up_drop u t⟩)
  have := St.merge (X1 := []) (X2 := [x]) (Y1 := Y.take t) (Y2 := Y.drop t) (by simp [Up]) (by rw [List.take_append_drop]; exact u) (by simpa using h1) (by simp) s1 s2
  rw [List.take_append_drop] at this
  exact this
/-- one element, merged into a part from the right -/
theorem st_right {β : Type} {r : β → Int} {X : List β} {y : β} {t : Nat} (u : Up r X) (h1 : ∀ x ∈ X.take t, r x ≤ r y) (h2 : ∀ x ∈ X.drop t, r y < r x) : St r (X ++ [y]) (X.take t ++ y :: X.drop t) := by
  have s1 : St r (X.take t ++ [y]) (X.take t ++ [y]) := St.refl (by
    unfold Up; rw [List.pairwise_append]; exact ⟨up_take u t, by simp, by simpa using h1⟩)
  have s2 : St r (X.drop t ++ []) (X.drop t) := by rw [List.append_nil]; exact St.refl (up_drop u t)
  have := St.merge (X1 := X.take t) (X2 := X.drop t) (Y1 := [y]) (Y2 := []) (by rw [List.take_append_drop]; exact u) (by simp [Up]) (by simpa using h2) (by simp) s1 s2
  rw [List.take_append_drop] at this
  simpa using this
theorem take_of_at {d : Array α} {C X D : List α} {m : Nat} (h : d.toList = C ++ X ++ D) (hm : m = C.length) {p : α → Prop} {t : Nat} (ht : t ≤ X.length) (hp : ∀ s, m ≤ s → s < m + t → p d[s]!) : ∀ x ∈ X.take t, p x := by
  intro x hx
  rw [List.mem_take_iff_getElem] at hx
  obtain ⟨i, hi, rfl⟩ := hx
  have := hp (m + i) (by omega) (by omega)
  rw [at_part h hm (by omega) (by omega)] at this
  simpa using this
theorem drop_of_at {d : Array α} {C X D : List α} {m : Nat} (h : d.toList = C ++ X ++ D) (hm : m = C.length) {p : α → Prop} {t : Nat} (hp : ∀ s, m + t ≤ s → s < m + X.length → p d[s]!) : ∀ x ∈ X.drop t, p x := by
  intro x hx
  rw [List.mem_drop_iff_getElem] at hx
  obtain ⟨i, hi, rfl⟩ := hx
  have := hp (m + (t + i)) (by omega) (by omega)
  rw [at_part h hm (by omega) (by omega)] at this
  simpa [Nat.add_sub_cancel_left] using this
end Go.Proofs.Ythkakikigccaaaa
