/-
  Proved here, of lists and arrays alone: what an exchange, a rotation, a merge of two sorted parts makes of an array's list; what stays in its order is told by the lists of each rank. No condition.
-/
import Derived.Sort.LotA
namespace Go.Proofs.Ythkakikigccaaaa
set_option linter.unusedVariables false
set_option linter.unusedSimpArgs false
open Go.Sort
variable {α : Type} [Inhabited α]

theorem at_mid {d : Array α} {P R : List α} {x : α} (h : d.toList = P ++ x :: R) : d[P.length]! = x := by
  have : d[P.length]? = some x := by rw [← Array.getElem?_toList, h]; simp
  simp [getElem!_def, this]
theorem at_list {d : Array α} {C X D : List α} (h : d.toList = C ++ X ++ D) (i : Nat) (hi : i < X.length) : d[C.length + i]! = X[i] := by
  have : d[C.length + i]? = some X[i] := by
    rw [← Array.getElem?_toList, h, List.append_assoc, List.getElem?_append_right (by omega), List.getElem?_append_left (by omega)]
    simp [hi]
  simp [getElem!_def, this]
theorem swp_toList {d : Array α} {P Q R : List α} {x y : α} (h : d.toList = P ++ x :: (Q ++ y :: R)) :
    (swp d P.length (P.length + 1 + Q.length)).toList = P ++ y :: (Q ++ x :: R) := by
  have h1 : d[P.length]! = x := at_mid h
  have h2 : d[P.length + 1 + Q.length]! = y := by
    have h' : d.toList = (P ++ x :: Q) ++ y :: R := by rw [h]; simp
    have := at_mid h'
    simpa [Nat.add_assoc, Nat.add_comm, Nat.add_left_comm] using this
  unfold swp
  rw [h1, h2]
  simp only [Array.toList_setIfInBounds, h]
  have e1 : (P ++ x :: (Q ++ y :: R)).set P.length y = P ++ y :: (Q ++ y :: R) := by simp
  rw [e1]
  have e2 : P ++ y :: (Q ++ y :: R) = (P ++ y :: Q) ++ y :: R := by simp
  have e3 : P.length + 1 + Q.length = (P ++ y :: Q).length := by simp; omega
  rw [e2, e3]
  simp
theorem swp_comm (d : Array α) (i j : Nat) (hi : i < d.size) (hj : j < d.size) : swp d i j = swp d j i := by
  apply Array.ext
  · simp [swp_size]
  · intro k h1 h2
    have a := swp_get d hi hj k
    have b := swp_get d hj hi k
    have e : ∀ (x : Array α) (h : k < x.size), x[k]! = x[k] := fun x h => by simp [h]
    rw [e _ h1] at a; rw [e _ h2] at b
    rw [a, b]
    by_cases k1 : k = j
    · by_cases k2 : k = i
      · subst k1; subst k2; rfl
      · rw [if_pos k1, if_neg k2, if_pos k1]
    · by_cases k2 : k = i
      · subst k2; rw [if_neg k1, if_pos rfl, if_pos rfl]
      · rw [if_neg k1, if_neg k2, if_neg k2, if_neg k1]

/-! ### two parts of one length exchange their places -/
def Sw (C A M B D : List α) (t : Nat) (d : Array α) : Prop := d.toList = C ++ (B.take t ++ A.drop t) ++ M ++ (A.take t ++ B.drop t) ++ D
omit [Inhabited α] in
theorem sw_start {C A M B D : List α} {d : Array α} (h : d.toList = C ++ A ++ M ++ B ++ D) : Sw C A M B D 0 d := by unfold Sw; rw [h]; simp
omit [Inhabited α] in
theorem sw_end {C A M B D : List α} {d : Array α} (hl : A.length = B.length) (h : Sw C A M B D A.length d) : d.toList = C ++ B ++ M ++ A ++ D := by
  unfold Sw at h
  rw [h, List.drop_of_length_le (Nat.le_refl _), List.take_of_length_le (Nat.le_refl _), List.take_of_length_le (by omega), List.drop_of_length_le (by omega)]
  simp
theorem sw_step {C A M B D : List α} {d : Array α} {t : Nat} (hl : A.length = B.length) (ht : t < A.length) (h : Sw C A M B D t d) :
    Sw C A M B D (t + 1) (swp d (C.length + t) (C.length + A.length + M.length + t)) := by
  have hA : A.drop t = A[t] :: A.drop (t + 1) := List.drop_eq_getElem_cons ht
  have hB : B.drop t = B[t] :: B.drop (t + 1) := List.drop_eq_getElem_cons (by omega)
  have h' : d.toList = (C ++ B.take t) ++ A[t] :: ((A.drop (t + 1) ++ M ++ A.take t) ++ B[t] :: (B.drop (t + 1) ++ D)) := by
    unfold Sw at h; rw [h, hA, hB]; simp only [List.append_assoc, List.cons_append]
  have := swp_toList h'
  have l1 : (C ++ B.take t).length = C.length + t := by simp; omega
  have l2 : (C ++ B.take t).length + 1 + (A.drop (t + 1) ++ M ++ A.take t).length = C.length + A.length + M.length + t := by simp; omega
  rw [l2, l1] at this
  unfold Sw
  rw [this, List.take_succ_eq_append_getElem ht, List.take_succ_eq_append_getElem (show t < B.length by omega)]
  simp only [List.append_assoc, List.cons_append, List.nil_append]
omit [Inhabited α] in
theorem sw_size {C A M B D : List α} {d : Array α} {t : Nat} (hl : A.length = B.length) (ht : t ≤ A.length) (h : Sw C A M B D t d) : d.size = C.length + A.length + M.length + B.length + D.length := by
  unfold Sw at h
  have := congrArg List.length h
  simp at this
  omega

/-! ### a part turned about -/
def Rt (C A B D F : List α) (d : Array α) : Prop := d.toList = C ++ A ++ B ++ D ∧ C ++ B ++ A ++ D = F

/-! ### sorted by rank, all else in its order -/
section
variable {β : Type} (r : β → Int)
def Up (l : List β) : Prop := l.Pairwise fun x y => r x ≤ r y
def pick (h : Int) (l : List β) : List β := l.filter fun x => r x == h
structure St (l z : List β) : Prop where
  up : Up r z
  len : z.length = l.length
  same : ∀ h, pick r h z = pick r h l
variable {r}
theorem pick_append (h : Int) (a b : List β) : pick r h (a ++ b) = pick r h a ++ pick r h b := by simp [pick]
theorem St.mem {l z : List β} (s : St r l z) (x : β) : x ∈ z ↔ x ∈ l := by
  have := s.same (r x)
  have a : x ∈ z ↔ x ∈ pick r (r x) z := by simp [pick]
  have b : x ∈ l ↔ x ∈ pick r (r x) l := by simp [pick]
  rw [a, b, this]
theorem St.refl {l : List β} (h : Up r l) : St r l l := ⟨h, rfl, fun _ => rfl⟩
theorem pick_nil_of {h : Int} {l : List β} (hl : ∀ x ∈ l, r x ≠ h) : pick r h l = [] := by
  unfold pick; rw [List.filter_eq_nil_iff]; intro x hx; simpa using hl x hx
theorem pick_swap {h : Int} {a b : List β} (hl : ∀ x ∈ a, ∀ y ∈ b, r x ≠ r y) : pick r h a ++ pick r h b = pick r h b ++ pick r h a := by
  by_cases ha : ∃ x ∈ a, r x = h
  · obtain ⟨x, hx, rfl⟩ := ha
    rw [pick_nil_of (l := b) (fun y hy e => hl x hx y hy e.symm)]; simp
  · rw [pick_nil_of (l := a) (fun x hx e => ha ⟨x, hx, e⟩)]; simp
/-- two parts, each parted once more: the middle ones change places -/
theorem St.merge {X1 X2 Y1 Y2 Z1 Z2 : List β} (uX : Up r (X1 ++ X2)) (uY : Up r (Y1 ++ Y2)) (h1 : ∀ x ∈ X2, ∀ y ∈ Y1, r y < r x) (h2 : ∀ x ∈ X1, ∀ y ∈ Y2, r x ≤ r y)
    (s1 : St r (X1 ++ Y1) Z1) (s2 : St r (X2 ++ Y2) Z2) : St r ((X1 ++ X2) ++ (Y1 ++ Y2)) (Z1 ++ Z2) := by
  unfold Up at uX uY
  rw [List.pairwise_append] at uX uY
  refine ⟨?_, ?_, fun h => ?_⟩
  · unfold Up
    rw [List.pairwise_append]
    refine ⟨s1.up, s2.up, fun a ha b hb => ?_⟩
    rw [s1.mem, List.mem_append] at ha
    rw [s2.mem, List.mem_append] at hb
    rcases ha with ha | ha <;> rcases hb with hb | hb
    · exact uX.2.2 a ha b hb
    · exact h2 a ha b hb
    · exact Int.le_of_lt (h1 b hb a ha)
    · exact uY.2.2 a ha b hb
  · simp [s1.len, s2.len]; omega
  · rw [pick_append, s1.same, s2.same]
    simp only [pick_append, List.append_assoc]
    congr 1
    rw [← List.append_assoc, ← List.append_assoc, pick_swap (a := Y1) (b := X2) (fun x hx y hy e => by have := h1 y hy x hx; omega)]
theorem Up.le {l : List β} (u : Up r l) {i j : Nat} (hij : i ≤ j) (hj : j < l.length) : r (l[i]'(by omega)) ≤ r l[j] := by
  unfold Up at u
  rw [List.pairwise_iff_getElem] at u
  rcases Nat.lt_or_eq_of_le hij with h | h
  · exact u i j (by omega) hj h
  · subst h; exact Int.le_refl _
/-- where two sorted parts are cut so that the cut's neighbours stand right, all stand right -/
theorem cut_lt {X Y : List β} (uX : Up r X) (uY : Up r Y) {s e : Nat} (hs : s ≤ X.length) (he : e ≤ Y.length) (h : s = X.length ∨ e = 0 ∨ ∃ (h1 : s < X.length) (h2 : e - 1 < Y.length), 0 < e ∧ r Y[e - 1] < r X[s]) :
    ∀ x ∈ X.drop s, ∀ y ∈ Y.take e, r y < r x := by
  intro x hx y hy
  rw [List.mem_drop_iff_getElem] at hx
  rw [List.mem_take_iff_getElem] at hy
  obtain ⟨i, hi, rfl⟩ := hx
  obtain ⟨j, hj, rfl⟩ := hy
  rcases h with h | h | ⟨h1, h2, h0, h⟩
  · omega
  · omega
  · have a := uX.le (show s ≤ s + i by omega) (by omega)
    have b := uY.le (show j ≤ e - 1 by omega) h2
    omega
theorem cut_le {X Y : List β} (uX : Up r X) (uY : Up r Y) {s e : Nat} (hs : s ≤ X.length) (he : e ≤ Y.length) (h : s = 0 ∨ e = Y.length ∨ ∃ (h1 : s - 1 < X.length) (h2 : e < Y.length), 0 < s ∧ r X[s - 1] ≤ r Y[e]) :
    ∀ x ∈ X.take s, ∀ y ∈ Y.drop e, r x ≤ r y := by
  intro x hx y hy
  rw [List.mem_take_iff_getElem] at hx
  rw [List.mem_drop_iff_getElem] at hy
  obtain ⟨i, hi, rfl⟩ := hx
  obtain ⟨j, hj, rfl⟩ := hy
  rcases h with h | h | ⟨h1, h2, h0, h⟩
  · omega
  · omega
  · have a := uX.le (show i ≤ s - 1 by omega) h1
    have b := uY.le (show e ≤ e + j by omega) (by omega)
    omega
/-- two that are sorted and have the same of each rank are one -/
theorem St.unique : ∀ {z z' : List β}, Up r z → Up r z' → (∀ h, pick r h z = pick r h z') → z = z'
  | [], [], _, _, _ => rfl
  | [], y :: z', _, _, h => by have := h (r y); simp [pick] at this
  | x :: z, [], _, _, h => by have := h (r x); simp [pick] at this
  | x :: z, y :: z', u, u', h => by
    have ux := List.pairwise_cons.1 u
    have uy := List.pairwise_cons.1 u'
    have mem : ∀ v, v ∈ x :: z ↔ v ∈ y :: z' := fun v => by
      have a : v ∈ x :: z ↔ v ∈ pick r (r v) (x :: z) := by simp [pick]
      have b : v ∈ y :: z' ↔ v ∈ pick r (r v) (y :: z') := by simp [pick]
      rw [a, b, h]
    have hxy : r x = r y := by
      have p1 : r y ≤ r x := by
        rcases List.mem_cons.1 ((mem x).1 (by simp)) with e | e
        · rw [e]; exact Int.le_refl _
        · exact uy.1 x e
      have p2 : r x ≤ r y := by
        rcases List.mem_cons.1 ((mem y).2 (by simp)) with e | e
        · rw [e]; exact Int.le_refl _
        · exact ux.1 y e
      omega
    have h0 := h (r x)
    have e1 : pick r (r x) (x :: z) = x :: pick r (r x) z := by simp [pick]
    have e2 : pick r (r x) (y :: z') = y :: pick r (r x) z' := by simp [pick, hxy]
    rw [e1, e2] at h0
    obtain ⟨rfl, _⟩ := List.cons.inj h0
    congr 1
    refine St.unique ux.2 uy.2 fun k => ?_
    have := h k
    simp only [pick, List.filter_cons] at this ⊢
    split at this
    · exact (List.cons.inj this).2
    · exact this
end
end Go.Proofs.Ythkakikigccaaaa
