/-
  Proved here: an insertion sort of a part of an array puts it in its order, each rank's as they stood; a stable sort of at most forty. No condition.
-/
import Derived.Test.YthkakikigccaaaaDtPure3
import Derived.Sort.LotA
namespace Go.Proofs.Ythkakikigccaaaa
set_option linter.unusedVariables false
set_option linter.unusedSimpArgs false
open Go.Sort
variable {α : Type} [Inhabited α]

theorem pick_swp {r : α → Int} {d : Array α} {j : Nat} (hj : j + 1 < d.size) (hne : r d[j + 1]! ≠ r d[j]!) (h : Int) : pick r h (swp d (j + 1) j).toList = pick r h d.toList := by
  have hl : d.toList.length = d.size := by simp
  have e0 : d.toList = d.toList.take j ++ d.toList[j]'(by omega) :: (([] : List α) ++ d.toList[j + 1]'(by omega) :: d.toList.drop (j + 2)) := by
    have h1 : d.toList.drop j = d.toList[j]'(by omega) :: d.toList.drop (j + 1) := List.drop_eq_getElem_cons (by omega)
    have h2 : d.toList.drop (j + 1) = d.toList[j + 1]'(by omega) :: d.toList.drop (j + 2) := List.drop_eq_getElem_cons (by omega)
    rw [List.nil_append, ← h2, ← h1, List.take_append_drop]
  have e1 := swp_toList e0
  have l1 : (d.toList.take j).length = j := by simp; omega
  rw [l1] at e1
  simp only [List.length_nil, Nat.add_zero, List.nil_append] at e1 e0
  have g1 : d[j]! = d.toList[j]'(by omega) := by simp [show j < d.size by omega]
  have g2 : d[j + 1]! = d.toList[j + 1]'(by omega) := by simp [hj]
  rw [g1, g2] at hne
  rw [swp_comm _ _ _ hj (by omega), e1]
  conv => rhs; rw [e0]
  generalize d.toList[j]'(by omega) = x at hne ⊢
  generalize d.toList[j + 1]'(by omega) = y at hne ⊢
  have c : ∀ (u v : α) (R : List α), u :: v :: R = [u] ++ [v] ++ R := fun _ _ _ => rfl
  rw [c, c]
  simp only [pick_append]
  rw [pick_swap (a := [y]) (b := [x]) (fun u hu v hv => by simp at hu hv; subst hu; subst hv; exact hne)]
theorem pick_inner {r : α → Int} {lt : α → α → Bool} (hlt : ∀ x y, lt x y = true → r x < r y) (a : Nat) (h : Int) : ∀ (j : Nat) (d : Array α), j < d.size → pick r h (insInner lt a j d).toList = pick r h d.toList
  | 0, d, _ => by unfold insInner; rfl
  | j + 1, d, hj => by
    unfold insInner
    split
    · rename_i hc
      simp only [Bool.and_eq_true, decide_eq_true_eq] at hc
      have hne := hlt _ _ hc.2
      rw [pick_inner hlt a h j _ (by rw [swp_size]; omega), pick_swp hj (by omega)]
    · rfl
theorem size_inner {lt : α → α → Bool} (a : Nat) : ∀ (j : Nat) (d : Array α), (insInner lt a j d).size = d.size
  | 0, d => by unfold insInner; rfl
  | j + 1, d => by
    unfold insInner
    split
    · rw [size_inner, swp_size]
    · rfl
theorem pick_outer {r : α → Int} {lt : α → α → Bool} (hlt : ∀ x y, lt x y = true → r x < r y) (a b : Nat) (h : Int) : ∀ (n i : Nat) (d : Array α), b - i = n → b ≤ d.size → pick r h (insOuter lt a b i d).toList = pick r h d.toList
  | 0, i, d, hn, _ => by rw [insOuter, if_neg (by omega)]
  | n + 1, i, d, hn, hb => by
    rw [insOuter, if_pos (by omega), pick_outer hlt a b h n (i + 1) _ (by omega) (by rw [size_inner]; exact hb), pick_inner hlt a h i d (by omega)]
/-- an array that is another one but for a part -/
theorem part_of {d d' : Array α} {C X D : List α} {a b : Nat} (hd : d.toList = C ++ X ++ D) (ha : a = C.length) (hb : b = a + X.length) (hs : d'.size = d.size) (ho : ∀ i, i < a ∨ b ≤ i → d'[i]! = d[i]!) :
    ∃ Z : List α, Z.length = X.length ∧ d'.toList = C ++ Z ++ D := by
  have hl : d.size = C.length + X.length + D.length := by have := congrArg List.length hd; simp at this; omega
  refine ⟨(d'.toList.drop a).take (b - a), by simp; omega, ?_⟩
  have g : ∀ (x : Array α) (i : Nat) (hi : i < x.size), x[i]! = x.toList[i]'(by simpa using hi) := fun x i hi => by simp [hi]
  have f1 : d'.toList.take a = C := by
    apply List.ext_getElem
    · simp; omega
    · intro i h1 h2
      have := ho i (.inl (by omega))
      rw [g d' i (by omega), g d i (by omega)] at this
      rw [List.getElem_take, this]
      simp only [hd, List.append_assoc]
      exact List.getElem_append_left h2
  have f2 : d'.toList.drop b = D := by
    apply List.ext_getElem
    · simp; omega
    · intro i h1 h2
      have := ho (b + i) (.inr (by omega))
      rw [g d' _ (by omega), g d _ (by omega)] at this
      rw [List.getElem_drop, this]
      simp only [hd]
      rw [List.getElem_append_right (by simp; omega)]
      congr 1
      simp; omega
  have e1 : d'.toList = d'.toList.take a ++ d'.toList.drop a := (List.take_append_drop _ _).symm
  have e2 : d'.toList.drop a = (d'.toList.drop a).take (b - a) ++ (d'.toList.drop a).drop (b - a) := (List.take_append_drop _ _).symm
  conv => lhs; rw [e1, e2, List.drop_drop, show a + (b - a) = b by omega, f1, f2]
  rw [List.append_assoc]
theorem ins_part {r : α → Int} {lt : α → α → Bool} (hO : SWO lt) (hlt : ∀ x y, lt x y = true ↔ r x < r y) {d : Array α} {C X D : List α} {a b : Nat} (hd : d.toList = C ++ X ++ D) (ha : a = C.length) (hb : b = a + X.length) :
    ∃ Z, (insertionSort lt d a b).size = d.size ∧ (insertionSort lt d a b).toList = C ++ Z ++ D ∧ St r X Z := by
  have hl : d.size = C.length + X.length + D.length := by have := congrArg List.length hd; simp at this; omega
  obtain ⟨hp, hs⟩ := insertionSort_holds hO d a b (by omega) (by omega)
  obtain ⟨Z, hZ, hZl⟩ := part_of hd ha hb hp.1 hp.2.1
  refine ⟨Z, hp.1, hZl, ?_, hZ, fun h => ?_⟩
  · unfold Up
    rw [List.pairwise_iff_getElem]
    intro i j hi hj hij
    have := hs (a + i) (a + j) (by omega) (by omega) (by omega)
    rw [at_part hZl ha (by omega) (by omega), at_part hZl ha (by omega) (by omega)] at this
    simp only [Nat.add_sub_cancel_left] at this
    have h9 : ¬ r Z[j] < r Z[i] := fun e => by rw [(hlt _ _).2 e] at this; cases this
    omega
  · have h1 := pick_outer (fun x y => (hlt x y).1) a b h _ (a + 1) d rfl (by omega)
    have h2 : (insOuter lt a b (a + 1) d).toList = C ++ Z ++ D := hZl
    rw [h2, hd] at h1
    simp only [pick_append, List.append_assoc] at h1
    exact List.append_cancel_right (List.append_cancel_left h1)
/-- sorted twenty by twenty, then merged -/
theorem St.both {β : Type} {r : β → Int} {X Y X' Y' Z : List β} (h1 : St r X X') (h2 : St r Y Y') (h : St r (X' ++ Y') Z) : St r (X ++ Y) Z :=
  ⟨h.up, by rw [h.len]; simp [h1.len, h2.len], fun k => by rw [h.same, pick_append, pick_append, h1.same, h2.same]⟩
end Go.Proofs.Ythkakikigccaaaa
