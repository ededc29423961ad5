/-
  Words: lists that rise, and all of two of them joined; what is joined has all of both, rising, each once. No condition.
-/
namespace Go.Proofs.Ytcebcmmbokajcaa
set_option linter.unusedVariables false
set_option linter.unusedSimpArgs false
/-- each is above the one ahead, the first above lo -/
def risesFrom : Int → List Int → Bool
  | _, [] => true
  | lo, x :: l => decide (lo < x) && risesFrom x l
def rises (l : List Int) : Bool := risesFrom (-1) l
/-- the merge's step: x is the first list's first, f merges the rest of it -/
def mergeStep (x : Int) (a : List Int) (f : List Int → List Int) : List Int → List Int
  | [] => x :: a
  | y :: b => if x < y then x :: f (y :: b) else if y < x then y :: mergeStep x a f b else x :: f b
/-- all of two lists that rise -/
def mergeL : List Int → List Int → List Int
  | [] => fun b => b
  | x :: a => mergeStep x a (mergeL a)
theorem mergeL_nil (b : List Int) : mergeL [] b = b := rfl
theorem mergeL_nil_r (a : List Int) : mergeL a [] = a := by cases a <;> rfl
theorem mergeL_cons (x y : Int) (a b : List Int) : mergeL (x :: a) (y :: b) = if x < y then x :: mergeL a (y :: b) else if y < x then y :: mergeL (x :: a) b else x :: mergeL a b := rfl
theorem mergeL_lt (x y : Int) (a b : List Int) (h : x < y) : mergeL (x :: a) (y :: b) = x :: mergeL a (y :: b) := by rw [mergeL_cons, if_pos h]
theorem mergeL_gt (x y : Int) (a b : List Int) (h : y < x) : mergeL (x :: a) (y :: b) = y :: mergeL (x :: a) b := by rw [mergeL_cons, if_neg (by omega), if_pos h]
theorem mergeL_eq (x : Int) (a b : List Int) : mergeL (x :: a) (x :: b) = x :: mergeL a b := by rw [mergeL_cons, if_neg (by omega), if_neg (by omega)]
theorem mergeL_len : ∀ (n : Nat) (a b : List Int), a.length + b.length ≤ n → (mergeL a b).length ≤ a.length + b.length := by
  intro n
  induction n with
  | zero => intro a b h; have ha : a = [] := List.length_eq_zero_iff.1 (by omega); subst ha; rw [mergeL_nil]; simp
  | succ n ih =>
    intro a b h
    cases a with
    | nil => rw [mergeL_nil]; simp
    | cons x a =>
      cases b with
      | nil => rw [mergeL_nil_r]; simp
      | cons y b =>
        simp only [List.length_cons] at h
        rcases Int.lt_trichotomy x y with h1 | h1 | h1
        · rw [mergeL_lt _ _ _ _ h1]; have := ih a (y :: b) (by simp; omega); simp only [List.length_cons] at *; omega
        · subst h1; rw [mergeL_eq]; have := ih a b (by omega); simp only [List.length_cons]; omega
        · rw [mergeL_gt _ _ _ _ h1]; have := ih (x :: a) b (by simp; omega); simp only [List.length_cons] at *; omega
theorem mergeL_length (a b : List Int) : (mergeL a b).length ≤ a.length + b.length := mergeL_len _ a b (Nat.le_refl _)
theorem mem_mergeN : ∀ (n : Nat) (a b : List Int), a.length + b.length ≤ n → ∀ z, z ∈ mergeL a b ↔ z ∈ a ∨ z ∈ b := by
  intro n
  induction n with
  | zero => intro a b h; have ha : a = [] := List.length_eq_zero_iff.1 (by omega); subst ha; rw [mergeL_nil]; simp
  | succ n ih =>
    intro a b h z
    cases a with
    | nil => rw [mergeL_nil]; simp
    | cons x a =>
      cases b with
      | nil => rw [mergeL_nil_r]; simp
      | cons y b =>
        simp only [List.length_cons] at h
        rcases Int.lt_trichotomy x y with h1 | h1 | h1
        · rw [mergeL_lt _ _ _ _ h1, List.mem_cons, ih a (y :: b) (by simp; omega)]; simp only [List.mem_cons]; grind
        · subst h1; rw [mergeL_eq, List.mem_cons, ih a b (by omega)]; simp only [List.mem_cons]; grind
        · rw [mergeL_gt _ _ _ _ h1, List.mem_cons, ih (x :: a) b (by simp; omega)]; simp only [List.mem_cons]; grind
theorem mem_mergeL (a b : List Int) (z : Int) : z ∈ mergeL a b ↔ z ∈ a ∨ z ∈ b := mem_mergeN _ a b (Nat.le_refl _) z
theorem rises_mergeN : ∀ (n : Nat) (a b : List Int) (lo : Int), a.length + b.length ≤ n → risesFrom lo a = true → risesFrom lo b = true → risesFrom lo (mergeL a b) = true := by
  intro n
  induction n with
  | zero => intro a b lo h ha hb; have ha : a = [] := List.length_eq_zero_iff.1 (by omega); subst ha; rw [mergeL_nil]; exact hb
  | succ n ih =>
    intro a b lo h ha hb
    cases a with
    | nil => rw [mergeL_nil]; exact hb
    | cons x a =>
      cases b with
      | nil => rw [mergeL_nil_r]; exact ha
      | cons y b =>
        simp only [List.length_cons] at h
        simp only [risesFrom, Bool.and_eq_true, decide_eq_true_eq] at ha hb
        rcases Int.lt_trichotomy x y with h1 | h1 | h1
        · rw [mergeL_lt _ _ _ _ h1]; simp only [risesFrom, Bool.and_eq_true, decide_eq_true_eq]
          exact ⟨ha.1, ih a (y :: b) x (by simp; omega) ha.2 (by simp only [risesFrom, Bool.and_eq_true, decide_eq_true_eq]; exact ⟨h1, hb.2⟩)⟩
        · subst h1; rw [mergeL_eq]; simp only [risesFrom, Bool.and_eq_true, decide_eq_true_eq]; exact ⟨ha.1, ih a b x (by omega) ha.2 hb.2⟩
        · rw [mergeL_gt _ _ _ _ h1]; simp only [risesFrom, Bool.and_eq_true, decide_eq_true_eq]
          exact ⟨hb.1, ih (x :: a) b y (by simp; omega) (by simp only [risesFrom, Bool.and_eq_true, decide_eq_true_eq]; exact ⟨h1, ha.2⟩) hb.2⟩
theorem rises_mergeL (a b : List Int) (ha : rises a = true) (hb : rises b = true) : rises (mergeL a b) = true := rises_mergeN _ a b _ (Nat.le_refl _) ha hb
theorem rises_lo : ∀ (l : List Int) (lo : Int), risesFrom lo l = true → ∀ z ∈ l, lo < z := by
  intro l
  induction l with
  | nil => intro _ _ z hz; simp at hz
  | cons x l ih =>
    intro lo h z hz
    simp only [risesFrom, Bool.and_eq_true, decide_eq_true_eq] at h
    rcases List.mem_cons.1 hz with rfl | hz
    · exact h.1
    · have := ih x h.2 z hz; omega
theorem rises_ext : ∀ (a b : List Int) (lo : Int), risesFrom lo a = true → risesFrom lo b = true → (∀ z, z ∈ a ↔ z ∈ b) → a = b := by
  intro a
  induction a with
  | nil =>
    intro b lo _ _ h
    cases b with
    | nil => rfl
    | cons y b => have := (h y).2 (by simp); simp at this
  | cons x a ih =>
    intro b lo ha hb h
    cases b with
    | nil => have := (h x).1 (by simp); simp at this
    | cons y b =>
      simp only [risesFrom, Bool.and_eq_true, decide_eq_true_eq] at ha hb
      have hxy : x = y := by
        have h1 := (h x).1 (by simp)
        have h2 := (h y).2 (by simp)
        rcases List.mem_cons.1 h1 with h1 | h1
        · exact h1
        · rcases List.mem_cons.1 h2 with h2 | h2
          · exact h2.symm
          · have := rises_lo _ _ hb.2 x h1; have := rises_lo _ _ ha.2 y h2; omega
      subst hxy
      congr 1
      refine ih b x ha.2 hb.2 fun z => ?_
      have hz := h z
      simp only [List.mem_cons] at hz
      constructor
      · intro hza
        rcases hz.1 (.inr hza) with rfl | h'
        · have := rises_lo _ _ ha.2 z hza; omega
        · exact h'
      · intro hzb
        rcases hz.2 (.inr hzb) with rfl | h'
        · have := rises_lo _ _ hb.2 z hzb; omega
        · exact h'
theorem rises_eq (a b : List Int) (ha : rises a = true) (hb : rises b = true) (h : ∀ z, z ∈ a ↔ z ∈ b) : a = b := rises_ext a b _ ha hb h
theorem mergeL_comm (a b : List Int) (ha : rises a = true) (hb : rises b = true) : mergeL a b = mergeL b a :=
  rises_eq _ _ (rises_mergeL a b ha hb) (rises_mergeL b a hb ha) fun z => by rw [mem_mergeL, mem_mergeL]; exact Or.comm
theorem mergeL_assoc (a b c : List Int) (ha : rises a = true) (hb : rises b = true) (hc : rises c = true) : mergeL (mergeL a b) c = mergeL a (mergeL b c) :=
  rises_eq _ _ (rises_mergeL _ _ (rises_mergeL a b ha hb) hc) (rises_mergeL _ _ ha (rises_mergeL b c hb hc)) fun z => by simp only [mem_mergeL]; exact or_assoc
theorem mergeL_self (a : List Int) (ha : rises a = true) : mergeL a a = a := rises_eq _ _ (rises_mergeL a a ha ha) ha fun z => by rw [mem_mergeL]; exact or_self_iff
theorem mergeL_sub (a b : List Int) (ha : rises a = true) (hb : rises b = true) (h : ∀ z ∈ b, z ∈ a) : mergeL a b = a :=
  rises_eq _ _ (rises_mergeL a b ha hb) ha fun z => by rw [mem_mergeL]; exact ⟨fun h' => h'.elim id (h z), .inl⟩
/-! ### the join as the loops do it -/
/-- number k -/
def atI (l : List Int) (k : Nat) : Int := l.getD k 0
theorem drop_at (l : List Int) (k : Nat) (h : k < l.length) : l.drop k = atI l k :: l.drop (k + 1) := by
  unfold atI
  rw [List.drop_eq_getElem_cons h, List.getD_eq_getElem?_getD, List.getElem?_eq_getElem h]; rfl
theorem joined_lt (a b o : List Int) (i k : Nat) (hi : i < a.length) (hk : k < b.length) (h : atI a i < atI b k) :
    o ++ mergeL (a.drop i) (b.drop k) = (o ++ [atI a i]) ++ mergeL (a.drop (i + 1)) (b.drop k) := by
  rw [drop_at a i hi, drop_at b k hk, mergeL_lt _ _ _ _ h]; simp
theorem joined_gt (a b o : List Int) (i k : Nat) (hi : i < a.length) (hk : k < b.length) (h : atI b k < atI a i) :
    o ++ mergeL (a.drop i) (b.drop k) = (o ++ [atI b k]) ++ mergeL (a.drop i) (b.drop (k + 1)) := by
  rw [drop_at a i hi, drop_at b k hk, mergeL_gt _ _ _ _ h]; simp
theorem joined_eq (a b o : List Int) (i k : Nat) (hi : i < a.length) (hk : k < b.length) (h : atI a i = atI b k) :
    o ++ mergeL (a.drop i) (b.drop k) = (o ++ [atI a i]) ++ mergeL (a.drop (i + 1)) (b.drop (k + 1)) := by
  rw [drop_at a i hi, drop_at b k hk, ← h, mergeL_eq]; simp
theorem joined_a (a b o : List Int) (i k : Nat) (hk : b.length ≤ k) : o ++ mergeL (a.drop i) (b.drop k) = o ++ a.drop i := by
  rw [List.drop_eq_nil_of_le hk, mergeL_nil_r]
theorem joined_b (a b o : List Int) (i k : Nat) (hi : a.length ≤ i) : o ++ mergeL (a.drop i) (b.drop k) = o ++ b.drop k := by
  rw [List.drop_eq_nil_of_le hi, mergeL_nil]
/-! ### rising, number by number -/
theorem risesFrom_take (l : List Int) (lo : Int) (k : Nat) (hk : k < l.length) : risesFrom lo (l.take (k + 1)) = (risesFrom lo (l.take k) && decide (atI (lo :: l) k < atI l k)) := by
  induction l generalizing lo k with
  | nil => simp at hk
  | cons x l ih =>
    cases k with
    | zero => simp [risesFrom, atI]
    | succ k =>
      simp only [List.length_cons] at hk
      rw [List.take_succ_cons, List.take_succ_cons, risesFrom, risesFrom, ih x k (by omega), Bool.and_assoc]
      rfl
theorem risesFrom_pre (l : List Int) (lo : Int) (k : Nat) (h : risesFrom lo (l.take k) = false) : risesFrom lo l = false := by
  induction l generalizing lo k with
  | nil => simp [risesFrom] at h
  | cons x l ih =>
    cases k with
    | zero => simp [risesFrom] at h
    | succ k =>
      rw [List.take_succ_cons, risesFrom, Bool.and_eq_false_iff] at h
      rw [risesFrom, Bool.and_eq_false_iff]
      exact h.imp id (ih x k)
end Go.Proofs.Ytcebcmmbokajcaa
