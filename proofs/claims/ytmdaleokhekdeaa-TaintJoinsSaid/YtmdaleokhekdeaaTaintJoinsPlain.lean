/-
  Words: of numbers, each that is above all ahead; how many keys a map has that was put together from two lists. No condition.
-/
import Derived.Test.YtmdaleokhekdeaaTaintRead
import Derived.Test.YtmdaleokhekdeaaInsnPick
import Derived.Maps.Views
namespace Go.Proofs.Ytmdaleokhekdeaa
open Go.RowKit Go.Maps

/-- one more, if it is above the last one -/
def riseStep (o : List Int) (n : Int) : List Int := if o = [] then [n] else if o.getLast?.getD 0 < n then o ++ [n] else o
def riseL (l : List Int) : List Int := (l.map (fun z => pickI z 200)).foldl riseStep []
/-- a list that rises, of numbers from 0 to 199 -/
structure Low (o : List Int) : Prop where
  up : rises o = true
  lt : ∀ z ∈ o, 0 ≤ z ∧ z < 200
theorem low_nil : Low [] := ⟨rfl, fun z hz => by simp at hz⟩
theorem rises_snoc (o : List Int) (n : Int) (h : rises o = true) (hl : lastE (o ++ [n]) o.length < n) : rises (o ++ [n]) = true := by
  have := rises_step (o ++ [n]) o.length (by simp)
  rw [List.take_left, h] at this
  rw [List.take_of_length_le (by simp)] at this
  rw [this]
  have e : atI (o ++ [n]) o.length = n := by simp [atI]
  rw [e]
  simpa using hl
theorem lastE_one (n : Int) : lastE ([] ++ [n]) 0 = -1 := rfl
theorem lastE_snoc (o : List Int) (z n : Int) : lastE ((o ++ [z]) ++ [n]) (o ++ [z]).length = z := by
  rw [List.length_append, List.length_singleton, lastE_succ]
  simp [atI]
theorem riseStep_nil (n : Int) : riseStep [] n = [n] := rfl
theorem riseStep_up (o : List Int) (z n : Int) (h : z < n) : riseStep (o ++ [z]) n = (o ++ [z]) ++ [n] := by
  unfold riseStep
  rw [if_neg (by simp), if_pos (by simpa using h)]
theorem riseStep_no (o : List Int) (z n : Int) (h : ¬ z < n) : riseStep (o ++ [z]) n = o ++ [z] := by
  unfold riseStep
  rw [if_neg (by simp), if_neg (by simpa using h)]
theorem pick_in (z : Int) : 0 ≤ pickI z 200 ∧ pickI z 200 < 200 := by
  unfold pickI
  rw [if_neg (by omega)]
  exact ⟨Int.emod_nonneg _ (by omega), Int.emod_lt_of_pos _ (by omega)⟩
theorem low_step (o : List Int) (n : Int) (h : Low o) (hn : 0 ≤ n ∧ n < 200) : Low (riseStep o n) := by
  rcases List.eq_nil_or_concat o with rfl | ⟨o', z, rfl⟩
  · rw [riseStep_nil]
    refine ⟨?_, fun y hy => by simp at hy; omega⟩
    have := rises_snoc [] n rfl (by rw [List.length_nil, lastE_one]; omega)
    simpa using this
  · by_cases hz : z < n
    · rw [List.concat_eq_append] at *
      rw [riseStep_up _ _ _ hz]
      refine ⟨rises_snoc _ _ h.up (by rw [lastE_snoc]; exact hz), fun y hy => ?_⟩
      rcases List.mem_append.1 hy with hy | hy
      · exact h.lt y hy
      · simp at hy; omega
    · rw [List.concat_eq_append] at *
      rw [riseStep_no _ _ _ hz]; exact h
theorem riseL_take (l : List Int) (k : Nat) (hk : k < l.length) : riseL (l.take (k + 1)) = riseStep (riseL (l.take k)) (pickI (atI l k) 200) := by
  unfold riseL
  rw [List.take_succ_eq_append_getElem hk, List.map_append, List.foldl_append]
  unfold atI
  rw [List.getD_eq_getElem?_getD, List.getElem?_eq_getElem hk]
  rfl
theorem riseStep_len (o : List Int) (n : Int) : (riseStep o n).length ≤ o.length + 1 := by
  unfold riseStep
  split
  · simp
  · split
    · simp
    · omega
theorem riseL_ok (l : List Int) : ∀ k, k ≤ l.length → Low (riseL (l.take k)) ∧ (riseL (l.take k)).length ≤ k := by
  intro k
  induction k with
  | zero => intro _; exact ⟨by rw [List.take_zero]; exact low_nil, by simp [riseL]⟩
  | succ k ih =>
    intro hk
    obtain ⟨h1, h2⟩ := ih (by omega)
    rw [riseL_take l k (by omega)]
    exact ⟨low_step _ _ h1 (pick_in _), Nat.le_trans (riseStep_len _ _) (by omega)⟩
theorem riseL_low (l : List Int) : Low (riseL l) := by
  have := (riseL_ok l l.length (Nat.le_refl _)).1
  rwa [List.take_length] at this
theorem riseL_len (l : List Int) : (riseL l).length ≤ l.length := by
  have := (riseL_ok l l.length (Nat.le_refl _)).2
  rwa [List.take_length] at this
/-! ### how many keys -/
def lits (l : List Int) : List Lit := l.map (Lit.int .i64)
theorem same_int (a b : Int) : (Lit.int .i64 a).sameKey (Lit.int .i64 b) = decide (a = b) := by
  by_cases h : a = b
  · subst h; simp [Lit.sameKey]
  · rw [sameKey_ne (by simpa using h)]; simp [h]
theorem any_lits (l : List Int) (z : Int) : (lits l).any (fun y => y.sameKey (.int .i64 z)) = decide (z ∈ l) := by
  unfold lits
  rw [List.any_map, Bool.eq_iff_iff]
  simp only [List.any_eq_true, Function.comp, decide_eq_true_eq]
  constructor
  · rintro ⟨x, hx, h⟩
    rw [same_int] at h
    obtain rfl := of_decide_eq_true h
    exact hx
  · intro h
    exact ⟨z, h, by rw [same_int]; simp⟩
def addI (acc : List Int) (x : Int) : List Int := if x ∈ acc then acc else acc ++ [x]
theorem fold_add (xs : List Int) : ∀ acc : List Int, (lits xs).foldl addKey (lits acc) = lits (xs.foldl addI acc) := by
  induction xs with
  | nil => intro acc; rfl
  | cons x xs ih =>
    intro acc
    show (lits xs).foldl addKey (addKey (lits acc) (.int .i64 x)) = lits (xs.foldl addI (addI acc x))
    rw [← ih]
    congr 1
    unfold addKey addI
    rw [any_lits]
    by_cases h : x ∈ acc
    · simp [h]
    · simp [h, lits]
theorem addI_nodup (xs : List Int) : ∀ acc : List Int, acc.Nodup → (xs.foldl addI acc).Nodup := by
  induction xs with
  | nil => intro acc h; exact h
  | cons x xs ih =>
    intro acc h
    refine ih _ ?_
    unfold addI
    split
    · exact h
    · rename_i hx
      rw [List.nodup_append]
      refine ⟨h, by simp, fun a ha b hb => ?_⟩
      simp at hb
      subst hb
      intro e
      subst e
      exact hx ha
theorem addI_mem (xs : List Int) : ∀ (acc : List Int) (z : Int), z ∈ xs.foldl addI acc ↔ z ∈ acc ∨ z ∈ xs := by
  induction xs with
  | nil => intro acc z; simp
  | cons x xs ih =>
    intro acc z
    rw [List.foldl_cons, ih]
    unfold addI
    by_cases h : x ∈ acc
    · simp only [h, if_true, List.mem_cons]
      constructor
      · rintro (h1 | h1); exact .inl h1; exact .inr (.inr h1)
      · rintro (h1 | rfl | h1); exact .inl h1; exact .inl h; exact .inr h1
    · rw [if_neg h]
      simp [or_assoc]
theorem rises_nodup : ∀ (l : List Int) (lo : Int), risesFrom lo l = true → l.Nodup := by
  intro l
  induction l with
  | nil => intro _ _; exact List.nodup_nil
  | cons x l ih =>
    intro lo h
    simp only [risesFrom, Bool.and_eq_true, decide_eq_true_eq] at h
    rw [List.nodup_cons]
    refine ⟨fun hx => ?_, ih x h.2⟩
    have := rises_lo _ _ h.2 x hx
    omega
theorem count_join (a b : List Int) (ha : rises a = true) (hb : rises b = true) : ((a ++ b).foldl addI []).length = (mergeL a b).length := by
  refine List.Perm.length_eq ((List.perm_ext_iff_of_nodup (addI_nodup _ _ List.nodup_nil) (rises_nodup _ _ (rises_mergeL a b ha hb))).2 fun z => ?_)
  rw [addI_mem, mem_mergeL]
  simp
/-- the map behind all puts -/
def hasD {H : Type} (xs : List Int) : DataW H := setOf (.lit (.int .i64 1)) (lits xs)
theorem lits_snoc (xs : List Int) (x : Int) : lits (xs ++ [x]) = lits xs ++ [.int .i64 x] := by simp [lits]
theorem hasD_put {H : Type} (xs : List Int) (x : Int) : (hasD (H := H) xs).put (.int .i64 x) (.lit (.int .i64 1)) = hasD (xs ++ [x]) := by
  unfold hasD
  rw [lits_snoc, setOf_snoc]
theorem hasD_nil {H : Type} : hasD (H := H) [] = .map [] := rfl
def fitI (xs : List Int) : Prop := ∀ z ∈ xs, (Lit.int .i64 z).wf = true
end Go.Proofs.Ytmdaleokhekdeaa
