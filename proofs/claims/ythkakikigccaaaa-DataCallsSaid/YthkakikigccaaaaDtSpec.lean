/-
  Proved here, of lists alone: which piece is the first that is against it, how many doubles pieces have, where they end. No condition.
-/
import Derived.Test.YthkakikigccaaaaDtWords
namespace Go.Proofs.Ythkakikigccaaaa
set_option linter.unusedVariables false
set_option linter.unusedSimpArgs false

def sumS (l : List Pc) : Int := (l.map Pc.size).sum
theorem sumS_nil : sumS [] = 0 := rfl
theorem sumS_append (a b : List Pc) : sumS (a ++ b) = sumS a + sumS b := by simp [sumS]
theorem sumS_take {l : List Pc} {k : Nat} (h : k < l.length) : sumS (l.take (k + 1)) = sumS (l.take k) + l[k].size := by
  rw [List.take_succ_eq_append_getElem h, sumS_append]; simp [sumS]
def likeB (q p : Pc) : Bool := q.name.toList == p.name.toList && q.hart == p.hart
def hasB (l : List Pc) (p : Pc) : Bool := l.any fun q => likeB q p
theorem hasB_take {l : List Pc} {k : Nat} (h : k < l.length) (p : Pc) : hasB (l.take (k + 1)) p = (hasB (l.take k) p || likeB l[k] p) := by
  unfold hasB; rw [List.take_succ_eq_append_getElem h, List.any_append]; simp only [List.any_cons, List.any_nil, Bool.or_false]
/-- what is against piece k -/
def errP (l : List Pc) (k : Nat) (p : Pc) : Int := if mayB p = false then 2 else if hasB (l.take k) p = true then 8 else if 1024 ≤ k ∨ 65536 < sumS (l.take (k + 1)) then 7 else 0
def errAt (l : List Pc) (k : Nat) : Int := match l[k]? with | none => 0 | some p => errP l k p
theorem errAt_lt {l : List Pc} {k : Nat} (h : k < l.length) : errAt l k = errP l k l[k] := by unfold errAt; rw [List.getElem?_eq_getElem h]
def ckFrom (l : List Pc) : Nat → Nat → Int
  | _, 0 => 0
  | k, n + 1 => if errAt l k = 0 then ckFrom l (k + 1) n else errAt l k
def ckE (l : List Pc) : Int := ckFrom l 0 l.length
def OkUp (l : List Pc) (k : Nat) : Prop := ∀ j, j < k → errAt l j = 0
theorem OkUp.zero (l : List Pc) : OkUp l 0 := fun j h => by omega
theorem OkUp.succ {l : List Pc} {k : Nat} (h : OkUp l k) (e : errAt l k = 0) : OkUp l (k + 1) := fun j hj => by
  rcases Nat.lt_succ_iff_lt_or_eq.1 hj with h1 | h1
  · exact h j h1
  · subst h1; exact e
theorem OkUp.less {l : List Pc} {k m : Nat} (h : OkUp l k) (hm : m ≤ k) : OkUp l m := fun j hj => h j (by omega)
theorem ckFrom_good {l : List Pc} : ∀ (n k : Nat), (∀ j, k ≤ j → j < k + n → errAt l j = 0) → ckFrom l k n = 0
  | 0, _, _ => rfl
  | n + 1, k, h => by
    unfold ckFrom
    rw [if_pos (h k (Nat.le_refl _) (by omega))]
    exact ckFrom_good n (k + 1) (fun j h1 h2 => h j (by omega) (by omega))
theorem ckFrom_bad {l : List Pc} {e : Int} (he : e ≠ 0) : ∀ (n k j : Nat), k ≤ j → j < k + n → (∀ i, k ≤ i → i < j → errAt l i = 0) → errAt l j = e → ckFrom l k n = e
  | 0, k, j, h1, h2, _, _ => by omega
  | n + 1, k, j, h1, h2, h3, h4 => by
    unfold ckFrom
    by_cases hk : k = j
    · subst hk; rw [h4, if_neg he]
    · rw [if_pos (h3 k (Nat.le_refl _) (by omega))]
      exact ckFrom_bad he n (k + 1) j (by omega) (by omega) (fun i a b => h3 i (by omega) b) h4
theorem ckFrom_up {l : List Pc} : ∀ (n k : Nat), ckFrom l k n = 0 → ∀ j, k ≤ j → j < k + n → errAt l j = 0
  | 0, _, _, j, h1, h2 => by omega
  | n + 1, k, h, j, h1, h2 => by
    unfold ckFrom at h
    split at h
    · rename_i h0
      by_cases hk : k = j
      · subst hk; exact h0
      · exact ckFrom_up n (k + 1) h j (by omega) (by omega)
    · rename_i h0; exact absurd h h0
theorem ck_good {l : List Pc} (h : OkUp l l.length) : ckE l = 0 := ckFrom_good _ _ (fun j _ h2 => h j (by omega))
theorem ck_bad {l : List Pc} {k : Nat} {e : Int} (h : OkUp l k) (hk : k < l.length) (he : errAt l k = e) (h0 : e ≠ 0) : ckE l = e := ckFrom_bad h0 _ _ k (Nat.zero_le _) (by omega) (fun i _ hi => h i hi) he
theorem ck_up {l : List Pc} (h : ckE l = 0) : OkUp l l.length := fun j hj => ckFrom_up _ _ h j (Nat.zero_le _) (by omega)
def sizeS (l : List Pc) : Int := if ckE l = 0 then sumS l else 0
theorem sizeS_good {l : List Pc} (h : ckE l = 0) : sizeS l = sumS l := if_pos h
theorem sizeS_bad {l : List Pc} (h : ckE l ≠ 0) : sizeS l = 0 := if_neg h
structure ErrOk (l : List Pc) (k : Nat) (p : Pc) : Prop where
  may : mayB p = true
  new : hasB (l.take k) p = false
  few : k < 1024
  sum : sumS (l.take (k + 1)) ≤ 65536
theorem errP_ok {l : List Pc} {k : Nat} {p : Pc} (h : errP l k p = 0) : ErrOk l k p := by
  unfold errP at h
  split at h
  · cases h
  · rename_i h1
    split at h
    · cases h
    · rename_i h2
      split at h
      · cases h
      · rename_i h3
        exact ⟨by simpa using h1, by simpa using h2, by omega, by omega⟩
theorem mayB_facts {p : Pc} (h : mayB p = true) : 1 ≤ p.name.size ∧ p.name.size ≤ 32 ∧ 1 ≤ p.size ∧ p.size ≤ 65536 ∧ -1 ≤ p.hart ∧ p.hart < 8 := by
  simp only [mayB, ownB, Bool.and_eq_true, decide_eq_true_eq] at h
  omega
theorem OkUp.at_ {l : List Pc} {k : Nat} (h : OkUp l k) {j : Nat} (hj : j < k) (hl : j < l.length) : ErrOk l j l[j] := errP_ok (by rw [← errAt_lt hl]; exact h j hj)
theorem sum_nonneg {l : List Pc} {k : Nat} (h : OkUp l k) : ∀ j, j ≤ k → j ≤ l.length → 0 ≤ sumS (l.take j)
  | 0, _, _ => by simp [sumS]
  | j + 1, h1, h2 => by
    rw [sumS_take (by omega)]
    have := sum_nonneg h j (by omega) (by omega)
    have := (mayB_facts (h.at_ (show j < k by omega) (by omega)).may).2.2.1
    omega
theorem sum_le {l : List Pc} {k : Nat} (h : OkUp l k) (hk : k ≤ l.length) : sumS (l.take k) ≤ 65536 := by
  cases k with
  | zero => simp [sumS]
  | succ k => exact (h.at_ (Nat.lt_succ_self k) (by omega)).sum
theorem few {l : List Pc} {k : Nat} (h : OkUp l k) (hk : k ≤ l.length) : k ≤ 1024 := by
  cases k with
  | zero => omega
  | succ k => have := (h.at_ (Nat.lt_succ_self k) (by omega)).few; omega
end Go.Proofs.Ythkakikigccaaaa
