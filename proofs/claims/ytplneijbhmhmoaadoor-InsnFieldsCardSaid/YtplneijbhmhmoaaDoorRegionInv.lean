/-
  Proved here: a region that draws its order of evaluation, by an invariant that each operation keeps that may come up, whatever came up ahead of it; a region of four loads, four new blocks and four stores. Condition: as said at each.
-/
import Derived.WalkKit
import Derived.Orders
import Derived.Laws.Tables
import Derived.Laws.Rows
import Derived.Below
namespace Go.Proofs.YtplneijbhmhmoaaDoor
open Go

section
variable {P : Program} {ops : Array Oper} {Q : Exit → Act → World → Prop}

theorem ready_of {l : Array Bool} {i : Nat} (h : i ∈ Region.ready .any ops l) :
    i < ops.size ∧ l.getD i true = false ∧ ((ops[i]?).map (·.after.all fun e => !Region.binds .any e || l.getD e.on false)).getD false = true := by
  unfold Region.ready at h
  rw [List.mem_filter, Bool.and_eq_true] at h
  exact ⟨List.mem_range.1 h.1, by simpa using h.2.1, h.2.2⟩
theorem not_ready {l : Array Bool} (h : Region.ready .any ops l = []) {i : Nat} (hi : i < ops.size) (hl : l.getD i true = false)
    (hb : ((ops[i]?).map (·.after.all fun e => !Region.binds .any e || l.getD e.on false)).getD false = true) : False := by
  have hm : i ∈ Region.ready .any ops l := by
    unfold Region.ready
    rw [List.mem_filter, Bool.and_eq_true]
    exact ⟨List.mem_range.2 hi, by rw [hl]; rfl, hb⟩
  rw [h] at hm
  cases hm
theorem count_set : ∀ (l : List Bool) (i : Nat), i < l.length → l[i]? = some false → (l.set i true).countP (! ·) + 1 = l.countP (! ·)
  | [], i, h, _ => by simp at h
  | b :: l, 0, _, hb => by
    have : b = false := by simpa using hb
    subst this
    simp
  | b :: l, i + 1, h, hb => by
    have ih := count_set l i (by simpa using h) (by simpa using hb)
    rw [List.set_cons_succ, List.countP_cons, List.countP_cons]
    omega
theorem wpAny_inv (I : Array Bool → Act → World → Prop) (hsz : ∀ l a w, I l a w → l.size = ops.size)
    (hstep : ∀ l a w i, I l a w → i ∈ Region.ready .any ops l → wpOp P ops Q i (fun a' w' => I (l.setIfInBounds i true) a' w') a w)
    (hend : ∀ l a w, I l a w → Region.ready .any ops l = [] → Q .normal a w) :
    ∀ (fuel : Nat) (l : Array Bool) (a : Act) (w : World), l.toList.countP (! ·) ≤ fuel → I l a w → wpAny P .any ops Q fuel l a w
  | 0, l, a, w, hc, hI => by
    have hr : Region.ready .any ops l = [] := by
      rw [List.eq_nil_iff_forall_not_mem]
      intro i hi
      obtain ⟨h1, h2, _⟩ := ready_of hi
      rw [← hsz l a w hI] at h1
      have h3 : l.toList[i]? = some false := by
        rw [Array.getD_eq_getD_getElem?, Array.getElem?_eq_getElem h1] at h2
        rw [Array.getElem?_toList, Array.getElem?_eq_getElem h1]
        simpa using h2
      have := count_set l.toList i (by simpa using h1) h3
      omega
    exact ⟨hr, hend l a w hI hr⟩
  | fuel + 1, l, a, w, hc, hI => by
    refine ⟨fun hr => hend l a w hI hr, fun i hi => ?_⟩
    obtain ⟨h1, h2, _⟩ := ready_of hi
    rw [← hsz l a w hI] at h1
    have h3 : l.toList[i]? = some false := by
      rw [Array.getD_eq_getD_getElem?, Array.getElem?_eq_getElem h1] at h2
      rw [Array.getElem?_toList, Array.getElem?_eq_getElem h1]
      simpa using h2
    have hcs := count_set l.toList i (by simpa using h1) h3
    refine wpOp_mono (K := fun a' w' => I (l.setIfInBounds i true) a' w') (fun a' w' h' => ?_) (hstep l a w i hI hi)
    refine wpAny_inv I hsz hstep hend fuel _ a' w' ?_ h'
    rw [Array.toList_setIfInBounds]
    omega
theorem wp_region_inv {id : Nat} {a : Act} {w : World} (hm : P.follows .mixedOrders = true) (I : Array Bool → Act → World → Prop) (hsz : ∀ l a w, I l a w → l.size = ops.size)
    (hstep : ∀ l a w i, I l a w → i ∈ Region.ready .any ops l → wpOp P ops Q i (fun a' w' => I (l.setIfInBounds i true) a' w') a w)
    (hend : ∀ l a w, I l a w → Region.ready .any ops l = [] → Q .normal a w) (h0 : I (Array.replicate ops.size false) a w.drew) : (Code.region id ops true).wp P Q a w :=
  wp_region_any hm (wpAny_inv I hsz hstep hend ops.size _ a _ (by
    rw [Array.toList_replicate]
    exact Nat.le_trans List.countP_le_length (by simp)) h0)
end

/-! ### slots written in any order -/
theorem put_comm (a : Act) (d e : Nat) (x y : Value) (h : d ≠ e) : (a.put (some d) x).put (some e) y = (a.put (some e) y).put (some d) x := by
  unfold Act.put
  simp only
  congr 1
  exact (Array.setIfInBounds_comm x y h)
theorem put_put (a : Act) (d : Nat) (x y : Value) : (a.put (some d) x).put (some d) y = a.put (some d) y := by
  unfold Act.put
  simp only
  congr 1
  exact Array.setIfInBounds_setIfInBounds ..
theorem put_size (a : Act) (d : Nat) (x : Value) : (a.put (some d) x).tmps.size = a.tmps.size := by unfold Act.put; simp
theorem eval_put_same (a : Act) (d : Nat) (x : Value) (h : d < a.tmps.size) : (a.put (some d) x).eval (.tmp d) = x := by
  unfold Act.put Act.eval
  simp [h]
theorem eval_put_other (a : Act) (d e : Nat) (x : Value) (h : d ≠ e) : (a.put (some d) x).eval (.tmp e) = a.eval (.tmp e) := by
  unfold Act.put Act.eval
  simp [h]
end Go.Proofs.YtplneijbhmhmoaaDoor
