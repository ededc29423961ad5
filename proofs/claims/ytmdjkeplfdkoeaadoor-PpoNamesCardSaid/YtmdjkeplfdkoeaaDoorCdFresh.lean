/-
  Proved here: cand's All answers all events by number, their lists in new memory; nothing that was there is changed. Condition: a light candidate that may be.
-/
import Derived.Test.YtmdjkeplfdkoeaaDoorCdLook
import Derived.Deep.RegionLaw
namespace Go.Proofs.YtmdjkeplfdkoeaaDoor
set_option linter.unusedVariables false
set_option linter.unusedSimpArgs false
open Go.RowKit
attribute [local go_sem ↓] fold_E fold_SE

theorem small_at {c : Cd} (h : Lt c) (n : Nat) (hn : n < c.N) : small (c.at n).2 := by
  obtain ⟨k, j, hk, hj, rfl⟩ := num_of c.len c.nh n hn
  rw [c.at_is k j hk hj]
  exact (h.small k hk).2 j hj
/-- the events: those of es have lists of their own, the others are as they were -/
structure Fr (c : Cd) (es : List Ev) (g : Nat) (w W : World) : Prop where
  blk : W.heap[g]? = some (.cells (flat (es ++ ((allP c c.nh).map (·.1)).drop es.length)).toArray 42 (0, 0))
  cp : Cp (fun n => (c.at n).1) (fun n => (c.at n).2) es W
  new : w.heap.size ≤ g
  below : Below w.heap.size w W
  old : ∀ n, n < c.N → EReads w (c.at n).1 (c.at n).2
theorem Fr.reads {c : Cd} {es : List Ev} {g : Nat} {w W : World} (h : Fr c es g w W) (n : Nat) (hn : n < c.N) : EReads W (c.at n).1 (c.at n).2 := (h.old n hn).below h.below
theorem Fr.lt {c : Cd} {es : List Ev} {g : Nat} {w W : World} (h : Fr c es g w W) : g < W.heap.size := (Array.getElem?_eq_some_iff.1 h.blk).1
theorem Fr.on {c : Cd} {es : List Ev} {g : Nat} {w W W2 : World} (h : Fr c es g w W) (hb : Below W.heap.size W W2) : Fr c es g w W2 := ⟨(hb.block g h.lt).trans h.blk, h.cp.on hb, h.new, h.below.trans (hb.mono h.below.size), h.old⟩
theorem Fr.three {c : Cd} {es : List Ev} {g : Nat} {w W : World} (h : Fr c es g w W) (k : Nat) (hk : es.length = k) (hn : k < c.N) : W.cell? ⟨g, k * 14 + 11, none⟩ = some (c.at k).1.a ∧ W.cell? ⟨g, k * 14 + 12, none⟩ = some (c.at k).1.d ∧ W.cell? ⟨g, k * 14 + 13, none⟩ = some (c.at k).1.y := by
  have he : (es ++ ((allP c c.nh).map (·.1)).drop es.length)[k]? = some (c.at k).1 := by
    rw [List.getElem?_append_right (by omega), hk, List.getElem?_drop, Nat.sub_self, Nat.add_zero, List.getElem?_map, c.at_mem k hn]; rfl
  refine ⟨?_, ?_, ?_⟩
  · rw [cell_of_row W g _ _ _ _ h.blk]; simpa using flat_at _ k 11 _ (c.at k).1.a he rfl
  · rw [cell_of_row W g _ _ _ _ h.blk]; simpa using flat_at _ k 12 _ (c.at k).1.d he rfl
  · rw [cell_of_row W g _ _ _ _ h.blk]; simpa using flat_at _ k 13 _ (c.at k).1.y he rfl
theorem Cp.store {ev : Nat → Ev} {el : Nat → El} {es : List Ev} {w : World} (h : Cp ev el es w) {g i : Nat} {u : Value} (hg : IsRow g w) : Cp ev el es (w.setCell ⟨g, i, none⟩ u) :=
  ⟨h.like, fun j e hj => ereads_store (h.reads j e hj) (h.typed j e hj) hg, fun j e hj => ⟨typed_store (h.typed j e hj).1 hg, typed_store (h.typed j e hj).2.1 hg, typed_store (h.typed j e hj).2.2 hg⟩⟩
theorem flat_put (es rest : List Ev) (e : Ev) (va vd vy : Value) : (((flat (es ++ e :: rest)).set (es.length * 14 + 11) va).set (es.length * 14 + 12) vd).set (es.length * 14 + 13) vy = flat ((es ++ [e.lists va vd vy]) ++ rest) := by
  have hl := flat_len es
  have h1 : flat (es ++ e :: rest) = flat es ++ (e.row ++ flat rest) := by rw [flat_app]; rfl
  have h2 : flat ((es ++ [e.lists va vd vy]) ++ rest) = flat es ++ ((e.lists va vd vy).row ++ flat rest) := by rw [List.append_assoc, flat_app]; rfl
  rw [h1, h2, List.set_append, if_neg (by omega), List.set_append, if_neg (by omega), List.set_append, if_neg (by omega), hl]
  congr 1
  rw [show es.length * 14 + 11 - es.length * 14 = 11 by omega, show es.length * 14 + 12 - es.length * 14 = 12 by omega, show es.length * 14 + 13 - es.length * 14 = 13 by omega]
  simp [Ev.row, Ev.lists]
theorem Fr.put {c : Cd} {es : List Ev} {g : Nat} {w W : World} (h : Fr c es g w W) (k : Nat) (hk : es.length = k) (hn : k < c.N) (va vd vy : Value) (hr : EReads W ((c.at k).1.lists va vd vy) (c.at k).2) (ht : TypedD W va vd vy) :
    Fr c (es ++ [(c.at k).1.lists va vd vy]) g w (((W.setCell ⟨g, k * 14 + 11, none⟩ va).setCell ⟨g, k * 14 + 12, none⟩ vd).setCell ⟨g, k * 14 + 13, none⟩ vy) := by
  have hd : ((allP c c.nh).map (·.1)).drop es.length = (c.at k).1 :: ((allP c c.nh).map (·.1)).drop (es.length + 1) := by
    have he : ((allP c c.nh).map (·.1))[es.length]? = some (c.at k).1 := by rw [hk, List.getElem?_map, c.at_mem k hn]; rfl
    have hlt := (List.getElem?_eq_some_iff.1 he).1
    rw [List.drop_eq_getElem_cons hlt, (List.getElem?_eq_some_iff.1 he).2]
  have hb0 := h.blk
  rw [hd] at hb0
  have i0 : IsRow g W := ⟨_, hb0⟩
  have i1 : IsRow g (W.setCell ⟨g, k * 14 + 11, none⟩ va) := i0.set _ _ _
  have i2 : IsRow g ((W.setCell ⟨g, k * 14 + 11, none⟩ va).setCell ⟨g, k * 14 + 12, none⟩ vd) := i1.set _ _ _
  have hcp := ((h.cp.add k hk hr ht).store (i := k * 14 + 11) (u := va) i0).store (i := k * 14 + 12) (u := vd) i1
  refine ⟨?_, hcp.store i2, h.new, ((h.below.setCell (p := ⟨g, _, none⟩) h.new _).setCell (p := ⟨g, _, none⟩) h.new _).setCell (p := ⟨g, _, none⟩) h.new _, h.old⟩
  have s1 := set_at _ _ (k * 14 + 11) va _ _ _ hb0
  have s2 := set_at _ _ (k * 14 + 12) vd _ _ _ s1
  have s3 := set_at _ _ (k * 14 + 13) vy _ _ _ s2
  rw [s3]
  simp only [List.setIfInBounds_toArray]
  subst hk
  rw [flat_put, List.length_append]
  rfl
def AllIs (c : Cd) (w : World) (e : Ending) (w' : World) : Prop := ∃ g es, e = .returned (.slice (some ⟨g, 0, none⟩) c.N c.N) ∧ es.length = c.N ∧ w.heap.size ≤ g ∧ w'.heap[g]? = some (.cells (flat es).toArray 42 (0, 0)) ∧ Cp (fun n => (c.at n).1) (fun n => (c.at n).2) es w' ∧ Below w.heap.size w w'
end Go.Proofs.YtmdjkeplfdkoeaaDoor
