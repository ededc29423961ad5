/-
  Proved here: a region that draws its order of evaluation may be walked in an order of ours, as a plain list, up to a point, where each operation is then the only one that may come up, or is a mere copy that nobody else touches. Condition: the post of a panic does not hang on the frame.
-/
import Derived.WalkKit
import Derived.Orders
namespace Go.Proofs.Ytjgkmnihdnigjaa
open Go

section
variable {P : Program} {ops : Array Oper} {Q : Exit → Act → World → Prop} {F : Act → World → Prop}

/-- a mere copy -/
def copyB (o : Oper) : Bool := match o.op with
  | .move _ => true
  | _ => false
/-- our order: each is the only one that may come up, or a mere copy that may be taken first; behind all of them 'target' has come up -/
def orderB (ops : Array Oper) (target : List Bool) : List Nat → Array Bool → Bool
  | [], listed => decide (listed.toList = target)
  | i :: is, listed =>
    (decide (Region.ready .any ops listed = [i]) || ((ops[i]?).any copyB && Region.free .any ops listed i && (Region.ready .any ops listed).contains i)) && orderB ops target is (listed.setIfInBounds i true)

theorem wp_of_then {o : Oper} {a : Act} {w : World} {next : Act → World → Prop} (h : o.wp P a w next (Exit.then F Q)) : o.wp P a w next Q := by
  unfold Oper.wp at *
  generalize (execOp a.eval o).run P w = r at *
  unfold Oper.upon at *
  split at h
  · exact h
  · exact h
  · exact h
  · refine Calls.mono h ?_
    intro e w'' h2
    cases e with
    | returned v => exact h2
    | panicked chain => exact h2
    | outgrown => exact h2
  · exact h
  · exact h
  · exact h
theorem copy_out {o : Oper} (ho : copyB o = true) : ∃ x, o.op = .move x := by
  unfold copyB at ho
  split at ho
  · exact ⟨_, by assumption⟩
  · cases ho
theorem copy_exec {o : Oper} {x : Operand} (ho : o.op = .move x) (a : Act) : execOp a.eval o = pure (.value (a.eval x)) := by
  unfold execOp; rw [ho]
theorem copy_asks {o : Oper} {x : Operand} (ho : o.op = .move x) (a : Act) (w : World) : ¬ o.asks P a w := by
  unfold Oper.asks
  rw [copy_exec ho]
  rintro ⟨h, _⟩
  have h2 : noRoomEvent ∈ (#[] : Array Event) := h
  simp at h2

theorem wpAny_order (hs : Region.noSelect ops = true) (hQ : ∀ c d v a w, Q (.panic c) (Act.put a d v) w → Q (.panic c) a w) (target : List Bool) (g : Nat) :
    ∀ (is : List Nat) (l : List Oper) (listed : Array Bool) (a : Act) (w : World), is.map (ops[·]?) = l.map some → orderB ops target is listed = true →
      wpList P ops (Exit.then (wpAny P .any ops Q g target.toArray) Q) l a w → wpAny P .any ops Q (l.length + g) listed a w
  | [], [], listed, a, w, _, hB, h => by
    have e : listed.toList = target := of_decide_eq_true hB
    have e2 : listed = target.toArray := by rw [← e]
    rw [e2, List.length_nil, Nat.zero_add]
    exact h
  | [], _ :: _, _, _, _, hl, _, _ => by simp at hl
  | _ :: _, [], _, _, _, hl, _, _ => by simp at hl
  | i :: is, o :: l, listed, a, w, hl, hB, h => by
    simp only [List.map_cons, List.cons.injEq] at hl
    obtain ⟨hi, hl⟩ := hl
    simp only [orderB, Bool.and_eq_true, Bool.or_eq_true] at hB
    obtain ⟨hB1, hB2⟩ := hB
    rw [List.length_cons, show l.length + 1 + g = (l.length + g) + 1 by omega]
    have ih := fun a w => wpAny_order hs hQ target g is l (listed.setIfInBounds i true) a w hl hB2
    unfold wpList at h
    rcases hB1 with hr | ⟨⟨hc, hf⟩, hr⟩
    · refine wpAny_all (rs := [i]) (of_decide_eq_true hr) (by simp) ?_
      intro j hj
      obtain rfl : j = i := by simpa using hj
      refine wpOp_mono (K := wpList P ops (Exit.then (wpAny P .any ops Q g target.toArray) Q) l) (fun a' w' h' => ih a' w' h') ?_
      unfold wpOp
      rw [hi]
      show if Region.wanted o (yielded ops a.tmps) = true then _ else _
      split at h
      · rename_i hw
        rw [if_pos hw]
        rcases h with h | ⟨h, a', w', h'⟩
        · exact .inl (wp_of_then h)
        · exact .inr ⟨h, a', w', h'⟩
      · rename_i hw
        rw [if_neg hw]
        exact h
    · have hco : copyB o = true := by rw [hi] at hc; simpa using hc
      obtain ⟨x, hx⟩ := copy_out hco
      split at h
      · rename_i hw
        refine wpAny_take hi hs hf hr (fun c b u => hQ c o.dst (a.eval x) b u) (.inl ⟨hw, fun w => by rw [copy_exec hx]; rfl⟩) ?_
        refine ih _ _ ?_
        rcases h with h | ⟨h, _⟩
        · unfold Oper.wp at h
          rw [copy_exec hx] at h
          exact h
        · exact absurd h (copy_asks hx a w)
      · rename_i hw
        refine wpAny_take hi hs hf hr (fun c b u => hQ c o.dst undef b u) (.inr ⟨by simpa using hw, rfl⟩) ?_
        exact ih _ _ h

/-- several may come up: each is walked, and then our order goes on -/
theorem wpAny_either {g : Nat} {listed : Array Bool} {a : Act} {w : World} (rs : List Nat) (hr : Region.ready .any ops listed = rs) (hne : rs ≠ [])
    (h : ∀ i ∈ rs, ∃ o, ops[i]? = some o ∧ wpList P ops (Exit.then (wpAny P .any ops Q g (listed.setIfInBounds i true)) Q) [o] a w) : wpAny P .any ops Q (g + 1) listed a w := by
  refine wpAny_all hr hne ?_
  intro i hi
  obtain ⟨o, ho, h⟩ := h i hi
  unfold wpOp
  rw [ho]
  unfold wpList at h
  show if Region.wanted o (yielded ops a.tmps) = true then _ else _
  split at h
  · rename_i hw
    rw [if_pos hw]
    rcases h with h | ⟨h, a', w', h'⟩
    · exact .inl (wp_of_then h)
    · exact .inr ⟨h, a', w', h'⟩
  · rename_i hw
    rw [if_neg hw]
    exact h
/-- the operations of a list, by their numbers, in an order of ours -/
def picked (L : List Oper) : List Nat → List Oper
  | [] => []
  | i :: is => (L.drop i).take 1 ++ picked L is
theorem picked_map (L : List Oper) : ∀ is : List Nat, (∀ i ∈ is, i < L.length) → is.map (L.toArray[·]?) = (picked L is).map some
  | [], _ => rfl
  | i :: is, h => by
    have hi : i < L.length := h i (by simp)
    have e : (L.drop i).take 1 = [L[i]] := by
      rw [List.drop_eq_getElem_cons hi]; rfl
    rw [List.map_cons, picked, e, List.map_append, ← picked_map L is (fun j hj => h j (by simp [hj]))]
    simp [hi]
def inB (n : Nat) (is : List Nat) : Bool := is.all fun i => decide (i < n)
/-- the whole: our order first, up to 'target' -/
theorem wpAny_picked {L : List Oper} {fuel : Nat} {listed : Array Bool} {a : Act} {w : World} (is : List Nat) (target : List Bool) (g : Nat) (hs : Region.noSelect L.toArray = true) (hQ : ∀ c d v a w, Q (.panic c) (Act.put a d v) w → Q (.panic c) a w)
    (hin : inB L.length is = true) (hB : orderB L.toArray target is listed = true) (hf : fuel = is.length + g)
    (h : wpList P L.toArray (Exit.then (wpAny P .any L.toArray Q g target.toArray) Q) (picked L is) a w) : wpAny P .any L.toArray Q fuel listed a w := by
  have hm := picked_map L is (fun i hi => of_decide_eq_true (List.all_eq_true.1 hin i hi))
  have hl : (picked L is).length = is.length := by
    have := congrArg List.length hm
    simpa using this.symm
  rw [hf, ← hl]
  exact wpAny_order hs hQ target g is (picked L is) listed a w hm hB h
theorem wpAny_two {L : List Oper} {g : Nat} {listed : List Bool} {a : Act} {w : World} (i j : Nat) (hr : Region.ready .any L.toArray listed.toArray = [i, j])
    (h1 : wpList P L.toArray (Exit.then (wpAny P .any L.toArray Q g (listed.set i true).toArray) Q) ((L.drop i).take 1) a w)
    (h2 : wpList P L.toArray (Exit.then (wpAny P .any L.toArray Q g (listed.set j true).toArray) Q) ((L.drop j).take 1) a w) : wpAny P .any L.toArray Q (g + 1) listed.toArray a w := by
  refine wpAny_either [i, j] hr (by simp) ?_
  have one : ∀ k, k ∈ Region.ready .any L.toArray listed.toArray → ∃ o, L.toArray[k]? = some o ∧ (L.drop k).take 1 = [o] := by
    intro k hk
    obtain ⟨_, o, ho, _⟩ := mem_ready.1 hk
    have hk2 : k < L.length := by
      have := (Array.getElem?_eq_some_iff.1 ho).1
      simpa using this
    have e : (L.drop k).take 1 = [L[k]] := by rw [List.drop_eq_getElem_cons hk2]; rfl
    have e2 : L[k] = o := by simpa [hk2] using ho
    exact ⟨o, ho, by rw [e, e2]⟩
  intro k hk
  obtain ⟨o, ho, e⟩ := one k (by rw [hr]; exact hk)
  refine ⟨o, ho, ?_⟩
  rw [← e]
  have hset : listed.toArray.setIfInBounds k true = (listed.set k true).toArray := by simp
  rw [hset]
  rcases List.mem_cons.1 hk with rfl | hk
  · exact h1
  · obtain rfl : k = j := by simpa using hk
    exact h2
end
end Go.Proofs.Ytjgkmnihdnigjaa
