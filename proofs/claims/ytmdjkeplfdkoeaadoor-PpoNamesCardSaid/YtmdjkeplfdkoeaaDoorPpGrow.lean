/-
  Proved here: one turn of a search by steps: what is reached grows by what one step reaches from those that are fresh. Condition: a light candidate that may be; two sets of one word that the caller made.
-/
import Derived.Test.YtmdjkeplfdkoeaaDoorPpNums
import Derived.Test.YtmdjkeplfdkoeaaDoorPpReach
import Derived.RangeFuncWrites
namespace Go.Proofs.YtmdjkeplfdkoeaaDoor
set_option linter.unusedVariables false
set_option linter.unusedSimpArgs false
open Go.RowKit Go.Shelf Go.Maps
attribute [local go_sem] Oper.semAt_some
attribute [local go_sem ↓] fold_E fold_SE

theorem TabT.on {w w' : World} (h : TabT w) (hb : Below w.heap.size w w') : TabT w' := fun j hj => by
  have h1 := h j hj
  have hl : 0 < w.heap.size := by
    obtain ⟨o, ho, _⟩ := cells_of_cell h1
    exact (Array.getElem?_eq_some_iff.1 ho).1
  exact (hb.cell (p := ⟨0, j, none⟩) hl).trans h1
theorem nums_stops (gx x Bs n₀ : Nat) (hx : x < 18446744073709551616) (w : World) (hBs : w.cell? ⟨Bs, 0, none⟩ = some (setV gx)) (hBl : Bs < w.heap.size) (hc : SetAt x gx w) (hn : n₀ ≤ w.heap.size) (hT : ∀ W', Below n₀ w W' → TabT W') :
    SeqStopsK Fence.wide 2 Tryd.prog 60 #[.pointer (some ⟨Bs, 0, none⟩)] (fun y : BitOf x => #[.int .i64 (y.1 : Int)]) (Below n₀) (AllOf x) (fun _ => True) 64 w := fun l J Jx W hW _ _ hY h0 =>
  nums1_in 2 (by omega) l Bs n₀ gx x hx J Jx hY W ((hW.cell (p := ⟨Bs, 0, none⟩) hBl).trans hBs) ((hW.cell (p := ⟨gx, 0, none⟩) hc.lt).trans hc.cell) (fun W' h => hT W' ((hW.mono hn).trans h)) h0

/-- what is reached, what is new, whether there is any, when what D says has been gone through -/
structure Gr (R : Nat) (D : Nat → Prop) (R' M : Nat) (G : Bool) : Prop where
  r : R' < 18446744073709551616
  m : M < 18446744073709551616
  rb : ∀ k, R'.testBit k = true ↔ R.testBit k = true ∨ D k
  mb : ∀ k, M.testBit k = true ↔ D k ∧ ¬ R.testBit k = true
  g : G = false ↔ ∀ k, ¬ M.testBit k = true
theorem Gr.start {R : Nat} (h : R < 18446744073709551616) : Gr R (fun _ => False) R 0 false := ⟨h, by omega, fun k => by simp, fun k => by simp, by simp⟩
theorem Gr.iff {R : Nat} {D D' : Nat → Prop} {R' M : Nat} {G : Bool} (h : Gr R D R' M G) (hD : ∀ k, D' k ↔ D k) : Gr R D' R' M G := ⟨h.r, h.m, fun k => by rw [h.rb, hD], fun k => by rw [h.mb, hD], h.g⟩
theorem Gr.keep {R : Nat} {D D' : Nat → Prop} {R' M : Nat} {G : Bool} (h : Gr R D R' M G) (t : Nat) (P : Prop) (hD : ∀ k, D' k ↔ D k ∨ (k = t ∧ P)) (hp : P → R'.testBit t = true) : Gr R D' R' M G := by
  refine ⟨h.r, h.m, fun k => ?_, fun k => ?_, h.g⟩
  · rw [h.rb, hD]
    constructor
    · rintro (h1 | h1)
      · exact .inl h1
      · exact .inr (.inl h1)
    · rintro (h1 | h1 | ⟨rfl, h1⟩)
      · exact .inl h1
      · exact .inr h1
      · exact (h.rb k).1 (hp h1)
  · rw [h.mb, hD]
    constructor
    · rintro ⟨h1, h2⟩; exact ⟨.inl h1, h2⟩
    · rintro ⟨h1 | ⟨rfl, h1⟩, h2⟩
      · exact ⟨h1, h2⟩
      · rcases (h.rb k).1 (hp h1) with h3 | h3
        · exact absurd h3 h2
        · exact ⟨h3, h2⟩
theorem or_bit (x n : Nat) (hx : x < 18446744073709551616) (hn : n < 64) : (x ||| 2 ^ n) < 18446744073709551616 := (put_bit x n hx hn).2
theorem Gr.put {R : Nat} {D D' : Nat → Prop} {R' M : Nat} {G : Bool} (h : Gr R D R' M G) (t : Nat) (ht : t < 64) (hn : R'.testBit t = false) (hD : ∀ k, D' k ↔ D k ∨ k = t) : Gr R D' (R' ||| 2 ^ t) (M ||| 2 ^ t) true := by
  have hnR : ¬ R.testBit t = true := fun h1 => by rw [(h.rb t).2 (.inl h1)] at hn; cases hn
  refine ⟨or_bit _ _ h.r ht, or_bit _ _ h.m ht, fun k => ?_, fun k => ?_, ?_⟩
  · rw [bit_put, Bool.or_eq_true, h.rb, hD, decide_eq_true_eq]
    constructor
    · rintro ((h1 | h1) | rfl)
      · exact .inl h1
      · exact .inr (.inl h1)
      · exact .inr (.inr rfl)
    · rintro (h1 | h1 | rfl)
      · exact .inl (.inl h1)
      · exact .inl (.inr h1)
      · exact .inr rfl
  · rw [bit_put, Bool.or_eq_true, h.mb, hD, decide_eq_true_eq]
    constructor
    · rintro (⟨h1, h2⟩ | rfl)
      · exact ⟨.inl h1, h2⟩
      · exact ⟨.inr rfl, hnR⟩
    · rintro ⟨h1 | rfl, h2⟩
      · exact .inl ⟨h1, h2⟩
      · exact .inr rfl
  · constructor
    · intro h1; cases h1
    · intro h1
      exact absurd (by rw [bit_put]; simp) (h1 t)
/-- the turn's boxes, its sets -/
structure Gw (p : Vp) (b gr s : Nat) (R' M : Nat) (G : Bool) (W : World) : Prop where
  bv : W.heap[s]? = some (.cells #[.pointer (some ⟨p.g, 0, none⟩)] 43 (0, 0))
  br : W.heap[s + 1]? = some (.cells #[setV gr] 64 (0, 0))
  bb : W.heap[s + 2]? = some (.cells #[.int .i64 (b : Int)] 3 (0, 0))
  bm : W.heap[s + 4]? = some (.cells #[setV (s + 3)] 64 (0, 0))
  bg : W.heap[s + 5]? = some (.cells #[.bool G] 4 (0, 0))
  sr : SetAt R' gr W
  sm : SetAt M (s + 3) W
theorem keeps_below {W W' : World} (h : Below W.heap.size W W') : KeepsOthers W W' := ⟨h.size, fun k o hk _ => (h.block k (Array.getElem?_eq_some_iff.1 hk).1).trans hk⟩
theorem Gw.on {p : Vp} {b gr s R' M : Nat} {G : Bool} {W W' : World} (h : Gw p b gr s R' M G W) (hb : ∀ (k : Nat) (cs : Array Value) (T : TypeId) (fr : Nat × Nat), W.heap[k]? = some (Obj.cells cs T fr) → W'.heap[k]? = some (Obj.cells cs T fr)) : Gw p b gr s R' M G W' :=
  ⟨hb _ _ _ _ h.bv, hb _ _ _ _ h.br, hb _ _ _ _ h.bb, hb _ _ _ _ h.bm, hb _ _ _ _ h.bg, hb _ _ _ _ h.sr, hb _ _ _ _ h.sm⟩
theorem Gw.below {p : Vp} {b gr s R' M : Nat} {G : Bool} {W W' : World} (h : Gw p b gr s R' M G W) (hb : Below W.heap.size W W') : Gw p b gr s R' M G W' :=
  h.on fun k cs T fr hk => (hb.block k (Array.getElem?_eq_some_iff.1 hk).1).trans hk
theorem grown_cells {W W' : World} {row : Option Nat} (hg : W.grownBy W' row) (hr : ∀ r, row = some r → ∃ o : Obj, W.heap[r]? = some o ∧ o.isCells = false) (k : Nat) (cs : Array Value) (T : TypeId) (fr : Nat × Nat) (hk : W.heap[k]? = some (Obj.cells cs T fr)) : W'.heap[k]? = some (Obj.cells cs T fr) :=
  (grownBy_keeps_cells hg hr hk rfl).trans hk
/-- the numbers gone through lead so far -/
def DoneF (c : Cd) (b : Nat) (pre : List Nat) (m : Nat) : Prop := m ≤ b ∧ ∃ y ∈ pre, edge c y m = true
/-- and of the one at hand, up to t -/
def DoneT (c : Cd) (b : Nat) (pre : List Nat) (f t : Nat) (m : Nat) : Prop := DoneF c b pre m ∨ (m < t ∧ m ≤ b ∧ edge c f m = true)
theorem DoneT.first {c : Cd} {b : Nat} {pre : List Nat} {f m : Nat} : DoneT c b pre f (f + 1) m ↔ DoneF c b pre m := by
  unfold DoneT
  constructor
  · rintro (h | ⟨h1, h2, h3⟩)
    · exact h
    · have := (edge_in h3).1; omega
  · exact .inl
theorem DoneT.last {c : Cd} {b : Nat} {pre : List Nat} {f t m : Nat} (ht : b < t) : DoneF c b (pre ++ [f]) m ↔ DoneT c b pre f t m := by
  unfold DoneT DoneF
  constructor
  · rintro ⟨h1, y, h2, h3⟩
    simp only [List.mem_append, List.mem_singleton] at h2
    rcases h2 with h2 | rfl
    · exact .inl ⟨h1, y, h2, h3⟩
    · exact .inr ⟨by omega, h1, h3⟩
  · rintro (⟨h1, y, h2, h3⟩ | ⟨h1, h2, h3⟩)
    · exact ⟨h1, y, by simp [h2], h3⟩
    · exact ⟨h2, f, by simp, h3⟩
theorem DoneT.next {c : Cd} {b : Nat} {pre : List Nat} {f t m : Nat} (ht : t ≤ b) : DoneT c b pre f (t + 1) m ↔ DoneT c b pre f t m ∨ (m = t ∧ edge c f t = true) := by
  unfold DoneT
  constructor
  · rintro (h | ⟨h1, h2, h3⟩)
    · exact .inl (.inl h)
    · by_cases he : m = t
      · subst he; exact .inr ⟨rfl, h3⟩
      · exact .inl (.inr ⟨by omega, h2, h3⟩)
  · rintro ((h | ⟨h1, h2, h3⟩) | ⟨rfl, h3⟩)
    · exact .inl h
    · exact .inr ⟨by omega, h2, h3⟩
    · exact .inr ⟨by omega, ht, h3⟩
/-- between two numbers -/
def GI (c : Cd) (p : Vp) (b gr s R n₀ : Nat) (w0 : World) (ys : List Nat) (W : World) : Prop := ∃ R' M G, Gr R (DoneF c b ys) R' M G ∧ Gw p b gr s R' M G W ∧ Below n₀ w0 W
theorem GI.own {c : Cd} {p : Vp} {b gr s R n₀ x B : Nat} {w0 : World} (h0 : n₀ ≤ w0.heap.size) (hB : n₀ ≤ B) : OwnFrom B (fun (pre : List (BitOf x)) W => GI c p b gr s R n₀ w0 (pre.map (·.1)) W) := fun ys W W' row hs hg hr => by
  obtain ⟨R', M, G, h1, h2, h3⟩ := hs
  exact ⟨R', M, G, h1, h2.on (grown_cells hg fun r e => (hr r e).2), h3.grown hg (Nat.le_trans h0 h3.size) fun k e => Nat.le_trans hB (hr k e).1⟩
/-- what a turn answers -/
def GrowIs (c : Cd) (b gr R x n₀ : Nat) (w0 : World) (e : Ending) (W : World) : Prop := ∃ R' M G ys g, e = .returned (.tuple #[setV g, .bool G]) ∧ (∀ k, x.testBit k = true ↔ k ∈ ys) ∧ Gr R (DoneF c b ys) R' M G ∧ SetAt R' gr W ∧ SetAt M g W ∧ n₀ ≤ g ∧ g ≠ gr ∧ Below n₀ w0 W
end Go.Proofs.YtmdjkeplfdkoeaaDoor
