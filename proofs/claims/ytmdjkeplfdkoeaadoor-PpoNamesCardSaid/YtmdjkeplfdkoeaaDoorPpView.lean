/-
  Proved here: what a view's small questions answer: writes, reads, memory, oneHart, oneAddr; nothing that was there is changed. Condition: numbers that there are.
  (With it: Words: what package ppo knows of each event of a candidate; its rules, as plain functions. No condition.)
-/
import Derived.Test.YtmdjkeplfdkoeaaDoorCdFew
namespace Go.Proofs.YtmdjkeplfdkoeaaDoor
set_option linter.unusedVariables false
set_option linter.unusedSimpArgs false
open Go.RowKit

/-- what an event does to memory: 1 writes, 2 reads -/
def sideE (e : Ev) : Nat := (if readsE e then 2 else 0) + (if writesE e then 1 else 0)
theorem sideE_lt (e : Ev) : sideE e < 4 := by unfold sideE; cases readsE e <;> cases writesE e <;> decide
/-- the last of the first n that writes somewhere -/
def wrL (c : Cd) (x : Int) : Nat → Nat
  | 0 => 0
  | n + 1 => if writesE (c.at n).1 = true ∧ (c.at n).1.addr = x then n else wrL c x n
/-- have two sets of sides one in common? -/
def meetS (x : Int) (s : Nat) : Bool := decide ((x.toNat &&& s) ≠ 0)
/-- the last fence of the first n at which those that do s wait for those that do p -/
def fnL (c : Cd) (s p : Nat) : Nat → Nat
  | 0 => 0
  | n + 1 => if sideE (c.at n).1 = 0 ∧ meetS (c.at n).1.succ s = true ∧ meetS (c.at n).1.pred p = true then n else fnL c s p n
/-- the number that a place of an event's hart has -/
def numAt (c : Cd) (n : Nat) (x : Int) : Int := (n : Int) - (c.at n).1.pos + x
/-- the first of the first n that hangs on a by its address, so many of the next one's list gone through -/
def hgL (c : Cd) (a : Int) : Nat → Int
  | 0 => 0
  | n + 1 => if hgL c a n = 0 ∧ a ∈ (c.at n).2.a.map (numAt c n) then n else hgL c a n
def hgP (c : Cd) (a : Int) (n k : Nat) : Int := if hgL c a n = 0 ∧ a ∈ ((c.at n).2.a.take k).map (numAt c n) then n else hgL c a n
theorem hgP_zero (c : Cd) (a : Int) (n : Nat) : hgP c a n 0 = hgL c a n := by unfold hgP; simp
theorem hgP_all (c : Cd) (a : Int) (n : Nat) : hgP c a n (c.at n).2.a.length = hgL c a (n + 1) := by unfold hgP; rw [List.take_length]; rfl
theorem take_at (l : List Int) (k : Nat) (hk : k < l.length) : l.take (k + 1) = l.take k ++ [atI l k] := by
  rw [List.take_add_one, List.getElem?_eq_getElem hk]; simp [atI, hk]
theorem hgP_next (c : Cd) (a : Int) (n k : Nat) (hk : k < (c.at n).2.a.length) : hgP c a n (k + 1) = if hgP c a n k = 0 ∧ a = numAt c n (atI (c.at n).2.a k) then (n : Int) else hgP c a n k := by
  have hm : (a ∈ ((c.at n).2.a.take (k + 1)).map (numAt c n)) = (a ∈ ((c.at n).2.a.take k).map (numAt c n) ∨ a = numAt c n (atI (c.at n).2.a k)) := by
    rw [take_at _ k hk, List.map_append, List.mem_append]; simp
  unfold hgP
  simp only [hm]
  by_cases h1 : hgL c a n = 0
  · by_cases h2 : a ∈ ((c.at n).2.a.take k).map (numAt c n)
    · simp only [h1, h2, true_and, true_or, if_true]
      split <;> rfl
    · simp only [h1, h2, true_and, false_or, if_false]
  · simp only [h1, false_and, if_false]
def betweenB (a n b : Int) : Bool := decide (a < n) && decide (n < b)
/-- both memory's, a ahead of b -/
def aheadP (c : Cd) (a b : Int) : Bool :=
  decide (0 ≤ a) && (decide (a < b) && (decide (b < (c.N : Int)) && (decide ((c.at a.toNat).1.hart = (c.at b.toNat).1.hart) && (memE (c.at a.toNat).1 && memE (c.at b.toNat).1))))
/-- rule r (from 0 on) of a and b -/
def ruleB (c : Cd) (a b : Nat) : Nat → Bool
  | 0 => writesE (c.at b).1 && decide ((c.at a).1.addr = (c.at b).1.addr)
  | 1 => readsE (c.at a).1 && (readsE (c.at b).1 && (decide ((c.at a).1.addr = (c.at b).1.addr) && (!betweenB a (wrL c (c.at b).1.addr b) b && decide (atI c.fr a ≠ atI c.fr b))))
  | 2 => (decide ((c.at a).1.kind = 4) || decide ((c.at a).1.kind = 5)) && (readsE (c.at b).1 && decide (atI c.fr b = (a : Int)))
  | 3 => betweenB a (fnL c (sideE (c.at b).1) (sideE (c.at a).1) b) b
  | 4 => (c.at a).1.aq
  | 5 => (c.at b).1.rl
  | 6 => ((c.at a).1.aq || (c.at a).1.rl) && ((c.at b).1.aq || (c.at b).1.rl)
  | 7 => decide ((c.at b).1.kind = 4) && decide ((c.at b).1.pair = (c.at a).1.pos)
  | 8 => decide ((c.at a).1.pos ∈ (c.at b).2.a)
  | 9 => decide ((c.at a).1.pos ∈ (c.at b).2.d)
  | 10 => writesE (c.at b).1 && decide ((c.at a).1.pos ∈ (c.at b).2.y)
  | 11 => readsE (c.at b).1 && (betweenB a (atI c.fr b) b && (decide ((c.at a).1.pos ∈ (c.at (atI c.fr b).toNat).2.a) || decide ((c.at a).1.pos ∈ (c.at (atI c.fr b).toNat).2.d)))
  | 12 => writesE (c.at b).1 && betweenB a (hgL c a c.N) b
  | _ => false
/-- the first of the rules from r on, so many of them -/
def firstFrom (f : Nat → Bool) : Nat → Nat → Nat
  | _, 0 => 0
  | r, k + 1 => if f r then r + 1 else firstFrom f (r + 1) k
def firstL (c : Cd) (a b : Nat) : Nat := firstFrom (ruleB c a b) 0 13
/-- what Rule answers -/
def ruleL (c : Cd) (a b : Int) : Nat := if aheadP c a b then firstL c a.toNat b.toNat else 0
theorem firstFrom_zero (f : Nat → Bool) : ∀ (k r : Nat), firstFrom f r k = 0 ↔ ∀ j, r ≤ j → j < r + k → f j = false
  | 0, r => by simp only [firstFrom, true_iff]; intro j h1 h2; omega
  | k + 1, r => by
    unfold firstFrom
    cases hf : f r with
    | true =>
      simp only [if_true]
      constructor
      · intro h; omega
      · intro h; have := h r (by omega) (by omega); rw [hf] at this; cases this
    | false =>
      simp only [Bool.false_eq_true, if_false]
      rw [firstFrom_zero f k (r + 1)]
      constructor
      · intro h j h1 h2
        by_cases e : j = r
        · subst e; exact hf
        · exact h j (by omega) (by omega)
      · intro h j h1 h2; exact h j (by omega) (by omega)
theorem firstFrom_le (f : Nat → Bool) : ∀ (k r : Nat), firstFrom f r k ≤ r + k
  | 0, r => by unfold firstFrom; omega
  | k + 1, r => by
    unfold firstFrom
    split
    · omega
    · have := firstFrom_le f k (r + 1); omega
theorem firstL_pos (c : Cd) (a b r : Nat) (hr : r < 13) (h : ruleB c a b r = true) : firstL c a b ≠ 0 := fun e => by
  have := (firstFrom_zero _ 13 0).1 e r (by omega) (by omega)
  rw [h] at this; cases this
end Go.Proofs.YtmdjkeplfdkoeaaDoor
namespace Go.Proofs.YtmdjkeplfdkoeaaDoor
set_option linter.unusedVariables false
set_option linter.unusedSimpArgs false
open Go.RowKit
attribute [local go_sem ↓] fold_E fold_SE
attribute [local irreducible] wpStill

/-- what is known, in a row -/
def kCells (K : Nat → Nat → Int) (N : Nat) : List Value := (List.range (N * 7)).map fun i => .int .i64 (K (i / 7) (i % 7))
theorem kCells_len (K : Nat → Nat → Int) (N : Nat) : (kCells K N).length = N * 7 := by simp [kCells]
theorem kCells_at (K : Nat → Nat → Int) (N n j : Nat) (hn : n < N) (hj : j < 7) : (kCells K N)[n * 7 + j]? = some (.int .i64 (K n j)) := by
  unfold kCells
  rw [List.getElem?_map, List.getElem?_range (by omega)]
  simp only [Option.map_some]
  rw [show (n * 7 + j) / 7 = n by omega, show (n * 7 + j) % 7 = j by omega]
def updK (K : Nat → Nat → Int) (n j : Nat) (x : Int) : Nat → Nat → Int := fun a b => if a = n ∧ b = j then x else K a b
theorem kCells_set (K : Nat → Nat → Int) (N n j : Nat) (hn : n < N) (hj : j < 7) (x : Int) : (kCells K N).set (n * 7 + j) (.int .i64 x) = kCells (updK K n j x) N := by
  apply List.ext_getElem?
  intro i
  rw [List.getElem?_set]
  by_cases hi : i < N * 7
  · have e1 : (kCells K N)[i]? = some (.int .i64 (K (i / 7) (i % 7))) := by unfold kCells; rw [List.getElem?_map, List.getElem?_range hi]; rfl
    have e2 : (kCells (updK K n j x) N)[i]? = some (.int .i64 (updK K n j x (i / 7) (i % 7))) := by unfold kCells; rw [List.getElem?_map, List.getElem?_range hi]; rfl
    rw [e1, e2]
    unfold updK
    by_cases h : n * 7 + j = i
    · subst h
      rw [if_pos rfl, if_pos (by rw [kCells_len]; omega), if_pos ⟨by omega, by omega⟩]
    · rw [if_neg h, if_neg (by omega)]
  · have e1 : (kCells K N)[i]? = none := List.getElem?_eq_none (by rw [kCells_len]; omega)
    have e2 : (kCells (updK K n j x) N)[i]? = none := List.getElem?_eq_none (by rw [kCells_len]; omega)
    rw [e1, e2]
    by_cases h : n * 7 + j = i
    · omega
    · rw [if_neg h]
/-- where a view lies -/
structure Vp where
  aA : Option Addr
  cA : Nat
  b : Nat
  off : Nat
  aR : Option Addr
  cR : Nat
  gk : Nat
  g : Nat
  W0 : World
/-- a view -/
structure Vw (c : Cd) (K : Nat → Nat → Int) (p : Vp) (w : World) : Prop where
  box : w.heap[p.g]? = some (.cells #[.slice p.aA c.N p.cA, .slice p.aR c.fr.length p.cR, .slice (some ⟨p.gk, 0, none⟩) c.N c.N] 48 (0, 0))
  kn : w.heap[p.gk]? = some (.cells (kCells K c.N).toArray 62 (0, 0))
  bel : Below p.W0.heap.size p.W0 w
  hk : p.W0.heap.size ≤ p.gk
  hg : p.W0.heap.size ≤ p.g
  ne : p.g ≠ p.gk
  hA : 0 < c.N → p.aA = some ⟨p.b, p.off, none⟩
  ev0 : ∀ n, n < c.N → EvIn (c.at n).1 p.b (p.off + n * 14) p.W0
  rd0 : ∀ n, n < c.N → EReads p.W0 (c.at n).1 (c.at n).2
  lt0 : 0 < c.N → p.b < p.W0.heap.size
  fr0 : ReadsI p.W0 (.slice p.aR c.fr.length p.cR) c.fr
theorem Vw.on {c : Cd} {K : Nat → Nat → Int} {p : Vp} {w w2 : World} (h : Vw c K p w) (hb : Below w.heap.size w w2) : Vw c K p w2 :=
  ⟨(hb.block _ (Array.getElem?_eq_some_iff.1 h.box).1).trans h.box, (hb.block _ (Array.getElem?_eq_some_iff.1 h.kn).1).trans h.kn, h.bel.trans (hb.mono h.bel.size), h.hk, h.hg, h.ne, h.hA, h.ev0, h.rd0, h.lt0, h.fr0⟩
theorem Vw.set {c : Cd} {K : Nat → Nat → Int} {p : Vp} {w : World} (h : Vw c K p w) (n j : Nat) (hn : n < c.N) (hj : j < 7) (x : Int) : Vw c (updK K n j x) p (w.setCell ⟨p.gk, n * 7 + j, none⟩ (.int .i64 x)) :=
  ⟨(Below.heap_setCell w ⟨p.gk, n * 7 + j, none⟩ _ _ h.ne).trans h.box, by
    have := set_at w p.gk (n * 7 + j) (.int .i64 x) _ _ _ h.kn
    rw [this]
    congr 2
    rw [← kCells_set K c.N n j hn hj x]
    simp, h.bel.setCell h.hk _, h.hk, h.hg, h.ne, h.hA, h.ev0, h.rd0, h.lt0, h.fr0⟩
theorem Vw.k {c : Cd} {K : Nat → Nat → Int} {p : Vp} {w : World} (h : Vw c K p w) (n j : Nat) (hn : n < c.N) (hj : j < 7) : w.cell? ⟨p.gk, n * 7 + j, none⟩ = some (.int .i64 (K n j)) := by
  rw [cell_of_row w p.gk (n * 7 + j) _ _ _ h.kn]
  simpa using kCells_at K c.N n j hn hj
theorem Vw.free {c : Cd} {K : Nat → Nat → Int} {p : Vp} {w : World} (h : Vw c K p w) (i : Nat) : w.frozen? ⟨p.gk, i, none⟩ = false := frozen_of_row w p.gk i _ _ h.kn
theorem Vw.three {c : Cd} {K : Nat → Nat → Int} {p : Vp} {w : World} (h : Vw c K p w) : w.cell? ⟨p.g, 0, none⟩ = some (.slice p.aA c.N p.cA) ∧ w.cell? ⟨p.g, 1, none⟩ = some (.slice p.aR c.fr.length p.cR) ∧ w.cell? ⟨p.g, 2, none⟩ = some (.slice (some ⟨p.gk, 0, none⟩) c.N c.N) :=
  ⟨by rw [cell_of_row w p.g 0 _ _ _ h.box]; rfl, by rw [cell_of_row w p.g 1 _ _ _ h.box]; rfl, by rw [cell_of_row w p.g 2 _ _ _ h.box]; rfl⟩
theorem Vw.ev {c : Cd} {K : Nat → Nat → Int} {p : Vp} {w : World} (h : Vw c K p w) (n : Nat) (hn : n < c.N) : EvIn (c.at n).1 p.b (p.off + n * 14) w := (h.ev0 n hn).below h.bel (h.lt0 (by omega))
theorem Vw.rd {c : Cd} {K : Nat → Nat → Int} {p : Vp} {w : World} (h : Vw c K p w) (n : Nat) (hn : n < c.N) : EReads w (c.at n).1 (c.at n).2 := (h.rd0 n hn).below h.bel
theorem Vw.fr {c : Cd} {K : Nat → Nat → Int} {p : Vp} {w : World} (h : Vw c K p w) : ReadsI w (.slice p.aR c.fr.length p.cR) c.fr := h.fr0.below h.bel
/-- what it answers: a bool, the world as it was -/
def SaysB (w : World) (r : Bool) (e : Ending) (w' : World) : Prop := e = .returned (.bool r) ∧ Below w.heap.size w w'
set_option maxRecDepth 100000 in
theorem writes_v (c : Cd) (K : Nat → Nat → Int) (p : Vp) (w : World) (h : Vw c K p w) (n : Nat) (hn : n < c.N) (hs : K n 0 = (sideE (c.at n).1 : Nat)) (r : Bool) (hr : writesE (c.at n).1 = r) : Calls Tryd.prog 46 #[.pointer (some ⟨p.g, 0, none⟩), .int .i64 (n : Int)] w fun e w' => SaysB w r e w' := by
  obtain ⟨_, _, b2⟩ := h.three
  have k0 := h.k n 0 hn (by omega)
  have h0 : (0 : Int) ≤ (n : Int) := by omega
  have h1 : (n : Int) < (c.N : Int) := by omega
  rw [hs] at k0
  clear hs h hn
  revert hr k0
  unfold sideE
  cases readsE (c.at n).1 <;> cases writesE (c.at n).1 <;> intro hr k0 <;> subst hr <;> simp at k0
  all_goals
    go_enter Tryd.func46, Tryd.ntmps46
    go_wp2
    go_ret
    exact ⟨by rfl, Below.refl _ _⟩
set_option maxRecDepth 100000 in
theorem reads_v (c : Cd) (K : Nat → Nat → Int) (p : Vp) (w : World) (h : Vw c K p w) (n : Nat) (hn : n < c.N) (hs : K n 0 = (sideE (c.at n).1 : Nat)) (r : Bool) (hr : readsE (c.at n).1 = r) : Calls Tryd.prog 49 #[.pointer (some ⟨p.g, 0, none⟩), .int .i64 (n : Int)] w fun e w' => SaysB w r e w' := by
  obtain ⟨_, _, b2⟩ := h.three
  have k0 := h.k n 0 hn (by omega)
  have h0 : (0 : Int) ≤ (n : Int) := by omega
  have h1 : (n : Int) < (c.N : Int) := by omega
  rw [hs] at k0
  clear hs h hn
  revert hr k0
  unfold sideE
  cases readsE (c.at n).1 <;> cases writesE (c.at n).1 <;> intro hr k0 <;> subst hr <;> simp at k0
  all_goals
    go_enter Tryd.func49, Tryd.ntmps49
    go_wp2
    go_ret
    exact ⟨by rfl, Below.refl _ _⟩
set_option maxRecDepth 100000 in
theorem memory_v (c : Cd) (K : Nat → Nat → Int) (p : Vp) (w : World) (h : Vw c K p w) (n : Nat) (hn : n < c.N) (hs : K n 0 = (sideE (c.at n).1 : Nat)) (r : Bool) (hr : decide (sideE (c.at n).1 ≠ 0) = r) : Calls Tryd.prog 16 #[.pointer (some ⟨p.g, 0, none⟩), .int .i64 (n : Int)] w fun e w' => SaysB w r e w' := by
  obtain ⟨_, _, b2⟩ := h.three
  have k0 := h.k n 0 hn (by omega)
  have h0 : (0 : Int) ≤ (n : Int) := by omega
  have h1 : (n : Int) < (c.N : Int) := by omega
  rw [hs] at k0
  clear hs h hn
  revert hr k0
  unfold sideE
  cases readsE (c.at n).1 <;> cases writesE (c.at n).1 <;> intro hr k0 <;> subst hr <;> simp at k0
  all_goals
    go_enter Tryd.func16, Tryd.ntmps16
    go_wp2
    go_ret
    exact ⟨by rfl, Below.refl _ _⟩
set_option maxRecDepth 100000 in
theorem oneHart_v (c : Cd) (K : Nat → Nat → Int) (p : Vp) (w : World) (h : Vw c K p w) (a b : Nat) (ha : a < c.N) (hb : b < c.N) (r : Bool) (hr : decide ((c.at a).1.hart = (c.at b).1.hart) = r) : Calls Tryd.prog 13 #[.pointer (some ⟨p.g, 0, none⟩), .int .i64 (a : Int), .int .i64 (b : Int)] w fun e w' => SaysB w r e w' := by
  obtain ⟨b0, _, _⟩ := h.three
  have hAA := h.hA (by omega)
  rw [hAA] at b0
  have ca := h.ev a ha 0 _ rfl
  have cb := h.ev b hb 0 _ rfl
  have a0 : (0 : Int) ≤ (a : Int) := by omega
  have a1 : (a : Int) < (c.N : Int) := by omega
  have x0 : (0 : Int) ≤ (b : Int) := by omega
  have x1 : (b : Int) < (c.N : Int) := by omega
  have hrr : ((c.at a).1.hart == (c.at b).1.hart) = r := by rw [← hr]; rfl
  have HH : Hid (w.drew.cell? ⟨p.g, 0, none⟩ = some (.slice (some ⟨p.b, p.off, none⟩) c.N p.cA) ∧ w.drew.cell? ⟨p.b, p.off + a * 14, none⟩ = some (.int .i64 (c.at a).1.hart) ∧ w.drew.cell? ⟨p.b, p.off + b * 14, none⟩ = some (.int .i64 (c.at b).1.hart)) := Lib.hid ⟨b0, ca, cb⟩
  clear h ha hb hAA hr
  go_enter Tryd.func13, Tryd.ntmps13
  go_upto_region 1 with fail
  go_region_held3 (fun w' => w'.cell? ⟨p.g, 0, none⟩ = some (.slice (some ⟨p.b, p.off, none⟩) c.N p.cA) ∧ w'.cell? ⟨p.b, p.off + a * 14, none⟩ = some (.int .i64 (c.at a).1.hart) ∧ w'.cell? ⟨p.b, p.off + b * 14, none⟩ = some (.int .i64 (c.at b).1.hart)) (exact HH.out) (fail)
  go_wp2
  go_ret
  exact ⟨rfl, (Below.refl _ _).drew⟩
set_option maxRecDepth 100000 in
theorem oneAddr_v (c : Cd) (K : Nat → Nat → Int) (p : Vp) (w : World) (h : Vw c K p w) (a b : Nat) (ha : a < c.N) (hb : b < c.N) (r : Bool) (hr : decide ((c.at a).1.addr = (c.at b).1.addr) = r) : Calls Tryd.prog 48 #[.pointer (some ⟨p.g, 0, none⟩), .int .i64 (a : Int), .int .i64 (b : Int)] w fun e w' => SaysB w r e w' := by
  obtain ⟨b0, _, _⟩ := h.three
  have hAA := h.hA (by omega)
  rw [hAA] at b0
  have ca := h.ev a ha 3 _ rfl
  have cb := h.ev b hb 3 _ rfl
  have a0 : (0 : Int) ≤ (a : Int) := by omega
  have a1 : (a : Int) < (c.N : Int) := by omega
  have x0 : (0 : Int) ≤ (b : Int) := by omega
  have x1 : (b : Int) < (c.N : Int) := by omega
  have hrr : ((c.at a).1.addr == (c.at b).1.addr) = r := by rw [← hr]; rfl
  have HH : Hid (w.drew.cell? ⟨p.g, 0, none⟩ = some (.slice (some ⟨p.b, p.off, none⟩) c.N p.cA) ∧ w.drew.cell? ⟨p.b, p.off + a * 14 + 3, none⟩ = some (.int .u64 (c.at a).1.addr) ∧ w.drew.cell? ⟨p.b, p.off + b * 14 + 3, none⟩ = some (.int .u64 (c.at b).1.addr)) := Lib.hid ⟨b0, ca, cb⟩
  clear h ha hb hAA hr
  go_enter Tryd.func48, Tryd.ntmps48
  go_upto_region 1 with fail
  go_region_held3 (fun w' => w'.cell? ⟨p.g, 0, none⟩ = some (.slice (some ⟨p.b, p.off, none⟩) c.N p.cA) ∧ w'.cell? ⟨p.b, p.off + a * 14 + 3, none⟩ = some (.int .u64 (c.at a).1.addr) ∧ w'.cell? ⟨p.b, p.off + b * 14 + 3, none⟩ = some (.int .u64 (c.at b).1.addr)) (exact HH.out) (fail)
  go_wp2
  go_ret
  exact ⟨rfl, (Below.refl _ _).drew⟩
set_option maxRecDepth 100000 in
theorem between_v (a n b : Int) (w : World) (r : Bool) (hr : betweenB a n b = r) : Calls Tryd.prog 50 #[.int .i64 a, .int .i64 n, .int .i64 b] w fun e w' => SaysB w r e w' := by
  subst hr
  unfold betweenB
  by_cases h1 : a < n
  · have d1 : decide (a < n) = true := by simpa using h1
    rw [d1]
    by_cases h2 : n < b
    · have d2 : decide (n < b) = true := by simpa using h2
      rw [d2]
      clear h1 h2
      go_enter Tryd.func50, Tryd.ntmps50
      go_wp2
      go_ret
      exact ⟨rfl, Below.refl _ _⟩
    · have d2 : decide (n < b) = false := by simpa using h2
      rw [d2]
      clear h1 h2
      go_enter Tryd.func50, Tryd.ntmps50
      go_wp2
      go_ret
      exact ⟨rfl, Below.refl _ _⟩
  · have d1 : decide (a < n) = false := by simpa using h1
    rw [d1]
    clear h1
    go_enter Tryd.func50, Tryd.ntmps50
    go_wp2
    go_ret
    exact ⟨rfl, Below.refl _ _⟩
theorem mem_side (e : Ev) (hk : 1 ≤ e.kind ∧ e.kind ≤ 6) : decide (sideE e ≠ 0) = memE e := by
  obtain ⟨h1, h2⟩ := hk
  unfold sideE readsE writesE memE
  have : e.kind = 1 ∨ e.kind = 2 ∨ e.kind = 3 ∨ e.kind = 4 ∨ e.kind = 5 ∨ e.kind = 6 := by omega
  rcases this with h | h | h | h | h | h <;> rw [h] <;> decide
end Go.Proofs.YtmdjkeplfdkoeaaDoor
