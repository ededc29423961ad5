/-
  Words: the events of a candidate by number, in one block; cand's within. No condition.
-/
import Derived.Test.YtcebcmmbokajcaaCdNumbered
import Derived.Test.YtcebcmmbokajcaaCdVal
namespace Go.Proofs.Ytcebcmmbokajcaa
set_option linter.unusedVariables false
set_option linter.unusedSimpArgs false
open Go.RowKit
attribute [local go_sem ↓] fold_E fold_SE

/-- the events by number, in block g -/
structure AllIn (c : Cd) (g : Nat) (w : World) : Prop where
  blk : w.heap[g]? = some (.cells (flat ((allP c c.nh).map (·.1))).toArray 50 (0, 0))
  reads : ∀ n, n < c.N → EReads w (c.at n).1 (c.at n).2
  low : ∀ n, n < c.N → 0 ≤ (c.at n).1.addr
theorem AllIn.lt {c : Cd} {g : Nat} {w : World} (h : AllIn c g w) : g < w.heap.size := (Array.getElem?_eq_some_iff.1 h.blk).1
theorem AllIn.on {c : Cd} {g : Nat} {w w' : World} (h : AllIn c g w) (hb : Below w.heap.size w w') : AllIn c g w' :=
  ⟨(hb.block g h.lt).trans h.blk, fun n hn => (h.reads n hn).below hb, h.low⟩
theorem AllIn.evIn {c : Cd} {g : Nat} {w : World} (h : AllIn c g w) (n : Nat) (hn : n < c.N) : EvIn (c.at n).1 g (n * 14) w := by
  intro j v hv
  have he : ((allP c c.nh).map (·.1))[n]? = some (c.at n).1 := by rw [List.getElem?_map, c.at_mem n hn]; rfl
  have := flat_at _ n j _ v he (by unfold Ev.row; simpa using hv)
  rw [cell_of_row w g (n * 14 + j) _ _ _ h.blk]
  simpa using this
theorem AllIn.load {c : Cd} {g : Nat} {w : World} (h : AllIn c g w) (n : Nat) (hn : n < c.N) : (LoadE (.pointer (some ⟨g, n * 14, none⟩))).run Try.prog w = .ok (c.at n).1.V w := (h.evIn n hn).load
theorem AllIn.flat_ {c : Cd} {g : Nat} {w : World} (h : AllIn c g w) (n : Nat) (hn : n < c.N) : (c.at n).1.flat := (h.reads n hn).flat
/-- the rows' events read as they do, by number -/
theorem reads_of_harts {c : Cd} {a : Option Addr} {w : World} (h : HsAt c c.nh a w) (n : Nat) (hn : n < c.N) : EReads w (c.at n).1 (c.at n).2 ∧ 0 ≤ (c.at n).1.addr := by
  obtain ⟨k, j, hk, hj, rfl⟩ := num_of c.len c.nh n hn
  rw [c.at_is k j hk hj]
  obtain ⟨b, off, a2, c2, _, _, _, hr⟩ := h.row k hk
  obtain ⟨a3, c3, e, _, hr⟩ := hr
  rcases hr with h0 | ⟨b2, off2, _, hr⟩
  · omega
  · exact ⟨hr.reads j hj, hr.low j hj⟩
theorem AllIn.mk' {c : Cd} {a : Option Addr} {g : Nat} {w w' : World} (h : HsAt c c.nh a w) (hb : Below w.heap.size w w') (hg : w'.heap[g]? = some (.cells (flat ((allP c c.nh).map (·.1))).toArray 50 (0, 0))) : AllIn c g w' :=
  ⟨hg, fun n hn => (reads_of_harts h n hn).1.below hb, fun n hn => (reads_of_harts h n hn).2⟩
theorem cwithin_any (x m : Int) (w : World) : Calls Try.prog 30 #[.int .i64 x, .int .i64 m] w fun e w' => e = .returned (.bool (withinB x m)) ∧ w = w' := by
  unfold withinB
  by_cases h1 : 0 ≤ x
  · by_cases h2 : x < m
    · go_enter Try.func30, Try.ntmps30
      go_wp2
      go_ret
      exact ⟨by simp [h1, h2], rfl⟩
    · have h2' : decide (x < m) = false := by simpa using h2
      go_enter Try.func30, Try.ntmps30
      go_wp2
      go_ret
      exact ⟨by simp, rfl⟩
  · have h1' : decide (0 ≤ x) = false := by simpa using h1
    go_enter Try.func30, Try.ntmps30
    go_wp2
    go_ret
    exact ⟨by simp, rfl⟩
theorem cwithin_b (x m : Int) (b : Bool) (h : withinB x m = b) (w : World) : Calls Try.prog 30 #[.int .i64 x, .int .i64 m] w fun e w' => e = .returned (.bool b) ∧ w = w' := by rw [← h]; exact cwithin_any x m w
/-- a number's From, whatever it is -/
def findX (c : Cd) (n : Nat) (f : Int) : Bool :=
  if readsE (c.at n).1 = false then f == -1
  else if f = -1 then (c.at n).1.load == valL c.fs (c.at n).1.addr
  else if f = n ∨ withinB f c.N = false then false
  else writesE (c.at f.toNat).1 && ((c.at f.toNat).1.addr == (c.at n).1.addr && (c.at f.toNat).1.store == (c.at n).1.load)
theorem findB_is (c : Cd) (n : Nat) : findB c n = findX c n (atI c.fr n) := rfl
end Go.Proofs.Ytcebcmmbokajcaa
