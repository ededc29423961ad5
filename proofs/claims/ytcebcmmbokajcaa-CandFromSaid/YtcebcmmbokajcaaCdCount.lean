/-
  Proved here: cand's counter makes a closure that carries a sum; length answers how many events rows have together; nothing that was there is changed. Condition: at most 1,000 events.
-/
import Derived.Test.YtcebcmmbokajcaaCdWords
import Derived.Deep.CutBlock
import Derived.Outline
namespace Go.Proofs.Ytcebcmmbokajcaa
set_option linter.unusedVariables false
set_option linter.unusedSimpArgs false
open Go.RowKit
attribute [local go_sem ↓] fold_E fold_SE

/-- the sum that a counter carries -/
def SumAt (g s : Nat) (w : World) : Prop := w.heap[g]? = some (.cells #[.int .i64 (s : Int)] 3 (0, 0))
theorem SumAt.lt {g s : Nat} {w : World} (h : SumAt g s w) : g < w.heap.size := (Array.getElem?_eq_some_iff.1 h).1
theorem SumAt.cell {g s : Nat} {w : World} (h : SumAt g s w) : w.cell? ⟨g, 0, none⟩ = some (.int .i64 (s : Int)) := by rw [cell_of_row w g 0 _ _ _ h]; rfl
theorem SumAt.free {g s : Nat} {w : World} (h : SumAt g s w) : w.frozen? ⟨g, 0, none⟩ = false := frozen_of_row w g 0 _ _ h
theorem SumAt.on {g s : Nat} {w w' : World} (h : SumAt g s w) (hb : Below w.heap.size w w') : SumAt g s w' := (hb.block g h.lt).trans h
def cntF (g : Nat) : Value := .func (.func 80) #[] #[.pointer (some ⟨g, 0, none⟩)]
def CounterIs (w : World) (e : Ending) (w' : World) : Prop := e = .returned (.func (.func 80) #[] #[.pointer (some ⟨w.heap.size, 0, none⟩)]) ∧ SumAt w.heap.size 0 w' ∧ Below w.heap.size w w' ∧ w'.heap.size = w.heap.size + 1
theorem counter_any (w : World) : Calls Try.prog 54 #[] w fun e w' => CounterIs w e w' := by
  go_enter Try.func54, Try.ntmps54
  go_wp2
  go_ret
  refine ⟨rfl, ?_, ?_, ?_⟩
  · have h0 : (w.alloc (.cells #[.int .i64 0] 3)).heap[w.heap.size]? = some (.cells #[.int .i64 0] 3 (0, 0)) := Array.getElem?_push_size
    exact h0
  · exact box_below w _
  · simp
/-- one row is told -/
def CountIs (g s n : Nat) (w : World) (e : Ending) (w' : World) : Prop := e = .returned (.int .i64 (s : Int)) ∧ SumAt g (s + n) w' ∧ Below g w w' ∧ (∀ j, j ≠ g → w'.heap[j]? = w.heap[j]?) ∧ w'.heap.size = w.heap.size
theorem count_any (a : Option Addr) (n c g s : Nat) (w : World) (h : SumAt g s w) (hs : s + n ≤ 100000) : Calls Try.prog 80 #[.slice a n c, .pointer (some ⟨g, 0, none⟩)] w fun e w' => CountIs g s n w e w' := by
  have H := Lib.hid h
  have h1 := h.cell
  have h2 := h.free
  clear h
  go_enter Try.func80, Try.ntmps80
  go_wp2
  go_ret
  refine ⟨rfl, ?_, ?_, ?_, ?_⟩
  · have := set_at _ _ 0 (.int .i64 ((s : Int) + (n : Int))) _ _ _ H.out
    unfold SumAt
    rw [this]
    simp
  · exact (Below.refl _ _).setCell (p := ⟨g, 0, none⟩) (Nat.le_refl _) _
  · exact fun j hj => Below.heap_setCell w _ _ j hj
  · simp [World.setCell]
def LenIs (w : World) (n : Nat) (e : Ending) (w' : World) : Prop := e = .returned (.int .i64 (n : Int)) ∧ Below w.heap.size w w'
set_option maxRecDepth 100000 in
set_option maxHeartbeats 4000000 in
theorem length_any (c : Cd) (k : Nat) (a : Option Addr) (cp : Nat) (w : World) (hk : k ≤ 9) (hn : baseL c.len k ≤ 60) (h : HsAt c k a w) : Calls Try.prog 31 #[.slice a k cp] w fun e w' => LenIs w (baseL c.len k) e w' := by
  have HV := Lib.hid h
  clear h
  go_enter Try.func31, Try.ntmps31
  go_wp2_with (go_at_call 54; (with_reducible refine (counter_any _).mono ?_); rintro e' w1 ⟨rfl, hs, hb, hz⟩; have S1 := Lib.hid hs; have L1 := Lib.hid hb; clear hs hb hz)
  go_loopw [9] (fun vi wr => ∃ (j : Nat), j ≤ k ∧ vi = .int .i64 j ∧ Hid (SumAt w.heap.size (baseL c.len j) wr) ∧ Below w.heap.size w wr) (fun vi _ => k - (intOf vi).toNat)
  case atStart => exact ⟨0, Nat.zero_le _, rfl, S1, L1.out⟩
  case round =>
    obtain ⟨j, hj, rfl, hS, hbel⟩ := hrel
    have HL := Lib.hid hbel
    clear hbel
    by_cases hlt : j < k
    · obtain ⟨b, off, a2, c2, rfl, hc, _, _⟩ := (HV.out.below HL.out).row j hlt
      have hm := Lib.hid (baseL_lt c.len j k hlt)
      go_wp2_with (go_at_call 80; (with_reducible refine (count_any a2 (c.len j) c2 w.heap.size (baseL c.len j) wr hS.out (by have := hm.out; omega)).mono ?_); rintro e' w2 ⟨rfl, hs, hb, ho, hz⟩; have S2 := Lib.hid hs; have L2 := Lib.hid (HL.out.trans hb); clear hs hb ho hz)
      go_roundw
      case rel => exact ⟨j + 1, by omega, by go_num, S2, L2.out⟩
      case measure => simp [intOf]; omega
    · obtain rfl : j = k := by omega
      go_wp2_with (go_at_call 80; (with_reducible refine (count_any none 0 0 w.heap.size (baseL c.len j) wr hS.out (by omega)).mono ?_); rintro e' w2 ⟨rfl, hs, hb, ho, hz⟩; have L2 := Lib.hid (HL.out.trans hb); clear hs hb ho hz)
      go_ret
      exact ⟨rfl, L2.out⟩
end Go.Proofs.Ytcebcmmbokajcaa
