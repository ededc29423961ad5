/-
  Words: the model of a law in a box of 32 numbers. Proved here: the law's same tells whether a list is one event alone. No condition.
-/
import Derived.Test.YtmdaleokhekdeaaTaintChainsPlain
import Derived.Deep.DeepCutAuto
namespace Go.Proofs.Ytmdaleokhekdeaa
open Go.RowKit

def mC (m : List Int) : Array Value := (m.map (Value.int .i64)).toArray
def MAt (m : List Int) (n : Nat) (w : World) : Prop := w.heap[n]? = some (.cells (mC m) 56 (0, 0))
theorem MAt.lt {m : List Int} {n : Nat} {w : World} (h : MAt m n w) : n < w.heap.size := (Array.getElem?_eq_some_iff.1 h).1
theorem MAt.cx {m : List Int} {n : Nat} {w : World} (h : MAt m n w) (hl : m.length = 32) (k : Nat) (hk : k < 32) : w.cell? ⟨n, k, none⟩ = some (.int .i64 (mAt m k)) := by
  rw [cell_of_row w n k _ _ _ h]
  unfold mC mAt
  rw [List.getElem?_toArray, List.getElem?_map, List.getD_eq_getElem?_getD, List.getElem?_eq_getElem (by omega)]
  rfl
theorem MAt.frozen {m : List Int} {n : Nat} {w : World} (h : MAt m n w) (k : Nat) : w.frozen? ⟨n, k, none⟩ = false := frozen_of_row w n k _ _ h
theorem MAt.below {m : List Int} {n B : Nat} {w w' : World} (h : MAt m n w) (hb : Below B w w') (hn : n < B) : MAt m n w' := (hb.block n hn).trans h
theorem MAt.far {m : List Int} {n g k : Nat} {w : World} (h : MAt m n w) (v : Value) (hn : n ≠ g) : MAt m n (w.setCell ⟨g, k, none⟩ v) := (Below.heap_setCell w _ v n hn).trans h
theorem MAt.set {m : List Int} {n : Nat} {w : World} (h : MAt m n w) (k : Nat) (v : Int) : MAt (m.set k v) n (w.setCell ⟨n, k, none⟩ (.int .i64 v)) := by
  unfold MAt
  rw [set_at _ _ _ _ _ _ _ h]
  unfold mC
  rw [List.setIfInBounds_toArray, List.map_set]
theorem zero_mC : (#[.int .i64 0, .int .i64 0, .int .i64 0, .int .i64 0, .int .i64 0, .int .i64 0, .int .i64 0, .int .i64 0, .int .i64 0, .int .i64 0, .int .i64 0, .int .i64 0, .int .i64 0, .int .i64 0, .int .i64 0, .int .i64 0, .int .i64 0, .int .i64 0, .int .i64 0, .int .i64 0, .int .i64 0, .int .i64 0, .int .i64 0, .int .i64 0, .int .i64 0, .int .i64 0, .int .i64 0, .int .i64 0, .int .i64 0, .int .i64 0, .int .i64 0, .int .i64 0] : Array Value) = mC (List.replicate 32 0) := by rfl
theorem MAt.new (w : World) : MAt (List.replicate 32 0) w.heap.size (w.alloc (.cells #[.int .i64 0, .int .i64 0, .int .i64 0, .int .i64 0, .int .i64 0, .int .i64 0, .int .i64 0, .int .i64 0, .int .i64 0, .int .i64 0, .int .i64 0, .int .i64 0, .int .i64 0, .int .i64 0, .int .i64 0, .int .i64 0, .int .i64 0, .int .i64 0, .int .i64 0, .int .i64 0, .int .i64 0, .int .i64 0, .int .i64 0, .int .i64 0, .int .i64 0, .int .i64 0, .int .i64 0, .int .i64 0, .int .i64 0, .int .i64 0, .int .i64 0, .int .i64 0] 56)) := by
  rw [zero_mC]; exact heap_new _ _
theorem len_zero {w : World} {v : Value} (h : ReadsI w v (evL 0)) : ∃ a c, v = .slice a 0 c := by
  obtain ⟨a, c, e⟩ := h.len
  exact ⟨a, c, e⟩
set_option maxRecDepth 100000 in
set_option maxHeartbeats 2000000 in
theorem alone_any (v : Value) (n : Int) (w : World) (h : ReadsI w v (evL n)) (h0 : 0 ≤ n) (h1 : n ≤ 1000) : Calls Try.prog 29 #[v, .int .i64 n] w fun e w' => e = .returned (.bool true) ∧ w = w' := by
  by_cases hn : n = 0
  · subst hn
    obtain ⟨a, c, e⟩ := len_zero h
    subst e
    go_enter Try.func29, Try.ntmps29
    go_wp2
    go_ret
    exact ⟨rfl, rfl⟩
  · have e : evL n = [n - 1] := by unfold evL; rw [if_neg hn]
    rw [e] at h
    obtain ⟨b, off, c, _, rfl, _, hc, _, _⟩ := reads_cons h
    have hb1 : (n == 0) = false := by simpa using hn
    have hb2 : decide (0 < n) = true := by simp; omega
    go_enter Try.func29, Try.ntmps29
    go_wp2
    go_ret
    exact ⟨rfl, rfl⟩
end Go.Proofs.Ytmdaleokhekdeaa
