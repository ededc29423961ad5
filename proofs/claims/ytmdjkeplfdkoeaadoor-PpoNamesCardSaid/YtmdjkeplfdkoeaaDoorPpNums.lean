/-
  Proved here: the numbers of a set of one word are told by an iterator, each once at least. Condition: the loop's body keeps what lay below the set's owner; the table of zero bits as the library lays it.
-/
import Derived.RangeFuncNested
import Derived.RangeFuncBound
import Derived.RangeFuncCalls
import Derived.RangeFuncLeaves
import Derived.Shelf.Abstract
import Derived.Shelf.RegionOpen
import Derived.OwnWalkIn
import Derived.TacticsInMore
import Derived.LoopNIn
import Derived.LoopIn
import Derived.Test.YtmdjkeplfdkoeaaDoorPpSets
namespace Go.Proofs.YtmdjkeplfdkoeaaDoor
set_option linter.unusedVariables false
set_option linter.unusedSimpArgs false
open Go.RowKit Go.Shelf
attribute [local go_sem] Oper.semAt_some

/-- a number of a set -/
abbrev BitOf (x : Nat) := { y : Nat // x.testBit y = true }
def AllOf (x : Nat) (ys : List (BitOf x)) : Prop := ∀ m, x.testBit m = true → ∃ y ∈ ys, y.1 = m
theorem setNums_any (g : Nat) (w : World) : Calls Tryd.prog 47 #[setV g] w fun e w' => e = .returned (.func (.func 60) #[] #[.pointer (some ⟨w.heap.size, 0, none⟩)]) ∧ w.alloc (.cells #[setV g] 64) = w' := by
  go_enter Tryd.func47, Tryd.ntmps47
  go_wp2
  go_ret
  exact ⟨rfl, rfl⟩
/-- where the iterator stands: what is left of the word, what has come -/
structure Left (x z : Nat) (pre : List (BitOf x)) : Prop where
  small : z < 18446744073709551616
  sub : ∀ m, z.testBit m = true → x.testBit m = true
  all : ∀ m, x.testBit m = true → z.testBit m = true ∨ ∃ y ∈ pre, y.1 = m
  low : ∀ m, m < pre.length → z.testBit m = false
theorem Left.start {x : Nat} (hx : x < 18446744073709551616) : Left x x [] := ⟨hx, fun _ h => h, fun m h => .inl h, fun m h => absurd h (by simp)⟩
theorem Left.len {x z : Nat} {pre : List (BitOf x)} (h : Left x z pre) (h0 : z ≠ 0) : pre.length ≤ Lib.ctz 64 z ∧ Lib.ctz 64 z < 64 := by
  obtain ⟨t, _, hk⟩ := low_parts z h0 h.small
  have hs := (low_set z h0 h.small).1
  refine ⟨?_, hk⟩
  rcases Nat.lt_or_ge (Lib.ctz 64 z) pre.length with h1 | h1
  · rw [h.low _ h1] at hs; cases hs
  · exact h1
theorem Left.bit {x z : Nat} {pre : List (BitOf x)} (h : Left x z pre) (h0 : z ≠ 0) : x.testBit (Lib.ctz 64 z) = true := h.sub _ (low_set z h0 h.small).1
theorem Left.next {x z : Nat} {pre : List (BitOf x)} (h : Left x z pre) (h0 : z ≠ 0) (y : BitOf x) (hy : y.1 = Lib.ctz 64 z) : Left x (z &&& (z - 1)) (pre ++ [y]) := by
  refine ⟨Nat.lt_of_lt_of_le (clear_lt z h0) (by have := h.small; omega), fun m hm => ?_, fun m hm => ?_, fun m hm => ?_⟩
  · rw [clear_low z h0 h.small] at hm
    simp only [Bool.and_eq_true] at hm
    exact h.sub m hm.1
  · rcases h.all m hm with h1 | ⟨y2, h2, h3⟩
    · by_cases hc : m = Lib.ctz 64 z
      · exact .inr ⟨y, by simp, by rw [hy, hc]⟩
      · refine .inl ?_
        rw [clear_low z h0 h.small, h1]; simpa using hc
    · exact .inr ⟨y2, by simp [h2], h3⟩
  · rw [clear_low z h0 h.small]
    have hl := h.len h0
    simp only [List.length_append, List.length_cons, List.length_nil] at hm
    by_cases hc : m = Lib.ctz 64 z
    · simp [hc]
    · rw [(low_set z h0 h.small).2 m (by omega)]; rfl
theorem Left.done {x z : Nat} {pre : List (BitOf x)} (h : Left x z pre) (h0 : z = 0) : AllOf x pre := fun m hm => by
  rcases h.all m hm with h1 | h1
  · subst h0; simp at h1
  · exact h1
theorem and_word (z : Nat) (hz : z < 18446744073709551616) (h0 : z ≠ 0) : bits .and .u64 (z : Int) ((z : Int) - 1) = ((z &&& (z - 1) : Nat) : Int) ∧ IntKind.u64.wrap ((z : Int) - 1) = (z : Int) - 1 := by
  have e : (z : Int) - 1 = ((z - 1 : Nat) : Int) := by omega
  refine ⟨?_, ?_⟩
  · rw [e]; exact bits_and_u64_nat z (z - 1) hz (by omega)
  · rw [IntKind.wrap_u64]; omega
set_option maxRecDepth 100000 in
set_option maxHeartbeats 4000000 in
theorem nums1_in (n : Nat) (hn : 1 ≤ n) (l Bs n₀ gx x : Nat) (hx : x < 18446744073709551616) (J Jx : List (BitOf x) → World → Prop)
    (hY : ∀ pre (y : BitOf x) W, J pre W → pre.length < 64 → YieldAt Fence.wide (n - 1) Tryd.prog l #[.int .i64 (y.1 : Int)] W fun e W' =>
      (e = .returned (.bool true) ∧ J (pre ++ [y]) W' ∧ Below n₀ W W') ∨ (e = .returned (.bool false) ∧ Jx (pre ++ [y]) W'))
    (W : World) (hBs : W.cell? ⟨Bs, 0, none⟩ = some (setV gx)) (hc : W.cell? ⟨gx, 0, none⟩ = some (.int .u64 (x : Int))) (hT : ∀ W', Below n₀ W W' → TabT W') (h0 : J [] W) :
    CallsIn Fence.wide n Tryd.prog 60 #[.func (.yield l) #[] #[], .pointer (some ⟨Bs, 0, none⟩)] W fun e W' => (∃ v, e = .returned v) ∧
      ((∃ ys, AllOf x ys ∧ J ys W') ∨ (∃ pre : List (BitOf x), True ∧ Jx pre W')) := by
  have HT := Lib.hid hT
  clear hT
  refine callsIn_of_wp Tryd.func60 rfl trivial ?_ rfl
  simp only [Tryd.ntmps60, List.size_toArray, List.length_cons, List.length_nil, Nat.reduceAdd, Nat.reduceSub, Array.replicate_succ, Array.replicate_zero, List.push_toArray, List.append_toArray, List.nil_append, List.cons_append]
  gi_wp2
  gi_loopw [7] (fun i wr => (i = .int .i64 0 ∧ wr.cell? ⟨gx, 0, none⟩ = some (.int .u64 (x : Int)) ∧ J [] wr ∧ Below n₀ W wr) ∨ (i = .int .i64 1 ∧ ∃ ys, AllOf x ys ∧ J ys wr)) (fun i _ => 1 - (intOf i).toNat)
  case atStart => exact .inl ⟨rfl, hc, h0, Below.refl _ _⟩
  case round =>
    rcases hrel with ⟨rfl, hcx, hJ0, hb0⟩ | ⟨rfl, ys, hall, hJs⟩
    · clear hc h0
      gi_wp2
      gi_loopw [4] (fun v wr => ∃ (z : Nat) (pre : List (BitOf x)), v = .int .u64 (z : Int) ∧ Hid (Left x z pre) ∧ Hid (J pre wr) ∧ Hid (Below n₀ W wr)) (fun v _ => (intOf v).toNat)
      case atStart => exact ⟨x, [], rfl, Lib.hid (Left.start hx), Lib.hid hJ0, Lib.hid hb0⟩
      case round =>
        clear hcx hJ0 hb0
        obtain ⟨z, pre, rfl, hL, hJ, hb⟩ := hrel
        by_cases hz : z = 0
        · have hA := Lib.hid (hL.out.done hz)
          have hz2 : ((z : Int) != 0) = false := by simp [hz]
          clear hz
          gi_wp2
          go_roundw
          case rel => exact .inr ⟨by simp, pre, hA.out, hJ.out⟩
          case measure => simp [intOf]
        · have hz2 : ((z : Int) != 0) = true := by simp; omega
          have hl := Lib.hid (hL.out.len hz)
          obtain ⟨k, hk⟩ : ∃ k, Lib.ctz 64 z = k := ⟨_, rfl⟩
          have HB : x.testBit k = true := by rw [← hk]; exact hL.out.bit hz
          have HN := Lib.hid (hL.out.next hz ⟨k, HB⟩ hk.symm)
          have KT := Lib.hid (trail_any z hL.out.small hz wr (HT.out _ hb.out))
          have HW := Lib.hid (and_word z hL.out.small hz)
          have HLT := Lib.hid (clear_lt z hz)
          obtain ⟨fn, tmps, assign, body, hy, hR⟩ := hY pre ⟨k, HB⟩ wr hJ.out (by have := hl.out; omega)
          dsimp only at hy
          rw [hk] at KT
          have hk64 : k < 64 := by have := hl.out.2; omega
          have e1 := HW.out.1
          have e2 := HW.out.2
          clear hz hk
          gi_wp2_with (refine ⟨trivial, ?_⟩; gi_at_call 61; refine (callsIn_wide.2 KT.out).mono ?_; rintro e w' ⟨rfl, rfl⟩)
          refine hR.mono ?_
          rintro e W3 (⟨rfl, hJ3, hk3⟩ | ⟨rfl, hJx3⟩)
          · have HJ3 := Lib.hid hJ3
            have HK3 := Lib.hid (hb.out.trans hk3)
            clear hJ3 hk3
            gi_wp2
            go_roundw
            case rel => exact ⟨z &&& (z - 1), pre ++ [⟨k, HB⟩], rfl, HN, HJ3, HK3⟩
            case measure =>
              simp [intOf]
              have := HLT.out
              omega
          · gi_wp2
            refine bodyPost_ret (results_none rfl _ _ _) rfl ?_
            exact ⟨⟨_, rfl⟩, .inr ⟨_, trivial, hJx3⟩⟩
    · gi_wp2
      go_end0
      exact ⟨⟨_, rfl⟩, .inl ⟨ys, hall, hJs⟩⟩
end Go.Proofs.YtmdjkeplfdkoeaaDoor
