/-
  Proved here: ppo.Whole and ppo.Full of any light candidate, may it be or not. Condition: the table of zero bits as the library lays it.
  (With it: Proved here: ppo's leads: whether steps lead from one event to another behind it; nothing that was there is changed. Condition: a light candidate that may be. (With it: Proved here: one turn of a search by steps, the program's own. Condition: a light candidate that may be; two sets of one word that the caller made. (With it: Proved here: one turn of a search by steps: what is reached grows by what one step reaches from those that are fresh. Condition: a light candidate that may be; two sets of one word that the caller made.)))
  (With it: Proved here: the numbers of a set of one word are told by an iterator, each once at least. Condition: the loop's body keeps what lay below the set's owner; the table of zero bits as the library lays it.)
  (With it: Words: what is preserved, as pairs, rules, and whole: each told by the others. No condition.)
-/
import Derived.Test.YtgkiaeddlahngaaGreatDoorPpPairs
import Derived.Test.YtgkiaeddlahngaaGreatDoorPpHolds
import Derived.RangeFuncNested
import Derived.RangeFuncBound
import Derived.RangeFuncCalls
import Derived.RangeFuncLeaves
import Derived.Shelf.Abstract
import Derived.Shelf.RegionOpen
import Derived.OwnWalkIn
import Derived.TacticsInMore
import Derived.LoopNIn
import Derived.LoopIn
import Derived.Test.YtgkiaeddlahngaaGreatDoorPpSets
import Derived.Test.YtgkiaeddlahngaaGreatDoorPpReach
import Derived.RangeFuncWrites
namespace Go.Proofs.YtgkiaeddlahngaaGreatDoor
set_option linter.unusedVariables false
set_option linter.unusedSimpArgs false
open Go.RowKit Go.Maps

theorem hart_mono {c : Cd} (hm : c.may = true) {n m : Nat} (hnm : n ≤ m) (hM : m < c.N) : (c.at n).1.hart ≤ (c.at m).1.hart := by
  obtain ⟨h, j, hh, hj, en, _, eh, _⟩ := may_num hm n (by omega)
  obtain ⟨h', j', hh', hj', em, _, eh', _⟩ := may_num hm m hM
  rw [eh, eh']
  rcases Nat.lt_or_ge h' h with hlt | hge
  · exfalso
    have := baseL_mono c.len (h' + 1) h hlt
    have e : baseL c.len (h' + 1) = baseL c.len h' + c.len h' := rfl
    omega
  · omega
theorem hart_between {c : Cd} (hm : c.may = true) {n k m : Nat} (h1 : n ≤ k) (h2 : k ≤ m) (hM : m < c.N) (he : (c.at n).1.hart = (c.at m).1.hart) : (c.at n).1.hart = (c.at k).1.hart := by
  have a1 := hart_mono hm h1 (by omega)
  have a2 := hart_mono hm h2 hM
  omega
theorem mem_pairsIn (c : Cd) (a x y : Nat) : ∀ k b, (x, y) ∈ pairsIn c a k b ↔ x = a ∧ b ≤ y ∧ y < b + k ∧ (∀ z, b ≤ z → z ≤ y → (c.at a).1.hart = (c.at z).1.hart) ∧ ruleL c a y ≠ 0
  | 0, b => by
    simp only [pairsIn, List.not_mem_nil, false_iff]
    rintro ⟨_, h1, h2, _⟩; omega
  | k + 1, b => by
    unfold pairsIn
    by_cases hh : (c.at a).1.hart = (c.at b).1.hart
    · rw [if_pos hh, List.mem_append, mem_pairsIn c a x y k (b + 1)]
      constructor
      · rintro (h | ⟨h1, h2, h3, h4, h5⟩)
        · split at h
          · rename_i hr
            rw [List.mem_singleton] at h
            injection h with e1 e2
            subst e1 e2
            exact ⟨rfl, Nat.le_refl _, by omega, fun z hz1 hz2 => by obtain rfl : z = y := by omega
                                                                     exact hh, hr⟩
          · simp at h
        · refine ⟨h1, by omega, by omega, fun z hz1 hz2 => ?_, h5⟩
          by_cases hz : z = b
          · subst hz; exact hh
          · exact h4 z (by omega) hz2
      · rintro ⟨rfl, h2, h3, h4, h5⟩
        by_cases hy : y = b
        · subst hy
          left
          rw [if_pos h5]; simp
        · right
          exact ⟨rfl, by omega, by omega, fun z hz1 hz2 => h4 z (by omega) hz2, h5⟩
    · rw [if_neg hh]
      simp only [List.not_mem_nil, false_iff]
      rintro ⟨_, h2, _, h4, _⟩
      exact hh (h4 b (Nat.le_refl _) h2)
theorem mem_pairsOut (c : Cd) (x y : Nat) : ∀ k n, (x, y) ∈ pairsOut c k n ↔ n ≤ x ∧ x < n + k ∧ (x, y) ∈ pairsIn c x (c.N - (x + 1)) (x + 1)
  | 0, n => by
    simp only [pairsOut, List.not_mem_nil, false_iff]
    rintro ⟨h1, h2, _⟩; omega
  | k + 1, n => by
    unfold pairsOut
    rw [List.mem_append, mem_pairsOut c x y k (n + 1)]
    constructor
    · rintro (h | ⟨h1, h2, h3⟩)
      · obtain rfl := ((mem_pairsIn c n x y _ _).1 h).1
        exact ⟨Nat.le_refl _, by omega, h⟩
      · exact ⟨by omega, by omega, h3⟩
    · rintro ⟨h1, h2, h3⟩
      by_cases hx : x = n
      · subst hx; exact .inl h3
      · exact .inr ⟨by omega, by omega, h3⟩
theorem rule_ahead {c : Cd} {a b : Int} (h : ruleL c a b ≠ 0) : aheadP c a b = true := by
  cases ha : aheadP c a b with
  | true => rfl
  | false => exfalso; apply h; unfold ruleL; rw [ha]; rfl
theorem aheadP_hart {c : Cd} {a b : Nat} (h : aheadP c a b = true) : (c.at a).1.hart = (c.at b).1.hart ∧ memE (c.at a).1 = true ∧ memE (c.at b).1 = true := by
  unfold aheadP at h
  simp only [Bool.and_eq_true, decide_eq_true_eq, Int.toNat_natCast] at h
  exact ⟨h.2.2.2.1, h.2.2.2.2.1, h.2.2.2.2.2⟩
theorem mem_pairsW {c : Cd} (hm : c.may = true) (x y : Nat) : (x, y) ∈ pairsW c ↔ ruleL c x y ≠ 0 := by
  unfold pairsW
  rw [hm, if_pos rfl, mem_pairsOut, mem_pairsIn]
  constructor
  · rintro ⟨_, _, _, _, _, _, h⟩; exact h
  · intro h
    have ha := rule_ahead h
    have hin := aheadP_in ha
    have hh := (aheadP_hart ha).1
    exact ⟨by omega, by omega, rfl, by omega, by omega, fun z h1 h2 => hart_between hm (by omega) h2 (by omega) hh, h⟩
/-- one pair ahead of another -/
def ltP (p q : Nat × Nat) : Prop := p.1 < q.1 ∨ (p.1 = q.1 ∧ p.2 < q.2)
theorem pairsIn_sorted (c : Cd) (a : Nat) : ∀ k b, (pairsIn c a k b).Pairwise ltP
  | 0, b => by simp [pairsIn]
  | k + 1, b => by
    unfold pairsIn
    split
    · rw [List.pairwise_append]
      refine ⟨by split <;> simp, pairsIn_sorted c a k (b + 1), ?_⟩
      intro p hp q hq
      split at hp
      · rw [List.mem_singleton] at hp
        subst hp
        have := (mem_pairsIn c a q.1 q.2 k (b + 1)).1 hq
        exact .inr ⟨this.1.symm, by show b < q.2; omega⟩
      · simp at hp
    · simp
theorem pairsOut_sorted (c : Cd) : ∀ k n, (pairsOut c k n).Pairwise ltP
  | 0, n => by simp [pairsOut]
  | k + 1, n => by
    unfold pairsOut
    rw [List.pairwise_append]
    refine ⟨pairsIn_sorted c n _ _, pairsOut_sorted c k (n + 1), ?_⟩
    intro p hp q hq
    have h1 := ((mem_pairsIn c n p.1 p.2 _ _).1 hp).1
    have h2 := ((mem_pairsOut c q.1 q.2 k (n + 1)).1 hq).1
    exact .inl (by omega)
theorem pairsW_sorted (c : Cd) : (pairsW c).Pairwise ltP := by
  unfold pairsW
  split
  · exact pairsOut_sorted c _ _
  · simp
theorem ruleL_le (c : Cd) (a b : Int) : ruleL c a b ≤ 13 := by
  unfold ruleL
  split
  · exact firstFrom_le _ 13 0
  · omega
theorem firstFrom_at (f : Nat → Bool) : ∀ (k r m : Nat), firstFrom f r k = m + 1 → f m = true ∧ r ≤ m ∧ ∀ j, r ≤ j → j < m → f j = false
  | 0, r, m, h => by simp [firstFrom] at h
  | k + 1, r, m, h => by
    unfold firstFrom at h
    split at h
    · rename_i hf
      obtain rfl : r = m := by omega
      exact ⟨hf, Nat.le_refl _, fun j h1 h2 => by omega⟩
    · rename_i hf
      obtain ⟨h1, h2, h3⟩ := firstFrom_at f k (r + 1) m h
      refine ⟨h1, by omega, fun j hj1 hj2 => ?_⟩
      by_cases hj : j = r
      · subst hj; simpa using hf
      · exact h3 j (by omega) hj2
theorem holdsW_yes {c : Cd} {a b : Nat} {k : Nat} (h : holdsW c a b k = true) : ruleL c a b ≠ 0 ∧ ruleL c a b ≤ k := by
  unfold holdsW at h
  simp only [Bool.and_eq_true, decide_eq_true_eq, Int.toNat_natCast] at h
  obtain ⟨hm, h1, h2, ha, hb⟩ := h
  unfold ruleL
  rw [ha, if_pos rfl, Int.toNat_natCast, Int.toNat_natCast]
  unfold firstL
  cases hf : firstFrom (ruleB c a b) 0 13 with
  | zero => rw [(firstFrom_zero _ _ _).1 hf (k - 1) (Nat.zero_le _) (by omega)] at hb; cases hb
  | succ m =>
    refine ⟨by omega, ?_⟩
    obtain ⟨g1, g2, g3⟩ := firstFrom_at _ _ _ _ hf
    rcases Nat.lt_or_ge (k - 1) m with h5 | h5
    · rw [g3 (k - 1) (Nat.zero_le _) h5] at hb; cases hb
    · omega
theorem holdsW_rule {c : Cd} (hm : c.may = true) {a b : Nat} (h : ruleL c a b ≠ 0) : holdsW c a b (ruleL c a b : Nat) = true := by
  have ha := rule_ahead h
  have hle := ruleL_le c a b
  have e : ruleL c a b = firstFrom (ruleB c a b) 0 13 := by unfold ruleL; rw [ha, if_pos rfl, Int.toNat_natCast, Int.toNat_natCast]; rfl
  cases hf : firstFrom (ruleB c a b) 0 13 with
  | zero => rw [hf] at e; exact absurd e h
  | succ m =>
    obtain ⟨g1, g2, g3⟩ := firstFrom_at _ _ _ _ hf
    rw [hf] at e
    unfold holdsW
    rw [hm, ha, e]
    simp only [Bool.true_and, Bool.and_eq_true, decide_eq_true_eq, Int.toNat_natCast]
    rw [e] at hle
    exact ⟨by omega, by omega, by simpa using g1⟩
theorem whole_pair {c : Cd} (hm : c.may = true) {a b : Nat} (h : ruleL c a b ≠ 0) : wholeW c a b = true := by
  unfold wholeW
  rw [hm, rule_ahead h, Int.toNat_natCast, Int.toNat_natCast, (reachB_iff c a b).2 (.one (by unfold edge; simpa using h))]; rfl
theorem whole_pairs {c : Cd} (hm : c.may = true) {a b d : Nat} (h1 : ruleL c a b ≠ 0) (h2 : ruleL c b d ≠ 0) : wholeW c a d = true := by
  have a1 := rule_ahead h1
  have a2 := rule_ahead h2
  have i1 := aheadP_in a1
  have i2 := aheadP_in a2
  obtain ⟨b1, b2, b3⟩ := aheadP_hart a1
  obtain ⟨d1, d2, d3⟩ := aheadP_hart a2
  have ha : aheadP c a d = true := by
    unfold aheadP
    simp only [Bool.and_eq_true, decide_eq_true_eq, Int.toNat_natCast]
    exact ⟨by omega, by omega, by omega, by rw [b1, d1], b2, d3⟩
  unfold wholeW
  rw [hm, ha, Int.toNat_natCast, Int.toNat_natCast, (reachB_iff c a d).2 (.more (.one (by unfold edge; simpa using h1)) (by unfold edge; simpa using h2))]; rfl
end Go.Proofs.YtgkiaeddlahngaaGreatDoor
namespace Go.Proofs.YtgkiaeddlahngaaGreatDoor
set_option linter.unusedVariables false
set_option linter.unusedSimpArgs false
open Go.RowKit Go.Shelf
attribute [local go_sem] Oper.semAt_some

/-- a number of a set -/
abbrev BitOf (x : Nat) := { y : Nat // x.testBit y = true }
def AllOf (x : Nat) (ys : List (BitOf x)) : Prop := ∀ m, x.testBit m = true → ∃ y ∈ ys, y.1 = m
theorem setNums_any (g : Nat) (w : World) : Calls Tryz.prog 91 #[setV g] w fun e w' => e = .returned (.func (.func 102) #[] #[.pointer (some ⟨w.heap.size, 0, none⟩)]) ∧ w.alloc (.cells #[setV g] 88) = w' := by
  go_enter Tryz.func91, Tryz.ntmps91
  go_wp2
  go_ret
  exact ⟨rfl, rfl⟩
/-- where the iterator stands: what is left of the word, what has come -/
structure Left (x z : Nat) (pre : List (BitOf x)) : Prop where
  small : z < 18446744073709551616
  sub : ∀ m, z.testBit m = true → x.testBit m = true
  all : ∀ m, x.testBit m = true → z.testBit m = true ∨ ∃ y ∈ pre, y.1 = m
  low : ∀ m, m < pre.length → z.testBit m = false
theorem Left.start {x : Nat} (hx : x < 18446744073709551616) : Left x x [] := ⟨hx, fun _ h => h, fun m h => .inl h, fun m h => absurd h (by simp)⟩
theorem Left.len {x z : Nat} {pre : List (BitOf x)} (h : Left x z pre) (h0 : z ≠ 0) : pre.length ≤ Lib.ctz 64 z ∧ Lib.ctz 64 z < 64 := by
  obtain ⟨t, _, hk⟩ := low_parts z h0 h.small
  have hs := (low_set z h0 h.small).1
  refine ⟨?_, hk⟩
  rcases Nat.lt_or_ge (Lib.ctz 64 z) pre.length with h1 | h1
  · rw [h.low _ h1] at hs; cases hs
  · exact h1
theorem Left.bit {x z : Nat} {pre : List (BitOf x)} (h : Left x z pre) (h0 : z ≠ 0) : x.testBit (Lib.ctz 64 z) = true := h.sub _ (low_set z h0 h.small).1
theorem Left.next {x z : Nat} {pre : List (BitOf x)} (h : Left x z pre) (h0 : z ≠ 0) (y : BitOf x) (hy : y.1 = Lib.ctz 64 z) : Left x (z &&& (z - 1)) (pre ++ [y]) := by
  refine ⟨Nat.lt_of_lt_of_le (clear_lt z h0) (by have := h.small; omega), fun m hm => ?_, fun m hm => ?_, fun m hm => ?_⟩
  · rw [clear_low z h0 h.small] at hm
    simp only [Bool.and_eq_true] at hm
    exact h.sub m hm.1
  · rcases h.all m hm with h1 | ⟨y2, h2, h3⟩
    · by_cases hc : m = Lib.ctz 64 z
      · exact .inr ⟨y, by simp, by rw [hy, hc]⟩
      · refine .inl ?_
        rw [clear_low z h0 h.small, h1]; simpa using hc
    · exact .inr ⟨y2, by simp [h2], h3⟩
  · rw [clear_low z h0 h.small]
    have hl := h.len h0
    simp only [List.length_append, List.length_cons, List.length_nil] at hm
    by_cases hc : m = Lib.ctz 64 z
    · simp [hc]
    · rw [(low_set z h0 h.small).2 m (by omega)]; rfl
theorem Left.done {x z : Nat} {pre : List (BitOf x)} (h : Left x z pre) (h0 : z = 0) : AllOf x pre := fun m hm => by
  rcases h.all m hm with h1 | h1
  · subst h0; simp at h1
  · exact h1
theorem and_word (z : Nat) (hz : z < 18446744073709551616) (h0 : z ≠ 0) : bits .and .u64 (z : Int) ((z : Int) - 1) = ((z &&& (z - 1) : Nat) : Int) ∧ IntKind.u64.wrap ((z : Int) - 1) = (z : Int) - 1 := by
  have e : (z : Int) - 1 = ((z - 1 : Nat) : Int) := by omega
  refine ⟨?_, ?_⟩
  · rw [e]; exact bits_and_u64_nat z (z - 1) hz (by omega)
  · rw [IntKind.wrap_u64]; omega
set_option maxRecDepth 100000 in
set_option maxHeartbeats 4000000 in
theorem nums1_in (n : Nat) (hn : 1 ≤ n) (l Bs n₀ gx x : Nat) (hx : x < 18446744073709551616) (J Jx : List (BitOf x) → World → Prop)
    (hY : ∀ pre (y : BitOf x) W, J pre W → pre.length < 64 → YieldAt Fence.wide (n - 1) Tryz.prog l #[.int .i64 (y.1 : Int)] W fun e W' =>
      (e = .returned (.bool true) ∧ J (pre ++ [y]) W' ∧ Below n₀ W W') ∨ (e = .returned (.bool false) ∧ Jx (pre ++ [y]) W'))
    (W : World) (hBs : W.cell? ⟨Bs, 0, none⟩ = some (setV gx)) (hc : W.cell? ⟨gx, 0, none⟩ = some (.int .u64 (x : Int))) (hT : ∀ W', Below n₀ W W' → TabT W') (h0 : J [] W) :
    CallsIn Fence.wide n Tryz.prog 102 #[.func (.yield l) #[] #[], .pointer (some ⟨Bs, 0, none⟩)] W fun e W' => (∃ v, e = .returned v) ∧
      ((∃ ys, AllOf x ys ∧ J ys W') ∨ (∃ pre : List (BitOf x), True ∧ Jx pre W')) := by
  have HT := Lib.hid hT
  clear hT
  refine callsIn_of_wp Tryz.func102 rfl trivial ?_ rfl
  simp only [Tryz.ntmps102, List.size_toArray, List.length_cons, List.length_nil, Nat.reduceAdd, Nat.reduceSub, Array.replicate_succ, Array.replicate_zero, List.push_toArray, List.append_toArray, List.nil_append, List.cons_append]
  gi_wp2
  gi_loopw [7] (fun i wr => (i = .int .i64 0 ∧ wr.cell? ⟨gx, 0, none⟩ = some (.int .u64 (x : Int)) ∧ J [] wr ∧ Below n₀ W wr) ∨ (i = .int .i64 1 ∧ ∃ ys, AllOf x ys ∧ J ys wr)) (fun i _ => 1 - (intOf i).toNat)
  case atStart => exact .inl ⟨rfl, hc, h0, Below.refl _ _⟩
  case round =>
    rcases hrel with ⟨rfl, hcx, hJ0, hb0⟩ | ⟨rfl, ys, hall, hJs⟩
    · clear hc h0
      gi_wp2
      gi_loopw [4] (fun v wr => ∃ (z : Nat) (pre : List (BitOf x)), v = .int .u64 (z : Int) ∧ Hid (Left x z pre) ∧ Hid (J pre wr) ∧ Hid (Below n₀ W wr)) (fun v _ => (intOf v).toNat)
      case atStart => exact ⟨x, [], rfl, Lib.hid (Left.start hx), Lib.hid hJ0, Lib.hid hb0⟩
      case round =>
        clear hcx hJ0 hb0
        obtain ⟨z, pre, rfl, hL, hJ, hb⟩ := hrel
        by_cases hz : z = 0
        · have hA := Lib.hid (hL.out.done hz)
          have hz2 : ((z : Int) != 0) = false := by simp [hz]
          clear hz
          gi_wp2
          go_roundw
          case rel => exact .inr ⟨by simp, pre, hA.out, hJ.out⟩
          case measure => simp [intOf]
        · have hz2 : ((z : Int) != 0) = true := by simp; omega
          have hl := Lib.hid (hL.out.len hz)
          obtain ⟨k, hk⟩ : ∃ k, Lib.ctz 64 z = k := ⟨_, rfl⟩
          have HB : x.testBit k = true := by rw [← hk]; exact hL.out.bit hz
          have HN := Lib.hid (hL.out.next hz ⟨k, HB⟩ hk.symm)
          have KT := Lib.hid (trail_any z hL.out.small hz wr (HT.out _ hb.out))
          have HW := Lib.hid (and_word z hL.out.small hz)
          have HLT := Lib.hid (clear_lt z hz)
          obtain ⟨fn, tmps, assign, body, hy, hR⟩ := hY pre ⟨k, HB⟩ wr hJ.out (by have := hl.out; omega)
          dsimp only at hy
          rw [hk] at KT
          have hk64 : k < 64 := by have := hl.out.2; omega
          have e1 := HW.out.1
          have e2 := HW.out.2
          clear hz hk
          gi_wp2_with (refine ⟨trivial, ?_⟩; gi_at_call 103; refine (callsIn_wide.2 KT.out).mono ?_; rintro e w' ⟨rfl, rfl⟩)
          refine hR.mono ?_
          rintro e W3 (⟨rfl, hJ3, hk3⟩ | ⟨rfl, hJx3⟩)
          · have HJ3 := Lib.hid hJ3
            have HK3 := Lib.hid (hb.out.trans hk3)
            clear hJ3 hk3
            gi_wp2
            go_roundw
            case rel => exact ⟨z &&& (z - 1), pre ++ [⟨k, HB⟩], rfl, HN, HJ3, HK3⟩
            case measure =>
              simp [intOf]
              have := HLT.out
              omega
          · gi_wp2
            refine bodyPost_ret (results_none rfl _ _ _) rfl ?_
            exact ⟨⟨_, rfl⟩, .inr ⟨_, trivial, hJx3⟩⟩
    · gi_wp2
      go_end0
      exact ⟨⟨_, rfl⟩, .inl ⟨ys, hall, hJs⟩⟩
end Go.Proofs.YtgkiaeddlahngaaGreatDoor
namespace Go.Proofs.YtgkiaeddlahngaaGreatDoor
set_option linter.unusedVariables false
set_option linter.unusedSimpArgs false
open Go.RowKit Go.Shelf Go.Maps
attribute [local go_sem] Oper.semAt_some
attribute [local go_sem ↓] fold_E fold_SE

theorem TabT.on {w w' : World} (h : TabT w) (hb : Below w.heap.size w w') : TabT w' := fun j hj => by
  have h1 := h j hj
  have hl : 0 < w.heap.size := by
    obtain ⟨o, ho, _⟩ := cells_of_cell h1
    exact (Array.getElem?_eq_some_iff.1 ho).1
  exact (hb.cell (p := ⟨0, j, none⟩) hl).trans h1
theorem nums_stops (gx x Bs n₀ : Nat) (hx : x < 18446744073709551616) (w : World) (hBs : w.cell? ⟨Bs, 0, none⟩ = some (setV gx)) (hBl : Bs < w.heap.size) (hc : SetAt x gx w) (hn : n₀ ≤ w.heap.size) (hT : ∀ W', Below n₀ w W' → TabT W') :
    SeqStopsK Fence.wide 2 Tryz.prog 102 #[.pointer (some ⟨Bs, 0, none⟩)] (fun y : BitOf x => #[.int .i64 (y.1 : Int)]) (Below n₀) (AllOf x) (fun _ => True) 64 w := fun l J Jx W hW _ _ hY h0 =>
  nums1_in 2 (by omega) l Bs n₀ gx x hx J Jx hY W ((hW.cell (p := ⟨Bs, 0, none⟩) hBl).trans hBs) ((hW.cell (p := ⟨gx, 0, none⟩) hc.lt).trans hc.cell) (fun W' h => hT W' ((hW.mono hn).trans h)) h0

/-- what is reached, what is new, whether there is any, when what D says has been gone through -/
structure Gr (R : Nat) (D : Nat → Prop) (R' M : Nat) (G : Bool) : Prop where
  r : R' < 18446744073709551616
  m : M < 18446744073709551616
  rb : ∀ k, R'.testBit k = true ↔ R.testBit k = true ∨ D k
  mb : ∀ k, M.testBit k = true ↔ D k ∧ ¬ R.testBit k = true
  g : G = false ↔ ∀ k, ¬ M.testBit k = true
theorem Gr.start {R : Nat} (h : R < 18446744073709551616) : Gr R (fun _ => False) R 0 false := ⟨h, by omega, fun k => by simp, fun k => by simp, by simp⟩
theorem Gr.iff {R : Nat} {D D' : Nat → Prop} {R' M : Nat} {G : Bool} (h : Gr R D R' M G) (hD : ∀ k, D' k ↔ D k) : Gr R D' R' M G := ⟨h.r, h.m, fun k => by rw [h.rb, hD], fun k => by rw [h.mb, hD], h.g⟩
theorem Gr.keep {R : Nat} {D D' : Nat → Prop} {R' M : Nat} {G : Bool} (h : Gr R D R' M G) (t : Nat) (P : Prop) (hD : ∀ k, D' k ↔ D k ∨ (k = t ∧ P)) (hp : P → R'.testBit t = true) : Gr R D' R' M G := by
  refine ⟨h.r, h.m, fun k => ?_, fun k => ?_, h.g⟩
  · rw [h.rb, hD]
    constructor
    · rintro (h1 | h1)
      · exact .inl h1
      · exact .inr (.inl h1)
    · rintro (h1 | h1 | ⟨rfl, h1⟩)
      · exact .inl h1
      · exact .inr h1
      · exact (h.rb k).1 (hp h1)
  · rw [h.mb, hD]
    constructor
    · rintro ⟨h1, h2⟩; exact ⟨.inl h1, h2⟩
    · rintro ⟨h1 | ⟨rfl, h1⟩, h2⟩
      · exact ⟨h1, h2⟩
      · rcases (h.rb k).1 (hp h1) with h3 | h3
        · exact absurd h3 h2
        · exact ⟨h3, h2⟩
theorem or_bit (x n : Nat) (hx : x < 18446744073709551616) (hn : n < 64) : (x ||| 2 ^ n) < 18446744073709551616 := (put_bit x n hx hn).2
theorem Gr.put {R : Nat} {D D' : Nat → Prop} {R' M : Nat} {G : Bool} (h : Gr R D R' M G) (t : Nat) (ht : t < 64) (hn : R'.testBit t = false) (hD : ∀ k, D' k ↔ D k ∨ k = t) : Gr R D' (R' ||| 2 ^ t) (M ||| 2 ^ t) true := by
  have hnR : ¬ R.testBit t = true := fun h1 => by rw [(h.rb t).2 (.inl h1)] at hn; cases hn
  refine ⟨or_bit _ _ h.r ht, or_bit _ _ h.m ht, fun k => ?_, fun k => ?_, ?_⟩
  · rw [bit_put, Bool.or_eq_true, h.rb, hD, decide_eq_true_eq]
    constructor
    · rintro ((h1 | h1) | rfl)
      · exact .inl h1
      · exact .inr (.inl h1)
      · exact .inr (.inr rfl)
    · rintro (h1 | h1 | rfl)
      · exact .inl (.inl h1)
      · exact .inl (.inr h1)
      · exact .inr rfl
  · rw [bit_put, Bool.or_eq_true, h.mb, hD, decide_eq_true_eq]
    constructor
    · rintro (⟨h1, h2⟩ | rfl)
      · exact ⟨.inl h1, h2⟩
      · exact ⟨.inr rfl, hnR⟩
    · rintro ⟨h1 | rfl, h2⟩
      · exact .inl ⟨h1, h2⟩
      · exact .inr rfl
  · constructor
    · intro h1; cases h1
    · intro h1
      exact absurd (by rw [bit_put]; simp) (h1 t)
/-- the turn's boxes, its sets -/
structure Gw (p : Vp) (b gr s : Nat) (R' M : Nat) (G : Bool) (W : World) : Prop where
  bv : W.heap[s]? = some (.cells #[.pointer (some ⟨p.g, 0, none⟩)] 62 (0, 0))
  br : W.heap[s + 1]? = some (.cells #[setV gr] 88 (0, 0))
  bb : W.heap[s + 2]? = some (.cells #[.int .i64 (b : Int)] 3 (0, 0))
  bm : W.heap[s + 4]? = some (.cells #[setV (s + 3)] 88 (0, 0))
  bg : W.heap[s + 5]? = some (.cells #[.bool G] 4 (0, 0))
  sr : SetAt R' gr W
  sm : SetAt M (s + 3) W
theorem keeps_below {W W' : World} (h : Below W.heap.size W W') : KeepsOthers W W' := ⟨h.size, fun k o hk _ => (h.block k (Array.getElem?_eq_some_iff.1 hk).1).trans hk⟩
theorem Gw.on {p : Vp} {b gr s R' M : Nat} {G : Bool} {W W' : World} (h : Gw p b gr s R' M G W) (hb : ∀ (k : Nat) (cs : Array Value) (T : TypeId) (fr : Nat × Nat), W.heap[k]? = some (Obj.cells cs T fr) → W'.heap[k]? = some (Obj.cells cs T fr)) : Gw p b gr s R' M G W' :=
  ⟨hb _ _ _ _ h.bv, hb _ _ _ _ h.br, hb _ _ _ _ h.bb, hb _ _ _ _ h.bm, hb _ _ _ _ h.bg, hb _ _ _ _ h.sr, hb _ _ _ _ h.sm⟩
theorem Gw.below {p : Vp} {b gr s R' M : Nat} {G : Bool} {W W' : World} (h : Gw p b gr s R' M G W) (hb : Below W.heap.size W W') : Gw p b gr s R' M G W' :=
  h.on fun k cs T fr hk => (hb.block k (Array.getElem?_eq_some_iff.1 hk).1).trans hk
theorem grown_cells {W W' : World} {row : Option Nat} (hg : W.grownBy W' row) (hr : ∀ r, row = some r → ∃ o : Obj, W.heap[r]? = some o ∧ o.isCells = false) (k : Nat) (cs : Array Value) (T : TypeId) (fr : Nat × Nat) (hk : W.heap[k]? = some (Obj.cells cs T fr)) : W'.heap[k]? = some (Obj.cells cs T fr) :=
  (grownBy_keeps_cells hg hr hk rfl).trans hk
/-- the numbers gone through lead so far -/
def DoneF (c : Cd) (b : Nat) (pre : List Nat) (m : Nat) : Prop := m ≤ b ∧ ∃ y ∈ pre, edge c y m = true
/-- and of the one at hand, up to t -/
def DoneT (c : Cd) (b : Nat) (pre : List Nat) (f t : Nat) (m : Nat) : Prop := DoneF c b pre m ∨ (m < t ∧ m ≤ b ∧ edge c f m = true)
theorem DoneT.first {c : Cd} {b : Nat} {pre : List Nat} {f m : Nat} : DoneT c b pre f (f + 1) m ↔ DoneF c b pre m := by
  unfold DoneT
  constructor
  · rintro (h | ⟨h1, h2, h3⟩)
    · exact h
    · have := (edge_in h3).1; omega
  · exact .inl
theorem DoneT.last {c : Cd} {b : Nat} {pre : List Nat} {f t m : Nat} (ht : b < t) : DoneF c b (pre ++ [f]) m ↔ DoneT c b pre f t m := by
  unfold DoneT DoneF
  constructor
  · rintro ⟨h1, y, h2, h3⟩
    simp only [List.mem_append, List.mem_singleton] at h2
    rcases h2 with h2 | rfl
    · exact .inl ⟨h1, y, h2, h3⟩
    · exact .inr ⟨by omega, h1, h3⟩
  · rintro (⟨h1, y, h2, h3⟩ | ⟨h1, h2, h3⟩)
    · exact ⟨h1, y, by simp [h2], h3⟩
    · exact ⟨h2, f, by simp, h3⟩
theorem DoneT.next {c : Cd} {b : Nat} {pre : List Nat} {f t m : Nat} (ht : t ≤ b) : DoneT c b pre f (t + 1) m ↔ DoneT c b pre f t m ∨ (m = t ∧ edge c f t = true) := by
  unfold DoneT
  constructor
  · rintro (h | ⟨h1, h2, h3⟩)
    · exact .inl (.inl h)
    · by_cases he : m = t
      · subst he; exact .inr ⟨rfl, h3⟩
      · exact .inl (.inr ⟨by omega, h2, h3⟩)
  · rintro ((h | ⟨h1, h2, h3⟩) | ⟨rfl, h3⟩)
    · exact .inl h
    · exact .inr ⟨by omega, h2, h3⟩
    · exact .inr ⟨by omega, ht, h3⟩
/-- between two numbers -/
def GI (c : Cd) (p : Vp) (b gr s R n₀ : Nat) (w0 : World) (ys : List Nat) (W : World) : Prop := ∃ R' M G, Gr R (DoneF c b ys) R' M G ∧ Gw p b gr s R' M G W ∧ Below n₀ w0 W
theorem GI.own {c : Cd} {p : Vp} {b gr s R n₀ x B : Nat} {w0 : World} (h0 : n₀ ≤ w0.heap.size) (hB : n₀ ≤ B) : OwnFrom B (fun (pre : List (BitOf x)) W => GI c p b gr s R n₀ w0 (pre.map (·.1)) W) := fun ys W W' row hs hg hr => by
  obtain ⟨R', M, G, h1, h2, h3⟩ := hs
  exact ⟨R', M, G, h1, h2.on (grown_cells hg fun r e => (hr r e).2), h3.grown hg (Nat.le_trans h0 h3.size) fun k e => Nat.le_trans hB (hr k e).1⟩
/-- what a turn answers -/
def GrowIs (c : Cd) (b gr R x n₀ : Nat) (w0 : World) (e : Ending) (W : World) : Prop := ∃ R' M G ys g, e = .returned (.tuple #[setV g, .bool G]) ∧ (∀ k, x.testBit k = true ↔ k ∈ ys) ∧ Gr R (DoneF c b ys) R' M G ∧ SetAt R' gr W ∧ SetAt M g W ∧ n₀ ≤ g ∧ g ≠ gr ∧ Below n₀ w0 W
end Go.Proofs.YtgkiaeddlahngaaGreatDoor
namespace Go.Proofs.YtgkiaeddlahngaaGreatDoor
set_option linter.unusedVariables false
set_option linter.unusedSimpArgs false
open Go.RowKit Go.Shelf Go.Maps
attribute [local go_sem] Oper.semAt_some
attribute [local go_sem ↓] fold_E fold_SE

theorem heap_alloc_at (w : World) (o : Obj) (k : Nat) : (w.alloc o).heap[k]? = if k = w.heap.size then some o else w.heap[k]? := by show (w.heap.push o)[k]? = _; rw [Array.getElem?_push]
theorem Gw.cells {p : Vp} {b gr s R' M : Nat} {G : Bool} {W : World} (h : Gw p b gr s R' M G W) : W.cell? ⟨s, 0, none⟩ = some (.pointer (some ⟨p.g, 0, none⟩)) ∧ W.cell? ⟨s + 1, 0, none⟩ = some (setV gr) ∧ W.cell? ⟨s + 2, 0, none⟩ = some (.int .i64 (b : Int)) ∧ W.cell? ⟨s + 4, 0, none⟩ = some (setV (s + 3)) ∧ W.cell? ⟨s + 5, 0, none⟩ = some (.bool G) ∧ W.frozen? ⟨s + 5, 0, none⟩ = false :=
  ⟨by rw [cell_of_row W s 0 _ _ _ h.bv]; rfl, by rw [cell_of_row W (s + 1) 0 _ _ _ h.br]; rfl, by rw [cell_of_row W (s + 2) 0 _ _ _ h.bb]; rfl, by rw [cell_of_row W (s + 4) 0 _ _ _ h.bm]; rfl, by rw [cell_of_row W (s + 5) 0 _ _ _ h.bg]; rfl, frozen_of_row W (s + 5) 0 _ _ h.bg⟩
/-- behind a number put into one of the two sets, and the word that there is one -/
theorem Gw.put1 {p : Vp} {b gr s R' M : Nat} {G : Bool} {W : World} (h : Gw p b gr s R' M G W) (hg : gr < s) (x : Nat) : Gw p b gr s x M G (W.setCell ⟨gr, 0, none⟩ (.int .u64 (x : Int))).drew := by
  have hne : ∀ k, k ≠ gr → (W.setCell ⟨gr, 0, none⟩ (.int .u64 (x : Int))).drew.heap[k]? = W.heap[k]? := fun k hk => Below.heap_setCell W ⟨gr, 0, none⟩ _ k hk
  refine ⟨(hne _ (by omega)).trans h.bv, (hne _ (by omega)).trans h.br, (hne _ (by omega)).trans h.bb, (hne _ (by omega)).trans h.bm, (hne _ (by omega)).trans h.bg, h.sr.put, (hne _ (by omega)).trans h.sm⟩
theorem Gw.put2 {p : Vp} {b gr s R' M : Nat} {G : Bool} {W : World} (h : Gw p b gr s R' M G W) (hg : gr < s) (x : Nat) : Gw p b gr s R' x G (W.setCell ⟨s + 3, 0, none⟩ (.int .u64 (x : Int))).drew := by
  have hne : ∀ k, k ≠ s + 3 → (W.setCell ⟨s + 3, 0, none⟩ (.int .u64 (x : Int))).drew.heap[k]? = W.heap[k]? := fun k hk => Below.heap_setCell W ⟨s + 3, 0, none⟩ _ k hk
  refine ⟨(hne _ (by omega)).trans h.bv, (hne _ (by omega)).trans h.br, (hne _ (by omega)).trans h.bb, (hne _ (by omega)).trans h.bm, (hne _ (by omega)).trans h.bg, (hne _ (by omega)).trans h.sr, h.sm.put⟩
theorem Gw.told {p : Vp} {b gr s R' M : Nat} {G : Bool} {W : World} (h : Gw p b gr s R' M G W) (hg : gr < s) (G' : Bool) : Gw p b gr s R' M G' (W.setCell ⟨s + 5, 0, none⟩ (.bool G')) := by
  have hne : ∀ k, k ≠ s + 5 → (W.setCell ⟨s + 5, 0, none⟩ (.bool G')).heap[k]? = W.heap[k]? := fun k hk => Below.heap_setCell W ⟨s + 5, 0, none⟩ _ k hk
  refine ⟨(hne _ (by omega)).trans h.bv, (hne _ (by omega)).trans h.br, (hne _ (by omega)).trans h.bb, (hne _ (by omega)).trans h.bm, ?_, (hne _ (by omega)).trans h.sr, (hne _ (by omega)).trans h.sm⟩
  have := cells_set W (s + 5) 0 (.bool G') _ _ _ h.bg
  rw [this]; simp
/-- what a round keeps -/
def Kb (B n : Nat) (W W' : World) : Prop := KeepsFrom B W W' ∧ Below n W W'
theorem Kb.refl (B n : Nat) (W : World) : Kb B n W W := ⟨KeepsFrom.refl _ _, Below.refl _ _⟩
theorem Kb.on {B n : Nat} {W X Y : World} (h : Kb B n W X) (hb : Below X.heap.size X Y) (hn : n ≤ X.heap.size) : Kb B n W Y := ⟨h.1.trans ((keeps_below hb).from _), h.2.trans (hb.mono hn)⟩
theorem Kb.set {B n : Nat} {W X : World} (h : Kb B n W X) (g : Nat) (v : Value) (hg : n ≤ g) : Kb B n W (X.setCell ⟨g, 0, none⟩ v) := ⟨h.1.trans ((KeepsOthers.setCell _ _ _).from _), h.2.setCell (p := ⟨g, 0, none⟩) hg _⟩
theorem Kb.drew {B n : Nat} {W X : World} (h : Kb B n W X) : Kb B n W X.drew := ⟨h.1.trans ((KeepsOthers.drew _).from _), h.2.drew⟩
set_option maxRecDepth 100000 in
set_option maxHeartbeats 4000000 in
theorem grow_in (c : Cd) (p : Vp) (w0 w : World) (hv : Vw c (finK c) p w0) (hx : Rx c) (hk : ∀ n, n < c.N → 1 ≤ (c.at n).1.kind ∧ (c.at n).1.kind ≤ 6) (hT : TabT w0) (h0 : Below w0.heap.size w0 w) (b : Nat) (hb : b < c.N) (R x gr gx : Nat) (hR : R < 18446744073709551616) (hX : x < 18446744073709551616) (sR : SetAt R gr w) (sX : SetAt x gx w) (hgr : w0.heap.size ≤ gr) (hxb : ∀ k, x.testBit k = true → k ≤ b) :
    CallsIn Fence.wide 3 Tryz.prog 78 #[.pointer (some ⟨p.g, 0, none⟩), setV gr, setV gx, .int .i64 (b : Int)] w fun e W => GrowIs c b gr R x w0.heap.size w0 e W := by
  have HN60 := hx.n60
  have hbz : ((b : Int) + 1 - 1) = b := by omega
  obtain ⟨s, hs⟩ : ∃ s, w.heap.size = s := ⟨_, rfl⟩
  have hgs : gr < s := by rw [← hs]; exact sR.lt
  have hxs : gx < s := by rw [← hs]; exact sX.lt
  have h0s : w0.heap.size ≤ s := by rw [← hs]; exact h0.size
  have KE := Lib.hid (fun W => setEmpty_any ((b : Int) + 1) (by omega) (by omega) W)
  have KN := Lib.hid (fun W => setNums_any gx W)
  refine callsIn_of_wp_marks Tryz.func78 rfl trivial ?_ rfl
  simp only [Tryz.ntmps78, List.size_toArray, List.length_cons, List.length_nil, Nat.reduceAdd, Nat.reduceSub, Array.replicate_succ, Array.replicate_zero, List.push_toArray, List.append_toArray, List.nil_append, List.cons_append]
  gi_wp2_with (first
    | (refine ⟨trivial, ?_⟩; gi_at_call 76; refine (callsIn_wide.2 (KE.out _)).mono ?_; rintro e' w' ⟨rfl, rfl⟩)
    | (refine ⟨trivial, ?_⟩; gi_at_call 91; refine (callsIn_wide.2 (KN.out _)).mono ?_; rintro e' w' ⟨rfl, rfl⟩))
  simp only [Nat.add_assoc, Nat.reduceAdd]
  obtain ⟨W1, hW1⟩ : ∃ W1, (((((((w.alloc (.cells #[.pointer (some ⟨p.g, 0, none⟩)] 62)).alloc (.cells #[setV gr] 88)).alloc (.cells #[.int .i64 (b : Int)] 3)).alloc (.cells #[.int .u64 0] 44)).alloc (.cells #[setV (s + 3)] 88)).alloc (.cells #[.bool false] 4)).alloc (.cells #[setV gx] 88)) = W1 := ⟨_, rfl⟩
  have HB1 : Below s w W1 := by
    rw [← hW1, ← hs]
    have h1 := (Below.refl w.heap.size w).alloc (Nat.le_refl _) (.cells #[.pointer (some ⟨p.g, 0, none⟩)] 62)
    have h2 := h1.alloc h1.size (.cells #[setV gr] 88)
    have h3 := h2.alloc h2.size (.cells #[.int .i64 (b : Int)] 3)
    have h4 := h3.alloc h3.size (.cells #[.int .u64 0] 44)
    have h5 := h4.alloc h4.size (.cells #[setV (w.heap.size + 3)] 88)
    have h6 := h5.alloc h5.size (.cells #[.bool false] 4)
    exact h6.alloc h6.size (.cells #[setV gx] 88)
  have hz1 : W1.heap.size = s + 7 := by rw [← hW1, ← hs]; simp
  have e0 : W1.heap[s]? = some (.cells #[.pointer (some ⟨p.g, 0, none⟩)] 62 (0, 0)) := by rw [← hW1, ← hs]; simp only [heap_alloc_at, World.size_alloc]; repeat (first | rw [if_neg (by omega)] | rw [if_pos trivial] | rw [if_pos (by omega)])
  have e1 : W1.heap[s + 1]? = some (.cells #[setV gr] 88 (0, 0)) := by rw [← hW1, ← hs]; simp only [heap_alloc_at, World.size_alloc]; repeat (first | rw [if_neg (by omega)] | rw [if_pos trivial] | rw [if_pos (by omega)])
  have e2 : W1.heap[s + 2]? = some (.cells #[.int .i64 (b : Int)] 3 (0, 0)) := by rw [← hW1, ← hs]; simp only [heap_alloc_at, World.size_alloc]; repeat (first | rw [if_neg (by omega)] | rw [if_pos trivial] | rw [if_pos (by omega)])
  have e3 : W1.heap[s + 3]? = some (.cells #[.int .u64 0] 44 (0, 0)) := by rw [← hW1, ← hs]; simp only [heap_alloc_at, World.size_alloc]; repeat (first | rw [if_neg (by omega)] | rw [if_pos trivial] | rw [if_pos (by omega)])
  have e4 : W1.heap[s + 4]? = some (.cells #[setV (s + 3)] 88 (0, 0)) := by rw [← hW1, ← hs]; simp only [heap_alloc_at, World.size_alloc]; repeat (first | rw [if_neg (by omega)] | rw [if_pos trivial] | rw [if_pos (by omega)])
  have e5 : W1.heap[s + 5]? = some (.cells #[.bool false] 4 (0, 0)) := by rw [← hW1, ← hs]; simp only [heap_alloc_at, World.size_alloc]; repeat (first | rw [if_neg (by omega)] | rw [if_pos trivial] | rw [if_pos (by omega)])
  have e6 : W1.heap[s + 6]? = some (.cells #[setV gx] 88 (0, 0)) := by rw [← hW1, ← hs]; simp only [heap_alloc_at, World.size_alloc]; repeat (first | rw [if_neg (by omega)] | rw [if_pos trivial] | rw [if_pos (by omega)])
  rw [hW1]
  have hgw : Gw p b gr s R 0 false W1 := ⟨e0, e1, e2, e4, e5, (HB1.block gr hgs).trans sR, e3⟩
  have hB1 : Below w0.heap.size w0 W1 := h0.trans (HB1.mono h0s)
  have hx1 : SetAt x gx W1 := (HB1.block gx hxs).trans sX
  have hc6 : W1.cell? ⟨s + 6, 0, none⟩ = some (setV gx) := by rw [cell_of_row W1 (s + 6) 0 _ _ _ e6]; rfl
  have hT1 : ∀ W', Below w0.heap.size W1 W' → TabT W' := fun W' h => hT.on (hB1.trans h)
  have hGI : GI c p b gr s R w0.heap.size w0 (([] : List (BitOf x)).map (·.1)) W1 := ⟨R, 0, false, (Gr.start hR).iff (fun k => by simp [DoneF]), hgw, hB1⟩
  have V0 := Lib.hid hv
  have HX := Lib.hid hx
  have HK := Lib.hid hk
  have hbn : b < 64 := by omega
  refine wpIn_rangeFunc_ownG rfl (by omega) (gf := 102) (lb := #[.pointer (some ⟨s + 6, 0, none⟩)]) rfl trivial (enters_of Tryz.func102 (by kernel_rfl) rfl)
    (nums_stops gx x (s + 6) w0.heap.size hX W1 hc6 (by omega) hx1 (by omega) hT1) belowK_t (belowK_b (by omega)) (Below.refl _ _) (fun _ => rfl)
    (fun (pre : List (BitOf x)) (W : World) => GI c p b gr s R w0.heap.size w0 (pre.map (·.1)) W)
    (fun _ _ _ => False)
    (GI.own (Nat.le_refl _) (by omega))
    (fun _ _ _ _ _ hs _ _ => hs)
    hGI
    (fun y => { tmps := #[.pointer (some ⟨p.g, 0, none⟩), setV gr, setV gx, .int .i64 (b : Int), .pointer (some ⟨s, 0, none⟩), .pointer (some ⟨s + 1, 0, none⟩), undef, .pointer (some ⟨s + 2, 0, none⟩), .slice none 0 0, .bool false, .pointer (some ⟨s + 4, 0, none⟩), .pointer (some ⟨s + 5, 0, none⟩), .int .i64 (y.1 : Int), undef, .int .i64 (b : Int), .int .i64 ((b : Int) + 1), setV (s + 3), setV gx, .func (.func 102) #[] #[.pointer (some ⟨s + 6, 0, none⟩)], .int .i64 (y.1 : Int), undef, undef, undef, undef, undef, undef, undef, undef, undef, undef, undef, undef, undef, undef, undef, undef, undef, undef, undef, undef, undef, undef, undef, undef, undef, undef], defers := [] }) ?assign ?body ?done ?stop
  case assign =>
    intro l y W K hK
    gi_wp2
    exact hK
  case body =>
    rintro l pre y W hgi hlt
    have HGI := Lib.hid hgi
    obtain ⟨f, hf⟩ : ∃ f : Nat, y.1 = f := ⟨_, rfl⟩
    have hfb : f ≤ b := by rw [← hf]; exact hxb _ y.2
    rw [hf]
    clear hgi hlt hGI hgw e0 e1 e2 e3 e4 e5 e6 hT1 hc6 hx1 hv hx hk sR sX HB1 hW1 hB1 hT KE KN
    have hw1 : IntKind.i64.wrap ((f : Int) + 1) = ((f + 1 : Nat) : Int) := by rw [IntWalk.i64_in _ (by omega)]; omega
    gi_wp2
    gi_loopw [13] (fun v wr => ∃ (t R' M : Nat) (G : Bool), v = .int .i64 (t : Int) ∧ f < t ∧ t ≤ b + 1 ∧ Hid (Gr R (DoneT c b (pre.map (·.1)) f t) R' M G) ∧ Hid (Gw p b gr s R' M G wr) ∧ Hid (Below w0.heap.size w0 wr) ∧ Hid (Kb W1.heap.size w0.heap.size W wr)) (fun v _ => b + 1 - (intOf v).toNat)
    case atStart =>
      obtain ⟨R', M, G, g1, g2, g3⟩ := HGI.out
      exact ⟨f + 1, R', M, G, by first | rfl | simp, by omega, by omega, Lib.hid (g1.iff fun k => DoneT.first), Lib.hid g2, Lib.hid g3, Lib.hid (Kb.refl _ _ _)⟩
    case round =>
      obtain ⟨t, R', M, G, rfl, hft, htb, HG, HW, HB, HKb⟩ := hrel
      obtain ⟨c0, c1, c2, c3, c4, c5⟩ := HW.out.cells
      by_cases hlt : t ≤ b
      · have d1 : decide ((t : Int) ≤ (b : Int)) = true := by simp; omega
        have d2 : IntKind.i64.wrap ((t : Int) + 1) = ((t + 1 : Nat) : Int) := by rw [IntWalk.i64_in _ (by omega)]; omega
        have HH := Lib.hid (setHas_any R' gr t HG.out.r (by omega) wr HW.out.sr)
        have VW := Lib.hid (V0.out.on HB.out)
        cases hb1 : R'.testBit t with
        | true =>
          have HH1 := Lib.hid (HH.out true hb1)
          have HGn := Lib.hid (HG.out.keep t (edge c f t = true) (fun k => DoneT.next hlt) (fun _ => hb1))
          clear hb1
          gi_wp2_with (refine ⟨trivial, ?_⟩; gi_at_call 79; refine (CallsIn.inRound l (callsIn_wide.2 HH1.out)).mono ?_; rintro e' w' ⟨rfl, rfl⟩)
          refine ⟨trivial, ?_⟩
          gi_wp2
          go_roundw
          case rel => exact ⟨t + 1, R', M, G, by first | rfl | simp, by omega, by omega, HGn, HW, HB, HKb⟩
          case measure => simp [intOf]; omega
        | false =>
          have HH1 := Lib.hid (HH.out false hb1)
          have KF := Lib.hid (first_any c p wr VW.out HX.out HK.out (f : Int) (t : Int))
          obtain ⟨r, hr⟩ : ∃ r, ruleL c (f : Int) (t : Int) = r := ⟨_, rfl⟩
          rw [hr] at KF
          by_cases h0r : r = 0
          · have he : edge c f t = false := by unfold edge; simp; rw [hr, h0r]
            have HGn := Lib.hid (HG.out.keep t (edge c f t = true) (fun k => DoneT.next hlt) (fun h => by rw [he] at h; cases h))
            have d3 : ((r : Int) != 0) = false := by simp [h0r]
            clear hb1 he hr h0r
            gi_wp2_with (first | (refine ⟨trivial, ?_⟩; gi_at_call 79; refine (CallsIn.inRound l (callsIn_wide.2 HH1.out)).mono ?_; rintro e' w' ⟨rfl, rfl⟩) | (refine ⟨trivial, ?_⟩; gi_at_call 37; refine (CallsIn.inRound l (callsIn_wide.2 KF.out)).mono ?_; rintro e' w2 ⟨rfl, hb2⟩; have W2 := Lib.hid (HW.out.below hb2); have B2 := Lib.hid (HB.out.trans (hb2.mono HB.out.size)); have K2 := Lib.hid (HKb.out.on hb2 HB.out.size); obtain ⟨a0, a1, a2, a3, a4, a5⟩ := W2.out.cells; clear hb2 KF))
            go_roundw
            case rel => exact ⟨t + 1, R', M, G, by first | rfl | simp, by omega, by omega, HGn, W2, B2, K2⟩
            case measure => simp [intOf]; omega
          · have he : edge c f t = true := by unfold edge; simp; rw [hr]; exact h0r
            have HGn := Lib.hid (HG.out.put (D' := DoneT c b (pre.map (·.1)) f (t + 1)) t (by omega) hb1 (fun k => by rw [DoneT.next hlt, he]; simp))
            have d3 : ((r : Int) != 0) = true := by simp; omega
            clear hb1 he hr h0r
            gi_wp2_with (first | (refine ⟨trivial, ?_⟩; gi_at_call 79; refine (CallsIn.inRound l (callsIn_wide.2 HH1.out)).mono ?_; rintro e' w' ⟨rfl, rfl⟩) | (refine ⟨trivial, ?_⟩; gi_at_call 37; refine (CallsIn.inRound l (callsIn_wide.2 KF.out)).mono ?_; rintro e' w2 ⟨rfl, hb2⟩; have W2 := Lib.hid (HW.out.below hb2); have B2 := Lib.hid (HB.out.trans (hb2.mono HB.out.size)); have K2 := Lib.hid (HKb.out.on hb2 HB.out.size); obtain ⟨a0, a1, a2, a3, a4, a5⟩ := W2.out.cells; have KP1 := Lib.hid (setPut_any R' gr t HG.out.r (by omega) w2 W2.out.sr); clear hb2 KF c0 c1 c2 c3 c4 c5) | (refine ⟨trivial, ?_⟩; gi_at_call 77; refine (CallsIn.inRound l (callsIn_wide.2 KP1.out)).mono ?_; rintro e' w3 ⟨⟨v3, rfl⟩, hw3⟩; have W3 : Hid (Gw p b gr s (R' ||| 2 ^ t) M G w3) := Lib.hid (hw3 ▸ W2.out.put1 hgs _); have B3 : Hid (Below w0.heap.size w0 w3) := Lib.hid (hw3 ▸ (B2.out.setCell (p := ⟨gr, 0, none⟩) hgr _).drew); have K3 : Hid (Kb W1.heap.size w0.heap.size W w3) := Lib.hid (hw3 ▸ (K2.out.set gr _ hgr).drew); have KP2 := Lib.hid (setPut_any M (s + 3) t HG.out.m (by omega) w3 W3.out.sm); clear hw3 KP1 a0 a1 a2 a3 a4 a5; obtain ⟨a0, a1, a2, a3, a4, a5⟩ := W3.out.cells) | (refine ⟨trivial, ?_⟩; gi_at_call 77; refine (CallsIn.inRound l (callsIn_wide.2 KP2.out)).mono ?_; rintro e' w4 ⟨⟨v4, rfl⟩, hw4⟩; have W4 : Hid (Gw p b gr s (R' ||| 2 ^ t) (M ||| 2 ^ t) G w4) := Lib.hid (hw4 ▸ W3.out.put2 hgs _); have B4 : Hid (Below w0.heap.size w0 w4) := Lib.hid (hw4 ▸ (B3.out.setCell (p := ⟨s + 3, 0, none⟩) (by show _ ≤ s + 3; omega) _).drew); have K4 : Hid (Kb W1.heap.size w0.heap.size W w4) := Lib.hid (hw4 ▸ (K3.out.set (s + 3) _ (by omega)).drew); clear hw4 KP2 a0 a1 a2 a3 a4 a5; obtain ⟨a0, a1, a2, a3, a4, a5⟩ := W4.out.cells))
            go_roundw
            case rel => exact ⟨t + 1, R' ||| 2 ^ t, M ||| 2 ^ t, true, by first | rfl | simp, by omega, by omega, HGn, Lib.hid (W4.out.told hgs true), Lib.hid (B4.out.setCell (p := ⟨s + 5, 0, none⟩) (by show _ ≤ s + 5; omega) _), Lib.hid (K4.out.set (s + 5) _ (by omega))⟩
            case measure => simp [intOf]; omega
      · have d1 : decide ((t : Int) ≤ (b : Int)) = false := by simp; omega
        gi_wp2
        exact ⟨HKb.out.1, HKb.out.2, R', M, G, HG.out.iff (fun k => by rw [List.map_append]; simp only [List.map_cons, List.map_nil, hf]; exact DoneT.last (by omega)), HW.out, HB.out⟩
  case done =>
    rintro D ys W hD hall hgi hK
    obtain ⟨R', M, G, g1, g2, g3⟩ := hgi
    have HG := Lib.hid g1
    have HW := Lib.hid g2
    have HB := Lib.hid g3
    have HD := Lib.hid hD
    have HA := Lib.hid hall
    obtain ⟨c0, c1, c2, c3, c4, c5⟩ := HW.out.cells
    clear g1 g2 g3 hall hD
    gi_wp2
    gi_region
    all_goals gi_wp2
    have hK2 : W.drew.heap[D]? = some (.deferred (some [])) := hK
    refine ⟨by simp, .inl ⟨_, _, rfl, run_takeDeferred hK2, ?_⟩⟩
    have hW2 := (HW.out.on (W' := W.drew) (fun _ _ _ _ h => h)).on (grown_cells (grownBy_putObj' W.drew D (.deferred none)) (fun r e => by cases e; exact ⟨_, hK2, rfl⟩))
    have hB2 := HB.out.drew.trans (belowK_b (w := W1) (n₀ := w0.heap.size) (by omega) W.drew D _ (.deferred none) HD.out hK2 rfl rfl)
    refine ⟨.tuple #[setV (s + 3), .bool G], by simp [results, Tryz.results78], R', M, G, ys.map (·.1), s + 3, rfl, fun k => ?_, HG.out, hW2.sr, hW2.sm, by omega, by omega, hB2⟩
    constructor
    · intro h
      obtain ⟨y, h1, h2⟩ := HA.out k h
      exact List.mem_map.2 ⟨y, h1, h2⟩
    · intro h
      obtain ⟨y, h1, rfl⟩ := List.mem_map.1 h
      exact y.2
  case stop =>
    rintro D c2 pre W _ _ h _
    exact h.elim
theorem grow_any (c : Cd) (p : Vp) (w0 w : World) (hv : Vw c (finK c) p w0) (hx : Rx c) (hk : ∀ n, n < c.N → 1 ≤ (c.at n).1.kind ∧ (c.at n).1.kind ≤ 6) (hT : TabT w0) (h0 : Below w0.heap.size w0 w) (b : Nat) (hb : b < c.N) (R x gr gx : Nat) (hR : R < 18446744073709551616) (hX : x < 18446744073709551616) (sR : SetAt R gr w) (sX : SetAt x gx w) (hgr : w0.heap.size ≤ gr) (hxb : ∀ k, x.testBit k = true → k ≤ b) :
    Calls Tryz.prog 78 #[.pointer (some ⟨p.g, 0, none⟩), setV gr, setV gx, .int .i64 (b : Int)] w fun e W => GrowIs c b gr R x w0.heap.size w0 e W :=
  callsIn_wide.1 (grow_in c p w0 w hv hx hk hT h0 b hb R x gr gx hR hX sR sX hgr hxb)
end Go.Proofs.YtgkiaeddlahngaaGreatDoor
namespace Go.Proofs.YtgkiaeddlahngaaGreatDoor
set_option linter.unusedVariables false
set_option linter.unusedSimpArgs false
open Go.RowKit Go.Maps
attribute [local go_sem ↓] fold_E fold_SE

/-- where the search stands: what is reached, what is fresh -/
structure Ls (c : Cd) (a b R X : Nat) : Prop where
  r : R < 18446744073709551616
  x : X < 18446744073709551616
  sound : ∀ k, R.testBit k = true → Reach c a k
  xs : ∀ k, X.testBit k = true → k ≤ b ∧ (k = a ∨ R.testBit k = true)
  closed : ∀ y, (y = a ∨ R.testBit y = true) → X.testBit y = false → ∀ m, m ≤ b → edge c y m = true → R.testBit m = true
theorem Ls.next {c : Cd} {a b R X R' M : Nat} {G : Bool} {ys : List Nat} (h : Ls c a b R X) (hy : ∀ k, X.testBit k = true ↔ k ∈ ys) (g : Gr R (DoneF c b ys) R' M G) : Ls c a b R' M := by
  refine ⟨g.r, g.m, fun k hk => ?_, fun k hk => ?_, fun y hy1 hy2 m hm he => ?_⟩
  · rcases (g.rb k).1 hk with h1 | ⟨_, y, h2, h3⟩
    · exact h.sound k h1
    · rcases (h.xs y ((hy y).2 h2)).2 with rfl | h4
      · exact .one h3
      · exact .more (h.sound y h4) h3
  · have := (g.mb k).1 hk
    exact ⟨this.1.1, .inr ((g.rb k).2 (.inr this.1))⟩
  · have hyR : y = a ∨ R.testBit y = true := by
      rcases hy1 with h1 | h1
      · exact .inl h1
      · rcases (g.rb y).1 h1 with h2 | h2
        · exact .inr h2
        · refine .inr ?_
          cases hr : R.testBit y with
          | true => rfl
          | false => rw [(g.mb y).2 ⟨h2, by rw [hr]; simp⟩] at hy2; cases hy2
    cases hx : X.testBit y with
    | true => exact (g.rb m).2 (.inr ⟨hm, y, (hy y).1 hx, he⟩)
    | false => exact (g.rb m).2 (.inl (h.closed y hyR hx m hm he))
theorem Ls.done {c : Cd} {a b R X : Nat} (h : Ls c a b R X) (hX : ∀ k, ¬ X.testBit k = true) : R.testBit b = reachB c a b := by
  have key : ∀ m, Reach c a m → m ≤ b → R.testBit m = true := by
    intro m hm
    induction hm with
    | one h1 => exact fun hb => h.closed a (.inl rfl) (by simpa using hX a) _ hb h1
    | more h1 h2 ih =>
      intro hb
      have := (edge_in h2).1
      exact h.closed _ (.inr (ih (by omega))) (by simpa using hX _) _ hb h2
  cases hr : reachB c a b with
  | true => exact key b ((reachB_iff c a b).1 hr) (Nat.le_refl _)
  | false =>
    cases h1 : R.testBit b with
    | false => rfl
    | true => rw [(reachB_iff c a b).2 (h.sound b h1)] at hr; cases hr
theorem Gr.more {R : Nat} {D : Nat → Prop} {R' M : Nat} (h : Gr R D R' M true) : R < R' := by
  have hle : R ||| R' = R' := by
    apply Nat.eq_of_testBit_eq
    intro k
    rw [Nat.testBit_or]
    cases h1 : R.testBit k with
    | false => simp
    | true => rw [(h.rb k).2 (.inl h1)]; rfl
  have h1 : R ≤ R ||| R' := Nat.left_le_or
  rw [hle] at h1
  rcases Nat.lt_or_eq_of_le h1 with h2 | rfl
  · exact h2
  · exfalso
    have : (true : Bool) = false := h.g.2 fun k hk => ((h.mb k).1 hk).2 ((h.rb k).2 (.inr ((h.mb k).1 hk).1))
    cases this
theorem Ls.start {c : Cd} {a b : Nat} (hab : a ≤ b) (h64 : a < 64) : Ls c a b 0 (0 ||| 2 ^ a) := by
  have hb : ∀ k, (0 ||| 2 ^ a).testBit k = decide (a = k) := fun k => by rw [bit_put]; simp
  refine ⟨by omega, or_bit 0 a (by omega) h64, fun k hk => by simp at hk, fun k hk => ?_, fun y hy hx => ?_⟩
  · rw [hb k, decide_eq_true_eq] at hk
    subst hk; exact ⟨hab, .inl rfl⟩
  · rw [hb y, decide_eq_false_iff_not] at hx
    rcases hy with h1 | h1
    · exact absurd h1.symm hx
    · simp at h1
/-- how much the search has left -/
def leftL (gr : Nat) (G : Bool) (w : World) : Nat := if G then 18446744073709551617 - (match w.cell? ⟨gr, 0, none⟩ with | some v => (intOf v).toNat | none => 0) else 0
theorem leftL_at {gr R : Nat} {w : World} (G : Bool) (h : SetAt R gr w) : leftL gr G w = if G then 18446744073709551617 - R else 0 := by
  unfold leftL; rw [h.cell]; rfl
def boolOf : Value → Bool | .bool b => b | _ => false
/-- the search's sets in memory -/
structure Lsw (c : Cd) (a b R X gr gx : Nat) (G : Bool) (w0 w : World) : Prop where
  ls : Ls c a b R X
  sr : SetAt R gr w
  sx : SetAt X gx w
  bel : Below w0.heap.size w0 w
  ge : w0.heap.size ≤ gr
  g : G = false → ∀ k, ¬ X.testBit k = true
set_option maxRecDepth 100000 in
set_option maxHeartbeats 4000000 in
theorem leads_any (c : Cd) (p : Vp) (w : World) (hv : Vw c (finK c) p w) (hx : Rx c) (hk : ∀ n, n < c.N → 1 ≤ (c.at n).1.kind ∧ (c.at n).1.kind ≤ 6) (hT : TabT w) (a b : Nat) (hab : a < b) (hb : b < c.N) (r : Bool) (hr : reachB c a b = r) :
    Calls Tryz.prog 43 #[.pointer (some ⟨p.g, 0, none⟩), .int .i64 (a : Int), .int .i64 (b : Int)] w fun e w' => SaysB w r e w' := by
  have HN60 := hx.n60
  have hbz : ((b : Int) + 1 - 1) = b := by omega
  have KE := Lib.hid (fun W => setEmpty_any ((b : Int) + 1) (by omega) (by omega) W)
  have KG := Lib.hid (fun W (h0 : Below w.heap.size w W) R X gr gx (hR : R < 18446744073709551616) (hX : X < 18446744073709551616) (sR : SetAt R gr W) (sX : SetAt X gx W) (hgr : w.heap.size ≤ gr) hxb => grow_any c p w W hv hx hk hT h0 b hb R X gr gx hR hX sR sX hgr hxb)
  have HR := Lib.hid hr
  have S0 : Hid (SetAt 0 w.heap.size (w.alloc (.cells #[.int .u64 0] 44))) := Lib.hid (by unfold SetAt; rw [heap_alloc_at, if_pos rfl]; rfl)
  have S1 : Hid (SetAt 0 (w.heap.size + 1) ((w.alloc (.cells #[.int .u64 0] 44)).alloc (.cells #[.int .u64 0] 44))) := Lib.hid (by unfold SetAt; rw [heap_alloc_at, if_pos (by simp)]; rfl)
  have S2 : Hid (SetAt 0 w.heap.size ((w.alloc (.cells #[.int .u64 0] 44)).alloc (.cells #[.int .u64 0] 44))) := Lib.hid (by unfold SetAt; rw [heap_alloc_at, if_neg (by simp)]; exact S0.out)
  have P0 : Hid (∀ w3, (((w.alloc (.cells #[.int .u64 0] 44)).alloc (.cells #[.int .u64 0] 44)).setCell ⟨w.heap.size + 1, 0, none⟩ (.int .u64 ((0 ||| 2 ^ a : Nat) : Int))).drew = w3 → Lsw c a b 0 (0 ||| 2 ^ a) w.heap.size (w.heap.size + 1) true w w3) := Lib.hid (by
    rintro w3 rfl
    refine ⟨Ls.start (by omega) (by omega), ?_, S1.out.put, ?_, Nat.le_refl _, fun h => by cases h⟩
    · exact (Below.heap_setCell _ ⟨w.heap.size + 1, 0, none⟩ _ w.heap.size (by simp)).trans S2.out
    · exact ((((Below.refl _ w).alloc (Nat.le_refl _) _).alloc (by simp) _).setCell (p := ⟨w.heap.size + 1, 0, none⟩) (by show w.heap.size ≤ w.heap.size + 1; omega) _).drew)
  have L0 : Hid (Ls c a b 0 (0 ||| 2 ^ a)) := Lib.hid (Ls.start (by omega) (by omega))
  have ha64 : a < 64 := by omega
  have hb64 : b < 64 := by omega
  clear hv hx hk hT hr
  go_enter Tryz.func43, Tryz.ntmps43
  go_wp2_with (first
    | (go_at_call 76; (with_reducible refine (KE.out _).mono ?_); rintro e' w1 ⟨rfl, rfl⟩)
    | (go_at_call 77; (with_reducible refine (setPut_any 0 (w.heap.size + 1) a (by omega) ha64 _ S1.out).mono ?_); rintro e' w3 ⟨⟨v3, rfl⟩, hw3⟩; have A3 := Lib.hid (P0.out _ hw3); clear hw3))
  go_loopw [8, 9] (fun vf vg wr => ∃ (R X gx : Nat) (G : Bool), vf = setV gx ∧ vg = .bool G ∧ Hid (Lsw c a b R X w.heap.size gx G w wr)) (fun vf vg wr => leftL w.heap.size (boolOf vg) wr)
  case atStart => exact ⟨0, 0 ||| 2 ^ a, w.heap.size + 1, true, rfl, rfl, A3⟩
  case round =>
    obtain ⟨R, X, gx, G, rfl, rfl, HL⟩ := hrel
    cases G with
    | true =>
      have KG1 := Lib.hid (KG.out wr HL.out.bel R X w.heap.size gx HL.out.ls.r HL.out.ls.x HL.out.sr HL.out.sx (Nat.le_refl _) (fun k hk => (HL.out.ls.xs k hk).1))
      have HM := Lib.hid (leftL_at true HL.out.sr)
      go_wp2_with (go_at_call 78; (with_reducible refine (KG1.out).mono ?_); rintro e' w4 ⟨R', M, G', ys, g', rfl, hy, hg, hs, hm, hge, hne, hbl⟩; have HL2 : Hid (Lsw c a b R' M w.heap.size g' G' w w4) := Lib.hid ⟨HL.out.ls.next hy hg, hs, hm, hbl, Nat.le_refl _, fun h => hg.g.1 h⟩; have HM2 := Lib.hid (leftL_at G' hs); have HG2 := Lib.hid hg; clear hy hg hs hm hge hne hbl)
      go_roundw
      case rel => exact ⟨R', M, g', G', rfl, rfl, HL2⟩
      case measure =>
        have e1 := HM.out
        have e2 := HM2.out
        have r1 := HL.out.ls.r
        have r2 := HL2.out.ls.r
        simp only [boolOf]
        rw [e1, e2]
        cases G' with
        | true => have := HG2.out.more; simp only [if_true]; omega
        | false => simp only [if_true]; simp; omega
    | false =>
      have KH := Lib.hid (setHas_any R w.heap.size b HL.out.ls.r hb64 wr HL.out.sr r (by rw [HL.out.ls.done (HL.out.g rfl)]; exact HR.out))
      go_wp2_with (go_at_call 79; (with_reducible refine (KH.out).mono ?_); rintro e' w4 ⟨rfl, rfl⟩)
      go_ret
      exact ⟨rfl, HL.out.bel⟩
end Go.Proofs.YtgkiaeddlahngaaGreatDoor
namespace Go.Proofs.YtgkiaeddlahngaaGreatDoor
set_option linter.unusedVariables false
set_option linter.unusedSimpArgs false
open Go.RowKit Go.Maps
attribute [local go_sem ↓] fold_E fold_SE

set_option maxRecDepth 100000 in
set_option maxHeartbeats 4000000 in
theorem Whole_any (c : Cd) (q : Cv) (w : World) (hL : Lt c) (h : CAt c q w) (hT : TabT w) (a b : Int) (r : Bool) (hr : wholeW c a b = r) : Calls Tryz.prog 18 #[cdV c q, .int .i64 a, .int .i64 b] w fun e w' => SaysB w r e w' := by
  have S0 := Lib.hid (Lk.start h)
  unfold wholeW at hr
  cases hm : c.may with
  | true =>
    rw [hm, Bool.true_and] at hr
    have KL := Lib.hid (fun w0 h0 => plook_yes c q w0 hL h0 hm)
    cases hah : aheadP c a b with
    | true =>
      rw [hah, Bool.true_and] at hr
      obtain ⟨i0, i1, i2⟩ := aheadP_in hah
      obtain ⟨x, rfl⟩ : ∃ x : Nat, a = x := ⟨a.toNat, by omega⟩
      obtain ⟨y, rfl⟩ : ∃ y : Nat, b = y := ⟨b.toNat, by omega⟩
      simp only [Int.toNat_natCast] at hr
      have KA := Lib.hid (fun p w0 h0 => ahead_any c p w0 h0 (may_kind hm) x y true hah)
      have KD := Lib.hid (fun p w0 h0 (hT : TabT w0) => leads_any c p w0 h0 (Rx.of hm hL) (may_kind hm) hT x y (by omega) (by omega) r hr)
      have HT := Lib.hid hT
      clear h hm hL hah hr hT i0 i1 i2
      obtain ⟨u0, u1, u2, u3⟩ := S0.out.box.facts
      go_enter Tryz.func18, Tryz.ntmps18
      go_wp2_with (first
        | (go_at_call 35; (with_reducible refine (KL.out _ S0.out.at_).mono ?_); rintro e' w1 ⟨p, rfl, hv, hb1⟩; have V1 := Lib.hid hv; have L1 := Lib.hid (S0.out.below.trans (hb1.mono S0.out.below.size)); clear hv hb1 u0 u1 u2 u3)
        | (go_at_call 41; (with_reducible refine (KA.out p _ V1.out).mono ?_); rintro e' w2 ⟨rfl, hb2⟩; have V2 := Lib.hid (V1.out.on hb2); have L2 := Lib.hid (L1.out.trans (hb2.mono L1.out.size)); clear hb2)
        | (go_at_call 43; (with_reducible refine (KD.out p _ V2.out (HT.out.on L2.out)).mono ?_); rintro e' w3 ⟨rfl, hb3⟩; have L3 := Lib.hid (L2.out.trans (hb3.mono L2.out.size)); clear hb3))
      go_ret
      exact ⟨by simp, L3.out⟩
    | false =>
      rw [hah, Bool.false_and] at hr
      subst hr
      have KA := Lib.hid (fun p w0 h0 => ahead_any c p w0 h0 (may_kind hm) a b false hah)
      clear h hm hL hah hT
      obtain ⟨u0, u1, u2, u3⟩ := S0.out.box.facts
      go_enter Tryz.func18, Tryz.ntmps18
      go_wp2_with (first
        | (go_at_call 35; (with_reducible refine (KL.out _ S0.out.at_).mono ?_); rintro e' w1 ⟨p, rfl, hv, hb1⟩; have V1 := Lib.hid hv; have L1 := Lib.hid (S0.out.below.trans (hb1.mono S0.out.below.size)); clear hv hb1 u0 u1 u2 u3)
        | (go_at_call 41; (with_reducible refine (KA.out p _ V1.out).mono ?_); rintro e' w2 ⟨rfl, hb2⟩; have L2 := Lib.hid (L1.out.trans (hb2.mono L1.out.size)); clear hb2))
      go_ret
      exact ⟨rfl, L2.out⟩
  | false =>
    rw [hm, Bool.false_and] at hr
    subst hr
    have KL := Lib.hid (fun w0 h0 => plook_no c q w0 hL h0 hm)
    clear h hm hL hT
    obtain ⟨u0, u1, u2, u3⟩ := S0.out.box.facts
    go_enter Tryz.func18, Tryz.ntmps18
    go_wp2_with (first
      | (go_at_call 35; (with_reducible refine (KL.out _ S0.out.at_).mono ?_); rintro e' w1 ⟨g, rfl, hv, hb1⟩; have V1 := Lib.hid hv; have L1 := Lib.hid (S0.out.below.trans (hb1.mono S0.out.below.size)); clear hv hb1 u0 u1 u2 u3)
      | (go_at_call 41; (with_reducible refine (ahead_none g _ V1.out a b).mono ?_); rintro e' w2 ⟨rfl, hb2⟩; have L2 := Lib.hid (L1.out.trans (hb2.mono L1.out.size)); clear hb2))
    go_ret
    exact ⟨rfl, L2.out⟩
/-- what Full answers: from n on, k numbers, the last of memory's being last -/
def fullG (c : Cd) : Nat → Int → Nat → Bool
  | 0, _, _ => true
  | k + 1, last, n => if (aheadP c last n && decide (ruleL c last n = 0)) = true then false else fullG c k (if sideE (c.at n).1 ≠ 0 then (n : Int) else last) (n + 1)
def fullW (c : Cd) : Bool := c.may && fullG c c.N (-1) 0
set_option maxRecDepth 100000 in
set_option maxHeartbeats 4000000 in
theorem Full_any (c : Cd) (q : Cv) (w : World) (hL : Lt c) (h : CAt c q w) (r : Bool) (hr : fullW c = r) : Calls Tryz.prog 20 #[cdV c q] w fun e w' => SaysB w r e w' := by
  have S0 := Lib.hid (Lk.start h)
  unfold fullW at hr
  cases hm : c.may with
  | true =>
    rw [hm, Bool.true_and] at hr
    have HR := Lib.hid hr
    have HN60 := (Rx.of hm hL).n60
    have KL := Lib.hid (fun w0 h0 => plook_yes c q w0 hL h0 hm)
    have KA := Lib.hid (fun p w0 h0 a b => ahead_any c p w0 h0 (may_kind hm) a b)
    have KF := Lib.hid (fun p w0 h0 a b => first_any c p w0 h0 (Rx.of hm hL) (may_kind hm) a b)
    clear h hm hL hr
    obtain ⟨u0, u1, u2, u3⟩ := S0.out.box.facts
    go_enter Tryz.func20, Tryz.ntmps20
    go_upto_region 5 with (go_at_call 35; (with_reducible refine (KL.out _ S0.out.at_).mono ?_); rintro e' w1 ⟨p, rfl, hv, hb1⟩; have V1 := Lib.hid hv; have L1 := Lib.hid (S0.out.below.trans (hb1.mono S0.out.below.size)); obtain ⟨b0, b1, b2⟩ := hv.three; clear hv hb1 u0 u1 u2 u3)
    go_wp2
    clear b0 b1 b2
    go_loopw [5, 19] (fun vl vi wr => ∃ (last : Int) (n : Nat), vl = .int .i64 last ∧ vi = .int .i64 (n : Int) ∧ n ≤ c.N ∧ Hid (fullG c (c.N - n) last n = r) ∧ Hid (Vw c (finK c) p wr) ∧ Hid (Below w.heap.size w wr)) (fun _ vi _ => c.N - (intOf vi).toNat)
    case atStart => exact ⟨-1, 0, rfl, rfl, by omega, HR, V1, L1⟩
    case round =>
      obtain ⟨last, n, rfl, rfl, hn, HG, V2, L2⟩ := hrel
      by_cases hlt : n < c.N
      · have d1 : decide (n < c.N) = true := by simpa using hlt
        have d2 : IntKind.i64.wrap ((n : Int) + 1) = ((n + 1 : Nat) : Int) := by rw [IntWalk.i64_in _ (by omega)]; omega
        have HG2 : Hid ((if (aheadP c last n && decide (ruleL c last n = 0)) = true then false else fullG c (c.N - (n + 1)) (if sideE (c.at n).1 ≠ 0 then (n : Int) else last) (n + 1)) = r) := Lib.hid (by
          rw [← HG.out, show c.N - n = (c.N - (n + 1)) + 1 by omega]; rfl)
        obtain ⟨m, hmE⟩ : ∃ m, decide (sideE (c.at n).1 ≠ 0) = m := ⟨_, rfl⟩
        have KM := Lib.hid (fun w0 h0 => memory_v c (finK c) p w0 h0 n hlt (finK_side c n hlt) m hmE)
        have HME := Lib.hid hmE
        clear hmE
        cases hah : aheadP c last n with
        | false =>
          have KA1 := Lib.hid (KA.out p wr V2.out last n false hah)
          have HG3 : Hid (fullG c (c.N - (n + 1)) (if sideE (c.at n).1 ≠ 0 then (n : Int) else last) (n + 1) = r) := Lib.hid (by have := HG2.out; rw [hah] at this; simpa using this)
          clear hah
          cases m with
          | true =>
            have HG4 : Hid (fullG c (c.N - (n + 1)) (n : Int) (n + 1) = r) := Lib.hid (by have := HG3.out; rw [if_pos (by simpa using HME.out)] at this; exact this)
            go_wp2_with (first
              | (go_at_call 41; (with_reducible refine (KA1.out).mono ?_); rintro e' w3 ⟨rfl, hb3⟩; have V3 := Lib.hid (V2.out.on hb3); have L3 := Lib.hid (L2.out.trans (hb3.mono L2.out.size)); clear hb3)
              | (go_at_call 45; (with_reducible refine (KM.out _ V3.out).mono ?_); rintro e' w4 ⟨rfl, hb4⟩; have V4 := Lib.hid (V3.out.on hb4); have L4 := Lib.hid (L3.out.trans (hb4.mono L3.out.size)); clear hb4))
            go_roundw
            case rel => exact ⟨_, n + 1, rfl, by first | rfl | simp, by omega, HG4, V4, L4⟩
            case measure => simp [intOf]; omega
          | false =>
            have HG4 : Hid (fullG c (c.N - (n + 1)) last (n + 1) = r) := Lib.hid (by have := HG3.out; rw [if_neg (by simpa using HME.out)] at this; exact this)
            go_wp2_with (first
              | (go_at_call 41; (with_reducible refine (KA1.out).mono ?_); rintro e' w3 ⟨rfl, hb3⟩; have V3 := Lib.hid (V2.out.on hb3); have L3 := Lib.hid (L2.out.trans (hb3.mono L2.out.size)); clear hb3)
              | (go_at_call 45; (with_reducible refine (KM.out _ V3.out).mono ?_); rintro e' w4 ⟨rfl, hb4⟩; have V4 := Lib.hid (V3.out.on hb4); have L4 := Lib.hid (L3.out.trans (hb4.mono L3.out.size)); clear hb4))
            go_roundw
            case rel => exact ⟨_, n + 1, rfl, by first | rfl | simp, by omega, HG4, V4, L4⟩
            case measure => simp [intOf]; omega
        | true =>
          have KA1 := Lib.hid (KA.out p wr V2.out last n true hah)
          obtain ⟨x, hx⟩ : ∃ x, ruleL c last n = x := ⟨_, rfl⟩
          have KF1 := Lib.hid (fun w0 h0 => KF.out p w0 h0 last n)
          rw [hx] at KF1
          by_cases hx0 : x = 0
          · have HG3 : Hid (r = false) := Lib.hid (by have := HG2.out; rw [hah, hx, hx0] at this; simpa using this.symm)
            have d3 : ((x : Int) == 0) = true := by simp [hx0]
            clear hah hx hx0
            go_wp2_with (first
              | (go_at_call 41; (with_reducible refine (KA1.out).mono ?_); rintro e' w3 ⟨rfl, hb3⟩; have V3 := Lib.hid (V2.out.on hb3); have L3 := Lib.hid (L2.out.trans (hb3.mono L2.out.size)); clear hb3)
              | (go_at_call 37; (with_reducible refine (KF1.out _ V3.out).mono ?_); rintro e' w4 ⟨rfl, hb4⟩; have L4 := Lib.hid (L3.out.trans (hb4.mono L3.out.size)); clear hb4))
            go_ret
            exact ⟨by rw [HG3.out]; rfl, L4.out⟩
          · have HG3 : Hid (fullG c (c.N - (n + 1)) (if sideE (c.at n).1 ≠ 0 then (n : Int) else last) (n + 1) = r) := Lib.hid (by have := HG2.out; rw [hah, hx] at this; simpa [hx0] using this)
            have d3 : ((x : Int) == 0) = false := by simp; omega
            clear hah hx hx0
            cases m with
            | true =>
              have HG4 : Hid (fullG c (c.N - (n + 1)) (n : Int) (n + 1) = r) := Lib.hid (by have := HG3.out; rw [if_pos (by simpa using HME.out)] at this; exact this)
              go_wp2_with (first
                | (go_at_call 41; (with_reducible refine (KA1.out).mono ?_); rintro e' w3 ⟨rfl, hb3⟩; have V3 := Lib.hid (V2.out.on hb3); have L3 := Lib.hid (L2.out.trans (hb3.mono L2.out.size)); clear hb3)
                | (go_at_call 37; (with_reducible refine (KF1.out _ V3.out).mono ?_); rintro e' w4 ⟨rfl, hb4⟩; have V4 := Lib.hid (V3.out.on hb4); have L4 := Lib.hid (L3.out.trans (hb4.mono L3.out.size)); clear hb4)
                | (go_at_call 45; (with_reducible refine (KM.out _ V4.out).mono ?_); rintro e' w5 ⟨rfl, hb5⟩; have V5 := Lib.hid (V4.out.on hb5); have L5 := Lib.hid (L4.out.trans (hb5.mono L4.out.size)); clear hb5))
              go_roundw
              case rel => exact ⟨_, n + 1, rfl, by first | rfl | simp, by omega, HG4, V5, L5⟩
              case measure => simp [intOf]; omega
            | false =>
              have HG4 : Hid (fullG c (c.N - (n + 1)) last (n + 1) = r) := Lib.hid (by have := HG3.out; rw [if_neg (by simpa using HME.out)] at this; exact this)
              go_wp2_with (first
                | (go_at_call 41; (with_reducible refine (KA1.out).mono ?_); rintro e' w3 ⟨rfl, hb3⟩; have V3 := Lib.hid (V2.out.on hb3); have L3 := Lib.hid (L2.out.trans (hb3.mono L2.out.size)); clear hb3)
                | (go_at_call 37; (with_reducible refine (KF1.out _ V3.out).mono ?_); rintro e' w4 ⟨rfl, hb4⟩; have V4 := Lib.hid (V3.out.on hb4); have L4 := Lib.hid (L3.out.trans (hb4.mono L3.out.size)); clear hb4)
                | (go_at_call 45; (with_reducible refine (KM.out _ V4.out).mono ?_); rintro e' w5 ⟨rfl, hb5⟩; have V5 := Lib.hid (V4.out.on hb5); have L5 := Lib.hid (L4.out.trans (hb5.mono L4.out.size)); clear hb5))
              go_roundw
              case rel => exact ⟨_, n + 1, rfl, by first | rfl | simp, by omega, HG4, V5, L5⟩
              case measure => simp [intOf]; omega
      · have d1 : decide (n < c.N) = false := by simpa using hlt
        have HG3 : Hid (r = true) := Lib.hid (by have := HG.out; rw [show c.N - n = 0 by omega] at this; exact this.symm)
        go_wp2
        go_ret
        exact ⟨by rw [HG3.out]; rfl, L2.out⟩
  | false =>
    rw [hm, Bool.false_and] at hr
    subst hr
    have KL := Lib.hid (fun w0 h0 => plook_no c q w0 hL h0 hm)
    clear h hm hL
    obtain ⟨u0, u1, u2, u3⟩ := S0.out.box.facts
    go_enter Tryz.func20, Tryz.ntmps20
    go_wp2_with (go_at_call 35; (with_reducible refine (KL.out _ S0.out.at_).mono ?_); rintro e' w1 ⟨g, rfl, hv, hb1⟩; have V1 := Lib.hid hv; have L1 := Lib.hid (S0.out.below.trans (hb1.mono S0.out.below.size)); clear hv hb1 u0 u1 u2 u3)
    go_ret
    exact ⟨rfl, L1.out⟩
end Go.Proofs.YtgkiaeddlahngaaGreatDoor
