/-
  Proved here: ppo.Whole and ppo.Full of any light candidate, may it be or not. Condition: the table of zero bits as the library lays it. (With it: Proved here: ppo's leads: whether steps lead from one event to another behind it; nothing that was there is changed. Condition: a light candidate that may be. (With it: Proved here: one turn of a search by steps, the program's own. Condition: a light candidate that may be; two sets of one word that the caller made. (With it: Proved here: one turn of a search by steps: what is reached grows by what one step reaches from those that are fresh. Condition: a light candidate that may be; two sets of one word that the caller made.))) (With it: Proved here: the numbers of a set of one word are told by an iterator, each once at least. Condition: the loop's body keeps what lay below the set's owner; the table of zero bits as the library lays it.) (With it: Words: what is preserved, as pairs, rules, and whole: each told by the others. No condition.)
  (With it: Proved here: ppo.Pairs of any light candidate, may it be or not: the list of pairs, in a row of its own; nothing that was there is changed. No other condition.)
  (With it: Proved here: ppo's sets of one word: empty, put, has; math/bits.TrailingZeros64. Condition: numbers below 64; the table of zero bits as the library lays it. (With it: Words: a word as a set of numbers. No condition.))
  (With it: Words: what leads to what by preserved steps, as a relation and as a plain function. No condition.)
  (With it: Proved here: ppo's Holds tells of any ints whether that rule holds, of any light candidate; nothing that was there is changed. Condition: a light candidate.)
-/
import Derived.Test.YtcbfokbdiefdeaaGreatDoorPpAny
import Derived.WalkKit
import Derived.Lib.TrailingZeros
import Derived.Test.YtcbfokbdiefdeaaGreatDoorProg
import Derived.Laws.Tables
import Derived.Laws.Rows
import Derived.Laws.NewBlocks
import Derived.Lib.Hide
import Derived.OwnWalk
import Derived.Laws.MakeOwn
import Derived.Laws.Bits64b
import Derived.Laws.BitsAllLaws
import Derived.Shelf.Spec.TrailingZeros
import Derived.StillTailTactics
import Derived.Deep.QuietTactic
import Derived.BigQuiet
import Derived.IntWalk
import Derived.RangeFuncNested
import Derived.RangeFuncBound
import Derived.RangeFuncCalls
import Derived.RangeFuncLeaves
import Derived.Shelf.Abstract
import Derived.Shelf.RegionOpen
import Derived.OwnWalkIn
import Derived.TacticsInMore
import Derived.LoopNIn
import Derived.LoopIn
import Derived.RangeFuncWrites
namespace Go.Proofs.YtcbfokbdiefdeaaGreatDoor
set_option linter.unusedVariables false
set_option linter.unusedSimpArgs false
open Go.RowKit Go.Maps
attribute [local go_sem ↓] fold_E fold_SE

/-- the pairs of a with b on, k numbers -/
def pairsIn (c : Cd) (a : Nat) : Nat → Nat → List (Nat × Nat)
  | 0, _ => []
  | k + 1, b => if (c.at a).1.hart = (c.at b).1.hart then (if ruleL c a b ≠ 0 then [(a, b)] else []) ++ pairsIn c a k (b + 1) else []
/-- the pairs of n on, k numbers -/
def pairsOut (c : Cd) : Nat → Nat → List (Nat × Nat)
  | 0, _ => []
  | k + 1, n => pairsIn c n (c.N - (n + 1)) (n + 1) ++ pairsOut c k (n + 1)
def pairsW (c : Cd) : List (Nat × Nat) := if c.may then pairsOut c c.N 0 else []
theorem pairsIn_len (c : Cd) (a : Nat) : ∀ k b, (pairsIn c a k b).length ≤ k
  | 0, _ => by simp [pairsIn]
  | k + 1, b => by
    unfold pairsIn
    have := pairsIn_len c a k (b + 1)
    split
    · rw [List.length_append]; split <;> simp <;> omega
    · simp
theorem pairsOut_len (c : Cd) (hN : c.N ≤ 60) : ∀ k n, (pairsOut c k n).length ≤ k * 60
  | 0, _ => by simp [pairsOut]
  | k + 1, n => by
    unfold pairsOut
    have h1 := pairsIn_len c n (c.N - (n + 1)) (n + 1)
    have h2 := pairsOut_len c hN k (n + 1)
    rw [List.length_append]; omega
/-- the pairs' cells -/
def rowP2 (l : List (Nat × Nat)) : List Value := l.flatMap fun x => [.int .i64 (x.1 : Int), .int .i64 (x.2 : Int)]
theorem rowP2_more (l : List (Nat × Nat)) (a b : Nat) : rowP2 (l ++ [(a, b)]) = rowP2 l ++ [.int .i64 (a : Int), .int .i64 (b : Int)] := by simp [rowP2]
theorem infoPair : (Tryz.prog.info? 53).map (fun i => (i.zero, i.size, i.bytes)) = some (some (.agg #[.int .i64 0, .int .i64 0]), 2, 16) := by kernel_rfl
theorem append_pair {ops : Array Oper} {rest : List Oper} {o : Oper} {a : Act} {w : World} {Q : Exit → Act → World → Prop} (hgd : o.guard = none) (s x : Operand)
    (ho : o.op = .call { callee := .builtin .append, args := #[s, x], argTypes := #[51, 51] }) (base : Nat) (v : Value) (n : Nat) (xs : List Value) (hs : a.eval s = v) (hown : w.ownsRow base 53 2 v n xs)
    (y z : Int) (g : Nat) (hx : a.eval x = .slice (some ⟨g, 0, none⟩) 1 1) (hr : w.heap[g]? = some (.cells #[.int .i64 y, .int .i64 z] 53 (0, 0))) (hn : n ≤ 100000) (hbase : base ≤ w.heap.size)
    (h : ∀ v' w', w'.ownsRow base 53 2 v' (n + 1) (xs ++ [.int .i64 y, .int .i64 z]) → w.grownBy w' v.ownBlock → wpList Tryz.prog ops Q rest (a.put o.dst v') w') : wpList Tryz.prog ops Q (o :: rest) a w := by
  obtain ⟨i0, hi, hz0, hz1, hz2⟩ := info_parts infoPair
  refine wpList_append_own w hgd s x _ ho base 53 i0 (.agg #[.int .i64 0, .int .i64 0]) 2 16 Tryz.underlying51 hi hz0 hz1 hz2 (by kernel_rfl) (by decide) v n xs hs hown ⟨g, 0, none⟩ 1 1 [.int .i64 y, .int .i64 z] hx rfl ?_ ?_ (by unfold maxLen; omega) (by omega) hbase (fun v' w' h5 h6 _ => h v' w' h5 h6)
  · intro j u hu
    rw [Addr.add_lit, Nat.zero_add, cell_of_row w g j _ _ _ hr]
    simpa using hu
  · intro u hu
    simp only [List.mem_cons, List.not_mem_nil, or_false] at hu
    rcases hu with rfl | rfl <;> rfl
def PairsIs (c : Cd) (w : World) (e : Ending) (w' : World) : Prop := ∃ v n, e = .returned v ∧ (pairsW c).length = n ∧ (∃ base, w.heap.size ≤ base ∧ w'.ownsRow base 53 2 v n (rowP2 (pairsW c))) ∧ Below w.heap.size w w'
set_option maxRecDepth 100000 in
set_option maxHeartbeats 4000000 in
theorem Pairs_any (c : Cd) (q : Cv) (w : World) (hL : Lt c) (h : CAt c q w) : Calls Tryz.prog 61 #[cdV c q] w fun e w' => PairsIs c w e w' := by
  have S0 := Lib.hid (Lk.start h)
  cases hm : c.may with
  | true =>
    have HW : Hid (pairsOut c c.N 0 = pairsW c) := Lib.hid (by unfold pairsW; rw [hm]; rfl)
    obtain ⟨L, hLL⟩ : ∃ L, pairsW c = L := ⟨_, rfl⟩
    have HLL := Lib.hid hLL
    have HN60 := (Rx.of hm hL).n60
    have HLen : Hid (L.length ≤ 3600) := Lib.hid (by rw [← hLL, ← HW.out]; have := pairsOut_len c HN60 c.N 0; omega)
    rw [hLL] at HW
    clear hLL
    have KL := Lib.hid (fun w0 h0 => plook_yes c q w0 hL h0 hm)
    have KF := Lib.hid (fun p w0 h0 a b => first_any c p w0 h0 (Rx.of hm hL) (may_kind hm) a b)
    clear h hm hL
    obtain ⟨u0, u1, u2, u3⟩ := S0.out.box.facts
    go_enter Tryz.func61, Tryz.ntmps61
    go_upto_region 3 with (go_at_call 77; (with_reducible refine (KL.out _ S0.out.at_).mono ?_); rintro e' w1 ⟨p, rfl, hv, hb1⟩; have V1 := Lib.hid hv; have L1 := Lib.hid (S0.out.below.trans (hb1.mono S0.out.below.size)); obtain ⟨b0, b1, b2⟩ := hv.three; clear hv hb1 u0 u1 u2 u3)
    go_wp2
    clear b0 b1 b2
    go_loopw [5, 18] (fun vp vi wr => ∃ (n : Nat) (done : List (Nat × Nat)), vi = .int .i64 (n : Int) ∧ n ≤ c.N ∧ Hid (done ++ pairsOut c (c.N - n) n = L) ∧ Hid (wr.ownsRow w1.heap.size 53 2 vp done.length (rowP2 done)) ∧ Hid (Below w1.heap.size w1 wr)) (fun _ vi _ => c.N - (intOf vi).toNat)
    case atStart => exact ⟨0, [], rfl, by omega, Lib.hid (by rw [← HW.out]; rfl), Lib.hid (World.ownsRow_nil _ _ _ _), Lib.hid (Below.refl _ _)⟩
    case round =>
      obtain ⟨n, done, rfl, hn, HG, HO, HB⟩ := hrel
      by_cases hlt : n < c.N
      · have d1 : decide (n < c.N) = true := by simpa using hlt
        have d2 : IntKind.i64.wrap ((n : Int) + 1) = ((n + 1 : Nat) : Int) := by rw [IntWalk.i64_in _ (by omega)]; omega
        have HG2 : Hid (done ++ pairsIn c n (c.N - (n + 1)) (n + 1) ++ pairsOut c (c.N - (n + 1)) (n + 1) = L) := Lib.hid (by
          rw [← HG.out, show c.N - n = (c.N - (n + 1)) + 1 by omega, List.append_assoc]; rfl)
        go_wp2
        go_loopw [5, 7] (fun vp vb wq => ∃ (b : Nat) (dn : List (Nat × Nat)), vb = .int .i64 (b : Int) ∧ n < b ∧ b ≤ c.N ∧ Hid (dn ++ pairsIn c n (c.N - b) b ++ pairsOut c (c.N - (n + 1)) (n + 1) = L) ∧ Hid (wq.ownsRow w1.heap.size 53 2 vp dn.length (rowP2 dn)) ∧ Hid (Below w1.heap.size w1 wq)) (fun _ vb _ => c.N - (intOf vb).toNat)
        case atStart => exact ⟨n + 1, done, by first | rfl | simp, by omega, by omega, HG2, HO, HB⟩
        case round =>
          clear HG HO HB HG2
          obtain ⟨b, dn, rfl, hnb, hbN, HG, HO, HB⟩ := hrel
          have V2 := Lib.hid (V1.out.on HB.out)
          obtain ⟨b0, b1, b2⟩ := V2.out.three
          have hdl : dn.length ≤ 100000 := by
            have h1 := congrArg List.length HG.out
            rw [List.length_append, List.length_append] at h1
            have := HLen.out; omega
          by_cases hlb : b < c.N
          · have d4 : decide (b < c.N) = true := by simpa using hlb
            have d5 : IntKind.i64.wrap ((b : Int) + 1) = ((b + 1 : Nat) : Int) := by rw [IntWalk.i64_in _ (by omega)]; omega
            have HI : Hid (pairsIn c n (c.N - b) b = if (c.at n).1.hart = (c.at b).1.hart then (if ruleL c n b ≠ 0 then [(n, b)] else []) ++ pairsIn c n (c.N - (b + 1)) (b + 1) else []) := Lib.hid (by rw [show c.N - b = (c.N - (b + 1)) + 1 by omega]; rfl)
            by_cases hh : (c.at n).1.hart = (c.at b).1.hart
            · have KH := Lib.hid (oneHart_v c (finK c) p wr V2.out n b hlt hlb true (by simp [hh]))
              obtain ⟨x, hx⟩ : ∃ x, ruleL c n b = x := ⟨_, rfl⟩
              have KF1 := Lib.hid (fun w0 h0 => KF.out p w0 h0 n b)
              rw [hx] at KF1
              by_cases hx0 : x = 0
              · have d3 : ((x : Int) != 0) = false := by simp [hx0]
                have HG3 : Hid (dn ++ pairsIn c n (c.N - (b + 1)) (b + 1) ++ pairsOut c (c.N - (n + 1)) (n + 1) = L) := Lib.hid (by
                  rw [← HG.out, HI.out, if_pos hh, hx, if_neg (by simp [hx0])]; rfl)
                clear hh hx hx0
                go_wp2_with (first
                  | (go_at_call 78; (with_reducible refine (KH.out).mono ?_); rintro e' w2 ⟨rfl, hb2⟩; have V3 := Lib.hid (V2.out.on hb2); have O2 := Lib.hid (own_on HO.out hb2); have B2 := Lib.hid (HB.out.trans (hb2.mono HB.out.size)); obtain ⟨b0, b1, b2⟩ := V3.out.three; clear hb2)
                  | (go_at_call 79; (with_reducible refine (KF1.out _ V3.out).mono ?_); rintro e' w3 ⟨rfl, hb3⟩; have O3 := Lib.hid (own_on O2.out hb3); have B3 := Lib.hid (B2.out.trans (hb3.mono B2.out.size)); clear hb3))
                go_roundw
                case rel => exact ⟨b + 1, dn, by first | rfl | simp, by omega, by omega, HG3, O3, B3⟩
                case measure => simp [intOf]; omega
              · have d3 : ((x : Int) != 0) = true := by simp; omega
                have HG3 : Hid ((dn ++ [(n, b)]) ++ pairsIn c n (c.N - (b + 1)) (b + 1) ++ pairsOut c (c.N - (n + 1)) (n + 1) = L) := Lib.hid (by
                  rw [← HG.out, HI.out, if_pos hh, hx, if_pos hx0]; simp)
                clear hh hx hx0
                go_wp2_with (first
                  | (go_at_call 78; (with_reducible refine (KH.out).mono ?_); rintro e' w2 ⟨rfl, hb2⟩; have V3 := Lib.hid (V2.out.on hb2); have O2 := Lib.hid (own_on HO.out hb2); have B2 := Lib.hid (HB.out.trans (hb2.mono HB.out.size)); obtain ⟨b0, b1, b2⟩ := V3.out.three; clear hb2)
                  | (go_at_call 79; (with_reducible refine (KF1.out _ V3.out).mono ?_); rintro e' w3 ⟨rfl, hb3⟩; have O3 := Lib.hid (own_on O2.out hb3); have B3 := Lib.hid (B2.out.trans (hb3.mono B2.out.size)); clear hb3)
                  | (at_builtin; (refine append_pair rfl (.tmp 43) (.tmp 47) rfl w1.heap.size _ dn.length _ rfl (O3.out.alloc _) (n : Int) (b : Int) w3.heap.size rfl Array.getElem?_push_size hdl (by have := B3.out.size; simp; omega) ?_; intro v' w4 ho hg; have O4 := Lib.hid ho; have B4 := Lib.hid ((B3.out.alloc B3.out.size _).grown hg (by have := B3.out.size; simp; omega) (fun k hk => (O3.out.lt k hk).1)); clear ho hg)))
                go_roundw
                case rel => exact ⟨b + 1, dn ++ [(n, b)], by first | rfl | simp, by omega, by omega, HG3, Lib.hid (by rw [rowP2_more, List.length_append]; exact O4.out), B4⟩
                case measure => simp [intOf]; omega
            · have KH := Lib.hid (oneHart_v c (finK c) p wr V2.out n b hlt hlb false (by simp [hh]))
              have HG3 : Hid (dn ++ pairsOut c (c.N - (n + 1)) (n + 1) = L) := Lib.hid (by rw [← HG.out, HI.out, if_neg hh]; simp)
              clear hh
              go_wp2_with (go_at_call 78; (with_reducible refine (KH.out).mono ?_); rintro e' w2 ⟨rfl, hb2⟩; have V3 := Lib.hid (V2.out.on hb2); have O2 := Lib.hid (own_on HO.out hb2); have B2 := Lib.hid (HB.out.trans (hb2.mono HB.out.size)); obtain ⟨b0, b1, b2⟩ := V3.out.three; clear hb2)
              go_roundw
              case rel => exact ⟨n + 1, dn, by first | rfl | simp, by omega, HG3, O2, B2⟩
              case measure => simp [intOf]; omega
          · have d4 : decide (b < c.N) = false := by simpa using hlb
            have HG3 : Hid (dn ++ pairsOut c (c.N - (n + 1)) (n + 1) = L) := Lib.hid (by rw [← HG.out, show c.N - b = 0 by omega]; simp [pairsIn])
            go_wp2
            go_roundw
            case rel => exact ⟨n + 1, dn, by first | rfl | simp, by omega, HG3, HO, HB⟩
            case measure => simp [intOf]; omega
      · have d1 : decide (n < c.N) = false := by simpa using hlt
        have HD : Hid (done = L) := Lib.hid (by have := HG.out; rw [show c.N - n = 0 by omega] at this; simpa [pairsOut] using this)
        go_wp2
        go_ret
        refine ⟨_, _, rfl, rfl, ⟨_, L1.out.size, ?_⟩, L1.out.trans (HB.out.mono L1.out.size)⟩
        rw [HLL.out, ← HD.out]; exact HO.out
  | false =>
    have HW : Hid (pairsW c = []) := Lib.hid (by unfold pairsW; rw [hm]; rfl)
    have KL := Lib.hid (fun w0 h0 => plook_no c q w0 hL h0 hm)
    clear h hm hL
    obtain ⟨u0, u1, u2, u3⟩ := S0.out.box.facts
    go_enter Tryz.func61, Tryz.ntmps61
    go_upto_region 3 with (go_at_call 77; (with_reducible refine (KL.out _ S0.out.at_).mono ?_); rintro e' w1 ⟨g, rfl, hv, hb1⟩; have V1 := Lib.hid hv; have L1 := Lib.hid (S0.out.below.trans (hb1.mono S0.out.below.size)); have b0 := hv.all; clear hv hb1 u0 u1 u2 u3)
    go_wp2
    go_loopw [5, 18] (fun vp vi wr => vp = .slice none 0 0 ∧ vi = .int .i64 0 ∧ Hid (Below w.heap.size w wr)) (fun _ vi _ => 0)
    case atStart => exact ⟨rfl, rfl, L1⟩
    case round =>
      obtain ⟨rfl, rfl, HB⟩ := hrel
      go_wp2
      go_ret
      refine ⟨_, _, rfl, rfl, ⟨_, Nat.le_refl _, ?_⟩, HB.out⟩
      rw [HW.out]; exact World.ownsRow_nil _ _ _ _
end Go.Proofs.YtcbfokbdiefdeaaGreatDoor
namespace Go.Proofs.YtcbfokbdiefdeaaGreatDoor
set_option linter.unusedVariables false
set_option linter.unusedSimpArgs false
open Go.RowKit

/-! ### words as sets -/
theorem bit_div (x n : Nat) : decide (x / 2 ^ n % 2 = 1) = x.testBit n := (Nat.testBit_eq_decide_div_mod_eq).symm
theorem bit_put (x n m : Nat) : (x ||| 2 ^ n).testBit m = (x.testBit m || decide (n = m)) := by rw [Nat.testBit_or, Nat.testBit_two_pow]
theorem low_parts (x : Nat) (h0 : x ≠ 0) (h : x < 2 ^ 64) : ∃ t, x = 2 ^ Lib.ctz 64 x * (2 * t + 1) ∧ Lib.ctz 64 x < 64 := by
  obtain ⟨m, hm, hk⟩ := Lib.ctzFrom_spec 64 x (by omega) h
  have e : Lib.ctz 64 x = Lib.ctzFrom 64 x := by simp [Lib.ctz, h0]
  rw [e]; exact ⟨m, hm, hk⟩
theorem low_set (x : Nat) (h0 : x ≠ 0) (h : x < 2 ^ 64) : x.testBit (Lib.ctz 64 x) = true ∧ ∀ m, m < Lib.ctz 64 x → x.testBit m = false := by
  obtain ⟨t, ht, hk⟩ := low_parts x h0 h
  obtain ⟨k, hk2⟩ : ∃ k, Lib.ctz 64 x = k := ⟨_, rfl⟩
  rw [hk2] at ht ⊢
  refine ⟨?_, fun m hm => ?_⟩
  · rw [ht, Nat.testBit_two_pow_mul]; simp
  · rw [ht, Nat.testBit_two_pow_mul]; simp; omega
theorem clear_low (x : Nat) (h0 : x ≠ 0) (h : x < 2 ^ 64) (m : Nat) : (x &&& (x - 1)).testBit m = (x.testBit m && decide (m ≠ Lib.ctz 64 x)) := by
  obtain ⟨t, ht, hk⟩ := low_parts x h0 h
  obtain ⟨k, hk2⟩ : ∃ k, Lib.ctz 64 x = k := ⟨_, rfl⟩
  rw [hk2] at ht ⊢
  have hp : 0 < 2 ^ k := Nat.two_pow_pos k
  have h1 : x - 1 = 2 ^ k * (2 * t) + (2 ^ k - 1) := by
    rw [ht, Nat.mul_add, Nat.mul_one]; omega
  rw [Nat.testBit_and, h1, Nat.testBit_two_pow_mul_add _ (by omega)]
  rw [ht, Nat.testBit_two_pow_mul]
  by_cases hm : m < k
  · simp [show ¬ k ≤ m by omega]
  · rw [if_neg hm]
    rcases Nat.lt_or_ge k m with h2 | h2
    · obtain ⟨j, rfl⟩ : ∃ j, m = k + (j + 1) := ⟨m - k - 1, by omega⟩
      rw [show k + (j + 1) - k = j + 1 by omega, Nat.testBit_succ, Nat.testBit_succ]
      rw [show (2 * t + 1) / 2 = t by omega, show 2 * t / 2 = t by omega]
      simp
    · obtain rfl : m = k := by omega
      simp
theorem clear_lt (x : Nat) (h0 : x ≠ 0) : x &&& (x - 1) < x := by
  have := Nat.and_le_right (n := x) (m := x - 1)
  omega
end Go.Proofs.YtcbfokbdiefdeaaGreatDoor
namespace Go.Proofs.YtcbfokbdiefdeaaGreatDoor
set_option linter.unusedVariables false
set_option linter.unusedSimpArgs false
open Go.RowKit

/-- a set of one word in block g -/
def SetAt (x g : Nat) (w : World) : Prop := w.heap[g]? = some (.cells #[.int .u64 (x : Int)] 28 (0, 0))
theorem SetAt.lt {x g : Nat} {w : World} (h : SetAt x g w) : g < w.heap.size := (Array.getElem?_eq_some_iff.1 h).1
theorem SetAt.on {x g : Nat} {w w' : World} (h : SetAt x g w) (hb : Below w.heap.size w w') : SetAt x g w' := (hb.block g h.lt).trans h
theorem SetAt.cell {x g : Nat} {w : World} (h : SetAt x g w) : w.cell? ⟨g, 0, none⟩ = some (.int .u64 (x : Int)) := by rw [cell_of_row w g 0 _ _ _ h]; rfl
theorem SetAt.free {x g : Nat} {w : World} (h : SetAt x g w) : w.frozen? ⟨g, 0, none⟩ = false := frozen_of_row w g 0 _ _ h
theorem cells_set (w : World) (n k : Nat) (v : Value) (cs : Array Value) (T : TypeId) (fr : Nat × Nat) (h : w.heap[n]? = some (.cells cs T fr)) : (w.setCell ⟨n, k, none⟩ v).heap[n]? = some (.cells (cs.setIfInBounds k v) T fr) := by
  have hl : n < w.heap.size := (Array.getElem?_eq_some_iff.1 h).1
  unfold World.setCell
  simp only [Array.getElem?_modify, if_true, h, Option.map_some]
  simp
theorem SetAt.put {x y g : Nat} {w : World} (h : SetAt x g w) : SetAt y g (w.setCell ⟨g, 0, none⟩ (.int .u64 (y : Int))) := by
  have := cells_set w g 0 (.int .u64 (y : Int)) _ _ _ h
  unfold SetAt; rw [this]; simp
abbrev setV (g : Nat) : Value := .slice (some ⟨g, 0, none⟩) 1 1
def EmptyIs (w : World) (e : Ending) (w' : World) : Prop := e = .returned (setV w.heap.size) ∧ w.alloc (.cells #[.int .u64 0] 28) = w'
theorem div64 (n : Nat) (hn : n < 64) : ((n : Int)) / 64 = 0 := by omega
theorem has_bit (x n : Nat) (hx : x < 18446744073709551616) : (bits .and .u64 ((x : Int) / ((2 ^ n : Nat) : Int)) 1 != 0) = x.testBit n := by
  have h1 : ((x : Int) / ((2 ^ n : Nat) : Int)) = ((x / 2 ^ n : Nat) : Int) := by simp
  have hlt : x / 2 ^ n < 18446744073709551616 := Nat.lt_of_le_of_lt (Nat.div_le_self _ _) hx
  have h2 := bits_and_u64_nat (x / 2 ^ n) 1 hlt (by omega)
  rw [h1]
  rw [show ((1 : Nat) : Int) = 1 from rfl] at h2
  rw [h2, Nat.and_one_is_mod, ← bit_div x n]
  have : x / 2 ^ n % 2 < 2 := Nat.mod_lt _ (by omega)
  rcases (show x / 2 ^ n % 2 = 0 ∨ x / 2 ^ n % 2 = 1 by omega) with h | h <;> rw [h] <;> rfl
def BoolSame (b : Bool) (w : World) (e : Ending) (w' : World) : Prop := e = .returned (.bool b) ∧ w = w'
theorem put_bit (x n : Nat) (hx : x < 18446744073709551616) (hn : n < 64) : bits .or .u64 (x : Int) (((2 ^ n : Nat) : Int)) = ((x ||| 2 ^ n : Nat) : Int) ∧ (x ||| 2 ^ n) < 18446744073709551616 := by
  have hp : 2 ^ n < 18446744073709551616 := Nat.lt_of_lt_of_le (Nat.pow_lt_pow_right (by omega) hn) (by decide)
  exact ⟨bits_or_u64_nat x (2 ^ n) hx hp, Nat.or_lt_two_pow (n := 64) hx hp⟩
theorem shl_one (n : Nat) (hn : n < 64) : IntKind.u64.wrap (((2 ^ n : Nat) : Int)) = ((2 ^ n : Nat) : Int) := by
  have hp : 2 ^ n < 18446744073709551616 := Nat.lt_of_lt_of_le (Nat.pow_lt_pow_right (by omega) hn) (by decide)
  obtain ⟨k, hk⟩ : ∃ k, 2 ^ n = k := ⟨_, rfl⟩
  rw [hk] at hp ⊢
  rw [IntKind.wrap_u64]; omega
def PutIs (x g n : Nat) (w : World) (e : Ending) (w' : World) : Prop := (∃ v, e = .returned v) ∧ (w.setCell ⟨g, 0, none⟩ (.int .u64 ((x ||| 2 ^ n : Nat) : Int))).drew = w'
attribute [local irreducible] wpStill in
theorem gZ : Tryz.prog.globalNamed "math/bits.deBruijn64tab" = some 2 := by kernel_rfl
/-- the table of zero bits as the library lays it -/
def TabT (w : World) : Prop := TabAt 2 Lib.deBruijn64tab w
set_option maxHeartbeats 2000000 in
theorem trail_any (x : Nat) (hx : x < 18446744073709551616) (hx0 : x ≠ 0) (w : World) (hT : TabT w) : Calls Tryz.prog 146 #[.int .u64 (x : Int)] w fun e w' => e = .returned (.int .i64 (Lib.ctz 64 x : Nat)) ∧ w = w' := by
  obtain ⟨hlow, hk⟩ := Lib.lowest_bit 64 x hx0 hx
  obtain ⟨hi, htab⟩ := Lib.deBruijn64_at _ hk
  have hcell := hT _ hi
  rw [htab] at hcell
  have key := tz64_key x _ hx hx0 hlow
  have h0 : ((x : Int) == 0) = false := by simp; omega
  obtain ⟨k, hk2⟩ : ∃ k, Hid (Lib.ctz 64 x = k) := ⟨_, Lib.hid rfl⟩
  rw [hk2.out] at hcell hk key hi htab hlow ⊢
  obtain ⟨idx, hidx⟩ : ∃ idx, Hid (2 ^ k * 285870213051353865 % 18446744073709551616 / 288230376151711744 = idx) := ⟨_, Lib.hid rfl⟩
  rw [hidx.out] at hcell key hi
  have hi64 : idx < 64 := hi
  clear hT hlow htab hi hx0 hx
  go_enter Tryz.func146, Tryz.ntmps146
  go_wp2_with (simp only [key])
  go_ret
  exact ⟨rfl, rfl⟩
end Go.Proofs.YtcbfokbdiefdeaaGreatDoor
namespace Go.Proofs.YtcbfokbdiefdeaaGreatDoor
set_option linter.unusedVariables false
set_option linter.unusedSimpArgs false
open Go.RowKit

/-- one step -/
def edge (c : Cd) (x y : Nat) : Bool := decide (ruleL c x y ≠ 0)
theorem edge_in {c : Cd} {x y : Nat} (h : edge c x y = true) : x < y ∧ y < c.N := by
  unfold edge at h
  have h1 : ruleL c x y ≠ 0 := by simpa using h
  cases ha : aheadP c x y with
  | false => exfalso; apply h1; unfold ruleL; rw [ha]; rfl
  | true => have := aheadP_in ha; omega
/-- by steps, one or more -/
inductive Reach (c : Cd) (a : Nat) : Nat → Prop
  | one {y : Nat} (h : edge c a y = true) : Reach c a y
  | more {x y : Nat} (h : Reach c a x) (h2 : edge c x y = true) : Reach c a y
theorem Reach.lt {c : Cd} {a y : Nat} (h : Reach c a y) : a < y ∧ y < c.N := by
  induction h with
  | one h => exact edge_in h
  | more h h2 ih => have := edge_in h2; omega
theorem Reach.trans {c : Cd} {a x y : Nat} (h : Reach c a x) (h2 : Reach c x y) : Reach c a y := by
  induction h2 with
  | one h3 => exact .more h h3
  | more _ h4 ih => exact .more ih h4
/-- what of the numbers below n is reached from a -/
def rch (c : Cd) (a : Nat) : Nat → Nat → Bool
  | 0, _ => false
  | n + 1, x => if x = n then (List.range n).any (fun m => (decide (m = a) || rch c a n m) && edge c m n) else rch c a n x
theorem rch_iff (c : Cd) (a : Nat) : ∀ (n x : Nat), x < n → (rch c a n x = true ↔ Reach c a x)
  | 0, x, h => by omega
  | n + 1, x, h => by
    show (if x = n then (List.range n).any (fun m => (decide (m = a) || rch c a n m) && edge c m n) else rch c a n x) = true ↔ _
    by_cases hx : x = n
    · subst hx
      rw [if_pos rfl, List.any_eq_true]
      constructor
      · rintro ⟨m, hm, h2⟩
        rw [List.mem_range] at hm
        simp only [Bool.and_eq_true, Bool.or_eq_true, decide_eq_true_eq] at h2
        obtain ⟨h3, h4⟩ := h2
        rcases h3 with rfl | h3
        · exact .one h4
        · exact .more ((rch_iff c a x m hm).1 h3) h4
      · intro hr
        cases hr with
        | one h3 => exact ⟨a, List.mem_range.2 (edge_in h3).1, by simp [h3]⟩
        | more h3 h4 =>
          rename_i m
          have hm := (edge_in h4).1
          exact ⟨m, List.mem_range.2 hm, by simp [(rch_iff c a x m hm).2 h3, h4]⟩
    · rw [if_neg hx]
      exact rch_iff c a n x (by omega)
def reachB (c : Cd) (a b : Nat) : Bool := rch c a (b + 1) b
theorem reachB_iff (c : Cd) (a b : Nat) : reachB c a b = true ↔ Reach c a b := rch_iff c a (b + 1) b (Nat.lt_succ_self _)
/-- what Whole answers -/
def wholeW (c : Cd) (a b : Int) : Bool := c.may && (aheadP c a b && reachB c a.toNat b.toNat)
end Go.Proofs.YtcbfokbdiefdeaaGreatDoor
namespace Go.Proofs.YtcbfokbdiefdeaaGreatDoor
set_option linter.unusedVariables false
set_option linter.unusedSimpArgs false
open Go.RowKit Go.Maps
/-- the store of the whole list of rules: folded -/
def StoreR (x y : Value) : Sem Unit := Instr.storeAt 129 x y
theorem fold_SR (x y : Value) : Instr.storeAt 129 x y = StoreR x y := rfl
attribute [local go_sem ↓] fold_E fold_SE fold_SR
theorem store_tab (w : World) : ∃ W3, (StoreR (.pointer (some ⟨w.heap.size, 0, none⟩)) tabV).run Tryz.prog (w.alloc (.cells #[.nilFunc, .nilFunc, .nilFunc, .nilFunc, .nilFunc, .nilFunc, .nilFunc, .nilFunc, .nilFunc, .nilFunc, .nilFunc, .nilFunc, .nilFunc] 129)) = .ok () W3 ∧ W3.heap[w.heap.size]? = some (.cells tabR 129 (0, 0)) ∧ Below w.heap.size w W3 := by
  have hn : (w.alloc (.cells #[.nilFunc, .nilFunc, .nilFunc, .nilFunc, .nilFunc, .nilFunc, .nilFunc, .nilFunc, .nilFunc, .nilFunc, .nilFunc, .nilFunc, .nilFunc] 129)).heap[w.heap.size]? = some (.cells #[.nilFunc, .nilFunc, .nilFunc, .nilFunc, .nilFunc, .nilFunc, .nilFunc, .nilFunc, .nilFunc, .nilFunc, .nilFunc, .nilFunc, .nilFunc] 129 (0, 0)) := Array.getElem?_push_size
  refine ⟨(w.alloc (.cells #[.nilFunc, .nilFunc, .nilFunc, .nilFunc, .nilFunc, .nilFunc, .nilFunc, .nilFunc, .nilFunc, .nilFunc, .nilFunc, .nilFunc, .nilFunc] 129)).setRow w.heap.size tabR, ?_, setRow_heap _ _ _ _ _ _ hn, ?_⟩
  · unfold StoreR Instr.storeAt Instr.sureAddr tabV
    simp only [Sem.run_bind, Sem.run_pure, Result.andThen_ok]
    exact run_storeVar_row _ w.heap.size _ _ _ _ hn (by as_aux_lemma => kernel_rfl) rfl (by simp [tabR, Value.oneCell'])
  · exact (box_below w _).trans below_setRow

/-- what Holds answers -/
def holdsW (c : Cd) (a b rule : Int) : Bool := c.may && (decide (1 ≤ rule) && (decide (rule ≤ 13) && (aheadP c a b && ruleB c a.toNat b.toNat (rule.toNat - 1))))
end Go.Proofs.YtcbfokbdiefdeaaGreatDoor
namespace Go.Proofs.YtcbfokbdiefdeaaGreatDoor
set_option linter.unusedVariables false
set_option linter.unusedSimpArgs false
open Go.RowKit Go.Maps

theorem hart_mono {c : Cd} (hm : c.may = true) {n m : Nat} (hnm : n ≤ m) (hM : m < c.N) : (c.at n).1.hart ≤ (c.at m).1.hart := by
  obtain ⟨h, j, hh, hj, en, _, eh, _⟩ := may_num hm n (by omega)
  obtain ⟨h', j', hh', hj', em, _, eh', _⟩ := may_num hm m hM
  rw [eh, eh']
  rcases Nat.lt_or_ge h' h with hlt | hge
  · exfalso
    have := baseL_mono c.len (h' + 1) h hlt
    have e : baseL c.len (h' + 1) = baseL c.len h' + c.len h' := rfl
    omega
  · omega
theorem hart_between {c : Cd} (hm : c.may = true) {n k m : Nat} (h1 : n ≤ k) (h2 : k ≤ m) (hM : m < c.N) (he : (c.at n).1.hart = (c.at m).1.hart) : (c.at n).1.hart = (c.at k).1.hart := by
  have a1 := hart_mono hm h1 (by omega)
  have a2 := hart_mono hm h2 hM
  omega
theorem mem_pairsIn (c : Cd) (a x y : Nat) : ∀ k b, (x, y) ∈ pairsIn c a k b ↔ x = a ∧ b ≤ y ∧ y < b + k ∧ (∀ z, b ≤ z → z ≤ y → (c.at a).1.hart = (c.at z).1.hart) ∧ ruleL c a y ≠ 0
  | 0, b => by
    simp only [pairsIn, List.not_mem_nil, false_iff]
    rintro ⟨_, h1, h2, _⟩; omega
  | k + 1, b => by
    unfold pairsIn
    by_cases hh : (c.at a).1.hart = (c.at b).1.hart
    · rw [if_pos hh, List.mem_append, mem_pairsIn c a x y k (b + 1)]
      constructor
      · rintro (h | ⟨h1, h2, h3, h4, h5⟩)
        · split at h
          · rename_i hr
            rw [List.mem_singleton] at h
            injection h with e1 e2
            subst e1 e2
            exact ⟨rfl, Nat.le_refl _, by omega, fun z hz1 hz2 => by obtain rfl : z = y := by omega
                                                                     exact hh, hr⟩
          · simp at h
        · refine ⟨h1, by omega, by omega, fun z hz1 hz2 => ?_, h5⟩
          by_cases hz : z = b
          · subst hz; exact hh
          · exact h4 z (by omega) hz2
      · rintro ⟨rfl, h2, h3, h4, h5⟩
        by_cases hy : y = b
        · subst hy
          left
          rw [if_pos h5]; simp
        · right
          exact ⟨rfl, by omega, by omega, fun z hz1 hz2 => h4 z (by omega) hz2, h5⟩
    · rw [if_neg hh]
      simp only [List.not_mem_nil, false_iff]
      rintro ⟨_, h2, _, h4, _⟩
      exact hh (h4 b (Nat.le_refl _) h2)
theorem mem_pairsOut (c : Cd) (x y : Nat) : ∀ k n, (x, y) ∈ pairsOut c k n ↔ n ≤ x ∧ x < n + k ∧ (x, y) ∈ pairsIn c x (c.N - (x + 1)) (x + 1)
  | 0, n => by
    simp only [pairsOut, List.not_mem_nil, false_iff]
    rintro ⟨h1, h2, _⟩; omega
  | k + 1, n => by
    unfold pairsOut
    rw [List.mem_append, mem_pairsOut c x y k (n + 1)]
    constructor
    · rintro (h | ⟨h1, h2, h3⟩)
      · obtain rfl := ((mem_pairsIn c n x y _ _).1 h).1
        exact ⟨Nat.le_refl _, by omega, h⟩
      · exact ⟨by omega, by omega, h3⟩
    · rintro ⟨h1, h2, h3⟩
      by_cases hx : x = n
      · subst hx; exact .inl h3
      · exact .inr ⟨by omega, by omega, h3⟩
theorem rule_ahead {c : Cd} {a b : Int} (h : ruleL c a b ≠ 0) : aheadP c a b = true := by
  cases ha : aheadP c a b with
  | true => rfl
  | false => exfalso; apply h; unfold ruleL; rw [ha]; rfl
theorem aheadP_hart {c : Cd} {a b : Nat} (h : aheadP c a b = true) : (c.at a).1.hart = (c.at b).1.hart ∧ memE (c.at a).1 = true ∧ memE (c.at b).1 = true := by
  unfold aheadP at h
  simp only [Bool.and_eq_true, decide_eq_true_eq, Int.toNat_natCast] at h
  exact ⟨h.2.2.2.1, h.2.2.2.2.1, h.2.2.2.2.2⟩
theorem mem_pairsW {c : Cd} (hm : c.may = true) (x y : Nat) : (x, y) ∈ pairsW c ↔ ruleL c x y ≠ 0 := by
  unfold pairsW
  rw [hm, if_pos rfl, mem_pairsOut, mem_pairsIn]
  constructor
  · rintro ⟨_, _, _, _, _, _, h⟩; exact h
  · intro h
    have ha := rule_ahead h
    have hin := aheadP_in ha
    have hh := (aheadP_hart ha).1
    exact ⟨by omega, by omega, rfl, by omega, by omega, fun z h1 h2 => hart_between hm (by omega) h2 (by omega) hh, h⟩
/-- one pair ahead of another -/
def ltP (p q : Nat × Nat) : Prop := p.1 < q.1 ∨ (p.1 = q.1 ∧ p.2 < q.2)
theorem pairsIn_sorted (c : Cd) (a : Nat) : ∀ k b, (pairsIn c a k b).Pairwise ltP
  | 0, b => by simp [pairsIn]
  | k + 1, b => by
    unfold pairsIn
    split
    · rw [List.pairwise_append]
      refine ⟨by split <;> simp, pairsIn_sorted c a k (b + 1), ?_⟩
      intro p hp q hq
      split at hp
      · rw [List.mem_singleton] at hp
        subst hp
        have := (mem_pairsIn c a q.1 q.2 k (b + 1)).1 hq
        exact .inr ⟨this.1.symm, by show b < q.2; omega⟩
      · simp at hp
    · simp
theorem pairsOut_sorted (c : Cd) : ∀ k n, (pairsOut c k n).Pairwise ltP
  | 0, n => by simp [pairsOut]
  | k + 1, n => by
    unfold pairsOut
    rw [List.pairwise_append]
    refine ⟨pairsIn_sorted c n _ _, pairsOut_sorted c k (n + 1), ?_⟩
    intro p hp q hq
    have h1 := ((mem_pairsIn c n p.1 p.2 _ _).1 hp).1
    have h2 := ((mem_pairsOut c q.1 q.2 k (n + 1)).1 hq).1
    exact .inl (by omega)
theorem pairsW_sorted (c : Cd) : (pairsW c).Pairwise ltP := by
  unfold pairsW
  split
  · exact pairsOut_sorted c _ _
  · simp
theorem ruleL_le (c : Cd) (a b : Int) : ruleL c a b ≤ 13 := by
  unfold ruleL
  split
  · exact firstFrom_le _ 13 0
  · omega
theorem firstFrom_at (f : Nat → Bool) : ∀ (k r m : Nat), firstFrom f r k = m + 1 → f m = true ∧ r ≤ m ∧ ∀ j, r ≤ j → j < m → f j = false
  | 0, r, m, h => by simp [firstFrom] at h
  | k + 1, r, m, h => by
    unfold firstFrom at h
    split at h
    · rename_i hf
      obtain rfl : r = m := by omega
      exact ⟨hf, Nat.le_refl _, fun j h1 h2 => by omega⟩
    · rename_i hf
      obtain ⟨h1, h2, h3⟩ := firstFrom_at f k (r + 1) m h
      refine ⟨h1, by omega, fun j hj1 hj2 => ?_⟩
      by_cases hj : j = r
      · subst hj; simpa using hf
      · exact h3 j (by omega) hj2
theorem holdsW_yes {c : Cd} {a b : Nat} {k : Nat} (h : holdsW c a b k = true) : ruleL c a b ≠ 0 ∧ ruleL c a b ≤ k := by
  unfold holdsW at h
  simp only [Bool.and_eq_true, decide_eq_true_eq, Int.toNat_natCast] at h
  obtain ⟨hm, h1, h2, ha, hb⟩ := h
  unfold ruleL
  rw [ha, if_pos rfl, Int.toNat_natCast, Int.toNat_natCast]
  unfold firstL
  cases hf : firstFrom (ruleB c a b) 0 13 with
  | zero => rw [(firstFrom_zero _ _ _).1 hf (k - 1) (Nat.zero_le _) (by omega)] at hb; cases hb
  | succ m =>
    refine ⟨by omega, ?_⟩
    obtain ⟨g1, g2, g3⟩ := firstFrom_at _ _ _ _ hf
    rcases Nat.lt_or_ge (k - 1) m with h5 | h5
    · rw [g3 (k - 1) (Nat.zero_le _) h5] at hb; cases hb
    · omega
theorem holdsW_rule {c : Cd} (hm : c.may = true) {a b : Nat} (h : ruleL c a b ≠ 0) : holdsW c a b (ruleL c a b : Nat) = true := by
  have ha := rule_ahead h
  have hle := ruleL_le c a b
  have e : ruleL c a b = firstFrom (ruleB c a b) 0 13 := by unfold ruleL; rw [ha, if_pos rfl, Int.toNat_natCast, Int.toNat_natCast]; rfl
  cases hf : firstFrom (ruleB c a b) 0 13 with
  | zero => rw [hf] at e; exact absurd e h
  | succ m =>
    obtain ⟨g1, g2, g3⟩ := firstFrom_at _ _ _ _ hf
    rw [hf] at e
    unfold holdsW
    rw [hm, ha, e]
    simp only [Bool.true_and, Bool.and_eq_true, decide_eq_true_eq, Int.toNat_natCast]
    rw [e] at hle
    exact ⟨by omega, by omega, by simpa using g1⟩
theorem whole_pair {c : Cd} (hm : c.may = true) {a b : Nat} (h : ruleL c a b ≠ 0) : wholeW c a b = true := by
  unfold wholeW
  rw [hm, rule_ahead h, Int.toNat_natCast, Int.toNat_natCast, (reachB_iff c a b).2 (.one (by unfold edge; simpa using h))]; rfl
theorem whole_pairs {c : Cd} (hm : c.may = true) {a b d : Nat} (h1 : ruleL c a b ≠ 0) (h2 : ruleL c b d ≠ 0) : wholeW c a d = true := by
  have a1 := rule_ahead h1
  have a2 := rule_ahead h2
  have i1 := aheadP_in a1
  have i2 := aheadP_in a2
  obtain ⟨b1, b2, b3⟩ := aheadP_hart a1
  obtain ⟨d1, d2, d3⟩ := aheadP_hart a2
  have ha : aheadP c a d = true := by
    unfold aheadP
    simp only [Bool.and_eq_true, decide_eq_true_eq, Int.toNat_natCast]
    exact ⟨by omega, by omega, by omega, by rw [b1, d1], b2, d3⟩
  unfold wholeW
  rw [hm, ha, Int.toNat_natCast, Int.toNat_natCast, (reachB_iff c a d).2 (.more (.one (by unfold edge; simpa using h1)) (by unfold edge; simpa using h2))]; rfl
end Go.Proofs.YtcbfokbdiefdeaaGreatDoor
namespace Go.Proofs.YtcbfokbdiefdeaaGreatDoor
set_option linter.unusedVariables false
set_option linter.unusedSimpArgs false
open Go.RowKit Go.Shelf
attribute [local go_sem] Oper.semAt_some

/-- a number of a set -/
abbrev BitOf (x : Nat) := { y : Nat // x.testBit y = true }
def AllOf (x : Nat) (ys : List (BitOf x)) : Prop := ∀ m, x.testBit m = true → ∃ y ∈ ys, y.1 = m
/-- where the iterator stands: what is left of the word, what has come -/
structure Left (x z : Nat) (pre : List (BitOf x)) : Prop where
  small : z < 18446744073709551616
  sub : ∀ m, z.testBit m = true → x.testBit m = true
  all : ∀ m, x.testBit m = true → z.testBit m = true ∨ ∃ y ∈ pre, y.1 = m
  low : ∀ m, m < pre.length → z.testBit m = false
theorem Left.start {x : Nat} (hx : x < 18446744073709551616) : Left x x [] := ⟨hx, fun _ h => h, fun m h => .inl h, fun m h => absurd h (by simp)⟩
theorem Left.len {x z : Nat} {pre : List (BitOf x)} (h : Left x z pre) (h0 : z ≠ 0) : pre.length ≤ Lib.ctz 64 z ∧ Lib.ctz 64 z < 64 := by
  obtain ⟨t, _, hk⟩ := low_parts z h0 h.small
  have hs := (low_set z h0 h.small).1
  refine ⟨?_, hk⟩
  rcases Nat.lt_or_ge (Lib.ctz 64 z) pre.length with h1 | h1
  · rw [h.low _ h1] at hs; cases hs
  · exact h1
theorem Left.bit {x z : Nat} {pre : List (BitOf x)} (h : Left x z pre) (h0 : z ≠ 0) : x.testBit (Lib.ctz 64 z) = true := h.sub _ (low_set z h0 h.small).1
theorem Left.next {x z : Nat} {pre : List (BitOf x)} (h : Left x z pre) (h0 : z ≠ 0) (y : BitOf x) (hy : y.1 = Lib.ctz 64 z) : Left x (z &&& (z - 1)) (pre ++ [y]) := by
  refine ⟨Nat.lt_of_lt_of_le (clear_lt z h0) (by have := h.small; omega), fun m hm => ?_, fun m hm => ?_, fun m hm => ?_⟩
  · rw [clear_low z h0 h.small] at hm
    simp only [Bool.and_eq_true] at hm
    exact h.sub m hm.1
  · rcases h.all m hm with h1 | ⟨y2, h2, h3⟩
    · by_cases hc : m = Lib.ctz 64 z
      · exact .inr ⟨y, by simp, by rw [hy, hc]⟩
      · refine .inl ?_
        rw [clear_low z h0 h.small, h1]; simpa using hc
    · exact .inr ⟨y2, by simp [h2], h3⟩
  · rw [clear_low z h0 h.small]
    have hl := h.len h0
    simp only [List.length_append, List.length_cons, List.length_nil] at hm
    by_cases hc : m = Lib.ctz 64 z
    · simp [hc]
    · rw [(low_set z h0 h.small).2 m (by omega)]; rfl
theorem Left.done {x z : Nat} {pre : List (BitOf x)} (h : Left x z pre) (h0 : z = 0) : AllOf x pre := fun m hm => by
  rcases h.all m hm with h1 | h1
  · subst h0; simp at h1
  · exact h1
theorem and_word (z : Nat) (hz : z < 18446744073709551616) (h0 : z ≠ 0) : bits .and .u64 (z : Int) ((z : Int) - 1) = ((z &&& (z - 1) : Nat) : Int) ∧ IntKind.u64.wrap ((z : Int) - 1) = (z : Int) - 1 := by
  have e : (z : Int) - 1 = ((z - 1 : Nat) : Int) := by omega
  refine ⟨?_, ?_⟩
  · rw [e]; exact bits_and_u64_nat z (z - 1) hz (by omega)
  · rw [IntKind.wrap_u64]; omega
end Go.Proofs.YtcbfokbdiefdeaaGreatDoor
namespace Go.Proofs.YtcbfokbdiefdeaaGreatDoor
set_option linter.unusedVariables false
set_option linter.unusedSimpArgs false
open Go.RowKit Go.Shelf Go.Maps
attribute [local go_sem] Oper.semAt_some
attribute [local go_sem ↓] fold_E fold_SE

theorem TabT.on {w w' : World} (h : TabT w) (hb : Below w.heap.size w w') : TabT w' := fun j hj => by
  have h1 := h j hj
  have hl : 2 < w.heap.size := by
    obtain ⟨o, ho, _⟩ := cells_of_cell h1
    exact (Array.getElem?_eq_some_iff.1 ho).1
  exact (hb.cell (p := ⟨2, j, none⟩) hl).trans h1
/-- what is reached, what is new, whether there is any, when what D says has been gone through -/
structure Gr (R : Nat) (D : Nat → Prop) (R' M : Nat) (G : Bool) : Prop where
  r : R' < 18446744073709551616
  m : M < 18446744073709551616
  rb : ∀ k, R'.testBit k = true ↔ R.testBit k = true ∨ D k
  mb : ∀ k, M.testBit k = true ↔ D k ∧ ¬ R.testBit k = true
  g : G = false ↔ ∀ k, ¬ M.testBit k = true
theorem Gr.start {R : Nat} (h : R < 18446744073709551616) : Gr R (fun _ => False) R 0 false := ⟨h, by omega, fun k => by simp, fun k => by simp, by simp⟩
theorem Gr.iff {R : Nat} {D D' : Nat → Prop} {R' M : Nat} {G : Bool} (h : Gr R D R' M G) (hD : ∀ k, D' k ↔ D k) : Gr R D' R' M G := ⟨h.r, h.m, fun k => by rw [h.rb, hD], fun k => by rw [h.mb, hD], h.g⟩
theorem Gr.keep {R : Nat} {D D' : Nat → Prop} {R' M : Nat} {G : Bool} (h : Gr R D R' M G) (t : Nat) (P : Prop) (hD : ∀ k, D' k ↔ D k ∨ (k = t ∧ P)) (hp : P → R'.testBit t = true) : Gr R D' R' M G := by
  refine ⟨h.r, h.m, fun k => ?_, fun k => ?_, h.g⟩
  · rw [h.rb, hD]
    constructor
    · rintro (h1 | h1)
      · exact .inl h1
      · exact .inr (.inl h1)
    · rintro (h1 | h1 | ⟨rfl, h1⟩)
      · exact .inl h1
      · exact .inr h1
      · exact (h.rb k).1 (hp h1)
  · rw [h.mb, hD]
    constructor
    · rintro ⟨h1, h2⟩; exact ⟨.inl h1, h2⟩
    · rintro ⟨h1 | ⟨rfl, h1⟩, h2⟩
      · exact ⟨h1, h2⟩
      · rcases (h.rb k).1 (hp h1) with h3 | h3
        · exact absurd h3 h2
        · exact ⟨h3, h2⟩
theorem or_bit (x n : Nat) (hx : x < 18446744073709551616) (hn : n < 64) : (x ||| 2 ^ n) < 18446744073709551616 := (put_bit x n hx hn).2
theorem Gr.put {R : Nat} {D D' : Nat → Prop} {R' M : Nat} {G : Bool} (h : Gr R D R' M G) (t : Nat) (ht : t < 64) (hn : R'.testBit t = false) (hD : ∀ k, D' k ↔ D k ∨ k = t) : Gr R D' (R' ||| 2 ^ t) (M ||| 2 ^ t) true := by
  have hnR : ¬ R.testBit t = true := fun h1 => by rw [(h.rb t).2 (.inl h1)] at hn; cases hn
  refine ⟨or_bit _ _ h.r ht, or_bit _ _ h.m ht, fun k => ?_, fun k => ?_, ?_⟩
  · rw [bit_put, Bool.or_eq_true, h.rb, hD, decide_eq_true_eq]
    constructor
    · rintro ((h1 | h1) | rfl)
      · exact .inl h1
      · exact .inr (.inl h1)
      · exact .inr (.inr rfl)
    · rintro (h1 | h1 | rfl)
      · exact .inl (.inl h1)
      · exact .inl (.inr h1)
      · exact .inr rfl
  · rw [bit_put, Bool.or_eq_true, h.mb, hD, decide_eq_true_eq]
    constructor
    · rintro (⟨h1, h2⟩ | rfl)
      · exact ⟨.inl h1, h2⟩
      · exact ⟨.inr rfl, hnR⟩
    · rintro ⟨h1 | rfl, h2⟩
      · exact .inl ⟨h1, h2⟩
      · exact .inr rfl
  · constructor
    · intro h1; cases h1
    · intro h1
      exact absurd (by rw [bit_put]; simp) (h1 t)
theorem keeps_below {W W' : World} (h : Below W.heap.size W W') : KeepsOthers W W' := ⟨h.size, fun k o hk _ => (h.block k (Array.getElem?_eq_some_iff.1 hk).1).trans hk⟩
theorem grown_cells {W W' : World} {row : Option Nat} (hg : W.grownBy W' row) (hr : ∀ r, row = some r → ∃ o : Obj, W.heap[r]? = some o ∧ o.isCells = false) (k : Nat) (cs : Array Value) (T : TypeId) (fr : Nat × Nat) (hk : W.heap[k]? = some (Obj.cells cs T fr)) : W'.heap[k]? = some (Obj.cells cs T fr) :=
  (grownBy_keeps_cells hg hr hk rfl).trans hk
/-- the numbers gone through lead so far -/
def DoneF (c : Cd) (b : Nat) (pre : List Nat) (m : Nat) : Prop := m ≤ b ∧ ∃ y ∈ pre, edge c y m = true
/-- and of the one at hand, up to t -/
def DoneT (c : Cd) (b : Nat) (pre : List Nat) (f t : Nat) (m : Nat) : Prop := DoneF c b pre m ∨ (m < t ∧ m ≤ b ∧ edge c f m = true)
theorem DoneT.first {c : Cd} {b : Nat} {pre : List Nat} {f m : Nat} : DoneT c b pre f (f + 1) m ↔ DoneF c b pre m := by
  unfold DoneT
  constructor
  · rintro (h | ⟨h1, h2, h3⟩)
    · exact h
    · have := (edge_in h3).1; omega
  · exact .inl
theorem DoneT.last {c : Cd} {b : Nat} {pre : List Nat} {f t m : Nat} (ht : b < t) : DoneF c b (pre ++ [f]) m ↔ DoneT c b pre f t m := by
  unfold DoneT DoneF
  constructor
  · rintro ⟨h1, y, h2, h3⟩
    simp only [List.mem_append, List.mem_singleton] at h2
    rcases h2 with h2 | rfl
    · exact .inl ⟨h1, y, h2, h3⟩
    · exact .inr ⟨by omega, h1, h3⟩
  · rintro (⟨h1, y, h2, h3⟩ | ⟨h1, h2, h3⟩)
    · exact ⟨h1, y, by simp [h2], h3⟩
    · exact ⟨h2, f, by simp, h3⟩
theorem DoneT.next {c : Cd} {b : Nat} {pre : List Nat} {f t m : Nat} (ht : t ≤ b) : DoneT c b pre f (t + 1) m ↔ DoneT c b pre f t m ∨ (m = t ∧ edge c f t = true) := by
  unfold DoneT
  constructor
  · rintro (h | ⟨h1, h2, h3⟩)
    · exact .inl (.inl h)
    · by_cases he : m = t
      · subst he; exact .inr ⟨rfl, h3⟩
      · exact .inl (.inr ⟨by omega, h2, h3⟩)
  · rintro ((h | ⟨h1, h2, h3⟩) | ⟨rfl, h3⟩)
    · exact .inl h
    · exact .inr ⟨by omega, h2, h3⟩
    · exact .inr ⟨by omega, ht, h3⟩
/-- what a turn answers -/
def GrowIs (c : Cd) (b gr R x n₀ : Nat) (w0 : World) (e : Ending) (W : World) : Prop := ∃ R' M G ys g, e = .returned (.tuple #[setV g, .bool G]) ∧ (∀ k, x.testBit k = true ↔ k ∈ ys) ∧ Gr R (DoneF c b ys) R' M G ∧ SetAt R' gr W ∧ SetAt M g W ∧ n₀ ≤ g ∧ g ≠ gr ∧ Below n₀ w0 W
end Go.Proofs.YtcbfokbdiefdeaaGreatDoor
namespace Go.Proofs.YtcbfokbdiefdeaaGreatDoor
set_option linter.unusedVariables false
set_option linter.unusedSimpArgs false
open Go.RowKit Go.Shelf Go.Maps
attribute [local go_sem] Oper.semAt_some
attribute [local go_sem ↓] fold_E fold_SE

theorem heap_alloc_at (w : World) (o : Obj) (k : Nat) : (w.alloc o).heap[k]? = if k = w.heap.size then some o else w.heap[k]? := by show (w.heap.push o)[k]? = _; rw [Array.getElem?_push]
/-- what a round keeps -/
def Kb (B n : Nat) (W W' : World) : Prop := KeepsFrom B W W' ∧ Below n W W'
theorem Kb.refl (B n : Nat) (W : World) : Kb B n W W := ⟨KeepsFrom.refl _ _, Below.refl _ _⟩
theorem Kb.on {B n : Nat} {W X Y : World} (h : Kb B n W X) (hb : Below X.heap.size X Y) (hn : n ≤ X.heap.size) : Kb B n W Y := ⟨h.1.trans ((keeps_below hb).from _), h.2.trans (hb.mono hn)⟩
theorem Kb.set {B n : Nat} {W X : World} (h : Kb B n W X) (g : Nat) (v : Value) (hg : n ≤ g) : Kb B n W (X.setCell ⟨g, 0, none⟩ v) := ⟨h.1.trans ((KeepsOthers.setCell _ _ _).from _), h.2.setCell (p := ⟨g, 0, none⟩) hg _⟩
theorem Kb.drew {B n : Nat} {W X : World} (h : Kb B n W X) : Kb B n W X.drew := ⟨h.1.trans ((KeepsOthers.drew _).from _), h.2.drew⟩
end Go.Proofs.YtcbfokbdiefdeaaGreatDoor
namespace Go.Proofs.YtcbfokbdiefdeaaGreatDoor
set_option linter.unusedVariables false
set_option linter.unusedSimpArgs false
open Go.RowKit Go.Maps
attribute [local go_sem ↓] fold_E fold_SE

/-- where the search stands: what is reached, what is fresh -/
structure Ls (c : Cd) (a b R X : Nat) : Prop where
  r : R < 18446744073709551616
  x : X < 18446744073709551616
  sound : ∀ k, R.testBit k = true → Reach c a k
  xs : ∀ k, X.testBit k = true → k ≤ b ∧ (k = a ∨ R.testBit k = true)
  closed : ∀ y, (y = a ∨ R.testBit y = true) → X.testBit y = false → ∀ m, m ≤ b → edge c y m = true → R.testBit m = true
theorem Ls.next {c : Cd} {a b R X R' M : Nat} {G : Bool} {ys : List Nat} (h : Ls c a b R X) (hy : ∀ k, X.testBit k = true ↔ k ∈ ys) (g : Gr R (DoneF c b ys) R' M G) : Ls c a b R' M := by
  refine ⟨g.r, g.m, fun k hk => ?_, fun k hk => ?_, fun y hy1 hy2 m hm he => ?_⟩
  · rcases (g.rb k).1 hk with h1 | ⟨_, y, h2, h3⟩
    · exact h.sound k h1
    · rcases (h.xs y ((hy y).2 h2)).2 with rfl | h4
      · exact .one h3
      · exact .more (h.sound y h4) h3
  · have := (g.mb k).1 hk
    exact ⟨this.1.1, .inr ((g.rb k).2 (.inr this.1))⟩
  · have hyR : y = a ∨ R.testBit y = true := by
      rcases hy1 with h1 | h1
      · exact .inl h1
      · rcases (g.rb y).1 h1 with h2 | h2
        · exact .inr h2
        · refine .inr ?_
          cases hr : R.testBit y with
          | true => rfl
          | false => rw [(g.mb y).2 ⟨h2, by rw [hr]; simp⟩] at hy2; cases hy2
    cases hx : X.testBit y with
    | true => exact (g.rb m).2 (.inr ⟨hm, y, (hy y).1 hx, he⟩)
    | false => exact (g.rb m).2 (.inl (h.closed y hyR hx m hm he))
theorem Ls.done {c : Cd} {a b R X : Nat} (h : Ls c a b R X) (hX : ∀ k, ¬ X.testBit k = true) : R.testBit b = reachB c a b := by
  have key : ∀ m, Reach c a m → m ≤ b → R.testBit m = true := by
    intro m hm
    induction hm with
    | one h1 => exact fun hb => h.closed a (.inl rfl) (by simpa using hX a) _ hb h1
    | more h1 h2 ih =>
      intro hb
      have := (edge_in h2).1
      exact h.closed _ (.inr (ih (by omega))) (by simpa using hX _) _ hb h2
  cases hr : reachB c a b with
  | true => exact key b ((reachB_iff c a b).1 hr) (Nat.le_refl _)
  | false =>
    cases h1 : R.testBit b with
    | false => rfl
    | true => rw [(reachB_iff c a b).2 (h.sound b h1)] at hr; cases hr
theorem Gr.more {R : Nat} {D : Nat → Prop} {R' M : Nat} (h : Gr R D R' M true) : R < R' := by
  have hle : R ||| R' = R' := by
    apply Nat.eq_of_testBit_eq
    intro k
    rw [Nat.testBit_or]
    cases h1 : R.testBit k with
    | false => simp
    | true => rw [(h.rb k).2 (.inl h1)]; rfl
  have h1 : R ≤ R ||| R' := Nat.left_le_or
  rw [hle] at h1
  rcases Nat.lt_or_eq_of_le h1 with h2 | rfl
  · exact h2
  · exfalso
    have : (true : Bool) = false := h.g.2 fun k hk => ((h.mb k).1 hk).2 ((h.rb k).2 (.inr ((h.mb k).1 hk).1))
    cases this
theorem Ls.start {c : Cd} {a b : Nat} (hab : a ≤ b) (h64 : a < 64) : Ls c a b 0 (0 ||| 2 ^ a) := by
  have hb : ∀ k, (0 ||| 2 ^ a).testBit k = decide (a = k) := fun k => by rw [bit_put]; simp
  refine ⟨by omega, or_bit 0 a (by omega) h64, fun k hk => by simp at hk, fun k hk => ?_, fun y hy hx => ?_⟩
  · rw [hb k, decide_eq_true_eq] at hk
    subst hk; exact ⟨hab, .inl rfl⟩
  · rw [hb y, decide_eq_false_iff_not] at hx
    rcases hy with h1 | h1
    · exact absurd h1.symm hx
    · simp at h1
/-- how much the search has left -/
def leftL (gr : Nat) (G : Bool) (w : World) : Nat := if G then 18446744073709551617 - (match w.cell? ⟨gr, 0, none⟩ with | some v => (intOf v).toNat | none => 0) else 0
theorem leftL_at {gr R : Nat} {w : World} (G : Bool) (h : SetAt R gr w) : leftL gr G w = if G then 18446744073709551617 - R else 0 := by
  unfold leftL; rw [h.cell]; rfl
def boolOf : Value → Bool | .bool b => b | _ => false
/-- the search's sets in memory -/
structure Lsw (c : Cd) (a b R X gr gx : Nat) (G : Bool) (w0 w : World) : Prop where
  ls : Ls c a b R X
  sr : SetAt R gr w
  sx : SetAt X gx w
  bel : Below w0.heap.size w0 w
  ge : w0.heap.size ≤ gr
  g : G = false → ∀ k, ¬ X.testBit k = true
end Go.Proofs.YtcbfokbdiefdeaaGreatDoor
namespace Go.Proofs.YtcbfokbdiefdeaaGreatDoor
set_option linter.unusedVariables false
set_option linter.unusedSimpArgs false
open Go.RowKit Go.Maps
attribute [local go_sem ↓] fold_E fold_SE

/-- what Full answers: from n on, k numbers, the last of memory's being last -/
def fullG (c : Cd) : Nat → Int → Nat → Bool
  | 0, _, _ => true
  | k + 1, last, n => if (aheadP c last n && decide (ruleL c last n = 0)) = true then false else fullG c k (if sideE (c.at n).1 ≠ 0 then (n : Int) else last) (n + 1)
def fullW (c : Cd) : Bool := c.may && fullG c c.N (-1) 0
end Go.Proofs.YtcbfokbdiefdeaaGreatDoor
