/-
  Proved here: ppo.Whole and ppo.Full of any light candidate, may it be or not. Condition: the table of zero bits as the library lays it. (With it: Proved here: ppo's leads: whether steps lead from one event to another behind it; nothing that was there is changed. Condition: a light candidate that may be. (With it: Proved here: one turn of a search by steps, the program's own. Condition: a light candidate that may be; two sets of one word that the caller made. (With it: Proved here: one turn of a search by steps: what is reached grows by what one step reaches from those that are fresh. Condition: a light candidate that may be; two sets of one word that the caller made.))) (With it: Proved here: the numbers of a set of one word are told by an iterator, each once at least. Condition: the loop's body keeps what lay below the set's owner; the table of zero bits as the library lays it.) (With it: Words: what is preserved, as pairs, rules, and whole: each told by the others. No condition.)
  (With it: Proved here: ppo.Pairs of any light candidate, may it be or not: the list of pairs, in a row of its own; nothing that was there is changed. No other condition.)
  (With it: Proved here: ppo's sets of one word: empty, put, has; math/bits.TrailingZeros64. Condition: numbers below 64; the table of zero bits as the library lays it. (With it: Words: a word as a set of numbers. No condition.))
  (With it: Words: what leads to what by preserved steps, as a relation and as a plain function. No condition.)
  (With it: Proved here: ppo's Holds tells of any ints whether that rule holds, of any light candidate; nothing that was there is changed. Condition: a light candidate.)
-/
import Derived.Test.YtcbfokbdiefdeaaGreatDoorPpAny
import Derived.WalkKit
import Derived.Lib.TrailingZeros
import Derived.Test.YtcbfokbdiefdeaaGreatDoorProg
import Derived.Laws.Tables
import Derived.Laws.Rows
import Derived.Laws.NewBlocks
import Derived.Lib.Hide
import Derived.OwnWalk
import Derived.Laws.MakeOwn
import Derived.Laws.Bits64b
import Derived.Laws.BitsAllLaws
import Derived.Shelf.Spec.TrailingZeros
import Derived.StillTailTactics
import Derived.Deep.QuietTactic
import Derived.BigQuiet
import Derived.IntWalk
import Derived.RangeFuncNested
import Derived.RangeFuncBound
import Derived.RangeFuncCalls
import Derived.RangeFuncLeaves
import Derived.Shelf.Abstract
import Derived.Shelf.RegionOpen
import Derived.OwnWalkIn
import Derived.TacticsInMore
import Derived.LoopNIn
import Derived.LoopIn
import Derived.RangeFuncWrites
namespace Go.Proofs.YtcbfokbdiefdeaaGreatDoor
set_option linter.unusedVariables false
set_option linter.unusedSimpArgs false
open Go.RowKit Go.Maps
attribute [local go_sem ↓] fold_E fold_SE

/-- the pairs of a with b on, k numbers -/
def pairsIn (c : Cd) (a : Nat) : Nat → Nat → List (Nat × Nat)
  | 0, _ => []
  | k + 1, b => if (c.at a).1.hart = (c.at b).1.hart then (if ruleL c a b ≠ 0 then [(a, b)] else []) ++ pairsIn c a k (b + 1) else []
/-- the pairs of n on, k numbers -/
def pairsOut (c : Cd) : Nat → Nat → List (Nat × Nat)
  | 0, _ => []
  | k + 1, n => pairsIn c n (c.N - (n + 1)) (n + 1) ++ pairsOut c k (n + 1)
def pairsW (c : Cd) : List (Nat × Nat) := if c.may then pairsOut c c.N 0 else []
theorem pairsIn_len (c : Cd) (a : Nat) : ∀ k b, (pairsIn c a k b).length ≤ k
  | 0, _ => by simp [pairsIn]
  | k + 1, b => by
    unfold pairsIn
    have := pairsIn_len c a k (b + 1)
    split
    · rw [List.length_append]; split <;> simp <;> omega
    · simp
theorem pairsOut_len (c : Cd) (hN : c.N ≤ 60) : ∀ k n, (pairsOut c k n).length ≤ k * 60
  | 0, _ => by simp [pairsOut]
  | k + 1, n => by
    unfold pairsOut
    have h1 := pairsIn_len c n (c.N - (n + 1)) (n + 1)
    have h2 := pairsOut_len c hN k (n + 1)
    rw [List.length_append]; omega
/-- the pairs' cells -/
def rowP2 (l : List (Nat × Nat)) : List Value := l.flatMap fun x => [.int .i64 (x.1 : Int), .int .i64 (x.2 : Int)]
theorem rowP2_more (l : List (Nat × Nat)) (a b : Nat) : rowP2 (l ++ [(a, b)]) = rowP2 l ++ [.int .i64 (a : Int), .int .i64 (b : Int)] := by simp [rowP2]
theorem infoPair : (Tryz.prog.info? 53).map (fun i => (i.zero, i.size, i.bytes)) = some (some (.agg #[.int .i64 0, .int .i64 0]), 2, 16) := by kernel_rfl
theorem append_pair {ops : Array Oper} {rest : List Oper} {o : Oper} {a : Act} {w : World} {Q : Exit → Act → World → Prop} (hgd : o.guard = none) (s x : Operand)
    (ho : o.op = .call { callee := .builtin .append, args := #[s, x], argTypes := #[51, 51] }) (base : Nat) (v : Value) (n : Nat) (xs : List Value) (hs : a.eval s = v) (hown : w.ownsRow base 53 2 v n xs)
    (y z : Int) (g : Nat) (hx : a.eval x = .slice (some ⟨g, 0, none⟩) 1 1) (hr : w.heap[g]? = some (.cells #[.int .i64 y, .int .i64 z] 53 (0, 0))) (hn : n ≤ 100000) (hbase : base ≤ w.heap.size)
    (h : ∀ v' w', w'.ownsRow base 53 2 v' (n + 1) (xs ++ [.int .i64 y, .int .i64 z]) → w.grownBy w' v.ownBlock → wpList Tryz.prog ops Q rest (a.put o.dst v') w') : wpList Tryz.prog ops Q (o :: rest) a w := by
  obtain ⟨i0, hi, hz0, hz1, hz2⟩ := info_parts infoPair
  refine wpList_append_own w hgd s x _ ho base 53 i0 (.agg #[.int .i64 0, .int .i64 0]) 2 16 Tryz.underlying51 hi hz0 hz1 hz2 (by kernel_rfl) (by decide) v n xs hs hown ⟨g, 0, none⟩ 1 1 [.int .i64 y, .int .i64 z] hx rfl ?_ ?_ (by unfold maxLen; omega) (by omega) hbase (fun v' w' h5 h6 _ => h v' w' h5 h6)
  · intro j u hu
    rw [Addr.add_lit, Nat.zero_add, cell_of_row w g j _ _ _ hr]
    simpa using hu
  · intro u hu
    simp only [List.mem_cons, List.not_mem_nil, or_false] at hu
    rcases hu with rfl | rfl <;> rfl
def PairsIs (c : Cd) (w : World) (e : Ending) (w' : World) : Prop := ∃ v n, e = .returned v ∧ (pairsW c).length = n ∧ (∃ base, w.heap.size ≤ base ∧ w'.ownsRow base 53 2 v n (rowP2 (pairsW c))) ∧ Below w.heap.size w w'
set_option maxRecDepth 100000 in
set_option maxHeartbeats 4000000 in
theorem Pairs_any (c : Cd) (q : Cv) (w : World) (hL : Lt c) (h : CAt c q w) : Calls Tryz.prog 61 #[cdV c q] w fun e w' => PairsIs c w e w' := by
  have S0 := Lib.hid (Lk.start h)
  cases hm : c.may with
  | true =>
    have HW : Hid (pairsOut c c.N 0 = pairsW c) := Lib.hid (by unfold pairsW; rw [hm]; rfl)
    obtain ⟨L, hLL⟩ : ∃ L, pairsW c = L := ⟨_, rfl⟩
    have HLL := Lib.hid hLL
    have HN60 := (Rx.of hm hL).n60
    have HLen : Hid (L.length ≤ 3600) := Lib.hid (by rw [← hLL, ← HW.out]; have := pairsOut_len c HN60 c.N 0; omega)
    rw [hLL] at HW
    clear hLL
    have KL := Lib.hid (fun w0 h0 => plook_yes c q w0 hL h0 hm)
    have KF := Lib.hid (fun p w0 h0 a b => first_any c p w0 h0 (Rx.of hm hL) (may_kind hm) a b)
    clear h hm hL
    obtain ⟨u0, u1, u2, u3⟩ := S0.out.box.facts
    go_enter Tryz.func61, Tryz.ntmps61
    go_upto_region 3 with (go_at_call 77; (with_reducible refine (KL.out _ S0.out.at_).mono ?_); rintro e' w1 ⟨p, rfl, hv, hb1⟩; have V1 := Lib.hid hv; have L1 := Lib.hid (S0.out.below.trans (hb1.mono S0.out.below.size)); obtain ⟨b0, b1, b2⟩ := hv.three; clear hv hb1 u0 u1 u2 u3)
    go_wp2
    clear b0 b1 b2
    go_loopw [5, 18] (fun vp vi wr => ∃ (n : Nat) (done : List (Nat × Nat)), vi = .int .i64 (n : Int) ∧ n ≤ c.N ∧ Hid (done ++ pairsOut c (c.N - n) n = L) ∧ Hid (wr.ownsRow w1.heap.size 53 2 vp done.length (rowP2 done)) ∧ Hid (Below w1.heap.size w1 wr)) (fun _ vi _ => c.N - (intOf vi).toNat)
    case atStart => exact ⟨0, [], rfl, by omega, Lib.hid (by rw [← HW.out]; rfl), Lib.hid (World.ownsRow_nil _ _ _ _), Lib.hid (Below.refl _ _)⟩
    case round =>
      obtain ⟨n, done, rfl, hn, HG, HO, HB⟩ := hrel
      by_cases hlt : n < c.N
      · have d1 : decide (n < c.N) = true := by simpa using hlt
        have d2 : IntKind.i64.wrap ((n : Int) + 1) = ((n + 1 : Nat) : Int) := by rw [IntWalk.i64_in _ (by omega)]; omega
        have HG2 : Hid (done ++ pairsIn c n (c.N - (n + 1)) (n + 1) ++ pairsOut c (c.N - (n + 1)) (n + 1) = L) := Lib.hid (by
          rw [← HG.out, show c.N - n = (c.N - (n + 1)) + 1 by omega, List.append_assoc]; rfl)
        go_wp2
        go_loopw [5, 7] (fun vp vb wq => ∃ (b : Nat) (dn : List (Nat × Nat)), vb = .int .i64 (b : Int) ∧ n < b ∧ b ≤ c.N ∧ Hid (dn ++ pairsIn c n (c.N - b) b ++ pairsOut c (c.N - (n + 1)) (n + 1) = L) ∧ Hid (wq.ownsRow w1.heap.size 53 2 vp dn.length (rowP2 dn)) ∧ Hid (Below w1.heap.size w1 wq)) (fun _ vb _ => c.N - (intOf vb).toNat)
        case atStart => exact ⟨n + 1, done, by first | rfl | simp, by omega, by omega, HG2, HO, HB⟩
        case round =>
          clear HG HO HB HG2
          obtain ⟨b, dn, rfl, hnb, hbN, HG, HO, HB⟩ := hrel
          have V2 := Lib.hid (V1.out.on HB.out)
          obtain ⟨b0, b1, b2⟩ := V2.out.three
          have hdl : dn.length ≤ 100000 := by
            have h1 := congrArg List.length HG.out
            rw [List.length_append, List.length_append] at h1
            have := HLen.out; omega
          by_cases hlb : b < c.N
          · have d4 : decide (b < c.N) = true := by simpa using hlb
            have d5 : IntKind.i64.wrap ((b : Int) + 1) = ((b + 1 : Nat) : Int) := by rw [IntWalk.i64_in _ (by omega)]; omega
            have HI : Hid (pairsIn c n (c.N - b) b = if (c.at n).1.hart = (c.at b).1.hart then (if ruleL c n b ≠ 0 then [(n, b)] else []) ++ pairsIn c n (c.N - (b + 1)) (b + 1) else []) := Lib.hid (by rw [show c.N - b = (c.N - (b + 1)) + 1 by omega]; rfl)
            by_cases hh : (c.at n).1.hart = (c.at b).1.hart
            · have KH := Lib.hid (oneHart_v c (finK c) p wr V2.out n b hlt hlb true (by simp [hh]))
              obtain ⟨x, hx⟩ : ∃ x, ruleL c n b = x := ⟨_, rfl⟩
              have KF1 := Lib.hid (fun w0 h0 => KF.out p w0 h0 n b)
              rw [hx] at KF1
              by_cases hx0 : x = 0
              · have d3 : ((x : Int) != 0) = false := by simp [hx0]
                have HG3 : Hid (dn ++ pairsIn c n (c.N - (b + 1)) (b + 1) ++ pairsOut c (c.N - (n + 1)) (n + 1) = L) := Lib.hid (by
                  rw [← HG.out, HI.out, if_pos hh, hx, if_neg (by simp [hx0])]; rfl)
                clear hh hx hx0
                go_wp2_with (first
                  | (go_at_call 78; (with_reducible refine (KH.out).mono ?_); rintro e' w2 ⟨rfl, hb2⟩; have V3 := Lib.hid (V2.out.on hb2); have O2 := Lib.hid (own_on HO.out hb2); have B2 := Lib.hid (HB.out.trans (hb2.mono HB.out.size)); obtain ⟨b0, b1, b2⟩ := V3.out.three; clear hb2)
                  | (go_at_call 79; (with_reducible refine (KF1.out _ V3.out).mono ?_); rintro e' w3 ⟨rfl, hb3⟩; have O3 := Lib.hid (own_on O2.out hb3); have B3 := Lib.hid (B2.out.trans (hb3.mono B2.out.size)); clear hb3))
                go_roundw
                case rel => exact ⟨b + 1, dn, by first | rfl | simp, by omega, by omega, HG3, O3, B3⟩
                case measure => simp [intOf]; omega
              · have d3 : ((x : Int) != 0) = true := by simp; omega
                have HG3 : Hid ((dn ++ [(n, b)]) ++ pairsIn c n (c.N - (b + 1)) (b + 1) ++ pairsOut c (c.N - (n + 1)) (n + 1) = L) := Lib.hid (by
                  rw [← HG.out, HI.out, if_pos hh, hx, if_pos hx0]; simp)
                clear hh hx hx0
                go_wp2_with (first
                  | (go_at_call 78; (with_reducible refine (KH.out).mono ?_); rintro e' w2 ⟨rfl, hb2⟩; have V3 := Lib.hid (V2.out.on hb2); have O2 := Lib.hid (own_on HO.out hb2); have B2 := Lib.hid (HB.out.trans (hb2.mono HB.out.size)); obtain ⟨b0, b1, b2⟩ := V3.out.three; clear hb2)
                  | (go_at_call 79; (with_reducible refine (KF1.out _ V3.out).mono ?_); rintro e' w3 ⟨rfl, hb3⟩; have O3 := Lib.hid (own_on O2.out hb3); have B3 := Lib.hid (B2.out.trans (hb3.mono B2.out.size)); clear hb3)
                  | (at_builtin; (refine append_pair rfl (.tmp 43) (.tmp 47) rfl w1.heap.size _ dn.length _ rfl (O3.out.alloc _) (n : Int) (b : Int) w3.heap.size rfl Array.getElem?_push_size hdl (by have := B3.out.size; simp; omega) ?_; intro v' w4 ho hg; have O4 := Lib.hid ho; have B4 := Lib.hid ((B3.out.alloc B3.out.size _).grown hg (by have := B3.out.size; simp; omega) (fun k hk => (O3.out.lt k hk).1)); clear ho hg)))
                go_roundw
                case rel => exact ⟨b + 1, dn ++ [(n, b)], by first | rfl | simp, by omega, by omega, HG3, Lib.hid (by rw [rowP2_more, List.length_append]; exact O4.out), B4⟩
                case measure => simp [intOf]; omega
            · have KH := Lib.hid (oneHart_v c (finK c) p wr V2.out n b hlt hlb false (by simp [hh]))
              have HG3 : Hid (dn ++ pairsOut c (c.N - (n + 1)) (n + 1) = L) := Lib.hid (by rw [← HG.out, HI.out, if_neg hh]; simp)
              clear hh
              go_wp2_with (go_at_call 78; (with_reducible refine (KH.out).mono ?_); rintro e' w2 ⟨rfl, hb2⟩; have V3 := Lib.hid (V2.out.on hb2); have O2 := Lib.hid (own_on HO.out hb2); have B2 := Lib.hid (HB.out.trans (hb2.mono HB.out.size)); obtain ⟨b0, b1, b2⟩ := V3.out.three; clear hb2)
              go_roundw
              case rel => exact ⟨n + 1, dn, by first | rfl | simp, by omega, HG3, O2, B2⟩
              case measure => simp [intOf]; omega
          · have d4 : decide (b < c.N) = false := by simpa using hlb
            have HG3 : Hid (dn ++ pairsOut c (c.N - (n + 1)) (n + 1) = L) := Lib.hid (by rw [← HG.out, show c.N - b = 0 by omega]; simp [pairsIn])
            go_wp2
            go_roundw
            case rel => exact ⟨n + 1, dn, by first | rfl | simp, by omega, HG3, HO, HB⟩
            case measure => simp [intOf]; omega
      · have d1 : decide (n < c.N) = false := by simpa using hlt
        have HD : Hid (done = L) := Lib.hid (by have := HG.out; rw [show c.N - n = 0 by omega] at this; simpa [pairsOut] using this)
        go_wp2
        go_ret
        refine ⟨_, _, rfl, rfl, ⟨_, L1.out.size, ?_⟩, L1.out.trans (HB.out.mono L1.out.size)⟩
        rw [HLL.out, ← HD.out]; exact HO.out
  | false =>
    have HW : Hid (pairsW c = []) := Lib.hid (by unfold pairsW; rw [hm]; rfl)
    have KL := Lib.hid (fun w0 h0 => plook_no c q w0 hL h0 hm)
    clear h hm hL
    obtain ⟨u0, u1, u2, u3⟩ := S0.out.box.facts
    go_enter Tryz.func61, Tryz.ntmps61
    go_upto_region 3 with (go_at_call 77; (with_reducible refine (KL.out _ S0.out.at_).mono ?_); rintro e' w1 ⟨g, rfl, hv, hb1⟩; have V1 := Lib.hid hv; have L1 := Lib.hid (S0.out.below.trans (hb1.mono S0.out.below.size)); have b0 := hv.all; clear hv hb1 u0 u1 u2 u3)
    go_wp2
    go_loopw [5, 18] (fun vp vi wr => vp = .slice none 0 0 ∧ vi = .int .i64 0 ∧ Hid (Below w.heap.size w wr)) (fun _ vi _ => 0)
    case atStart => exact ⟨rfl, rfl, L1⟩
    case round =>
      obtain ⟨rfl, rfl, HB⟩ := hrel
      go_wp2
      go_ret
      refine ⟨_, _, rfl, rfl, ⟨_, Nat.le_refl _, ?_⟩, HB.out⟩
      rw [HW.out]; exact World.ownsRow_nil _ _ _ _
end Go.Proofs.YtcbfokbdiefdeaaGreatDoor
namespace Go.Proofs.YtcbfokbdiefdeaaGreatDoor
set_option linter.unusedVariables false
set_option linter.unusedSimpArgs false
open Go.RowKit

/-! ### words as sets -/
end Go.Proofs.YtcbfokbdiefdeaaGreatDoor
namespace Go.Proofs.YtcbfokbdiefdeaaGreatDoor
set_option linter.unusedVariables false
set_option linter.unusedSimpArgs false
open Go.RowKit

end Go.Proofs.YtcbfokbdiefdeaaGreatDoor
namespace Go.Proofs.YtcbfokbdiefdeaaGreatDoor
set_option linter.unusedVariables false
set_option linter.unusedSimpArgs false
open Go.RowKit

/-- one step -/
def edge (c : Cd) (x y : Nat) : Bool := decide (ruleL c x y ≠ 0)
theorem edge_in {c : Cd} {x y : Nat} (h : edge c x y = true) : x < y ∧ y < c.N := by
  unfold edge at h
  have h1 : ruleL c x y ≠ 0 := by simpa using h
  cases ha : aheadP c x y with
  | false => exfalso; apply h1; unfold ruleL; rw [ha]; rfl
  | true => have := aheadP_in ha; omega
/-- by steps, one or more -/
inductive Reach (c : Cd) (a : Nat) : Nat → Prop
  | one {y : Nat} (h : edge c a y = true) : Reach c a y
  | more {x y : Nat} (h : Reach c a x) (h2 : edge c x y = true) : Reach c a y
theorem Reach.lt {c : Cd} {a y : Nat} (h : Reach c a y) : a < y ∧ y < c.N := by
  induction h with
  | one h => exact edge_in h
  | more h h2 ih => have := edge_in h2; omega
theorem Reach.trans {c : Cd} {a x y : Nat} (h : Reach c a x) (h2 : Reach c x y) : Reach c a y := by
  induction h2 with
  | one h3 => exact .more h h3
  | more _ h4 ih => exact .more ih h4
end Go.Proofs.YtcbfokbdiefdeaaGreatDoor
namespace Go.Proofs.YtcbfokbdiefdeaaGreatDoor
set_option linter.unusedVariables false
set_option linter.unusedSimpArgs false
open Go.RowKit Go.Maps
/-- the store of the whole list of rules: folded -/
def StoreR (x y : Value) : Sem Unit := Instr.storeAt 129 x y
theorem fold_SR (x y : Value) : Instr.storeAt 129 x y = StoreR x y := rfl
attribute [local go_sem ↓] fold_E fold_SE fold_SR
end Go.Proofs.YtcbfokbdiefdeaaGreatDoor
namespace Go.Proofs.YtcbfokbdiefdeaaGreatDoor
set_option linter.unusedVariables false
set_option linter.unusedSimpArgs false
open Go.RowKit Go.Maps

theorem hart_mono {c : Cd} (hm : c.may = true) {n m : Nat} (hnm : n ≤ m) (hM : m < c.N) : (c.at n).1.hart ≤ (c.at m).1.hart := by
  obtain ⟨h, j, hh, hj, en, _, eh, _⟩ := may_num hm n (by omega)
  obtain ⟨h', j', hh', hj', em, _, eh', _⟩ := may_num hm m hM
  rw [eh, eh']
  rcases Nat.lt_or_ge h' h with hlt | hge
  · exfalso
    have := baseL_mono c.len (h' + 1) h hlt
    have e : baseL c.len (h' + 1) = baseL c.len h' + c.len h' := rfl
    omega
  · omega
theorem hart_between {c : Cd} (hm : c.may = true) {n k m : Nat} (h1 : n ≤ k) (h2 : k ≤ m) (hM : m < c.N) (he : (c.at n).1.hart = (c.at m).1.hart) : (c.at n).1.hart = (c.at k).1.hart := by
  have a1 := hart_mono hm h1 (by omega)
  have a2 := hart_mono hm h2 hM
  omega
theorem mem_pairsIn (c : Cd) (a x y : Nat) : ∀ k b, (x, y) ∈ pairsIn c a k b ↔ x = a ∧ b ≤ y ∧ y < b + k ∧ (∀ z, b ≤ z → z ≤ y → (c.at a).1.hart = (c.at z).1.hart) ∧ ruleL c a y ≠ 0
  | 0, b => by
    simp only [pairsIn, List.not_mem_nil, false_iff]
    rintro ⟨_, h1, h2, _⟩; omega
  | k + 1, b => by
    unfold pairsIn
    by_cases hh : (c.at a).1.hart = (c.at b).1.hart
    · rw [if_pos hh, List.mem_append, mem_pairsIn c a x y k (b + 1)]
      constructor
      · rintro (h | ⟨h1, h2, h3, h4, h5⟩)
        · split at h
          · rename_i hr
            rw [List.mem_singleton] at h
            injection h with e1 e2
            subst e1 e2
            exact ⟨rfl, Nat.le_refl _, by omega, fun z hz1 hz2 => by obtain rfl : z = y := by omega
                                                                     exact hh, hr⟩
          · simp at h
        · refine ⟨h1, by omega, by omega, fun z hz1 hz2 => ?_, h5⟩
          by_cases hz : z = b
          · subst hz; exact hh
          · exact h4 z (by omega) hz2
      · rintro ⟨rfl, h2, h3, h4, h5⟩
        by_cases hy : y = b
        · subst hy
          left
          rw [if_pos h5]; simp
        · right
          exact ⟨rfl, by omega, by omega, fun z hz1 hz2 => h4 z (by omega) hz2, h5⟩
    · rw [if_neg hh]
      simp only [List.not_mem_nil, false_iff]
      rintro ⟨_, h2, _, h4, _⟩
      exact hh (h4 b (Nat.le_refl _) h2)
theorem mem_pairsOut (c : Cd) (x y : Nat) : ∀ k n, (x, y) ∈ pairsOut c k n ↔ n ≤ x ∧ x < n + k ∧ (x, y) ∈ pairsIn c x (c.N - (x + 1)) (x + 1)
  | 0, n => by
    simp only [pairsOut, List.not_mem_nil, false_iff]
    rintro ⟨h1, h2, _⟩; omega
  | k + 1, n => by
    unfold pairsOut
    rw [List.mem_append, mem_pairsOut c x y k (n + 1)]
    constructor
    · rintro (h | ⟨h1, h2, h3⟩)
      · obtain rfl := ((mem_pairsIn c n x y _ _).1 h).1
        exact ⟨Nat.le_refl _, by omega, h⟩
      · exact ⟨by omega, by omega, h3⟩
    · rintro ⟨h1, h2, h3⟩
      by_cases hx : x = n
      · subst hx; exact .inl h3
      · exact .inr ⟨by omega, by omega, h3⟩
theorem rule_ahead {c : Cd} {a b : Int} (h : ruleL c a b ≠ 0) : aheadP c a b = true := by
  cases ha : aheadP c a b with
  | true => rfl
  | false => exfalso; apply h; unfold ruleL; rw [ha]; rfl
theorem aheadP_hart {c : Cd} {a b : Nat} (h : aheadP c a b = true) : (c.at a).1.hart = (c.at b).1.hart ∧ memE (c.at a).1 = true ∧ memE (c.at b).1 = true := by
  unfold aheadP at h
  simp only [Bool.and_eq_true, decide_eq_true_eq, Int.toNat_natCast] at h
  exact ⟨h.2.2.2.1, h.2.2.2.2.1, h.2.2.2.2.2⟩
theorem mem_pairsW {c : Cd} (hm : c.may = true) (x y : Nat) : (x, y) ∈ pairsW c ↔ ruleL c x y ≠ 0 := by
  unfold pairsW
  rw [hm, if_pos rfl, mem_pairsOut, mem_pairsIn]
  constructor
  · rintro ⟨_, _, _, _, _, _, h⟩; exact h
  · intro h
    have ha := rule_ahead h
    have hin := aheadP_in ha
    have hh := (aheadP_hart ha).1
    exact ⟨by omega, by omega, rfl, by omega, by omega, fun z h1 h2 => hart_between hm (by omega) h2 (by omega) hh, h⟩
end Go.Proofs.YtcbfokbdiefdeaaGreatDoor
namespace Go.Proofs.YtcbfokbdiefdeaaGreatDoor
set_option linter.unusedVariables false
set_option linter.unusedSimpArgs false
open Go.RowKit Go.Shelf
attribute [local go_sem] Oper.semAt_some

end Go.Proofs.YtcbfokbdiefdeaaGreatDoor
namespace Go.Proofs.YtcbfokbdiefdeaaGreatDoor
set_option linter.unusedVariables false
set_option linter.unusedSimpArgs false
open Go.RowKit Go.Shelf Go.Maps
attribute [local go_sem] Oper.semAt_some
attribute [local go_sem ↓] fold_E fold_SE

end Go.Proofs.YtcbfokbdiefdeaaGreatDoor
namespace Go.Proofs.YtcbfokbdiefdeaaGreatDoor
set_option linter.unusedVariables false
set_option linter.unusedSimpArgs false
open Go.RowKit Go.Shelf Go.Maps
attribute [local go_sem] Oper.semAt_some
attribute [local go_sem ↓] fold_E fold_SE

end Go.Proofs.YtcbfokbdiefdeaaGreatDoor
namespace Go.Proofs.YtcbfokbdiefdeaaGreatDoor
set_option linter.unusedVariables false
set_option linter.unusedSimpArgs false
open Go.RowKit Go.Maps
attribute [local go_sem ↓] fold_E fold_SE

end Go.Proofs.YtcbfokbdiefdeaaGreatDoor
namespace Go.Proofs.YtcbfokbdiefdeaaGreatDoor
set_option linter.unusedVariables false
set_option linter.unusedSimpArgs false
open Go.RowKit Go.Maps
attribute [local go_sem ↓] fold_E fold_SE

end Go.Proofs.YtcbfokbdiefdeaaGreatDoor
