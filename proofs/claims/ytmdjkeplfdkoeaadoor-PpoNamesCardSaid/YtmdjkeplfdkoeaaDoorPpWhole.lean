/-
  Proved here: ppo.Whole and ppo.Full of any light candidate, may it be or not. Condition: the table of zero bits as the library lays it.
-/
import Derived.Test.YtmdjkeplfdkoeaaDoorPpLeads
namespace Go.Proofs.YtmdjkeplfdkoeaaDoor
set_option linter.unusedVariables false
set_option linter.unusedSimpArgs false
open Go.RowKit Go.Maps
attribute [local go_sem ↓] fold_E fold_SE

set_option maxRecDepth 100000 in
set_option maxHeartbeats 4000000 in
theorem Whole_any (c : Cd) (q : Cv) (w : World) (hL : Lt c) (h : CAt c q w) (hT : TabT w) (a b : Int) (r : Bool) (hr : wholeW c a b = r) : Calls Tryd.prog 10 #[cdV c q, .int .i64 a, .int .i64 b] w fun e w' => SaysB w r e w' := by
  have S0 := Lib.hid (Lk.start h)
  unfold wholeW at hr
  cases hm : c.may with
  | true =>
    rw [hm, Bool.true_and] at hr
    have KL := Lib.hid (fun w0 h0 => plook_yes c q w0 hL h0 hm)
    cases hah : aheadP c a b with
    | true =>
      rw [hah, Bool.true_and] at hr
      obtain ⟨i0, i1, i2⟩ := aheadP_in hah
      obtain ⟨x, rfl⟩ : ∃ x : Nat, a = x := ⟨a.toNat, by omega⟩
      obtain ⟨y, rfl⟩ : ∃ y : Nat, b = y := ⟨b.toNat, by omega⟩
      simp only [Int.toNat_natCast] at hr
      have KA := Lib.hid (fun p w0 h0 => ahead_any c p w0 h0 (may_kind hm) x y true hah)
      have KD := Lib.hid (fun p w0 h0 (hT : TabT w0) => leads_any c p w0 h0 (Rx.of hm hL) (may_kind hm) hT x y (by omega) (by omega) r hr)
      have HT := Lib.hid hT
      clear h hm hL hah hr hT i0 i1 i2
      obtain ⟨u0, u1, u2, u3⟩ := S0.out.box.facts
      go_enter Tryd.func10, Tryd.ntmps10
      go_wp2_with (first
        | (go_at_call 12; (with_reducible refine (KL.out _ S0.out.at_).mono ?_); rintro e' w1 ⟨p, rfl, hv, hb1⟩; have V1 := Lib.hid hv; have L1 := Lib.hid (S0.out.below.trans (hb1.mono S0.out.below.size)); clear hv hb1 u0 u1 u2 u3)
        | (go_at_call 15; (with_reducible refine (KA.out p _ V1.out).mono ?_); rintro e' w2 ⟨rfl, hb2⟩; have V2 := Lib.hid (V1.out.on hb2); have L2 := Lib.hid (L1.out.trans (hb2.mono L1.out.size)); clear hb2)
        | (go_at_call 17; (with_reducible refine (KD.out p _ V2.out (HT.out.on L2.out)).mono ?_); rintro e' w3 ⟨rfl, hb3⟩; have L3 := Lib.hid (L2.out.trans (hb3.mono L2.out.size)); clear hb3))
      go_ret
      exact ⟨by simp, L3.out⟩
    | false =>
      rw [hah, Bool.false_and] at hr
      subst hr
      have KA := Lib.hid (fun p w0 h0 => ahead_any c p w0 h0 (may_kind hm) a b false hah)
      clear h hm hL hah hT
      obtain ⟨u0, u1, u2, u3⟩ := S0.out.box.facts
      go_enter Tryd.func10, Tryd.ntmps10
      go_wp2_with (first
        | (go_at_call 12; (with_reducible refine (KL.out _ S0.out.at_).mono ?_); rintro e' w1 ⟨p, rfl, hv, hb1⟩; have V1 := Lib.hid hv; have L1 := Lib.hid (S0.out.below.trans (hb1.mono S0.out.below.size)); clear hv hb1 u0 u1 u2 u3)
        | (go_at_call 15; (with_reducible refine (KA.out p _ V1.out).mono ?_); rintro e' w2 ⟨rfl, hb2⟩; have L2 := Lib.hid (L1.out.trans (hb2.mono L1.out.size)); clear hb2))
      go_ret
      exact ⟨rfl, L2.out⟩
  | false =>
    rw [hm, Bool.false_and] at hr
    subst hr
    have KL := Lib.hid (fun w0 h0 => plook_no c q w0 hL h0 hm)
    clear h hm hL hT
    obtain ⟨u0, u1, u2, u3⟩ := S0.out.box.facts
    go_enter Tryd.func10, Tryd.ntmps10
    go_wp2_with (first
      | (go_at_call 12; (with_reducible refine (KL.out _ S0.out.at_).mono ?_); rintro e' w1 ⟨g, rfl, hv, hb1⟩; have V1 := Lib.hid hv; have L1 := Lib.hid (S0.out.below.trans (hb1.mono S0.out.below.size)); clear hv hb1 u0 u1 u2 u3)
      | (go_at_call 15; (with_reducible refine (ahead_none g _ V1.out a b).mono ?_); rintro e' w2 ⟨rfl, hb2⟩; have L2 := Lib.hid (L1.out.trans (hb2.mono L1.out.size)); clear hb2))
    go_ret
    exact ⟨rfl, L2.out⟩
/-- what Full answers: from n on, k numbers, the last of memory's being last -/
def fullG (c : Cd) : Nat → Int → Nat → Bool
  | 0, _, _ => true
  | k + 1, last, n => if (aheadP c last n && decide (ruleL c last n = 0)) = true then false else fullG c k (if sideE (c.at n).1 ≠ 0 then (n : Int) else last) (n + 1)
def fullW (c : Cd) : Bool := c.may && fullG c c.N (-1) 0
set_option maxRecDepth 100000 in
set_option maxHeartbeats 4000000 in
theorem Full_any (c : Cd) (q : Cv) (w : World) (hL : Lt c) (h : CAt c q w) (r : Bool) (hr : fullW c = r) : Calls Tryd.prog 9 #[cdV c q] w fun e w' => SaysB w r e w' := by
  have S0 := Lib.hid (Lk.start h)
  unfold fullW at hr
  cases hm : c.may with
  | true =>
    rw [hm, Bool.true_and] at hr
    have HR := Lib.hid hr
    have HN60 := (Rx.of hm hL).n60
    have KL := Lib.hid (fun w0 h0 => plook_yes c q w0 hL h0 hm)
    have KA := Lib.hid (fun p w0 h0 a b => ahead_any c p w0 h0 (may_kind hm) a b)
    have KF := Lib.hid (fun p w0 h0 a b => first_any c p w0 h0 (Rx.of hm hL) (may_kind hm) a b)
    clear h hm hL hr
    obtain ⟨u0, u1, u2, u3⟩ := S0.out.box.facts
    go_enter Tryd.func9, Tryd.ntmps9
    go_upto_region 5 with (go_at_call 12; (with_reducible refine (KL.out _ S0.out.at_).mono ?_); rintro e' w1 ⟨p, rfl, hv, hb1⟩; have V1 := Lib.hid hv; have L1 := Lib.hid (S0.out.below.trans (hb1.mono S0.out.below.size)); obtain ⟨b0, b1, b2⟩ := hv.three; clear hv hb1 u0 u1 u2 u3)
    go_wp2
    clear b0 b1 b2
    go_loopw [5, 19] (fun vl vi wr => ∃ (last : Int) (n : Nat), vl = .int .i64 last ∧ vi = .int .i64 (n : Int) ∧ n ≤ c.N ∧ Hid (fullG c (c.N - n) last n = r) ∧ Hid (Vw c (finK c) p wr) ∧ Hid (Below w.heap.size w wr)) (fun _ vi _ => c.N - (intOf vi).toNat)
    case atStart => exact ⟨-1, 0, rfl, rfl, by omega, HR, V1, L1⟩
    case round =>
      obtain ⟨last, n, rfl, rfl, hn, HG, V2, L2⟩ := hrel
      by_cases hlt : n < c.N
      · have d1 : decide (n < c.N) = true := by simpa using hlt
        have d2 : IntKind.i64.wrap ((n : Int) + 1) = ((n + 1 : Nat) : Int) := by rw [IntWalk.i64_in _ (by omega)]; omega
        have HG2 : Hid ((if (aheadP c last n && decide (ruleL c last n = 0)) = true then false else fullG c (c.N - (n + 1)) (if sideE (c.at n).1 ≠ 0 then (n : Int) else last) (n + 1)) = r) := Lib.hid (by
          rw [← HG.out, show c.N - n = (c.N - (n + 1)) + 1 by omega]; rfl)
        obtain ⟨m, hmE⟩ : ∃ m, decide (sideE (c.at n).1 ≠ 0) = m := ⟨_, rfl⟩
        have KM := Lib.hid (fun w0 h0 => memory_v c (finK c) p w0 h0 n hlt (finK_side c n hlt) m hmE)
        have HME := Lib.hid hmE
        clear hmE
        cases hah : aheadP c last n with
        | false =>
          have KA1 := Lib.hid (KA.out p wr V2.out last n false hah)
          have HG3 : Hid (fullG c (c.N - (n + 1)) (if sideE (c.at n).1 ≠ 0 then (n : Int) else last) (n + 1) = r) := Lib.hid (by have := HG2.out; rw [hah] at this; simpa using this)
          clear hah
          cases m with
          | true =>
            have HG4 : Hid (fullG c (c.N - (n + 1)) (n : Int) (n + 1) = r) := Lib.hid (by have := HG3.out; rw [if_pos (by simpa using HME.out)] at this; exact this)
            go_wp2_with (first
              | (go_at_call 15; (with_reducible refine (KA1.out).mono ?_); rintro e' w3 ⟨rfl, hb3⟩; have V3 := Lib.hid (V2.out.on hb3); have L3 := Lib.hid (L2.out.trans (hb3.mono L2.out.size)); clear hb3)
              | (go_at_call 16; (with_reducible refine (KM.out _ V3.out).mono ?_); rintro e' w4 ⟨rfl, hb4⟩; have V4 := Lib.hid (V3.out.on hb4); have L4 := Lib.hid (L3.out.trans (hb4.mono L3.out.size)); clear hb4))
            go_roundw
            case rel => exact ⟨_, n + 1, rfl, by first | rfl | simp, by omega, HG4, V4, L4⟩
            case measure => simp [intOf]; omega
          | false =>
            have HG4 : Hid (fullG c (c.N - (n + 1)) last (n + 1) = r) := Lib.hid (by have := HG3.out; rw [if_neg (by simpa using HME.out)] at this; exact this)
            go_wp2_with (first
              | (go_at_call 15; (with_reducible refine (KA1.out).mono ?_); rintro e' w3 ⟨rfl, hb3⟩; have V3 := Lib.hid (V2.out.on hb3); have L3 := Lib.hid (L2.out.trans (hb3.mono L2.out.size)); clear hb3)
              | (go_at_call 16; (with_reducible refine (KM.out _ V3.out).mono ?_); rintro e' w4 ⟨rfl, hb4⟩; have V4 := Lib.hid (V3.out.on hb4); have L4 := Lib.hid (L3.out.trans (hb4.mono L3.out.size)); clear hb4))
            go_roundw
            case rel => exact ⟨_, n + 1, rfl, by first | rfl | simp, by omega, HG4, V4, L4⟩
            case measure => simp [intOf]; omega
        | true =>
          have KA1 := Lib.hid (KA.out p wr V2.out last n true hah)
          obtain ⟨x, hx⟩ : ∃ x, ruleL c last n = x := ⟨_, rfl⟩
          have KF1 := Lib.hid (fun w0 h0 => KF.out p w0 h0 last n)
          rw [hx] at KF1
          by_cases hx0 : x = 0
          · have HG3 : Hid (r = false) := Lib.hid (by have := HG2.out; rw [hah, hx, hx0] at this; simpa using this.symm)
            have d3 : ((x : Int) == 0) = true := by simp [hx0]
            clear hah hx hx0
            go_wp2_with (first
              | (go_at_call 15; (with_reducible refine (KA1.out).mono ?_); rintro e' w3 ⟨rfl, hb3⟩; have V3 := Lib.hid (V2.out.on hb3); have L3 := Lib.hid (L2.out.trans (hb3.mono L2.out.size)); clear hb3)
              | (go_at_call 14; (with_reducible refine (KF1.out _ V3.out).mono ?_); rintro e' w4 ⟨rfl, hb4⟩; have L4 := Lib.hid (L3.out.trans (hb4.mono L3.out.size)); clear hb4))
            go_ret
            exact ⟨by rw [HG3.out]; rfl, L4.out⟩
          · have HG3 : Hid (fullG c (c.N - (n + 1)) (if sideE (c.at n).1 ≠ 0 then (n : Int) else last) (n + 1) = r) := Lib.hid (by have := HG2.out; rw [hah, hx] at this; simpa [hx0] using this)
            have d3 : ((x : Int) == 0) = false := by simp; omega
            clear hah hx hx0
            cases m with
            | true =>
              have HG4 : Hid (fullG c (c.N - (n + 1)) (n : Int) (n + 1) = r) := Lib.hid (by have := HG3.out; rw [if_pos (by simpa using HME.out)] at this; exact this)
              go_wp2_with (first
                | (go_at_call 15; (with_reducible refine (KA1.out).mono ?_); rintro e' w3 ⟨rfl, hb3⟩; have V3 := Lib.hid (V2.out.on hb3); have L3 := Lib.hid (L2.out.trans (hb3.mono L2.out.size)); clear hb3)
                | (go_at_call 14; (with_reducible refine (KF1.out _ V3.out).mono ?_); rintro e' w4 ⟨rfl, hb4⟩; have V4 := Lib.hid (V3.out.on hb4); have L4 := Lib.hid (L3.out.trans (hb4.mono L3.out.size)); clear hb4)
                | (go_at_call 16; (with_reducible refine (KM.out _ V4.out).mono ?_); rintro e' w5 ⟨rfl, hb5⟩; have V5 := Lib.hid (V4.out.on hb5); have L5 := Lib.hid (L4.out.trans (hb5.mono L4.out.size)); clear hb5))
              go_roundw
              case rel => exact ⟨_, n + 1, rfl, by first | rfl | simp, by omega, HG4, V5, L5⟩
              case measure => simp [intOf]; omega
            | false =>
              have HG4 : Hid (fullG c (c.N - (n + 1)) last (n + 1) = r) := Lib.hid (by have := HG3.out; rw [if_neg (by simpa using HME.out)] at this; exact this)
              go_wp2_with (first
                | (go_at_call 15; (with_reducible refine (KA1.out).mono ?_); rintro e' w3 ⟨rfl, hb3⟩; have V3 := Lib.hid (V2.out.on hb3); have L3 := Lib.hid (L2.out.trans (hb3.mono L2.out.size)); clear hb3)
                | (go_at_call 14; (with_reducible refine (KF1.out _ V3.out).mono ?_); rintro e' w4 ⟨rfl, hb4⟩; have V4 := Lib.hid (V3.out.on hb4); have L4 := Lib.hid (L3.out.trans (hb4.mono L3.out.size)); clear hb4)
                | (go_at_call 16; (with_reducible refine (KM.out _ V4.out).mono ?_); rintro e' w5 ⟨rfl, hb5⟩; have V5 := Lib.hid (V4.out.on hb5); have L5 := Lib.hid (L4.out.trans (hb5.mono L4.out.size)); clear hb5))
              go_roundw
              case rel => exact ⟨_, n + 1, rfl, by first | rfl | simp, by omega, HG4, V5, L5⟩
              case measure => simp [intOf]; omega
      · have d1 : decide (n < c.N) = false := by simpa using hlt
        have HG3 : Hid (r = true) := Lib.hid (by have := HG.out; rw [show c.N - n = 0 by omega] at this; exact this.symm)
        go_wp2
        go_ret
        exact ⟨by rw [HG3.out]; rfl, L2.out⟩
  | false =>
    rw [hm, Bool.false_and] at hr
    subst hr
    have KL := Lib.hid (fun w0 h0 => plook_no c q w0 hL h0 hm)
    clear h hm hL
    obtain ⟨u0, u1, u2, u3⟩ := S0.out.box.facts
    go_enter Tryd.func9, Tryd.ntmps9
    go_wp2_with (go_at_call 12; (with_reducible refine (KL.out _ S0.out.at_).mono ?_); rintro e' w1 ⟨g, rfl, hv, hb1⟩; have V1 := Lib.hid hv; have L1 := Lib.hid (S0.out.below.trans (hb1.mono S0.out.below.size)); clear hv hb1 u0 u1 u2 u3)
    go_ret
    exact ⟨rfl, L1.out⟩
end Go.Proofs.YtmdjkeplfdkoeaaDoor
