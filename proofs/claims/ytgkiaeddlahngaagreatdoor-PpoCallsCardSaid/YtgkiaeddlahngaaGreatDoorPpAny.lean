/-
  Proved here: ppo's ahead, first and Rule of any two ints, of any light candidate, may it be or not; nothing that was there is changed. Condition: a light candidate.
  (With it: Proved here: ppo's Rule answers the first rule of two numbers of which the first stands ahead; nothing that was there is changed. Condition: a light candidate that may be.)
-/
import Derived.Test.YtgkiaeddlahngaaGreatDoorPpFirst
namespace Go.Proofs.YtgkiaeddlahngaaGreatDoor
set_option linter.unusedVariables false
set_option linter.unusedSimpArgs false
open Go.RowKit Go.Maps
attribute [local go_sem ↓] fold_E fold_SE

theorem may_kind {c : Cd} (hm : c.may = true) : ∀ n, n < c.N → 1 ≤ (c.at n).1.kind ∧ (c.at n).1.kind ≤ 6 := fun n hn => by
  obtain ⟨_, _, _, _, _, _, _, _, hk⟩ := may_num hm n hn
  exact chk_kind hk
set_option maxRecDepth 100000 in
set_option maxHeartbeats 4000000 in
theorem Rule_ahead (c : Cd) (q : Cv) (w : World) (hL : Lt c) (h : CAt c q w) (hm : c.may = true) (a b : Nat) (ha : a < c.N) (hb : b < c.N) (hah : aheadP c a b = true) : Calls Tryz.prog 14 #[cdV c q, .int .i64 (a : Int), .int .i64 (b : Int)] w fun e w' => FirstIs w (firstL c a b) e w' := by
  have KL := Lib.hid (fun w0 h0 => plook_yes c q w0 hL h0 hm)
  have KF := Lib.hid (fun p w0 h0 => first_ahead c p w0 h0 (Rx.of hm hL) (may_kind hm) a b ha hb hah)
  have S0 := Lib.hid (Lk.start h)
  clear h hm hL hah ha hb
  obtain ⟨u0, u1, u2, u3⟩ := S0.out.box.facts
  go_enter Tryz.func14, Tryz.ntmps14
  go_wp2_with (first
    | (go_at_call 35; (with_reducible refine (KL.out _ S0.out.at_).mono ?_); rintro e' w1 ⟨p, rfl, hv, hb1⟩; have V1 := Lib.hid hv; have L1 := Lib.hid (S0.out.below.trans (hb1.mono S0.out.below.size)); clear hv hb1 u0 u1 u2 u3)
    | (go_at_call 37; (with_reducible refine (KF.out p _ V1.out).mono ?_); rintro e' w2 ⟨rfl, hb2⟩; have L2 := Lib.hid (L1.out.trans (hb2.mono L1.out.size)); clear hb2))
  go_ret
  exact ⟨rfl, L2.out⟩
end Go.Proofs.YtgkiaeddlahngaaGreatDoor
namespace Go.Proofs.YtgkiaeddlahngaaGreatDoor
set_option linter.unusedVariables false
set_option linter.unusedSimpArgs false
open Go.RowKit Go.Maps
attribute [local go_sem ↓] fold_E fold_SE

theorem aheadP_in {c : Cd} {a b : Int} (h : aheadP c a b = true) : 0 ≤ a ∧ a < b ∧ b < (c.N : Int) := by
  unfold aheadP at h
  simp only [Bool.and_eq_true, decide_eq_true_eq] at h
  exact ⟨h.1, h.2.1, h.2.2.1⟩
theorem aheadP_out {c : Cd} {a b : Int} (h : ¬ (0 ≤ a ∧ a < b ∧ b < (c.N : Int))) : aheadP c a b = false := by
  cases hr : aheadP c a b with
  | false => rfl
  | true => exact absurd (aheadP_in hr) h
set_option maxRecDepth 100000 in
set_option maxHeartbeats 4000000 in
theorem ahead_any (c : Cd) (p : Vp) (w : World) (h : Vw c (finK c) p w) (hk : ∀ n, n < c.N → 1 ≤ (c.at n).1.kind ∧ (c.at n).1.kind ≤ 6) (a b : Int) (r : Bool) (hr : aheadP c a b = r) : Calls Tryz.prog 41 #[.pointer (some ⟨p.g, 0, none⟩), .int .i64 a, .int .i64 b] w fun e w' => SaysB w r e w' := by
  by_cases h1 : 0 ≤ a ∧ a < b ∧ b < (c.N : Int)
  · obtain ⟨x, rfl⟩ : ∃ x : Nat, a = x := ⟨a.toNat, by omega⟩
    obtain ⟨y, rfl⟩ : ∃ y : Nat, b = y := ⟨b.toNat, by omega⟩
    exact ahead_v c p w h hk x y (by omega) (by omega) r hr
  · have hf := aheadP_out h1
    rw [hr] at hf
    subst hf
    have hN := h.three.1
    clear hr hk h
    by_cases h2 : 0 ≤ a
    · have d1 : decide (0 ≤ a) = true := by simpa using h2
      by_cases h3 : a < b
      · have d2 : decide (a < b) = true := by simpa using h3
        have d3 : decide (b < (c.N : Int)) = false := by simp; omega
        clear h1 h2 h3
        go_enter Tryz.func41, Tryz.ntmps41
        go_wp2
        go_ret
        exact ⟨rfl, Below.refl _ _⟩
      · have d2 : decide (a < b) = false := by simpa using h3
        clear h1 h2 h3
        go_enter Tryz.func41, Tryz.ntmps41
        go_wp2
        go_ret
        exact ⟨rfl, Below.refl _ _⟩
    · have d1 : decide (0 ≤ a) = false := by simpa using h2
      clear h1 h2
      go_enter Tryz.func41, Tryz.ntmps41
      go_wp2
      go_ret
      exact ⟨rfl, Below.refl _ _⟩
set_option maxRecDepth 100000 in
set_option maxHeartbeats 4000000 in
theorem first_any (c : Cd) (p : Vp) (w : World) (h : Vw c (finK c) p w) (hx : Rx c) (hk : ∀ n, n < c.N → 1 ≤ (c.at n).1.kind ∧ (c.at n).1.kind ≤ 6) (a b : Int) : Calls Tryz.prog 37 #[.pointer (some ⟨p.g, 0, none⟩), .int .i64 a, .int .i64 b] w fun e w' => FirstIs w (ruleL c a b) e w' := by
  cases hah : aheadP c a b with
  | true =>
    obtain ⟨h0, h1, h2⟩ := aheadP_in hah
    obtain ⟨x, rfl⟩ : ∃ x : Nat, a = x := ⟨a.toNat, by omega⟩
    obtain ⟨y, rfl⟩ : ∃ y : Nat, b = y := ⟨b.toNat, by omega⟩
    have hz : ruleL c x y = firstL c x y := by unfold ruleL; rw [hah, if_pos rfl, Int.toNat_natCast, Int.toNat_natCast]
    rw [hz]
    exact first_ahead c p w h hx hk x y (by omega) (by omega) hah
  | false =>
    have hz : Hid (ruleL c a b = 0) := Lib.hid (by unfold ruleL; rw [hah]; rfl)
    have V0 := Lib.hid h
    have KA := Lib.hid (fun w0 h0 => ahead_any c p w0 h0 hk a b false hah)
    clear h hx hk hah
    go_enter Tryz.func37, Tryz.ntmps37
    go_wp2_with (go_at_call 41; (with_reducible refine (KA.out _ V0.out).mono ?_); rintro e' w1 ⟨rfl, hb1⟩; have L1 := Lib.hid hb1; clear hb1)
    go_ret
    exact FirstIs.mk (m := 0) hz.out L1.out
/-- a view of none -/
def Ve (g : Nat) (w : World) : Prop := w.heap[g]? = some (.cells #[.slice none 0 0, .slice none 0 0, .slice none 0 0] 67 (0, 0))
theorem Ve.lt {g : Nat} {w : World} (h : Ve g w) : g < w.heap.size := (Array.getElem?_eq_some_iff.1 h).1
theorem Ve.on {g : Nat} {w w' : World} (h : Ve g w) (hb : Below w.heap.size w w') : Ve g w' := (hb.block g h.lt).trans h
theorem Ve.all {g : Nat} {w : World} (h : Ve g w) : w.cell? ⟨g, 0, none⟩ = some (.slice none 0 0) := by rw [cell_of_row w g 0 _ _ _ h]; rfl
set_option maxRecDepth 100000 in
theorem ahead_none (g : Nat) (w : World) (h : Ve g w) (a b : Int) : Calls Tryz.prog 41 #[.pointer (some ⟨g, 0, none⟩), .int .i64 a, .int .i64 b] w fun e w' => SaysB w false e w' := by
  have hN := h.all
  by_cases h2 : 0 ≤ a
  · have d1 : decide (0 ≤ a) = true := by simpa using h2
    by_cases h3 : a < b
    · have d2 : decide (a < b) = true := by simpa using h3
      have d3 : decide (b < (0 : Int)) = false := by simp; omega
      clear h2 h3
      go_enter Tryz.func41, Tryz.ntmps41
      go_wp2
      go_ret
      exact ⟨rfl, Below.refl _ _⟩
    · have d2 : decide (a < b) = false := by simpa using h3
      clear h2 h3
      go_enter Tryz.func41, Tryz.ntmps41
      go_wp2
      go_ret
      exact ⟨rfl, Below.refl _ _⟩
  · have d1 : decide (0 ≤ a) = false := by simpa using h2
    clear h2
    go_enter Tryz.func41, Tryz.ntmps41
    go_wp2
    go_ret
    exact ⟨rfl, Below.refl _ _⟩
theorem first_none (g : Nat) (w : World) (h : Ve g w) (a b : Int) : Calls Tryz.prog 37 #[.pointer (some ⟨g, 0, none⟩), .int .i64 a, .int .i64 b] w fun e w' => FirstIs w 0 e w' := by
  have KA := Lib.hid (ahead_none g w h a b)
  clear h
  go_enter Tryz.func37, Tryz.ntmps37
  go_wp2_with (go_at_call 41; (with_reducible refine (KA.out).mono ?_); rintro e' w1 ⟨rfl, hb1⟩; have L1 := Lib.hid hb1; clear hb1)
  go_ret
  exact FirstIs.mk (m := 0) rfl L1.out
def PLookNo (w : World) (e : Ending) (w' : World) : Prop := ∃ g, e = .returned (.tuple #[.pointer (some ⟨g, 0, none⟩), .bool false]) ∧ Ve g w' ∧ Below w.heap.size w w'
set_option maxRecDepth 100000 in
set_option maxHeartbeats 4000000 in
theorem plook_no (c : Cd) (q : Cv) (w : World) (hL : Lt c) (h : CAt c q w) (hm : c.may = false) : Calls Tryz.prog 35 #[cdV c q] w fun e w' => PLookNo w e w' := by
  have KC := Lib.hid (fun w0 h0 => check_c c q w0 hL h0 false hm)
  have S0 := Lib.hid (Lk.start h)
  clear h hL hm
  obtain ⟨u0, u1, u2, u3⟩ := S0.out.box.facts
  go_enter Tryz.func35, Tryz.ntmps35
  go_wp2_with (go_at_call 54; (with_reducible refine (KC.out _ S0.out.at_).mono ?_); rintro e' w1 ⟨rfl, hb⟩; have S1 := Lib.hid (S0.out.on hb); clear hb u0 u1 u2 u3)
  exact bodyPost_ret (v := .tuple #[.pointer (some ⟨w1.heap.size, 0, none⟩), .bool false]) (by simp [results, Tryz.results35]) rfl ⟨w1.heap.size, rfl, Array.getElem?_push_size, S1.out.below.trans ((box_below w1 _).mono S1.out.below.size)⟩
/-- what Rule answers -/
def ruleW (c : Cd) (a b : Int) : Nat := if c.may then ruleL c a b else 0
set_option maxRecDepth 100000 in
set_option maxHeartbeats 4000000 in
theorem Rule_any (c : Cd) (q : Cv) (w : World) (hL : Lt c) (h : CAt c q w) (a b : Int) : Calls Tryz.prog 14 #[cdV c q, .int .i64 a, .int .i64 b] w fun e w' => FirstIs w (ruleW c a b) e w' := by
  have S0 := Lib.hid (Lk.start h)
  cases hm : c.may with
  | true =>
    have hz : Hid (ruleW c a b = ruleL c a b) := Lib.hid (by unfold ruleW; rw [hm]; rfl)
    have KL := Lib.hid (fun w0 h0 => plook_yes c q w0 hL h0 hm)
    have KF := Lib.hid (fun p w0 h0 => first_any c p w0 h0 (Rx.of hm hL) (may_kind hm) a b)
    clear h hm hL
    obtain ⟨u0, u1, u2, u3⟩ := S0.out.box.facts
    go_enter Tryz.func14, Tryz.ntmps14
    go_wp2_with (first
      | (go_at_call 35; (with_reducible refine (KL.out _ S0.out.at_).mono ?_); rintro e' w1 ⟨p, rfl, hv, hb1⟩; have V1 := Lib.hid hv; have L1 := Lib.hid (S0.out.below.trans (hb1.mono S0.out.below.size)); clear hv hb1 u0 u1 u2 u3)
      | (go_at_call 37; (with_reducible refine (KF.out p _ V1.out).mono ?_); rintro e' w2 ⟨rfl, hb2⟩; have L2 := Lib.hid (L1.out.trans (hb2.mono L1.out.size)); clear hb2))
    go_ret
    exact FirstIs.mk hz.out L2.out
  | false =>
    have hz : Hid (ruleW c a b = 0) := Lib.hid (by unfold ruleW; rw [hm]; rfl)
    have KL := Lib.hid (fun w0 h0 => plook_no c q w0 hL h0 hm)
    clear h hm hL
    obtain ⟨u0, u1, u2, u3⟩ := S0.out.box.facts
    go_enter Tryz.func14, Tryz.ntmps14
    go_wp2_with (first
      | (go_at_call 35; (with_reducible refine (KL.out _ S0.out.at_).mono ?_); rintro e' w1 ⟨g, rfl, hv, hb1⟩; have V1 := Lib.hid hv; have L1 := Lib.hid (S0.out.below.trans (hb1.mono S0.out.below.size)); clear hv hb1 u0 u1 u2 u3)
      | (go_at_call 37; (with_reducible refine (first_none g _ V1.out a b).mono ?_); rintro e' w2 ⟨rfl, hb2⟩; have L2 := Lib.hid (L1.out.trans (hb2.mono L1.out.size)); clear hb2))
    go_ret
    exact FirstIs.mk (m := 0) hz.out L2.out
end Go.Proofs.YtgkiaeddlahngaaGreatDoor
