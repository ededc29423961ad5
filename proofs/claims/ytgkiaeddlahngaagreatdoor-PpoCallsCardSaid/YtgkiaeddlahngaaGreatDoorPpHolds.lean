/-
  Proved here: ppo's Holds tells of any ints whether that rule holds, of any light candidate; nothing that was there is changed. Condition: a light candidate.
-/
import Derived.Test.YtgkiaeddlahngaaGreatDoorPpReach
namespace Go.Proofs.YtgkiaeddlahngaaGreatDoor
set_option linter.unusedVariables false
set_option linter.unusedSimpArgs false
open Go.RowKit Go.Maps
/-- the store of the whole list of rules: folded -/
def StoreR (x y : Value) : Sem Unit := Instr.storeAt 75 x y
theorem fold_SR (x y : Value) : Instr.storeAt 75 x y = StoreR x y := rfl
attribute [local go_sem ↓] fold_E fold_SE fold_SR
theorem store_tab (w : World) : ∃ W3, (StoreR (.pointer (some ⟨w.heap.size, 0, none⟩)) tabV).run Tryz.prog (w.alloc (.cells #[.nilFunc, .nilFunc, .nilFunc, .nilFunc, .nilFunc, .nilFunc, .nilFunc, .nilFunc, .nilFunc, .nilFunc, .nilFunc, .nilFunc, .nilFunc] 75)) = .ok () W3 ∧ W3.heap[w.heap.size]? = some (.cells tabR 75 (0, 0)) ∧ Below w.heap.size w W3 := by
  have hn : (w.alloc (.cells #[.nilFunc, .nilFunc, .nilFunc, .nilFunc, .nilFunc, .nilFunc, .nilFunc, .nilFunc, .nilFunc, .nilFunc, .nilFunc, .nilFunc, .nilFunc] 75)).heap[w.heap.size]? = some (.cells #[.nilFunc, .nilFunc, .nilFunc, .nilFunc, .nilFunc, .nilFunc, .nilFunc, .nilFunc, .nilFunc, .nilFunc, .nilFunc, .nilFunc, .nilFunc] 75 (0, 0)) := Array.getElem?_push_size
  refine ⟨(w.alloc (.cells #[.nilFunc, .nilFunc, .nilFunc, .nilFunc, .nilFunc, .nilFunc, .nilFunc, .nilFunc, .nilFunc, .nilFunc, .nilFunc, .nilFunc, .nilFunc] 75)).setRow w.heap.size tabR, ?_, setRow_heap _ _ _ _ _ _ hn, ?_⟩
  · unfold StoreR Instr.storeAt Instr.sureAddr tabV
    simp only [Sem.run_bind, Sem.run_pure, Result.andThen_ok]
    exact run_storeVar_row _ w.heap.size _ _ _ _ hn (by as_aux_lemma => kernel_rfl) rfl (by simp [tabR, Value.oneCell'])
  · exact (box_below w _).trans below_setRow

/-- what Holds answers -/
def holdsW (c : Cd) (a b rule : Int) : Bool := c.may && (decide (1 ≤ rule) && (decide (rule ≤ 13) && (aheadP c a b && ruleB c a.toNat b.toNat (rule.toNat - 1))))
set_option maxRecDepth 100000 in
set_option maxHeartbeats 8000000 in
theorem Holds_out (c : Cd) (q : Cv) (w : World) (hL : Lt c) (h : CAt c q w) (a b rule : Int) (hr : rule < 1 ∨ 13 < rule) : Calls Tryz.prog 16 #[cdV c q, .int .i64 a, .int .i64 b, .int .i64 rule] w fun e w' => SaysB w false e w' := by
  have S0 := Lib.hid (Lk.start h)
  have KY := Lib.hid (fun hm w0 h0 => plook_yes c q w0 hL h0 hm)
  have KN := Lib.hid (fun hm w0 h0 => plook_no c q w0 hL h0 hm)
  obtain ⟨m, hm⟩ : ∃ m, Hid (c.may = m) := ⟨_, Lib.hid rfl⟩
  clear h hL
  obtain ⟨u0, u1, u2, u3⟩ := S0.out.box.facts
  by_cases h1 : rule < 1
  · have d1 : decide (1 ≤ rule) = false := by simp; omega
    clear hr h1
    cases m with
    | true =>
      have KL := Lib.hid (fun w0 h0 => KY.out hm.out w0 h0)
      go_enter Tryz.func16, Tryz.ntmps16
      go_wp2_with (first | (go_at_call 35; (with_reducible refine (KL.out _ S0.out.at_).mono ?_); rintro e' w1 ⟨p, rfl, hv, hb1⟩; have V1 := Lib.hid hv; have L1 := Lib.hid (S0.out.below.trans (hb1.mono S0.out.below.size)); clear hv hb1 u0 u1 u2 u3) | (go_at_call 40; (with_reducible refine (rules_any _).mono ?_); rintro e' w2 ⟨rfl, hb2⟩; obtain ⟨W3, hst, hrow, hbw⟩ := store_tab w2; have V2 := Lib.hid ((V1.out.on hb2).on hbw); have L1b := L1.out.trans (hb2.mono L1.out.size); have L2 := Lib.hid (L1b.trans (hbw.mono L1b.size)); have R2 := Lib.hid hrow; clear hb2 hbw hrow L1b))
      go_ret
      exact ⟨rfl, L2.out⟩
    | false =>
      have KL := Lib.hid (fun w0 h0 => KN.out hm.out w0 h0)
      go_enter Tryz.func16, Tryz.ntmps16
      go_wp2_with (first | (go_at_call 35; (with_reducible refine (KL.out _ S0.out.at_).mono ?_); rintro e' w1 ⟨g, rfl, hv, hb1⟩; have V1 := Lib.hid hv; have L1 := Lib.hid (S0.out.below.trans (hb1.mono S0.out.below.size)); clear hv hb1 u0 u1 u2 u3) | (go_at_call 40; (with_reducible refine (rules_any _).mono ?_); rintro e' w2 ⟨rfl, hb2⟩; obtain ⟨W3, hst, hrow, hbw⟩ := store_tab w2; have V2 := Lib.hid ((V1.out.on hb2).on hbw); have L1b := L1.out.trans (hb2.mono L1.out.size); have L2 := Lib.hid (L1b.trans (hbw.mono L1b.size)); have R2 := Lib.hid hrow; clear hb2 hbw hrow L1b))
      go_ret
      exact ⟨rfl, L2.out⟩
  · have d1 : decide (1 ≤ rule) = true := by simp; omega
    have d2 : decide (rule ≤ 13) = false := by simp; omega
    clear hr h1
    cases m with
    | true =>
      have KL := Lib.hid (fun w0 h0 => KY.out hm.out w0 h0)
      go_enter Tryz.func16, Tryz.ntmps16
      go_wp2_with (first | (go_at_call 35; (with_reducible refine (KL.out _ S0.out.at_).mono ?_); rintro e' w1 ⟨p, rfl, hv, hb1⟩; have V1 := Lib.hid hv; have L1 := Lib.hid (S0.out.below.trans (hb1.mono S0.out.below.size)); clear hv hb1 u0 u1 u2 u3) | (go_at_call 40; (with_reducible refine (rules_any _).mono ?_); rintro e' w2 ⟨rfl, hb2⟩; obtain ⟨W3, hst, hrow, hbw⟩ := store_tab w2; have V2 := Lib.hid ((V1.out.on hb2).on hbw); have L1b := L1.out.trans (hb2.mono L1.out.size); have L2 := Lib.hid (L1b.trans (hbw.mono L1b.size)); have R2 := Lib.hid hrow; clear hb2 hbw hrow L1b))
      go_ret
      exact ⟨rfl, L2.out⟩
    | false =>
      have KL := Lib.hid (fun w0 h0 => KN.out hm.out w0 h0)
      go_enter Tryz.func16, Tryz.ntmps16
      go_wp2_with (first | (go_at_call 35; (with_reducible refine (KL.out _ S0.out.at_).mono ?_); rintro e' w1 ⟨g, rfl, hv, hb1⟩; have V1 := Lib.hid hv; have L1 := Lib.hid (S0.out.below.trans (hb1.mono S0.out.below.size)); clear hv hb1 u0 u1 u2 u3) | (go_at_call 40; (with_reducible refine (rules_any _).mono ?_); rintro e' w2 ⟨rfl, hb2⟩; obtain ⟨W3, hst, hrow, hbw⟩ := store_tab w2; have V2 := Lib.hid ((V1.out.on hb2).on hbw); have L1b := L1.out.trans (hb2.mono L1.out.size); have L2 := Lib.hid (L1b.trans (hbw.mono L1b.size)); have R2 := Lib.hid hrow; clear hb2 hbw hrow L1b))
      go_ret
      exact ⟨rfl, L2.out⟩
set_option maxRecDepth 100000 in
set_option maxHeartbeats 8000000 in
theorem Holds_not (c : Cd) (q : Cv) (w : World) (hL : Lt c) (h : CAt c q w) (a b rule : Int) (h1 : 1 ≤ rule) (h2 : rule ≤ 13) (hm : c.may = true → aheadP c a b = false) : Calls Tryz.prog 16 #[cdV c q, .int .i64 a, .int .i64 b, .int .i64 rule] w fun e w' => SaysB w false e w' := by
  have S0 := Lib.hid (Lk.start h)
  have d1 : decide (1 ≤ rule) = true := by simpa using h1
  have d2 : decide (rule ≤ 13) = true := by simpa using h2
  cases hc : c.may with
  | true =>
    have KL := Lib.hid (fun w0 h0 => plook_yes c q w0 hL h0 hc)
    have KA := Lib.hid (fun p w0 h0 => ahead_any c p w0 h0 (may_kind hc) a b false (hm hc))
    clear h hL hm hc h1 h2
    obtain ⟨u0, u1, u2, u3⟩ := S0.out.box.facts
    go_enter Tryz.func16, Tryz.ntmps16
    go_wp2_with (first | (go_at_call 35; (with_reducible refine (KL.out _ S0.out.at_).mono ?_); rintro e' w1 ⟨p, rfl, hv, hb1⟩; have V1 := Lib.hid hv; have L1 := Lib.hid (S0.out.below.trans (hb1.mono S0.out.below.size)); clear hv hb1 u0 u1 u2 u3) | (go_at_call 40; (with_reducible refine (rules_any _).mono ?_); rintro e' w2 ⟨rfl, hb2⟩; obtain ⟨W3, hst, hrow, hbw⟩ := store_tab w2; have V2 := Lib.hid ((V1.out.on hb2).on hbw); have L1b := L1.out.trans (hb2.mono L1.out.size); have L2 := Lib.hid (L1b.trans (hbw.mono L1b.size)); have R2 := Lib.hid hrow; clear hb2 hbw hrow L1b) | (go_at_call 41; (with_reducible refine (KA.out p _ V2.out).mono ?_); rintro e' w3 ⟨rfl, hb3⟩; have V3 := Lib.hid (V2.out.on hb3); have L3 := Lib.hid (L2.out.trans (hb3.mono L2.out.size)); clear hb3))
    go_ret
    exact ⟨rfl, L3.out⟩
  | false =>
    have KL := Lib.hid (fun w0 h0 => plook_no c q w0 hL h0 hc)
    clear h hL hm hc h1 h2
    obtain ⟨u0, u1, u2, u3⟩ := S0.out.box.facts
    go_enter Tryz.func16, Tryz.ntmps16
    go_wp2_with (first | (go_at_call 35; (with_reducible refine (KL.out _ S0.out.at_).mono ?_); rintro e' w1 ⟨g, rfl, hv, hb1⟩; have V1 := Lib.hid hv; have L1 := Lib.hid (S0.out.below.trans (hb1.mono S0.out.below.size)); clear hv hb1 u0 u1 u2 u3) | (go_at_call 40; (with_reducible refine (rules_any _).mono ?_); rintro e' w2 ⟨rfl, hb2⟩; obtain ⟨W3, hst, hrow, hbw⟩ := store_tab w2; have V2 := Lib.hid ((V1.out.on hb2).on hbw); have L1b := L1.out.trans (hb2.mono L1.out.size); have L2 := Lib.hid (L1b.trans (hbw.mono L1b.size)); have R2 := Lib.hid hrow; clear hb2 hbw hrow L1b) | (go_at_call 41; (with_reducible refine (ahead_none g _ V2.out a b).mono ?_); rintro e' w3 ⟨rfl, hb3⟩; have L3 := Lib.hid (L2.out.trans (hb3.mono L2.out.size)); clear hb3))
    go_ret
    exact ⟨rfl, L3.out⟩
set_option maxRecDepth 100000 in
set_option maxHeartbeats 8000000 in
theorem Holds_0 (c : Cd) (q : Cv) (w : World) (hL : Lt c) (h : CAt c q w) (hm : c.may = true) (a b : Nat) (ha : a < c.N) (hb : b < c.N) (hah : aheadP c a b = true) (r : Bool) (hr : ruleB c a b 0 = r) : Calls Tryz.prog 16 #[cdV c q, .int .i64 (a : Int), .int .i64 (b : Int), .int .i64 1] w fun e w' => SaysB w r e w' := by
  have S0 := Lib.hid (Lk.start h)
  have KL := Lib.hid (fun w0 h0 => plook_yes c q w0 hL h0 hm)
  have KA := Lib.hid (fun p w0 h0 => ahead_any c p w0 h0 (may_kind hm) (a : Int) (b : Int) true hah)
  have KR := Lib.hid (fun p w0 h0 => rule_0 c p w0 h0 (Rx.of hm hL) a b ha hb r hr)
  clear h hL hm hah hr ha hb
  obtain ⟨u0, u1, u2, u3⟩ := S0.out.box.facts
  go_enter Tryz.func16, Tryz.ntmps16
  go_wp2_with (first | (go_at_call 35; (with_reducible refine (KL.out _ S0.out.at_).mono ?_); rintro e' w1 ⟨p, rfl, hv, hb1⟩; have V1 := Lib.hid hv; have L1 := Lib.hid (S0.out.below.trans (hb1.mono S0.out.below.size)); clear hv hb1 u0 u1 u2 u3) | (go_at_call 40; (with_reducible refine (rules_any _).mono ?_); rintro e' w2 ⟨rfl, hb2⟩; obtain ⟨W3, hst, hrow, hbw⟩ := store_tab w2; have V2 := Lib.hid ((V1.out.on hb2).on hbw); have L1b := L1.out.trans (hb2.mono L1.out.size); have L2 := Lib.hid (L1b.trans (hbw.mono L1b.size)); have R2 := Lib.hid hrow; clear hb2 hbw hrow L1b) | (go_at_call 41; (with_reducible refine (KA.out p _ V2.out).mono ?_); rintro e' w3 ⟨rfl, hb3⟩; have V3 := Lib.hid (V2.out.on hb3); have L3 := Lib.hid (L2.out.trans (hb3.mono L2.out.size)); have hcell : w3.cell? ⟨w2.heap.size, 0, none⟩ = some (.func (.func 60) #[] #[]) := (by rw [cell_of_row w3 w2.heap.size 0 _ _ _ ((hb3.block _ (Array.getElem?_eq_some_iff.1 R2.out).1).trans R2.out)]; rfl); clear hb3) | (go_at_call 60; (with_reducible refine (KR.out p _ V3.out).mono ?_); rintro e' w4 ⟨rfl, hb4⟩; have L4 := Lib.hid (L3.out.trans (hb4.mono L3.out.size)); clear hb4))
  go_ret
  exact ⟨rfl, L4.out⟩
set_option maxRecDepth 100000 in
set_option maxHeartbeats 8000000 in
theorem Holds_1 (c : Cd) (q : Cv) (w : World) (hL : Lt c) (h : CAt c q w) (hm : c.may = true) (a b : Nat) (ha : a < c.N) (hb : b < c.N) (hah : aheadP c a b = true) (r : Bool) (hr : ruleB c a b 1 = r) : Calls Tryz.prog 16 #[cdV c q, .int .i64 (a : Int), .int .i64 (b : Int), .int .i64 2] w fun e w' => SaysB w r e w' := by
  have S0 := Lib.hid (Lk.start h)
  have KL := Lib.hid (fun w0 h0 => plook_yes c q w0 hL h0 hm)
  have KA := Lib.hid (fun p w0 h0 => ahead_any c p w0 h0 (may_kind hm) (a : Int) (b : Int) true hah)
  have KR := Lib.hid (fun p w0 h0 => rule_1 c p w0 h0 (Rx.of hm hL) a b ha hb r hr)
  clear h hL hm hah hr ha hb
  obtain ⟨u0, u1, u2, u3⟩ := S0.out.box.facts
  go_enter Tryz.func16, Tryz.ntmps16
  go_wp2_with (first | (go_at_call 35; (with_reducible refine (KL.out _ S0.out.at_).mono ?_); rintro e' w1 ⟨p, rfl, hv, hb1⟩; have V1 := Lib.hid hv; have L1 := Lib.hid (S0.out.below.trans (hb1.mono S0.out.below.size)); clear hv hb1 u0 u1 u2 u3) | (go_at_call 40; (with_reducible refine (rules_any _).mono ?_); rintro e' w2 ⟨rfl, hb2⟩; obtain ⟨W3, hst, hrow, hbw⟩ := store_tab w2; have V2 := Lib.hid ((V1.out.on hb2).on hbw); have L1b := L1.out.trans (hb2.mono L1.out.size); have L2 := Lib.hid (L1b.trans (hbw.mono L1b.size)); have R2 := Lib.hid hrow; clear hb2 hbw hrow L1b) | (go_at_call 41; (with_reducible refine (KA.out p _ V2.out).mono ?_); rintro e' w3 ⟨rfl, hb3⟩; have V3 := Lib.hid (V2.out.on hb3); have L3 := Lib.hid (L2.out.trans (hb3.mono L2.out.size)); have hcell : w3.cell? ⟨w2.heap.size, 1, none⟩ = some (.func (.func 61) #[] #[]) := (by rw [cell_of_row w3 w2.heap.size 1 _ _ _ ((hb3.block _ (Array.getElem?_eq_some_iff.1 R2.out).1).trans R2.out)]; rfl); clear hb3) | (go_at_call 61; (with_reducible refine (KR.out p _ V3.out).mono ?_); rintro e' w4 ⟨rfl, hb4⟩; have L4 := Lib.hid (L3.out.trans (hb4.mono L3.out.size)); clear hb4))
  go_ret
  exact ⟨rfl, L4.out⟩
set_option maxRecDepth 100000 in
set_option maxHeartbeats 8000000 in
theorem Holds_2 (c : Cd) (q : Cv) (w : World) (hL : Lt c) (h : CAt c q w) (hm : c.may = true) (a b : Nat) (ha : a < c.N) (hb : b < c.N) (hah : aheadP c a b = true) (r : Bool) (hr : ruleB c a b 2 = r) : Calls Tryz.prog 16 #[cdV c q, .int .i64 (a : Int), .int .i64 (b : Int), .int .i64 3] w fun e w' => SaysB w r e w' := by
  have S0 := Lib.hid (Lk.start h)
  have KL := Lib.hid (fun w0 h0 => plook_yes c q w0 hL h0 hm)
  have KA := Lib.hid (fun p w0 h0 => ahead_any c p w0 h0 (may_kind hm) (a : Int) (b : Int) true hah)
  have KR := Lib.hid (fun p w0 h0 => rule_2 c p w0 h0 (Rx.of hm hL) a b ha hb r hr)
  clear h hL hm hah hr ha hb
  obtain ⟨u0, u1, u2, u3⟩ := S0.out.box.facts
  go_enter Tryz.func16, Tryz.ntmps16
  go_wp2_with (first | (go_at_call 35; (with_reducible refine (KL.out _ S0.out.at_).mono ?_); rintro e' w1 ⟨p, rfl, hv, hb1⟩; have V1 := Lib.hid hv; have L1 := Lib.hid (S0.out.below.trans (hb1.mono S0.out.below.size)); clear hv hb1 u0 u1 u2 u3) | (go_at_call 40; (with_reducible refine (rules_any _).mono ?_); rintro e' w2 ⟨rfl, hb2⟩; obtain ⟨W3, hst, hrow, hbw⟩ := store_tab w2; have V2 := Lib.hid ((V1.out.on hb2).on hbw); have L1b := L1.out.trans (hb2.mono L1.out.size); have L2 := Lib.hid (L1b.trans (hbw.mono L1b.size)); have R2 := Lib.hid hrow; clear hb2 hbw hrow L1b) | (go_at_call 41; (with_reducible refine (KA.out p _ V2.out).mono ?_); rintro e' w3 ⟨rfl, hb3⟩; have V3 := Lib.hid (V2.out.on hb3); have L3 := Lib.hid (L2.out.trans (hb3.mono L2.out.size)); have hcell : w3.cell? ⟨w2.heap.size, 2, none⟩ = some (.func (.func 62) #[] #[]) := (by rw [cell_of_row w3 w2.heap.size 2 _ _ _ ((hb3.block _ (Array.getElem?_eq_some_iff.1 R2.out).1).trans R2.out)]; rfl); clear hb3) | (go_at_call 62; (with_reducible refine (KR.out p _ V3.out).mono ?_); rintro e' w4 ⟨rfl, hb4⟩; have L4 := Lib.hid (L3.out.trans (hb4.mono L3.out.size)); clear hb4))
  go_ret
  exact ⟨rfl, L4.out⟩
set_option maxRecDepth 100000 in
set_option maxHeartbeats 8000000 in
theorem Holds_3 (c : Cd) (q : Cv) (w : World) (hL : Lt c) (h : CAt c q w) (hm : c.may = true) (a b : Nat) (ha : a < c.N) (hb : b < c.N) (hah : aheadP c a b = true) (r : Bool) (hr : ruleB c a b 3 = r) : Calls Tryz.prog 16 #[cdV c q, .int .i64 (a : Int), .int .i64 (b : Int), .int .i64 4] w fun e w' => SaysB w r e w' := by
  have S0 := Lib.hid (Lk.start h)
  have KL := Lib.hid (fun w0 h0 => plook_yes c q w0 hL h0 hm)
  have KA := Lib.hid (fun p w0 h0 => ahead_any c p w0 h0 (may_kind hm) (a : Int) (b : Int) true hah)
  have KR := Lib.hid (fun p w0 h0 => rule_3 c p w0 h0 (Rx.of hm hL) a b ha hb r hr)
  clear h hL hm hah hr ha hb
  obtain ⟨u0, u1, u2, u3⟩ := S0.out.box.facts
  go_enter Tryz.func16, Tryz.ntmps16
  go_wp2_with (first | (go_at_call 35; (with_reducible refine (KL.out _ S0.out.at_).mono ?_); rintro e' w1 ⟨p, rfl, hv, hb1⟩; have V1 := Lib.hid hv; have L1 := Lib.hid (S0.out.below.trans (hb1.mono S0.out.below.size)); clear hv hb1 u0 u1 u2 u3) | (go_at_call 40; (with_reducible refine (rules_any _).mono ?_); rintro e' w2 ⟨rfl, hb2⟩; obtain ⟨W3, hst, hrow, hbw⟩ := store_tab w2; have V2 := Lib.hid ((V1.out.on hb2).on hbw); have L1b := L1.out.trans (hb2.mono L1.out.size); have L2 := Lib.hid (L1b.trans (hbw.mono L1b.size)); have R2 := Lib.hid hrow; clear hb2 hbw hrow L1b) | (go_at_call 41; (with_reducible refine (KA.out p _ V2.out).mono ?_); rintro e' w3 ⟨rfl, hb3⟩; have V3 := Lib.hid (V2.out.on hb3); have L3 := Lib.hid (L2.out.trans (hb3.mono L2.out.size)); have hcell : w3.cell? ⟨w2.heap.size, 3, none⟩ = some (.func (.func 63) #[] #[]) := (by rw [cell_of_row w3 w2.heap.size 3 _ _ _ ((hb3.block _ (Array.getElem?_eq_some_iff.1 R2.out).1).trans R2.out)]; rfl); clear hb3) | (go_at_call 63; (with_reducible refine (KR.out p _ V3.out).mono ?_); rintro e' w4 ⟨rfl, hb4⟩; have L4 := Lib.hid (L3.out.trans (hb4.mono L3.out.size)); clear hb4))
  go_ret
  exact ⟨rfl, L4.out⟩
set_option maxRecDepth 100000 in
set_option maxHeartbeats 8000000 in
theorem Holds_4 (c : Cd) (q : Cv) (w : World) (hL : Lt c) (h : CAt c q w) (hm : c.may = true) (a b : Nat) (ha : a < c.N) (hb : b < c.N) (hah : aheadP c a b = true) (r : Bool) (hr : ruleB c a b 4 = r) : Calls Tryz.prog 16 #[cdV c q, .int .i64 (a : Int), .int .i64 (b : Int), .int .i64 5] w fun e w' => SaysB w r e w' := by
  have S0 := Lib.hid (Lk.start h)
  have KL := Lib.hid (fun w0 h0 => plook_yes c q w0 hL h0 hm)
  have KA := Lib.hid (fun p w0 h0 => ahead_any c p w0 h0 (may_kind hm) (a : Int) (b : Int) true hah)
  have KR := Lib.hid (fun p w0 h0 => rule_4 c p w0 h0 (Rx.of hm hL) a b ha hb r hr)
  clear h hL hm hah hr ha hb
  obtain ⟨u0, u1, u2, u3⟩ := S0.out.box.facts
  go_enter Tryz.func16, Tryz.ntmps16
  go_wp2_with (first | (go_at_call 35; (with_reducible refine (KL.out _ S0.out.at_).mono ?_); rintro e' w1 ⟨p, rfl, hv, hb1⟩; have V1 := Lib.hid hv; have L1 := Lib.hid (S0.out.below.trans (hb1.mono S0.out.below.size)); clear hv hb1 u0 u1 u2 u3) | (go_at_call 40; (with_reducible refine (rules_any _).mono ?_); rintro e' w2 ⟨rfl, hb2⟩; obtain ⟨W3, hst, hrow, hbw⟩ := store_tab w2; have V2 := Lib.hid ((V1.out.on hb2).on hbw); have L1b := L1.out.trans (hb2.mono L1.out.size); have L2 := Lib.hid (L1b.trans (hbw.mono L1b.size)); have R2 := Lib.hid hrow; clear hb2 hbw hrow L1b) | (go_at_call 41; (with_reducible refine (KA.out p _ V2.out).mono ?_); rintro e' w3 ⟨rfl, hb3⟩; have V3 := Lib.hid (V2.out.on hb3); have L3 := Lib.hid (L2.out.trans (hb3.mono L2.out.size)); have hcell : w3.cell? ⟨w2.heap.size, 4, none⟩ = some (.func (.func 64) #[] #[]) := (by rw [cell_of_row w3 w2.heap.size 4 _ _ _ ((hb3.block _ (Array.getElem?_eq_some_iff.1 R2.out).1).trans R2.out)]; rfl); clear hb3) | (go_at_call 64; (with_reducible refine (KR.out p _ V3.out).mono ?_); rintro e' w4 ⟨rfl, hb4⟩; have L4 := Lib.hid (L3.out.trans (hb4.mono L3.out.size)); clear hb4))
  go_ret
  exact ⟨rfl, L4.out⟩
set_option maxRecDepth 100000 in
set_option maxHeartbeats 8000000 in
theorem Holds_5 (c : Cd) (q : Cv) (w : World) (hL : Lt c) (h : CAt c q w) (hm : c.may = true) (a b : Nat) (ha : a < c.N) (hb : b < c.N) (hah : aheadP c a b = true) (r : Bool) (hr : ruleB c a b 5 = r) : Calls Tryz.prog 16 #[cdV c q, .int .i64 (a : Int), .int .i64 (b : Int), .int .i64 6] w fun e w' => SaysB w r e w' := by
  have S0 := Lib.hid (Lk.start h)
  have KL := Lib.hid (fun w0 h0 => plook_yes c q w0 hL h0 hm)
  have KA := Lib.hid (fun p w0 h0 => ahead_any c p w0 h0 (may_kind hm) (a : Int) (b : Int) true hah)
  have KR := Lib.hid (fun p w0 h0 => rule_5 c p w0 h0 (Rx.of hm hL) a b ha hb r hr)
  clear h hL hm hah hr ha hb
  obtain ⟨u0, u1, u2, u3⟩ := S0.out.box.facts
  go_enter Tryz.func16, Tryz.ntmps16
  go_wp2_with (first | (go_at_call 35; (with_reducible refine (KL.out _ S0.out.at_).mono ?_); rintro e' w1 ⟨p, rfl, hv, hb1⟩; have V1 := Lib.hid hv; have L1 := Lib.hid (S0.out.below.trans (hb1.mono S0.out.below.size)); clear hv hb1 u0 u1 u2 u3) | (go_at_call 40; (with_reducible refine (rules_any _).mono ?_); rintro e' w2 ⟨rfl, hb2⟩; obtain ⟨W3, hst, hrow, hbw⟩ := store_tab w2; have V2 := Lib.hid ((V1.out.on hb2).on hbw); have L1b := L1.out.trans (hb2.mono L1.out.size); have L2 := Lib.hid (L1b.trans (hbw.mono L1b.size)); have R2 := Lib.hid hrow; clear hb2 hbw hrow L1b) | (go_at_call 41; (with_reducible refine (KA.out p _ V2.out).mono ?_); rintro e' w3 ⟨rfl, hb3⟩; have V3 := Lib.hid (V2.out.on hb3); have L3 := Lib.hid (L2.out.trans (hb3.mono L2.out.size)); have hcell : w3.cell? ⟨w2.heap.size, 5, none⟩ = some (.func (.func 65) #[] #[]) := (by rw [cell_of_row w3 w2.heap.size 5 _ _ _ ((hb3.block _ (Array.getElem?_eq_some_iff.1 R2.out).1).trans R2.out)]; rfl); clear hb3) | (go_at_call 65; (with_reducible refine (KR.out p _ V3.out).mono ?_); rintro e' w4 ⟨rfl, hb4⟩; have L4 := Lib.hid (L3.out.trans (hb4.mono L3.out.size)); clear hb4))
  go_ret
  exact ⟨rfl, L4.out⟩
set_option maxRecDepth 100000 in
set_option maxHeartbeats 8000000 in
theorem Holds_6 (c : Cd) (q : Cv) (w : World) (hL : Lt c) (h : CAt c q w) (hm : c.may = true) (a b : Nat) (ha : a < c.N) (hb : b < c.N) (hah : aheadP c a b = true) (r : Bool) (hr : ruleB c a b 6 = r) : Calls Tryz.prog 16 #[cdV c q, .int .i64 (a : Int), .int .i64 (b : Int), .int .i64 7] w fun e w' => SaysB w r e w' := by
  have S0 := Lib.hid (Lk.start h)
  have KL := Lib.hid (fun w0 h0 => plook_yes c q w0 hL h0 hm)
  have KA := Lib.hid (fun p w0 h0 => ahead_any c p w0 h0 (may_kind hm) (a : Int) (b : Int) true hah)
  have KR := Lib.hid (fun p w0 h0 => rule_6 c p w0 h0 (Rx.of hm hL) a b ha hb r hr)
  clear h hL hm hah hr ha hb
  obtain ⟨u0, u1, u2, u3⟩ := S0.out.box.facts
  go_enter Tryz.func16, Tryz.ntmps16
  go_wp2_with (first | (go_at_call 35; (with_reducible refine (KL.out _ S0.out.at_).mono ?_); rintro e' w1 ⟨p, rfl, hv, hb1⟩; have V1 := Lib.hid hv; have L1 := Lib.hid (S0.out.below.trans (hb1.mono S0.out.below.size)); clear hv hb1 u0 u1 u2 u3) | (go_at_call 40; (with_reducible refine (rules_any _).mono ?_); rintro e' w2 ⟨rfl, hb2⟩; obtain ⟨W3, hst, hrow, hbw⟩ := store_tab w2; have V2 := Lib.hid ((V1.out.on hb2).on hbw); have L1b := L1.out.trans (hb2.mono L1.out.size); have L2 := Lib.hid (L1b.trans (hbw.mono L1b.size)); have R2 := Lib.hid hrow; clear hb2 hbw hrow L1b) | (go_at_call 41; (with_reducible refine (KA.out p _ V2.out).mono ?_); rintro e' w3 ⟨rfl, hb3⟩; have V3 := Lib.hid (V2.out.on hb3); have L3 := Lib.hid (L2.out.trans (hb3.mono L2.out.size)); have hcell : w3.cell? ⟨w2.heap.size, 6, none⟩ = some (.func (.func 66) #[] #[]) := (by rw [cell_of_row w3 w2.heap.size 6 _ _ _ ((hb3.block _ (Array.getElem?_eq_some_iff.1 R2.out).1).trans R2.out)]; rfl); clear hb3) | (go_at_call 66; (with_reducible refine (KR.out p _ V3.out).mono ?_); rintro e' w4 ⟨rfl, hb4⟩; have L4 := Lib.hid (L3.out.trans (hb4.mono L3.out.size)); clear hb4))
  go_ret
  exact ⟨rfl, L4.out⟩
set_option maxRecDepth 100000 in
set_option maxHeartbeats 8000000 in
theorem Holds_7 (c : Cd) (q : Cv) (w : World) (hL : Lt c) (h : CAt c q w) (hm : c.may = true) (a b : Nat) (ha : a < c.N) (hb : b < c.N) (hah : aheadP c a b = true) (r : Bool) (hr : ruleB c a b 7 = r) : Calls Tryz.prog 16 #[cdV c q, .int .i64 (a : Int), .int .i64 (b : Int), .int .i64 8] w fun e w' => SaysB w r e w' := by
  have S0 := Lib.hid (Lk.start h)
  have KL := Lib.hid (fun w0 h0 => plook_yes c q w0 hL h0 hm)
  have KA := Lib.hid (fun p w0 h0 => ahead_any c p w0 h0 (may_kind hm) (a : Int) (b : Int) true hah)
  have KR := Lib.hid (fun p w0 h0 => rule_7 c p w0 h0 (Rx.of hm hL) a b ha hb r hr)
  clear h hL hm hah hr ha hb
  obtain ⟨u0, u1, u2, u3⟩ := S0.out.box.facts
  go_enter Tryz.func16, Tryz.ntmps16
  go_wp2_with (first | (go_at_call 35; (with_reducible refine (KL.out _ S0.out.at_).mono ?_); rintro e' w1 ⟨p, rfl, hv, hb1⟩; have V1 := Lib.hid hv; have L1 := Lib.hid (S0.out.below.trans (hb1.mono S0.out.below.size)); clear hv hb1 u0 u1 u2 u3) | (go_at_call 40; (with_reducible refine (rules_any _).mono ?_); rintro e' w2 ⟨rfl, hb2⟩; obtain ⟨W3, hst, hrow, hbw⟩ := store_tab w2; have V2 := Lib.hid ((V1.out.on hb2).on hbw); have L1b := L1.out.trans (hb2.mono L1.out.size); have L2 := Lib.hid (L1b.trans (hbw.mono L1b.size)); have R2 := Lib.hid hrow; clear hb2 hbw hrow L1b) | (go_at_call 41; (with_reducible refine (KA.out p _ V2.out).mono ?_); rintro e' w3 ⟨rfl, hb3⟩; have V3 := Lib.hid (V2.out.on hb3); have L3 := Lib.hid (L2.out.trans (hb3.mono L2.out.size)); have hcell : w3.cell? ⟨w2.heap.size, 7, none⟩ = some (.func (.func 67) #[] #[]) := (by rw [cell_of_row w3 w2.heap.size 7 _ _ _ ((hb3.block _ (Array.getElem?_eq_some_iff.1 R2.out).1).trans R2.out)]; rfl); clear hb3) | (go_at_call 67; (with_reducible refine (KR.out p _ V3.out).mono ?_); rintro e' w4 ⟨rfl, hb4⟩; have L4 := Lib.hid (L3.out.trans (hb4.mono L3.out.size)); clear hb4))
  go_ret
  exact ⟨rfl, L4.out⟩
set_option maxRecDepth 100000 in
set_option maxHeartbeats 8000000 in
theorem Holds_8 (c : Cd) (q : Cv) (w : World) (hL : Lt c) (h : CAt c q w) (hm : c.may = true) (a b : Nat) (ha : a < c.N) (hb : b < c.N) (hah : aheadP c a b = true) (r : Bool) (hr : ruleB c a b 8 = r) : Calls Tryz.prog 16 #[cdV c q, .int .i64 (a : Int), .int .i64 (b : Int), .int .i64 9] w fun e w' => SaysB w r e w' := by
  have S0 := Lib.hid (Lk.start h)
  have KL := Lib.hid (fun w0 h0 => plook_yes c q w0 hL h0 hm)
  have KA := Lib.hid (fun p w0 h0 => ahead_any c p w0 h0 (may_kind hm) (a : Int) (b : Int) true hah)
  have KR := Lib.hid (fun p w0 h0 => rule_8 c p w0 h0 (Rx.of hm hL) a b ha hb r hr)
  clear h hL hm hah hr ha hb
  obtain ⟨u0, u1, u2, u3⟩ := S0.out.box.facts
  go_enter Tryz.func16, Tryz.ntmps16
  go_wp2_with (first | (go_at_call 35; (with_reducible refine (KL.out _ S0.out.at_).mono ?_); rintro e' w1 ⟨p, rfl, hv, hb1⟩; have V1 := Lib.hid hv; have L1 := Lib.hid (S0.out.below.trans (hb1.mono S0.out.below.size)); clear hv hb1 u0 u1 u2 u3) | (go_at_call 40; (with_reducible refine (rules_any _).mono ?_); rintro e' w2 ⟨rfl, hb2⟩; obtain ⟨W3, hst, hrow, hbw⟩ := store_tab w2; have V2 := Lib.hid ((V1.out.on hb2).on hbw); have L1b := L1.out.trans (hb2.mono L1.out.size); have L2 := Lib.hid (L1b.trans (hbw.mono L1b.size)); have R2 := Lib.hid hrow; clear hb2 hbw hrow L1b) | (go_at_call 41; (with_reducible refine (KA.out p _ V2.out).mono ?_); rintro e' w3 ⟨rfl, hb3⟩; have V3 := Lib.hid (V2.out.on hb3); have L3 := Lib.hid (L2.out.trans (hb3.mono L2.out.size)); have hcell : w3.cell? ⟨w2.heap.size, 8, none⟩ = some (.func (.func 68) #[] #[]) := (by rw [cell_of_row w3 w2.heap.size 8 _ _ _ ((hb3.block _ (Array.getElem?_eq_some_iff.1 R2.out).1).trans R2.out)]; rfl); clear hb3) | (go_at_call 68; (with_reducible refine (KR.out p _ V3.out).mono ?_); rintro e' w4 ⟨rfl, hb4⟩; have L4 := Lib.hid (L3.out.trans (hb4.mono L3.out.size)); clear hb4))
  go_ret
  exact ⟨rfl, L4.out⟩
set_option maxRecDepth 100000 in
set_option maxHeartbeats 8000000 in
theorem Holds_9 (c : Cd) (q : Cv) (w : World) (hL : Lt c) (h : CAt c q w) (hm : c.may = true) (a b : Nat) (ha : a < c.N) (hb : b < c.N) (hah : aheadP c a b = true) (r : Bool) (hr : ruleB c a b 9 = r) : Calls Tryz.prog 16 #[cdV c q, .int .i64 (a : Int), .int .i64 (b : Int), .int .i64 10] w fun e w' => SaysB w r e w' := by
  have S0 := Lib.hid (Lk.start h)
  have KL := Lib.hid (fun w0 h0 => plook_yes c q w0 hL h0 hm)
  have KA := Lib.hid (fun p w0 h0 => ahead_any c p w0 h0 (may_kind hm) (a : Int) (b : Int) true hah)
  have KR := Lib.hid (fun p w0 h0 => rule_9 c p w0 h0 (Rx.of hm hL) a b ha hb r hr)
  clear h hL hm hah hr ha hb
  obtain ⟨u0, u1, u2, u3⟩ := S0.out.box.facts
  go_enter Tryz.func16, Tryz.ntmps16
  go_wp2_with (first | (go_at_call 35; (with_reducible refine (KL.out _ S0.out.at_).mono ?_); rintro e' w1 ⟨p, rfl, hv, hb1⟩; have V1 := Lib.hid hv; have L1 := Lib.hid (S0.out.below.trans (hb1.mono S0.out.below.size)); clear hv hb1 u0 u1 u2 u3) | (go_at_call 40; (with_reducible refine (rules_any _).mono ?_); rintro e' w2 ⟨rfl, hb2⟩; obtain ⟨W3, hst, hrow, hbw⟩ := store_tab w2; have V2 := Lib.hid ((V1.out.on hb2).on hbw); have L1b := L1.out.trans (hb2.mono L1.out.size); have L2 := Lib.hid (L1b.trans (hbw.mono L1b.size)); have R2 := Lib.hid hrow; clear hb2 hbw hrow L1b) | (go_at_call 41; (with_reducible refine (KA.out p _ V2.out).mono ?_); rintro e' w3 ⟨rfl, hb3⟩; have V3 := Lib.hid (V2.out.on hb3); have L3 := Lib.hid (L2.out.trans (hb3.mono L2.out.size)); have hcell : w3.cell? ⟨w2.heap.size, 9, none⟩ = some (.func (.func 69) #[] #[]) := (by rw [cell_of_row w3 w2.heap.size 9 _ _ _ ((hb3.block _ (Array.getElem?_eq_some_iff.1 R2.out).1).trans R2.out)]; rfl); clear hb3) | (go_at_call 69; (with_reducible refine (KR.out p _ V3.out).mono ?_); rintro e' w4 ⟨rfl, hb4⟩; have L4 := Lib.hid (L3.out.trans (hb4.mono L3.out.size)); clear hb4))
  go_ret
  exact ⟨rfl, L4.out⟩
set_option maxRecDepth 100000 in
set_option maxHeartbeats 8000000 in
theorem Holds_10 (c : Cd) (q : Cv) (w : World) (hL : Lt c) (h : CAt c q w) (hm : c.may = true) (a b : Nat) (ha : a < c.N) (hb : b < c.N) (hah : aheadP c a b = true) (r : Bool) (hr : ruleB c a b 10 = r) : Calls Tryz.prog 16 #[cdV c q, .int .i64 (a : Int), .int .i64 (b : Int), .int .i64 11] w fun e w' => SaysB w r e w' := by
  have S0 := Lib.hid (Lk.start h)
  have KL := Lib.hid (fun w0 h0 => plook_yes c q w0 hL h0 hm)
  have KA := Lib.hid (fun p w0 h0 => ahead_any c p w0 h0 (may_kind hm) (a : Int) (b : Int) true hah)
  have KR := Lib.hid (fun p w0 h0 => rule_10 c p w0 h0 (Rx.of hm hL) a b ha hb r hr)
  clear h hL hm hah hr ha hb
  obtain ⟨u0, u1, u2, u3⟩ := S0.out.box.facts
  go_enter Tryz.func16, Tryz.ntmps16
  go_wp2_with (first | (go_at_call 35; (with_reducible refine (KL.out _ S0.out.at_).mono ?_); rintro e' w1 ⟨p, rfl, hv, hb1⟩; have V1 := Lib.hid hv; have L1 := Lib.hid (S0.out.below.trans (hb1.mono S0.out.below.size)); clear hv hb1 u0 u1 u2 u3) | (go_at_call 40; (with_reducible refine (rules_any _).mono ?_); rintro e' w2 ⟨rfl, hb2⟩; obtain ⟨W3, hst, hrow, hbw⟩ := store_tab w2; have V2 := Lib.hid ((V1.out.on hb2).on hbw); have L1b := L1.out.trans (hb2.mono L1.out.size); have L2 := Lib.hid (L1b.trans (hbw.mono L1b.size)); have R2 := Lib.hid hrow; clear hb2 hbw hrow L1b) | (go_at_call 41; (with_reducible refine (KA.out p _ V2.out).mono ?_); rintro e' w3 ⟨rfl, hb3⟩; have V3 := Lib.hid (V2.out.on hb3); have L3 := Lib.hid (L2.out.trans (hb3.mono L2.out.size)); have hcell : w3.cell? ⟨w2.heap.size, 10, none⟩ = some (.func (.func 70) #[] #[]) := (by rw [cell_of_row w3 w2.heap.size 10 _ _ _ ((hb3.block _ (Array.getElem?_eq_some_iff.1 R2.out).1).trans R2.out)]; rfl); clear hb3) | (go_at_call 70; (with_reducible refine (KR.out p _ V3.out).mono ?_); rintro e' w4 ⟨rfl, hb4⟩; have L4 := Lib.hid (L3.out.trans (hb4.mono L3.out.size)); clear hb4))
  go_ret
  exact ⟨rfl, L4.out⟩
set_option maxRecDepth 100000 in
set_option maxHeartbeats 8000000 in
theorem Holds_11 (c : Cd) (q : Cv) (w : World) (hL : Lt c) (h : CAt c q w) (hm : c.may = true) (a b : Nat) (ha : a < c.N) (hb : b < c.N) (hah : aheadP c a b = true) (r : Bool) (hr : ruleB c a b 11 = r) : Calls Tryz.prog 16 #[cdV c q, .int .i64 (a : Int), .int .i64 (b : Int), .int .i64 12] w fun e w' => SaysB w r e w' := by
  have S0 := Lib.hid (Lk.start h)
  have KL := Lib.hid (fun w0 h0 => plook_yes c q w0 hL h0 hm)
  have KA := Lib.hid (fun p w0 h0 => ahead_any c p w0 h0 (may_kind hm) (a : Int) (b : Int) true hah)
  have KR := Lib.hid (fun p w0 h0 => rule_11 c p w0 h0 (Rx.of hm hL) a b ha hb r hr)
  clear h hL hm hah hr ha hb
  obtain ⟨u0, u1, u2, u3⟩ := S0.out.box.facts
  go_enter Tryz.func16, Tryz.ntmps16
  go_wp2_with (first | (go_at_call 35; (with_reducible refine (KL.out _ S0.out.at_).mono ?_); rintro e' w1 ⟨p, rfl, hv, hb1⟩; have V1 := Lib.hid hv; have L1 := Lib.hid (S0.out.below.trans (hb1.mono S0.out.below.size)); clear hv hb1 u0 u1 u2 u3) | (go_at_call 40; (with_reducible refine (rules_any _).mono ?_); rintro e' w2 ⟨rfl, hb2⟩; obtain ⟨W3, hst, hrow, hbw⟩ := store_tab w2; have V2 := Lib.hid ((V1.out.on hb2).on hbw); have L1b := L1.out.trans (hb2.mono L1.out.size); have L2 := Lib.hid (L1b.trans (hbw.mono L1b.size)); have R2 := Lib.hid hrow; clear hb2 hbw hrow L1b) | (go_at_call 41; (with_reducible refine (KA.out p _ V2.out).mono ?_); rintro e' w3 ⟨rfl, hb3⟩; have V3 := Lib.hid (V2.out.on hb3); have L3 := Lib.hid (L2.out.trans (hb3.mono L2.out.size)); have hcell : w3.cell? ⟨w2.heap.size, 11, none⟩ = some (.func (.func 71) #[] #[]) := (by rw [cell_of_row w3 w2.heap.size 11 _ _ _ ((hb3.block _ (Array.getElem?_eq_some_iff.1 R2.out).1).trans R2.out)]; rfl); clear hb3) | (go_at_call 71; (with_reducible refine (KR.out p _ V3.out).mono ?_); rintro e' w4 ⟨rfl, hb4⟩; have L4 := Lib.hid (L3.out.trans (hb4.mono L3.out.size)); clear hb4))
  go_ret
  exact ⟨rfl, L4.out⟩
set_option maxRecDepth 100000 in
set_option maxHeartbeats 8000000 in
theorem Holds_12 (c : Cd) (q : Cv) (w : World) (hL : Lt c) (h : CAt c q w) (hm : c.may = true) (a b : Nat) (ha : a < c.N) (hb : b < c.N) (hah : aheadP c a b = true) (r : Bool) (hr : ruleB c a b 12 = r) : Calls Tryz.prog 16 #[cdV c q, .int .i64 (a : Int), .int .i64 (b : Int), .int .i64 13] w fun e w' => SaysB w r e w' := by
  have S0 := Lib.hid (Lk.start h)
  have KL := Lib.hid (fun w0 h0 => plook_yes c q w0 hL h0 hm)
  have KA := Lib.hid (fun p w0 h0 => ahead_any c p w0 h0 (may_kind hm) (a : Int) (b : Int) true hah)
  have KR := Lib.hid (fun p w0 h0 => rule_12 c p w0 h0 (Rx.of hm hL) a b ha hb r hr)
  clear h hL hm hah hr ha hb
  obtain ⟨u0, u1, u2, u3⟩ := S0.out.box.facts
  go_enter Tryz.func16, Tryz.ntmps16
  go_wp2_with (first | (go_at_call 35; (with_reducible refine (KL.out _ S0.out.at_).mono ?_); rintro e' w1 ⟨p, rfl, hv, hb1⟩; have V1 := Lib.hid hv; have L1 := Lib.hid (S0.out.below.trans (hb1.mono S0.out.below.size)); clear hv hb1 u0 u1 u2 u3) | (go_at_call 40; (with_reducible refine (rules_any _).mono ?_); rintro e' w2 ⟨rfl, hb2⟩; obtain ⟨W3, hst, hrow, hbw⟩ := store_tab w2; have V2 := Lib.hid ((V1.out.on hb2).on hbw); have L1b := L1.out.trans (hb2.mono L1.out.size); have L2 := Lib.hid (L1b.trans (hbw.mono L1b.size)); have R2 := Lib.hid hrow; clear hb2 hbw hrow L1b) | (go_at_call 41; (with_reducible refine (KA.out p _ V2.out).mono ?_); rintro e' w3 ⟨rfl, hb3⟩; have V3 := Lib.hid (V2.out.on hb3); have L3 := Lib.hid (L2.out.trans (hb3.mono L2.out.size)); have hcell : w3.cell? ⟨w2.heap.size, 12, none⟩ = some (.func (.func 72) #[] #[]) := (by rw [cell_of_row w3 w2.heap.size 12 _ _ _ ((hb3.block _ (Array.getElem?_eq_some_iff.1 R2.out).1).trans R2.out)]; rfl); clear hb3) | (go_at_call 72; (with_reducible refine (KR.out p _ V3.out).mono ?_); rintro e' w4 ⟨rfl, hb4⟩; have L4 := Lib.hid (L3.out.trans (hb4.mono L3.out.size)); clear hb4))
  go_ret
  exact ⟨rfl, L4.out⟩
theorem Holds_any (c : Cd) (q : Cv) (w : World) (hL : Lt c) (h : CAt c q w) (a b rule : Int) (r : Bool) (hr : holdsW c a b rule = r) : Calls Tryz.prog 16 #[cdV c q, .int .i64 a, .int .i64 b, .int .i64 rule] w fun e w' => SaysB w r e w' := by
  by_cases h1 : 1 ≤ rule ∧ rule ≤ 13
  rotate_left
  · have hz : holdsW c a b rule = false := by
      unfold holdsW
      rcases (show rule < 1 ∨ 13 < rule by omega) with h2 | h2
      · rw [decide_eq_false (show ¬ 1 ≤ rule by omega)]; simp
      · rw [decide_eq_false (show ¬ rule ≤ 13 by omega)]; simp
    rw [← hr, hz]
    exact Holds_out c q w hL h a b rule (by omega)
  cases hm : c.may with
  | false =>
    have hz : holdsW c a b rule = false := by unfold holdsW; rw [hm]; rfl
    rw [← hr, hz]
    exact Holds_not c q w hL h a b rule h1.1 h1.2 (fun e => by rw [hm] at e; cases e)
  | true =>
  cases hah : aheadP c a b with
  | false =>
    have hz : holdsW c a b rule = false := by unfold holdsW; rw [hah]; simp
    rw [← hr, hz]
    exact Holds_not c q w hL h a b rule h1.1 h1.2 (fun _ => hah)
  | true =>
  have hin := aheadP_in hah
  obtain ⟨x, rfl⟩ : ∃ x : Nat, a = x := ⟨a.toNat, by omega⟩
  obtain ⟨y, rfl⟩ : ∃ y : Nat, b = y := ⟨b.toNat, by omega⟩
  obtain ⟨k, rfl⟩ : ∃ k : Nat, rule = ((k + 1 : Nat) : Int) := ⟨rule.toNat - 1, by omega⟩
  have hz : ruleB c x y k = r := by
    rw [← hr]; unfold holdsW
    rw [hm, hah, decide_eq_true h1.1, decide_eq_true h1.2]
    simp
  have hk : k = 0 ∨ k = 1 ∨ k = 2 ∨ k = 3 ∨ k = 4 ∨ k = 5 ∨ k = 6 ∨ k = 7 ∨ k = 8 ∨ k = 9 ∨ k = 10 ∨ k = 11 ∨ k = 12 := by omega
  rcases hk with rfl | rfl | rfl | rfl | rfl | rfl | rfl | rfl | rfl | rfl | rfl | rfl | rfl
  · exact Holds_0 c q w hL h hm x y (by omega) (by omega) hah r hz
  · exact Holds_1 c q w hL h hm x y (by omega) (by omega) hah r hz
  · exact Holds_2 c q w hL h hm x y (by omega) (by omega) hah r hz
  · exact Holds_3 c q w hL h hm x y (by omega) (by omega) hah r hz
  · exact Holds_4 c q w hL h hm x y (by omega) (by omega) hah r hz
  · exact Holds_5 c q w hL h hm x y (by omega) (by omega) hah r hz
  · exact Holds_6 c q w hL h hm x y (by omega) (by omega) hah r hz
  · exact Holds_7 c q w hL h hm x y (by omega) (by omega) hah r hz
  · exact Holds_8 c q w hL h hm x y (by omega) (by omega) hah r hz
  · exact Holds_9 c q w hL h hm x y (by omega) (by omega) hah r hz
  · exact Holds_10 c q w hL h hm x y (by omega) (by omega) hah r hz
  · exact Holds_11 c q w hL h hm x y (by omega) (by omega) hah r hz
  · exact Holds_12 c q w hL h hm x y (by omega) (by omega) hah r hz
end Go.Proofs.YtgkiaeddlahngaaGreatDoor
