/-
  Proved here: ppo's Rule answers the first rule of two numbers of which the first stands ahead; nothing that was there is changed. Condition: a light candidate that may be.
-/
import Derived.Test.YtmdjkeplfdkoeaaDoorPpFirst
namespace Go.Proofs.YtmdjkeplfdkoeaaDoor
set_option linter.unusedVariables false
set_option linter.unusedSimpArgs false
open Go.RowKit Go.Maps
attribute [local go_sem ↓] fold_E fold_SE

theorem may_kind {c : Cd} (hm : c.may = true) : ∀ n, n < c.N → 1 ≤ (c.at n).1.kind ∧ (c.at n).1.kind ≤ 6 := fun n hn => by
  obtain ⟨_, _, _, _, _, _, _, _, hk⟩ := may_num hm n hn
  exact chk_kind hk
set_option maxRecDepth 100000 in
set_option maxHeartbeats 4000000 in
theorem Rule_ahead (c : Cd) (q : Cv) (w : World) (hL : Lt c) (h : CAt c q w) (hm : c.may = true) (a b : Nat) (ha : a < c.N) (hb : b < c.N) (hah : aheadP c a b = true) : Calls Tryd.prog 8 #[cdV c q, .int .i64 (a : Int), .int .i64 (b : Int)] w fun e w' => FirstIs w (firstL c a b) e w' := by
  have KL := Lib.hid (fun w0 h0 => plook_yes c q w0 hL h0 hm)
  have KF := Lib.hid (fun p w0 h0 => first_ahead c p w0 h0 (Rx.of hm hL) (may_kind hm) a b ha hb hah)
  have S0 := Lib.hid (Lk.start h)
  clear h hm hL hah ha hb
  obtain ⟨u0, u1, u2, u3⟩ := S0.out.box.facts
  go_enter Tryd.func8, Tryd.ntmps8
  go_wp2_with (first
    | (go_at_call 12; (with_reducible refine (KL.out _ S0.out.at_).mono ?_); rintro e' w1 ⟨p, rfl, hv, hb1⟩; have V1 := Lib.hid hv; have L1 := Lib.hid (S0.out.below.trans (hb1.mono S0.out.below.size)); clear hv hb1 u0 u1 u2 u3)
    | (go_at_call 14; (with_reducible refine (KF.out p _ V1.out).mono ?_); rintro e' w2 ⟨rfl, hb2⟩; have L2 := Lib.hid (L1.out.trans (hb2.mono L1.out.size)); clear hb2))
  go_ret
  exact ⟨rfl, L2.out⟩
end Go.Proofs.YtmdjkeplfdkoeaaDoor
