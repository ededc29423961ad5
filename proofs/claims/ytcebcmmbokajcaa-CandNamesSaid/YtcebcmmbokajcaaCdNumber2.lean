/-
  Proved here: cand's Number of a place that a hart has not, and of a candidate that may not be; nothing that was there is changed. Condition: a light candidate.
-/
import Derived.Test.YtcebcmmbokajcaaCdNumber
namespace Go.Proofs.Ytcebcmmbokajcaa
set_option linter.unusedVariables false
set_option linter.unusedSimpArgs false
open Go.RowKit
attribute [local go_sem ↓] fold_E fold_SE

set_option maxRecDepth 100000 in
set_option maxHeartbeats 8000000 in
theorem Number_none (c : Cd) (q : Cv) (w : World) (hL : Lt c) (h : CAt c q w) (hm : c.may = true) (hart at_ : Nat) (hh : hart < c.nh) (ha : c.len hart ≤ at_) : Calls Try.prog 8 #[cdV c q, .int .i64 (hart : Int), .int .i64 (at_ : Int)] w fun e w' => NumbIs w 0 6 e w' := by
  have KC := Lib.hid (fun w0 h0 => check_c c q w0 hL h0 true hm)
  have S0 := Lib.hid (Lk.start h)
  have W1 := Lib.hid (fun w0 => cwithin_b (hart : Int) (c.nh : Int) true (by simp [withinB, hh]) w0)
  have W2 := Lib.hid (fun w0 => cwithin_b (at_ : Int) (c.len hart : Int) false (by simp [withinB]; omega) w0)
  clear h hm
  obtain ⟨u0, u1, u2, u3⟩ := S0.out.box.facts
  go_enter Try.func8, Try.ntmps8
  go_upto_region 4 with (go_at_call 12; (with_reducible refine (KC.out _ S0.out.at_).mono ?_); rintro e' w1 ⟨rfl, hb⟩; have S1 := Lib.hid (S0.out.on hb); clear hb u0 u1 u2 u3; obtain ⟨u0, u1, u2, u3⟩ := S1.out.box.facts)
  obtain ⟨b, off, a2, c2, hq, hc, _, _⟩ := S1.out.at_.harts.row hart hh
  rw [hq] at u1
  have hhi : (hart : Int) < (c.nh : Int) := by omega
  have hh0 : (0 : Int) ≤ (hart : Int) := by omega
  go_wp2_with (first
    | (go_at_call 30; (with_reducible refine (W1.out _).mono ?_); rintro e' w2 ⟨rfl, rfl⟩)
    | (go_at_call 30; (with_reducible refine (W2.out _).mono ?_); rintro e' w2 ⟨rfl, rfl⟩))
  exact bodyPost_ret (v := .tuple #[.int .i64 0, .int .i64 6]) (by simp [results, Try.results8]) rfl ⟨rfl, S1.out.below⟩
set_option maxRecDepth 100000 in
set_option maxHeartbeats 8000000 in
theorem Number_no (c : Cd) (q : Cv) (w : World) (hL : Lt c) (h : CAt c q w) (hm : c.may = false) (x y : Int) : Calls Try.prog 8 #[cdV c q, .int .i64 x, .int .i64 y] w fun e w' => NumbIs w 0 2 e w' := by
  have KC := Lib.hid (fun w0 h0 => check_c c q w0 hL h0 false hm)
  have S0 := Lib.hid (Lk.start h)
  clear h hm
  obtain ⟨u0, u1, u2, u3⟩ := S0.out.box.facts
  go_enter Try.func8, Try.ntmps8
  go_wp2_with (go_at_call 12; (with_reducible refine (KC.out _ S0.out.at_).mono ?_); rintro e' w1 ⟨rfl, hb⟩; have S1 := Lib.hid (S0.out.on hb); clear hb u0 u1 u2 u3)
  exact bodyPost_ret (v := .tuple #[.int .i64 0, .int .i64 2]) (by simp [results, Try.results8]) rfl ⟨rfl, S1.out.below⟩
end Go.Proofs.Ytcebcmmbokajcaa
