/-
  Proved here: cand's Number answers the number of a hart's event, First what memory had somewhere; nothing that was there is changed. Condition: a light candidate.
-/
import Derived.Test.YtcebcmmbokajcaaCdLook
namespace Go.Proofs.Ytcebcmmbokajcaa
set_option linter.unusedVariables false
set_option linter.unusedSimpArgs false
open Go.RowKit
attribute [local go_sem ↓] fold_E fold_SE

def NumbIs (w : World) (n x : Int) (e : Ending) (w' : World) : Prop := e = .returned (.tuple #[.int .i64 n, .int .i64 x]) ∧ Below w.heap.size w w'
set_option maxRecDepth 100000 in
set_option maxHeartbeats 8000000 in
/-- a candidate that may be, an event that is there -/
theorem Number_yes (c : Cd) (q : Cv) (w : World) (hL : Lt c) (h : CAt c q w) (hm : c.may = true) (hart at_ : Nat) (hh : hart < c.nh) (ha : at_ < c.len hart) : Calls Try.prog 8 #[cdV c q, .int .i64 (hart : Int), .int .i64 (at_ : Int)] w fun e w' => NumbIs w (baseL c.len hart + at_ : Nat) 0 e w' := by
  have KC := Lib.hid (fun w0 h0 => check_c c q w0 hL h0 true hm)
  have KL := Lib.hid (fun w0 cp (h0 : HsAt c hart q.aH w0) => length_any c hart q.aH cp w0 (by have := hL.nh; omega) (hL.base hart (by omega)) h0)
  have S0 := Lib.hid (Lk.start h)
  have W1 := Lib.hid (fun w0 => cwithin_b (hart : Int) (c.nh : Int) true (by simp [withinB, hh]) w0)
  have W2 := Lib.hid (fun w0 => cwithin_b (at_ : Int) (c.len hart : Int) true (by simp [withinB, ha]) w0)
  have hb60 := hL.base (hart + 1) (by omega)
  have hbs : baseL c.len (hart + 1) = baseL c.len hart + c.len hart := rfl
  have hcp : c.nh ≤ q.cH := h.cap
  have hn9 := hL.nh
  clear h hm
  obtain ⟨u0, u1, u2, u3⟩ := S0.out.box.facts
  go_enter Try.func8, Try.ntmps8
  go_upto_region 4 with (go_at_call 12; (with_reducible refine (KC.out _ S0.out.at_).mono ?_); rintro e' w1 ⟨rfl, hb⟩; have S1 := Lib.hid (S0.out.on hb); clear hb u0 u1 u2 u3; obtain ⟨u0, u1, u2, u3⟩ := S1.out.box.facts)
  obtain ⟨b, off, a2, c2, hq, hc, _, _⟩ := S1.out.at_.harts.row hart hh
  rw [hq] at u1
  have hhi : (hart : Int) < (c.nh : Int) := by omega
  have hh0 : (0 : Int) ≤ (hart : Int) := by omega
  go_upto_region 6 with (first
    | (go_at_call 30; (with_reducible refine (W1.out _).mono ?_); rintro e' w2 ⟨rfl, rfl⟩)
    | (go_at_call 30; (with_reducible refine (W2.out _).mono ?_); rintro e' w2 ⟨rfl, rfl⟩))
  have HS := Lib.hid (S1.out.at_.harts.less (m := hart) (by omega))
  rw [hq] at KL HS
  have hcpi : (hart : Int) ≤ (q.cH : Int) := by omega
  go_wp2_with (go_at_call 31; (with_reducible refine (KL.out _ _ HS.out).mono ?_); rintro e' w3 ⟨rfl, hb⟩; have S3 := Lib.hid (S1.out.on hb); clear hb)
  exact bodyPost_ret (v := .tuple #[.int .i64 ((baseL c.len hart : Int) + (at_ : Int)), .int .i64 0]) (by simp [results, Try.results8]) rfl ⟨by rw [Int.natCast_add], S3.out.below⟩
set_option maxRecDepth 100000 in
set_option maxHeartbeats 8000000 in
theorem First_yes (c : Cd) (q : Cv) (w : World) (hL : Lt c) (h : CAt c q w) (hm : c.may = true) (x : Int) : Calls Try.prog 10 #[cdV c q, .int .u64 x] w fun e w' => ValIs w (valL c.fs x) e w' := by
  have KC := Lib.hid (fun w0 h0 => check_c c q w0 hL h0 true hm)
  have S0 := Lib.hid (Lk.start h)
  have hr : riseL c.fs c.fs.length = true := by
    rw [may_is] at hm
    simp only [Bool.and_eq_true] at hm
    exact hm.2.2.2.1
  have KV := Lib.hid (fun w0 h0 => value_any (.slice q.aF c.fs.length q.cF) c.fs x w0 h0 hL.fs hr)
  clear h hm hr
  obtain ⟨u0, u1, u2, u3⟩ := S0.out.box.facts
  go_enter Try.func10, Try.ntmps10
  go_wp2_with (first
    | (go_at_call 12; (with_reducible refine (KC.out _ S0.out.at_).mono ?_); rintro e' w1 ⟨rfl, hb⟩; have S1 := Lib.hid (S0.out.on hb); clear hb u0 u1 u2 u3; obtain ⟨u0, u1, u2, u3⟩ := S1.out.box.facts)
    | (go_at_call 32; (with_reducible refine (KV.out _ S1.out.at_.first).mono ?_); rintro e' w2 ⟨rfl, hb⟩; have S2 := Lib.hid (S1.out.on hb); clear hb u0 u1 u2 u3))
  go_ret
  exact ⟨rfl, S2.out.below⟩
end Go.Proofs.Ytcebcmmbokajcaa
