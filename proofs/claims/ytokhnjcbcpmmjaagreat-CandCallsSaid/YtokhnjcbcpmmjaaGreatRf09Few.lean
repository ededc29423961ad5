/-
  Proved here: the document's Number and First of any candidate; All, Places of one that may not be answer nothing; nothing that was there is changed. Condition: a light candidate whose pairs fit.
-/
import Derived.Test.YtokhnjcbcpmmjaaGreatRf09All
import Derived.Test.YtokhnjcbcpmmjaaGreatCcNo
namespace Go.Proofs.YtokhnjcbcpmmjaaGreat
set_option linter.unusedVariables false
set_option linter.unusedSimpArgs false
open Go.RowKit
attribute [local go_sem ↓] fold_E fold_SE

set_option maxRecDepth 100000 in
set_option maxHeartbeats 8000000 in
theorem rnumber_no (c : Cd) (q : Cv) (w : World) (hL : Lt c) (hX : ∀ h, h < c.nh → ∀ k, k < c.len h → PairFits (c.ev h k)) (h : CAt c q w) (hm : c.may = false) (x y : Int) : Calls Tryz.prog 7 #[cdV c q, .int .i64 x, .int .i64 y] w fun e w' => NumbIs w 0 2 e w' := by
  have KC := Lib.hid (fun w0 h0 => rcheck9_is c q w0 hL hX h0 false hm)
  have S0 := Lib.hid (Lk.start h)
  clear h hm hX
  obtain ⟨u0, u1, u2, u3⟩ := S0.out.box.facts
  go_enter Tryz.func7, Tryz.ntmps7
  go_wp2_with (go_at_call 9; (with_reducible refine (KC.out _ S0.out.at_).mono ?_); rintro e' w1 ⟨rfl, hb⟩; have S1 := Lib.hid (S0.out.on hb); clear hb u0 u1 u2 u3)
  exact bodyPost_ret (v := .tuple #[.int .i64 0, .int .i64 2]) (by simp [results, Tryz.results7]) rfl ⟨rfl, S1.out.below⟩
set_option maxRecDepth 100000 in
set_option maxHeartbeats 8000000 in
theorem rnumber_outx (c : Cd) (q : Cv) (w : World) (hL : Lt c) (hX : ∀ h, h < c.nh → ∀ k, k < c.len h → PairFits (c.ev h k)) (h : CAt c q w) (hm : c.may = true) (x y : Int) (hx : ¬ (0 ≤ x ∧ x < c.nh)) : Calls Tryz.prog 7 #[cdV c q, .int .i64 x, .int .i64 y] w fun e w' => NumbIs w 0 6 e w' := by
  have KC := Lib.hid (fun w0 h0 => rcheck9_is c q w0 hL hX h0 true hm)
  have S0 := Lib.hid (Lk.start h)
  clear h hm hX
  obtain ⟨u0, u1, u2, u3⟩ := S0.out.box.facts
  by_cases h0 : x < 0
  · have d0 : decide (x < 0) = true := decide_eq_true h0
    clear hx
    go_enter Tryz.func7, Tryz.ntmps7
    go_wp2_with (go_at_call 9; (with_reducible refine (KC.out _ S0.out.at_).mono ?_); rintro e' w1 ⟨rfl, hb⟩; have S1 := Lib.hid (S0.out.on hb); clear hb u0 u1 u2 u3; obtain ⟨u0, u1, u2, u3⟩ := S1.out.box.facts)
    exact bodyPost_ret (v := .tuple #[.int .i64 0, .int .i64 6]) (by simp [results, Tryz.results7]) rfl ⟨rfl, S1.out.below⟩
  · have d0 : decide (x < 0) = false := decide_eq_false h0
    have d1 : decide ((c.nh : Int) ≤ x) = true := decide_eq_true (by omega)
    clear hx
    go_enter Tryz.func7, Tryz.ntmps7
    go_wp2_with (go_at_call 9; (with_reducible refine (KC.out _ S0.out.at_).mono ?_); rintro e' w1 ⟨rfl, hb⟩; have S1 := Lib.hid (S0.out.on hb); clear hb u0 u1 u2 u3; obtain ⟨u0, u1, u2, u3⟩ := S1.out.box.facts)
    exact bodyPost_ret (v := .tuple #[.int .i64 0, .int .i64 6]) (by simp [results, Tryz.results7]) rfl ⟨rfl, S1.out.below⟩
set_option maxRecDepth 100000 in
set_option maxHeartbeats 8000000 in
theorem rnumber_outy (c : Cd) (q : Cv) (w : World) (hL : Lt c) (hX : ∀ h, h < c.nh → ∀ k, k < c.len h → PairFits (c.ev h k)) (h : CAt c q w) (hm : c.may = true) (hart : Nat) (y : Int) (hh : hart < c.nh) (hy : ¬ (0 ≤ y ∧ y < c.len hart)) : Calls Tryz.prog 7 #[cdV c q, .int .i64 (hart : Int), .int .i64 y] w fun e w' => NumbIs w 0 6 e w' := by
  have KC := Lib.hid (fun w0 h0 => rcheck9_is c q w0 hL hX h0 true hm)
  have S0 := Lib.hid (Lk.start h)
  clear h hm hX
  have g0 : decide ((hart : Int) < 0) = false := decide_eq_false (by omega)
  have g1 : decide ((c.nh : Int) ≤ (hart : Int)) = false := decide_eq_false (by omega)
  have hhi : (hart : Int) < (c.nh : Int) := by omega
  have hh0 : (0 : Int) ≤ (hart : Int) := by omega
  obtain ⟨u0, u1, u2, u3⟩ := S0.out.box.facts
  by_cases h0 : y < 0
  · have d0 : decide (y < 0) = true := decide_eq_true h0
    clear hy
    go_enter Tryz.func7, Tryz.ntmps7
    go_wp2_with (go_at_call 9; (with_reducible refine (KC.out _ S0.out.at_).mono ?_); rintro e' w1 ⟨rfl, hb⟩; have S1 := Lib.hid (S0.out.on hb); clear hb u0 u1 u2 u3; obtain ⟨u0, u1, u2, u3⟩ := S1.out.box.facts)
    exact bodyPost_ret (v := .tuple #[.int .i64 0, .int .i64 6]) (by simp [results, Tryz.results7]) rfl ⟨rfl, S1.out.below⟩
  · have d0 : decide (y < 0) = false := decide_eq_false h0
    have d1 : decide ((c.len hart : Int) ≤ y) = true := decide_eq_true (by omega)
    clear hy
    go_enter Tryz.func7, Tryz.ntmps7
    go_upto_region 3 with (go_at_call 9; (with_reducible refine (KC.out _ S0.out.at_).mono ?_); rintro e' w1 ⟨rfl, hb⟩; have S1 := Lib.hid (S0.out.on hb); clear hb u0 u1 u2 u3; obtain ⟨u0, u1, u2, u3⟩ := S1.out.box.facts)
    obtain ⟨b, off, a2, c2, hq, hc, _, _⟩ := S1.out.at_.harts.row hart hh
    rw [hq] at u1
    go_wp2
    exact bodyPost_ret (v := .tuple #[.int .i64 0, .int .i64 6]) (by simp [results, Tryz.results7]) rfl ⟨rfl, S1.out.below⟩
set_option maxRecDepth 100000 in
set_option maxHeartbeats 8000000 in
theorem rnumber_yes (c : Cd) (q : Cv) (w : World) (hL : Lt c) (hX : ∀ h, h < c.nh → ∀ k, k < c.len h → PairFits (c.ev h k)) (h : CAt c q w) (hm : c.may = true) (hart at_ : Nat) (hh : hart < c.nh) (ha : at_ < c.len hart) : Calls Tryz.prog 7 #[cdV c q, .int .i64 (hart : Int), .int .i64 (at_ : Int)] w fun e w' => NumbIs w (baseL c.len hart + at_ : Nat) 0 e w' := by
  have KC := Lib.hid (fun w0 h0 => rcheck9_is c q w0 hL hX h0 true hm)
  have S0 := Lib.hid (Lk.start h)
  have hnh9 := hL.nh
  have HBASE := Lib.hid (fun k hk => hL.base k hk)
  have ha60 := (hL.small hart hh).1
  clear h hm hX
  have g0 : decide ((hart : Int) < 0) = false := decide_eq_false (by omega)
  have g1 : decide ((c.nh : Int) ≤ (hart : Int)) = false := decide_eq_false (by omega)
  have g2 : decide ((at_ : Int) < 0) = false := decide_eq_false (by omega)
  have g3 : decide ((c.len hart : Int) ≤ (at_ : Int)) = false := decide_eq_false (by omega)
  have hhi : (hart : Int) < (c.nh : Int) := by omega
  have hh0 : (0 : Int) ≤ (hart : Int) := by omega
  obtain ⟨u0, u1, u2, u3⟩ := S0.out.box.facts
  go_enter Tryz.func7, Tryz.ntmps7
  go_upto_region 3 with (go_at_call 9; (with_reducible refine (KC.out _ S0.out.at_).mono ?_); rintro e' w1 ⟨rfl, hb⟩; have S1 := Lib.hid (S0.out.on hb); clear hb u0 u1 u2 u3; obtain ⟨u0, u1, u2, u3⟩ := S1.out.box.facts)
  obtain ⟨b, off, a2, c2, hq, hc, _, _⟩ := S1.out.at_.harts.row hart hh
  rw [hq] at u1
  go_wp2
  go_loopw [8, 9] (fun vn vi wr => ∃ (k : Nat), k ≤ hart ∧ vi = .int .i64 k ∧ vn = .int .i64 ((at_ + baseL c.len k : Nat) : Int) ∧ Hid (Lk c q w wr)) (fun _ vi _ => hart - (intOf vi).toNat)
  case atStart => exact ⟨0, Nat.zero_le _, rfl, rfl, S1⟩
  case round =>
    clear u0 u1 u2 u3 hc
    obtain ⟨k, hk, rfl, rfl, hS⟩ := hrel
    obtain ⟨u0, u1, u2, u3⟩ := hS.out.box.facts
    by_cases hlt : k < hart
    · obtain ⟨b2, off2, a3, c3, hq2, hc2, _, _⟩ := hS.out.at_.harts.row k (by omega)
      rw [hq2] at u1
      have hki : (k : Int) < (hart : Int) := by omega
      have hk0 : (0 : Int) ≤ (k : Int) := by omega
      have hkn : (k : Int) < (c.nh : Int) := by omega
      have hb60 := HBASE.out (k + 1) (by omega)
      have hbs : at_ + baseL c.len (k + 1) = at_ + baseL c.len k + c.len k := by show at_ + (baseL c.len k + c.len k) = _; omega
      have hwr : wrap64 (((at_ + baseL c.len k : Nat) : Int) + (c.len k : Int)) = ((at_ + baseL c.len (k + 1) : Nat) : Int) := by
        rw [IntWalk.wrap64_in _ (by omega), hbs]; omega
      obtain ⟨B1, hB1⟩ : ∃ B, at_ + baseL c.len k = B := ⟨_, rfl⟩
      obtain ⟨B2, hB2⟩ : ∃ B, Hid (at_ + baseL c.len (k + 1) = B) := ⟨_, Lib.hid rfl⟩
      rw [hB2.out] at hwr
      rw [hB1] at hwr ⊢
      clear hb60 hbs hB1 hq hq2
      go_wp2
      rw [hwr]
      go_roundw
      case rel => exact ⟨k + 1, by omega, by go_num, by rw [hB2.out], hS⟩
      case measure => simp [intOf]; omega
    · obtain rfl : k = hart := by omega
      go_wp2
      exact bodyPost_ret (v := .tuple #[.int .i64 ((at_ + baseL c.len k : Nat) : Int), .int .i64 0]) (by simp [results, Tryz.results7]) rfl ⟨by rw [Nat.add_comm], hS.out.below⟩
theorem rnumber_any (c : Cd) (q : Cv) (w : World) (hL : Lt c) (hX : ∀ h, h < c.nh → ∀ k, k < c.len h → PairFits (c.ev h k)) (h : CAt c q w) (x y : Int) (n er : Int) (hn : numW c x y = (n, er)) : Calls Tryz.prog 7 #[cdV c q, .int .i64 x, .int .i64 y] w fun e w' => NumbIs w n er e w' := by
  cases hm : c.may with
  | false =>
    rw [numW_no hm] at hn
    injection hn with h1 h2
    subst h1 h2
    exact rnumber_no c q w hL hX h hm x y
  | true =>
    by_cases hx : 0 ≤ x ∧ x < c.nh
    · obtain ⟨k, rfl⟩ : ∃ k : Nat, x = k := ⟨x.toNat, by omega⟩
      by_cases hy : 0 ≤ y ∧ y < c.len k
      · obtain ⟨j, rfl⟩ : ∃ j : Nat, y = j := ⟨y.toNat, by omega⟩
        have e := numW_in hm hx hy
        rw [e] at hn
        injection hn with h1 h2
        subst h1 h2
        have := rnumber_yes c q w hL hX h hm k j (by omega) (by omega)
        rw [Int.natCast_add] at this
        exact this
      · rw [numW_out hm (fun h => hy h.2)] at hn
        injection hn with h1 h2
        subst h1 h2
        exact rnumber_outy c q w hL hX h hm k y (by omega) hy
    · rw [numW_out hm (fun h => hx h.1)] at hn
      injection hn with h1 h2
      subst h1 h2
      exact rnumber_outx c q w hL hX h hm x y hx
set_option maxRecDepth 100000 in
set_option maxHeartbeats 8000000 in
theorem rFirst_any (c : Cd) (q : Cv) (w : World) (hL : Lt c) (hX : ∀ h, h < c.nh → ∀ k, k < c.len h → PairFits (c.ev h k)) (h : CAt c q w) (x v : Int) (hv : firstW c x = v) : Calls Tryz.prog 18 #[cdV c q, .int .u64 x] w fun e w' => ValIs w v e w' := by
  have S0 := Lib.hid (Lk.start h)
  have KV := Lib.hid (fun w0 h0 => rfirst_any (.slice q.aF c.fs.length q.cF) c.fs x w0 h0 (by have := hL.fs; omega))
  obtain ⟨u0, u1, u2, u3⟩ := S0.out.box.facts
  cases hm : c.may with
  | true =>
    unfold firstW at hv
    rw [if_pos hm] at hv
    rw [hv] at KV
    have KC := Lib.hid (fun w0 h0 => rcheck9_is c q w0 hL hX h0 true hm)
    clear h hm hX hv
    go_enter Tryz.func18, Tryz.ntmps18
    go_wp2_with (first
      | (go_at_call 9; (with_reducible refine (KC.out _ S0.out.at_).mono ?_); rintro e' w1 ⟨rfl, hb⟩; have S1 := Lib.hid (S0.out.on hb); clear hb u0 u1 u2 u3; obtain ⟨u0, u1, u2, u3⟩ := S1.out.box.facts)
      | (go_at_call 41; (with_reducible refine (KV.out _ S1.out.at_.first).mono ?_); rintro e' w2 ⟨rfl, hb⟩; have S2 := Lib.hid (S1.out.on hb); clear hb u0 u1 u2 u3))
    go_ret
    exact ⟨rfl, S2.out.below⟩
  | false =>
    unfold firstW at hv
    rw [if_neg (by rw [hm]; simp)] at hv
    subst hv
    have KC := Lib.hid (fun w0 h0 => rcheck9_is c q w0 hL hX h0 false hm)
    clear h hm hX
    go_enter Tryz.func18, Tryz.ntmps18
    go_wp2_with (go_at_call 9; (with_reducible refine (KC.out _ S0.out.at_).mono ?_); rintro e' w1 ⟨rfl, hb⟩; have S1 := Lib.hid (S0.out.on hb); clear hb u0 u1 u2 u3)
    go_ret
    exact ⟨rfl, S1.out.below⟩
set_option maxRecDepth 100000 in
set_option maxHeartbeats 8000000 in
theorem rplaces_no (c : Cd) (q : Cv) (w : World) (hL : Lt c) (hX : ∀ h, h < c.nh → ∀ k, k < c.len h → PairFits (c.ev h k)) (h : CAt c q w) (hm : c.may = false) : Calls Tryz.prog 16 #[cdV c q] w fun e w' => NoneIs w e w' := by
  have KC := Lib.hid (fun w0 h0 => rcheck9_is c q w0 hL hX h0 false hm)
  have S0 := Lib.hid (Lk.start h)
  clear h hm hX
  obtain ⟨u0, u1, u2, u3⟩ := S0.out.box.facts
  go_enter Tryz.func16, Tryz.ntmps16
  go_wp2_with (go_at_call 9; (with_reducible refine (KC.out _ S0.out.at_).mono ?_); rintro e' w1 ⟨rfl, hb⟩; have S1 := Lib.hid (S0.out.on hb); clear hb u0 u1 u2 u3)
  go_ret
  exact ⟨rfl, S1.out.below⟩
set_option maxRecDepth 100000 in
set_option maxHeartbeats 8000000 in
theorem rall9_no (c : Cd) (q : Cv) (w : World) (hL : Lt c) (hX : ∀ h, h < c.nh → ∀ k, k < c.len h → PairFits (c.ev h k)) (h : CAt c q w) (hm : c.may = false) : Calls Tryz.prog 13 #[cdV c q] w fun e w' => NoneIs w e w' := by
  have KC := Lib.hid (fun w0 h0 => rcheck9_is c q w0 hL hX h0 false hm)
  have S0 := Lib.hid (Lk.start h)
  clear h hm hX
  obtain ⟨u0, u1, u2, u3⟩ := S0.out.box.facts
  go_enter Tryz.func13, Tryz.ntmps13
  go_wp2_with (go_at_call 9; (with_reducible refine (KC.out _ S0.out.at_).mono ?_); rintro e' w1 ⟨rfl, hb⟩; have S1 := Lib.hid (S0.out.on hb); clear hb u0 u1 u2 u3)
  go_ret
  exact ⟨rfl, S1.out.below⟩
end Go.Proofs.YtokhnjcbcpmmjaaGreat
