/-
  Proved here: cand's Number and First of any candidate; cand's All, Places of one that may not be answer nothing; nothing that was there is changed. Condition: a light candidate.
-/
import Derived.Test.YtokhnjcbcpmmjaaGreatCdNumber2
import Derived.Test.YtokhnjcbcpmmjaaGreatCdPlaces
namespace Go.Proofs.YtokhnjcbcpmmjaaGreat
set_option linter.unusedVariables false
set_option linter.unusedSimpArgs false
open Go.RowKit
attribute [local go_sem ↓] fold_E fold_SE

/-- the number of an event, and the error -/
def numW (c : Cd) (x y : Int) : Int × Int := if c.may = false then (0, 2) else if (0 ≤ x ∧ x < c.nh) ∧ (0 ≤ y ∧ y < c.len x.toNat) then ((baseL c.len x.toNat : Nat) + y, 0) else (0, 6)
theorem numW_no {c : Cd} (h : c.may = false) (x y : Int) : numW c x y = (0, 2) := by unfold numW; rw [if_pos h]
theorem numW_in {c : Cd} (h : c.may = true) {x y : Int} (hx : 0 ≤ x ∧ x < c.nh) (hy : 0 ≤ y ∧ y < c.len x.toNat) : numW c x y = ((baseL c.len x.toNat : Nat) + y, 0) := by unfold numW; rw [if_neg (by rw [h]; simp), if_pos ⟨hx, hy⟩]
theorem numW_out {c : Cd} (h : c.may = true) {x y : Int} (hn : ¬ ((0 ≤ x ∧ x < c.nh) ∧ (0 ≤ y ∧ y < c.len x.toNat))) : numW c x y = (0, 6) := by unfold numW; rw [if_neg (by rw [h]; simp), if_neg hn]
theorem within_no {x m : Int} (h : ¬ (0 ≤ x ∧ x < m)) : withinB x m = false := by
  cases hb : withinB x m with
  | false => rfl
  | true => exact absurd (withinB_yes hb) h
set_option maxRecDepth 100000 in
set_option maxHeartbeats 8000000 in
theorem Number_outx (c : Cd) (q : Cv) (w : World) (hL : Lt c) (h : CAt c q w) (hm : c.may = true) (x y : Int) (hx : ¬ (0 ≤ x ∧ x < c.nh)) : Calls Tryz.prog 6 #[cdV c q, .int .i64 x, .int .i64 y] w fun e w' => NumbIs w 0 6 e w' := by
  have KC := Lib.hid (fun w0 h0 => check_c c q w0 hL h0 true hm)
  have S0 := Lib.hid (Lk.start h)
  have W1 := Lib.hid (fun w0 => cwithin_b x (c.nh : Int) false (within_no hx) w0)
  clear h hm hx
  obtain ⟨u0, u1, u2, u3⟩ := S0.out.box.facts
  go_enter Tryz.func6, Tryz.ntmps6
  go_upto_region 4 with (go_at_call 8; (with_reducible refine (KC.out _ S0.out.at_).mono ?_); rintro e' w1 ⟨rfl, hb⟩; have S1 := Lib.hid (S0.out.on hb); clear hb u0 u1 u2 u3; obtain ⟨u0, u1, u2, u3⟩ := S1.out.box.facts)
  go_wp2_with (go_at_call 26; (with_reducible refine (W1.out _).mono ?_); rintro e' w2 ⟨rfl, rfl⟩)
  exact bodyPost_ret (v := .tuple #[.int .i64 0, .int .i64 6]) (by simp [results, Tryz.results6]) rfl ⟨rfl, S1.out.below⟩
set_option maxRecDepth 100000 in
set_option maxHeartbeats 8000000 in
theorem Number_outy (c : Cd) (q : Cv) (w : World) (hL : Lt c) (h : CAt c q w) (hm : c.may = true) (hart : Nat) (y : Int) (hh : hart < c.nh) (hy : ¬ (0 ≤ y ∧ y < c.len hart)) : Calls Tryz.prog 6 #[cdV c q, .int .i64 (hart : Int), .int .i64 y] w fun e w' => NumbIs w 0 6 e w' := by
  have KC := Lib.hid (fun w0 h0 => check_c c q w0 hL h0 true hm)
  have S0 := Lib.hid (Lk.start h)
  have W1 := Lib.hid (fun w0 => cwithin_b (hart : Int) (c.nh : Int) true (by simp [withinB, hh]) w0)
  have W2 := Lib.hid (fun w0 => cwithin_b y (c.len hart : Int) false (within_no hy) w0)
  clear h hm
  obtain ⟨u0, u1, u2, u3⟩ := S0.out.box.facts
  go_enter Tryz.func6, Tryz.ntmps6
  go_upto_region 4 with (go_at_call 8; (with_reducible refine (KC.out _ S0.out.at_).mono ?_); rintro e' w1 ⟨rfl, hb⟩; have S1 := Lib.hid (S0.out.on hb); clear hb u0 u1 u2 u3; obtain ⟨u0, u1, u2, u3⟩ := S1.out.box.facts)
  obtain ⟨b, off, a2, c2, hq, hc, _, _⟩ := S1.out.at_.harts.row hart hh
  rw [hq] at u1
  have hhi : (hart : Int) < (c.nh : Int) := by omega
  have hh0 : (0 : Int) ≤ (hart : Int) := by omega
  go_wp2_with (first
    | (go_at_call 26; (with_reducible refine (W1.out _).mono ?_); rintro e' w2 ⟨rfl, rfl⟩)
    | (go_at_call 26; (with_reducible refine (W2.out _).mono ?_); rintro e' w2 ⟨rfl, rfl⟩))
  exact bodyPost_ret (v := .tuple #[.int .i64 0, .int .i64 6]) (by simp [results, Tryz.results6]) rfl ⟨rfl, S1.out.below⟩
theorem Number_any (c : Cd) (q : Cv) (w : World) (hL : Lt c) (h : CAt c q w) (x y : Int) (n er : Int) (hn : numW c x y = (n, er)) : Calls Tryz.prog 6 #[cdV c q, .int .i64 x, .int .i64 y] w fun e w' => NumbIs w n er e w' := by
  cases hm : c.may with
  | false =>
    rw [numW_no hm] at hn
    injection hn with h1 h2
    subst h1 h2
    exact Number_no c q w hL h hm x y
  | true =>
    by_cases hx : 0 ≤ x ∧ x < c.nh
    · obtain ⟨k, rfl⟩ : ∃ k : Nat, x = k := ⟨x.toNat, by omega⟩
      by_cases hy : 0 ≤ y ∧ y < c.len k
      · obtain ⟨j, rfl⟩ : ∃ j : Nat, y = j := ⟨y.toNat, by omega⟩
        have e := numW_in hm hx hy
        rw [e] at hn
        injection hn with h1 h2
        subst h1 h2
        have := Number_yes c q w hL h hm k j (by omega) (by omega)
        rw [Int.natCast_add] at this
        exact this
      · rw [numW_out hm (fun h => hy h.2)] at hn
        injection hn with h1 h2
        subst h1 h2
        exact Number_outy c q w hL h hm k y (by omega) hy
    · rw [numW_out hm (fun h => hx h.1)] at hn
      injection hn with h1 h2
      subst h1 h2
      exact Number_outx c q w hL h hm x y hx
/-- what was there at first -/
def firstW (c : Cd) (x : Int) : Int := if c.may = true then valL c.fs x else 0
set_option maxRecDepth 100000 in
set_option maxHeartbeats 8000000 in
theorem First_any (c : Cd) (q : Cv) (w : World) (hL : Lt c) (h : CAt c q w) (x v : Int) (hv : firstW c x = v) : Calls Tryz.prog 17 #[cdV c q, .int .u64 x] w fun e w' => ValIs w v e w' := by
  subst hv
  cases hm : c.may with
  | true => unfold firstW; rw [if_pos hm]; exact First_yes c q w hL h hm x
  | false =>
    unfold firstW; rw [if_neg (by rw [hm]; simp)]
    have KC := Lib.hid (fun w0 h0 => check_c c q w0 hL h0 false hm)
    have S0 := Lib.hid (Lk.start h)
    clear h hm
    obtain ⟨u0, u1, u2, u3⟩ := S0.out.box.facts
    go_enter Tryz.func17, Tryz.ntmps17
    go_wp2_with (go_at_call 8; (with_reducible refine (KC.out _ S0.out.at_).mono ?_); rintro e' w1 ⟨rfl, hb⟩; have S1 := Lib.hid (S0.out.on hb); clear hb u0 u1 u2 u3)
    go_ret
    exact ⟨rfl, S1.out.below⟩
/-- nothing -/
def NoneIs (w : World) (e : Ending) (w' : World) : Prop := e = .returned (.slice none 0 0) ∧ Below w.heap.size w w'
set_option maxRecDepth 100000 in
set_option maxHeartbeats 8000000 in
theorem Places_no (c : Cd) (q : Cv) (w : World) (hL : Lt c) (h : CAt c q w) (hm : c.may = false) : Calls Tryz.prog 15 #[cdV c q] w fun e w' => NoneIs w e w' := by
  have KK : Hid (∀ w0, CAt c q w0 → Calls Tryz.prog 28 #[cdV c q] w0 fun e w' => LookIs c false w0 e w') := Lib.hid (fun w0 h0 => by rw [← hm]; exact look_any2 c q w0 hL h0)
  have S0 := Lib.hid (Lk.start h)
  clear h hm
  obtain ⟨u0, u1, u2, u3⟩ := S0.out.box.facts
  go_enter Tryz.func15, Tryz.ntmps15
  go_wp2_with (go_at_call 28; (with_reducible refine (KK.out _ S0.out.at_).mono ?_); rintro e' w1 ⟨v, rfl, _, h2, hb⟩; obtain rfl := h2 rfl; have S1 := Lib.hid (S0.out.on hb); clear hb h2 u0 u1 u2 u3)
  go_ret
  exact ⟨rfl, S1.out.below⟩
set_option maxRecDepth 100000 in
set_option maxHeartbeats 8000000 in
theorem Last_no (c : Cd) (q : Cv) (w : World) (hL : Lt c) (h : CAt c q w) (hm : c.may = false) : Calls Tryz.prog 20 #[cdV c q] w fun e w' => NoneIs w e w' := by
  have KK : Hid (∀ w0, CAt c q w0 → Calls Tryz.prog 28 #[cdV c q] w0 fun e w' => LookIs c false w0 e w') := Lib.hid (fun w0 h0 => by rw [← hm]; exact look_any2 c q w0 hL h0)
  have S0 := Lib.hid (Lk.start h)
  clear h hm
  obtain ⟨u0, u1, u2, u3⟩ := S0.out.box.facts
  go_enter Tryz.func20, Tryz.ntmps20
  go_wp2_with (go_at_call 28; (with_reducible refine (KK.out _ S0.out.at_).mono ?_); rintro e' w1 ⟨v, rfl, _, h2, hb⟩; obtain rfl := h2 rfl; have S1 := Lib.hid (S0.out.on hb); clear hb h2 u0 u1 u2 u3)
  go_ret
  exact ⟨rfl, S1.out.below⟩
set_option maxRecDepth 100000 in
set_option maxHeartbeats 8000000 in
theorem All_no (c : Cd) (q : Cv) (w : World) (hL : Lt c) (h : CAt c q w) (hm : c.may = false) : Calls Tryz.prog 11 #[cdV c q] w fun e w' => NoneIs w e w' := by
  have KK : Hid (∀ w0, CAt c q w0 → Calls Tryz.prog 28 #[cdV c q] w0 fun e w' => LookIs c false w0 e w') := Lib.hid (fun w0 h0 => by rw [← hm]; exact look_any2 c q w0 hL h0)
  have S0 := Lib.hid (Lk.start h)
  clear h hm
  obtain ⟨u0, u1, u2, u3⟩ := S0.out.box.facts
  go_enter Tryz.func11, Tryz.ntmps11
  go_wp2_with (go_at_call 28; (with_reducible refine (KK.out _ S0.out.at_).mono ?_); rintro e' w1 ⟨v, rfl, _, h2, hb⟩; obtain rfl := h2 rfl; have S1 := Lib.hid (S0.out.on hb); clear hb h2 u0 u1 u2 u3)
  refine wp_loop_rounds 1 ?_
  rw [rounds_succ]
  go_wp2
  go_ret
  exact ⟨rfl, S1.out.below⟩
end Go.Proofs.YtokhnjcbcpmmjaaGreat
