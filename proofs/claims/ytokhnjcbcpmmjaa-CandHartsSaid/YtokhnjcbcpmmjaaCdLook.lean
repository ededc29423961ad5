/-
  Proved here: cand's look answers a candidate's events by number if it may be, and Check tells whether it may be; nothing that was there is changed. Condition: a light candidate.
-/
import Derived.Test.YtokhnjcbcpmmjaaCdFound
import Derived.Test.YtokhnjcbcpmmjaaCdOrdered
namespace Go.Proofs.Ytokhnjcbcpmmjaa
set_option linter.unusedVariables false
set_option linter.unusedSimpArgs false
open Go.RowKit
attribute [local go_sem ↓] fold_E fold_SE

theorem may_is (c : Cd) : c.may = (decide (0 < c.nh) && (decide (c.nh ≤ 8) && (decide (c.N ≤ 4096) && (riseL c.fs c.fs.length && (rowsL c c.nh && (foundB c && orderedB c)))))) := rfl
def LookIs (c : Cd) (r : Bool) (w : World) (e : Ending) (w' : World) : Prop := ∃ v, e = .returned (.tuple #[v, .bool r]) ∧ (r = true → ∃ g, v = .slice (some ⟨g, 0, none⟩) c.N c.N ∧ w.heap.size ≤ g ∧ AllIn c g w') ∧ (r = false → v = .slice none 0 0) ∧ Below w.heap.size w w'
theorem LookIs.no {c : Cd} {r : Bool} {w w' : World} (h : r = false) (hb : Below w.heap.size w w') : LookIs c r w (.returned (.tuple #[.slice none 0 0, .bool false])) w' := by subst h; exact ⟨_, rfl, (fun e => by cases e), fun _ => rfl, hb⟩
theorem LookIs.yes {c : Cd} {r : Bool} {g : Nat} {w w' : World} (h : r = true) (hg : w.heap.size ≤ g) (ha : AllIn c g w') (hb : Below w.heap.size w w') : LookIs c r w (.returned (.tuple #[.slice (some ⟨g, 0, none⟩) c.N c.N, .bool true])) w' := by subst h; exact ⟨_, rfl, fun _ => ⟨g, rfl, hg, ha⟩, (fun e => by cases e), hb⟩
/-- the candidate's box, and what holds behind it -/
structure Lk (c : Cd) (q : Cv) (w W : World) : Prop where
  box : CdAt c q w.heap.size W
  below : Below w.heap.size w W
  here : CAt c q w
theorem Lk.on {c : Cd} {q : Cv} {w W W2 : World} (h : Lk c q w W) (hb : Below W.heap.size W W2) : Lk c q w W2 := ⟨h.box.on hb, h.below.trans (hb.mono h.below.size), h.here⟩
theorem Lk.at_ {c : Cd} {q : Cv} {w W : World} (h : Lk c q w W) : CAt c q W := h.here.below h.below
theorem Lk.start {c : Cd} {q : Cv} {w : World} (h : CAt c q w) : Lk c q w (w.alloc (.cells #[.slice q.aF c.fs.length q.cF, .slice q.aH c.nh q.cH, .slice q.aR c.fr.length q.cR, .slice q.aO c.od.length q.cO] 26)) := ⟨CdAt.new c q w, box_below _ _, h⟩
/-- and the events -/
structure Lg (c : Cd) (q : Cv) (g : Nat) (w W : World) : Prop where
  lk : Lk c q w W
  all : AllIn c g W
  new : w.heap.size ≤ g
theorem Lg.on {c : Cd} {q : Cv} {g : Nat} {w W W2 : World} (h : Lg c q g w W) (hb : Below W.heap.size W W2) : Lg c q g w W2 := ⟨h.lk.on hb, h.all.on hb, h.new⟩
theorem Lg.fd {c : Cd} {q : Cv} {g : Nat} {w W : World} (h : Lg c q g w W) (hL : Lt c) (hr : riseL c.fs c.fs.length = true) : Fd c q g W := ⟨h.all, h.lk.at_.first, hL.fs, hr, hL.n⟩
theorem rising_c {c : Cd} {q : Cv} {W : World} (hL : Lt c) (h : CAt c q W) (r : Bool) (hr : riseL c.fs c.fs.length = r) : Calls Try.prog 24 #[.slice q.aF c.fs.length q.cF] W fun e w' => TellsIs W r e w' := by
  rw [← hr]; exact riseC_any _ c.fs W h.first hL.fs (fun j hj => (hL.fw j hj).1.1)
theorem rows_c {c : Cd} {q : Cv} {W : World} (hL : Lt c) (h : CAt c q W) (r : Bool) (hr : rowsL c c.nh = r) : Calls Try.prog 25 #[.slice q.aH c.nh q.cH] W fun e w' => TellsIs W r e w' := by
  rw [← hr]; exact rows_any c q.aH q.cH W hL h.harts
theorem found_c {c : Cd} {q : Cv} {g : Nat} {W : World} (hf : Fd c q g W) (h : CAt c q W) (r : Bool) (hr : foundB c = r) : Calls Try.prog 26 #[cdV c q, .slice (some ⟨g, 0, none⟩) c.N c.N] W fun e w' => TellsIs W r e w' := by
  rw [← hr]; exact found_any c q g W hf h.from_
theorem ordered_c {c : Cd} {q : Cv} {g : Nat} {W : World} (hL : Lt c) (ha : AllIn c g W) (h : CAt c q W) (r : Bool) (hr : orderedB c = r) : Calls Try.prog 27 #[.slice q.aO c.od.length q.cO, .slice (some ⟨g, 0, none⟩) c.N c.N] W fun e w' => TellsIs W r e w' := by
  rw [← hr]; exact ordered_any c q g W ha hL.n hL.od h.order
set_option maxRecDepth 100000 in
set_option maxHeartbeats 8000000 in
theorem look_none (c : Cd) (q : Cv) (w : World) (hn : ¬ (0 < c.nh ∧ c.nh ≤ 8)) : Calls Try.prog 15 #[cdV c q] w fun e w' => LookIs c c.may w e w' := by
  have HX : Hid (c.may = false) := Lib.hid (by
    rw [may_is]
    rcases Nat.eq_zero_or_pos c.nh with h0 | h0
    · rw [decide_eq_false (by omega)]; rfl
    · rw [decide_eq_true h0, decide_eq_false (show ¬ c.nh ≤ 8 by omega)]; rfl)
  have HB0 := Lib.hid (box_below w (.cells #[.slice q.aF c.fs.length q.cF, .slice q.aH c.nh q.cH, .slice q.aR c.fr.length q.cR, .slice q.aO c.od.length q.cO] 26))
  rcases Nat.eq_zero_or_pos c.nh with h0 | h0
  · unfold cdV
    rw [h0] at HB0 ⊢
    clear hn
    go_enter Try.func15, Try.ntmps15
    go_wp2
    go_ret2
    exact LookIs.no HX.out HB0.out
  · have h1 : ((c.nh : Int) == 0) = false := by simp; omega
    have h2 : decide ((8 : Int) < (c.nh : Int)) = true := by simp; omega
    clear hn h0
    go_enter Try.func15, Try.ntmps15
    go_wp2
    go_ret2
    exact LookIs.no HX.out HB0.out
set_option maxRecDepth 100000 in
set_option maxHeartbeats 8000000 in
theorem look_some (c : Cd) (q : Cv) (w : World) (hL : Lt c) (h : CAt c q w) (hn : 0 < c.nh ∧ c.nh ≤ 8) : Calls Try.prog 15 #[cdV c q] w fun e w' => LookIs c c.may w e w' := by
  have HX : Hid (c.may = (riseL c.fs c.fs.length && (rowsL c c.nh && (foundB c && orderedB c)))) := Lib.hid (by
    rw [may_is, decide_eq_true hn.1, decide_eq_true hn.2, decide_eq_true (show c.N ≤ 4096 by have := hL.n; omega)]; rfl)
  have HL := Lib.hid hL
  have S0 := Lib.hid (Lk.start h)
  have h1 : ((c.nh : Int) == 0) = false := by simp; omega
  have h2 : decide ((8 : Int) < (c.nh : Int)) = false := by simp; omega
  have hnn := hL.n
  have KL := Lib.hid (fun w0 (h0 : HsAt c c.nh q.aH w0) => (show Calls Try.prog 22 #[.slice q.aH c.nh q.cH] w0 fun e w' => LenIs w0 c.N e w' from length_any c c.nh q.aH q.cH w0 hL.nh hL.n h0))
  have KN := Lib.hid (fun w0 (h0 : HsAt c c.nh q.aH w0) => (show Calls Try.prog 23 #[.slice q.aH c.nh q.cH] w0 fun e w' => ∃ g, e = .returned (.slice (some ⟨g, 0, none⟩) c.N c.N) ∧ w0.heap.size ≤ g ∧ w'.heap[g]? = some (.cells (flat ((allP c c.nh).map (·.1))).toArray 42 (0, 0)) ∧ Below w0.heap.size w0 w' from numbered_any c c.nh q.aH q.cH w0 hL.nh hL.n h0))
  clear h hL hn
  have h3 : decide ((4096 : Int) < (c.N : Int)) = false := by simp; omega
  obtain ⟨u0, u1, u2, u3⟩ := S0.out.box.facts
  go_enter Try.func15, Try.ntmps15
  go_upto_region 4 with (first
    | (go_at_call 22; (with_reducible refine (KL.out _ S0.out.at_.harts).mono ?_); rintro e' w1 ⟨rfl, hb⟩; have S1 := Lib.hid (S0.out.on hb); clear hb u0 u1 u2 u3; obtain ⟨u0, u1, u2, u3⟩ := S1.out.box.facts)
    | (go_at_call 23; (with_reducible refine (KN.out _ S1.out.at_.harts).mono ?_); rintro e' w2 ⟨g, rfl, hg, hgb, hb⟩; have S2 := Lib.hid (show Lg c q g w w2 from ⟨S1.out.on hb, AllIn.mk' S1.out.at_.harts hb hgb, Nat.le_trans S1.out.below.size hg⟩); clear hb hg hgb u0 u1 u2 u3; obtain ⟨u0, u1, u2, u3⟩ := S2.out.lk.box.facts))
  obtain ⟨r1, hr1⟩ : ∃ r, Hid (riseL c.fs c.fs.length = r) := ⟨_, Lib.hid rfl⟩
  obtain ⟨r2, hr2⟩ : ∃ r, Hid (rowsL c c.nh = r) := ⟨_, Lib.hid rfl⟩
  obtain ⟨r3, hr3⟩ : ∃ r, Hid (foundB c = r) := ⟨_, Lib.hid rfl⟩
  obtain ⟨r4, hr4⟩ : ∃ r, Hid (orderedB c = r) := ⟨_, Lib.hid rfl⟩
  rw [hr1.out, hr2.out, hr3.out, hr4.out] at HX
  have K1 := Lib.hid (rising_c HL.out S2.out.lk.at_ r1 hr1.out)
  cases r1 with
  | false =>
    go_wp2_with (go_at_call 24; (with_reducible refine (K1.out).mono ?_); rintro e' w3 ⟨rfl, hb⟩; have S3 := Lib.hid (S2.out.on hb); clear hb u0 u1 u2 u3; obtain ⟨u0, u1, u2, u3⟩ := S3.out.lk.box.facts)
    exact bodyPost_ret (v := .tuple #[.slice none 0 0, .bool false]) (by simp [results, Try.results15]) rfl (LookIs.no HX.out S3.out.lk.below)
  | true =>
    cases r2 with
    | false =>
      go_wp2_with (first | (go_at_call 24; (with_reducible refine (K1.out).mono ?_); rintro e' w3 ⟨rfl, hb⟩; have S3 := Lib.hid (S2.out.on hb); clear hb u0 u1 u2 u3; obtain ⟨u0, u1, u2, u3⟩ := S3.out.lk.box.facts) | (go_at_call 25; (with_reducible refine (rows_c HL.out S3.out.lk.at_ _ hr2.out).mono ?_); rintro e' w4 ⟨rfl, hb⟩; have S4 := Lib.hid (S3.out.on hb); clear hb u0 u1 u2 u3; obtain ⟨u0, u1, u2, u3⟩ := S4.out.lk.box.facts))
      exact bodyPost_ret (v := .tuple #[.slice none 0 0, .bool false]) (by simp [results, Try.results15]) rfl (LookIs.no HX.out S4.out.lk.below)
    | true =>
      cases r3 with
      | false =>
        go_wp2_with (first | (go_at_call 24; (with_reducible refine (K1.out).mono ?_); rintro e' w3 ⟨rfl, hb⟩; have S3 := Lib.hid (S2.out.on hb); clear hb u0 u1 u2 u3; obtain ⟨u0, u1, u2, u3⟩ := S3.out.lk.box.facts) | (go_at_call 25; (with_reducible refine (rows_c HL.out S3.out.lk.at_ _ hr2.out).mono ?_); rintro e' w4 ⟨rfl, hb⟩; have S4 := Lib.hid (S3.out.on hb); clear hb u0 u1 u2 u3; obtain ⟨u0, u1, u2, u3⟩ := S4.out.lk.box.facts) | (go_at_call 26; (with_reducible refine (found_c (S4.out.fd HL.out hr1.out) S4.out.lk.at_ _ hr3.out).mono ?_); rintro e' w5 ⟨rfl, hb⟩; have S5 := Lib.hid (S4.out.on hb); clear hb u0 u1 u2 u3; obtain ⟨u0, u1, u2, u3⟩ := S5.out.lk.box.facts))
        exact bodyPost_ret (v := .tuple #[.slice none 0 0, .bool false]) (by simp [results, Try.results15]) rfl (LookIs.no HX.out S5.out.lk.below)
      | true =>
        cases r4 with
        | false =>
          go_wp2_with (first | (go_at_call 24; (with_reducible refine (K1.out).mono ?_); rintro e' w3 ⟨rfl, hb⟩; have S3 := Lib.hid (S2.out.on hb); clear hb u0 u1 u2 u3; obtain ⟨u0, u1, u2, u3⟩ := S3.out.lk.box.facts) | (go_at_call 25; (with_reducible refine (rows_c HL.out S3.out.lk.at_ _ hr2.out).mono ?_); rintro e' w4 ⟨rfl, hb⟩; have S4 := Lib.hid (S3.out.on hb); clear hb u0 u1 u2 u3; obtain ⟨u0, u1, u2, u3⟩ := S4.out.lk.box.facts) | (go_at_call 26; (with_reducible refine (found_c (S4.out.fd HL.out hr1.out) S4.out.lk.at_ _ hr3.out).mono ?_); rintro e' w5 ⟨rfl, hb⟩; have S5 := Lib.hid (S4.out.on hb); clear hb u0 u1 u2 u3; obtain ⟨u0, u1, u2, u3⟩ := S5.out.lk.box.facts) | (go_at_call 27; (with_reducible refine (ordered_c HL.out S5.out.all S5.out.lk.at_ _ hr4.out).mono ?_); rintro e' w6 ⟨rfl, hb⟩; have S6 := Lib.hid (S5.out.on hb); clear hb u0 u1 u2 u3))
          exact bodyPost_ret (v := .tuple #[.slice none 0 0, .bool false]) (by simp [results, Try.results15]) rfl (LookIs.no HX.out S6.out.lk.below)
        | true =>
          go_wp2_with (first | (go_at_call 24; (with_reducible refine (K1.out).mono ?_); rintro e' w3 ⟨rfl, hb⟩; have S3 := Lib.hid (S2.out.on hb); clear hb u0 u1 u2 u3; obtain ⟨u0, u1, u2, u3⟩ := S3.out.lk.box.facts) | (go_at_call 25; (with_reducible refine (rows_c HL.out S3.out.lk.at_ _ hr2.out).mono ?_); rintro e' w4 ⟨rfl, hb⟩; have S4 := Lib.hid (S3.out.on hb); clear hb u0 u1 u2 u3; obtain ⟨u0, u1, u2, u3⟩ := S4.out.lk.box.facts) | (go_at_call 26; (with_reducible refine (found_c (S4.out.fd HL.out hr1.out) S4.out.lk.at_ _ hr3.out).mono ?_); rintro e' w5 ⟨rfl, hb⟩; have S5 := Lib.hid (S4.out.on hb); clear hb u0 u1 u2 u3; obtain ⟨u0, u1, u2, u3⟩ := S5.out.lk.box.facts) | (go_at_call 27; (with_reducible refine (ordered_c HL.out S5.out.all S5.out.lk.at_ _ hr4.out).mono ?_); rintro e' w6 ⟨rfl, hb⟩; have S6 := Lib.hid (S5.out.on hb); clear hb u0 u1 u2 u3))
          exact bodyPost_ret (v := .tuple #[.slice (some ⟨g, 0, none⟩) c.N c.N, .bool true]) (by simp [results, Try.results15]) rfl (LookIs.yes HX.out S6.out.new S6.out.all S6.out.lk.below)
theorem look_any2 (c : Cd) (q : Cv) (w : World) (hL : Lt c) (h : CAt c q w) : Calls Try.prog 15 #[cdV c q] w fun e w' => LookIs c c.may w e w' := by
  by_cases hn : 0 < c.nh ∧ c.nh ≤ 8
  · exact look_some c q w hL h hn
  · exact look_none c q w hn
def CheckIs (w : World) (b : Bool) (e : Ending) (w' : World) : Prop := e = .returned (.int .i64 (if b then 0 else 2)) ∧ Below w.heap.size w w'
set_option maxRecDepth 100000 in
set_option maxHeartbeats 4000000 in
theorem check_c (c : Cd) (q : Cv) (w : World) (hL : Lt c) (h : CAt c q w) (r : Bool) (hr : c.may = r) : Calls Try.prog 6 #[cdV c q] w fun e w' => CheckIs w r e w' := by
  have KK : Hid (∀ w0, CAt c q w0 → Calls Try.prog 15 #[cdV c q] w0 fun e w' => LookIs c r w0 e w') := Lib.hid (fun w0 h0 => by rw [← hr]; exact look_any2 c q w0 hL h0)
  have S0 := Lib.hid (Lk.start h)
  clear h hr
  obtain ⟨u0, u1, u2, u3⟩ := S0.out.box.facts
  unfold cdV at KK ⊢
  cases r with
  | false =>
    go_enter Try.func6, Try.ntmps6
    go_wp2_with (go_at_call 15; (with_reducible refine (KK.out _ S0.out.at_).mono ?_); rintro e' w1 ⟨v, rfl, h1, h2, hb⟩; obtain rfl := h2 rfl; have S1 := Lib.hid (S0.out.on hb); clear hb h1 h2)
    go_ret
    exact ⟨rfl, S1.out.below⟩
  | true =>
    go_enter Try.func6, Try.ntmps6
    go_wp2_with (go_at_call 15; (with_reducible refine (KK.out _ S0.out.at_).mono ?_); rintro e' w1 ⟨v, rfl, h1, h2, hb⟩; obtain ⟨g, rfl, h3, h4⟩ := h1 rfl; have S1 := Lib.hid (S0.out.on hb); clear hb h1 h2 h3 h4)
    go_ret
    exact ⟨rfl, S1.out.below⟩
end Go.Proofs.Ytokhnjcbcpmmjaa
