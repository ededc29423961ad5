/-
  Proved here: what each of ppo's thirteen rules answers; nothing that was there is changed. Condition: two numbers of a light candidate that may be. (With it: Proved here: a view's 'in' tells whether a rising list has the place of a number; nothing that was there is changed. Condition: at most 100,000 numbers.)
-/
import Derived.Test.YtcbfokbdiefdeaaGreatDoorPpLook
import Derived.Test.YtcbfokbdiefdeaaGreatDoorShelf
namespace Go.Proofs.YtcbfokbdiefdeaaGreatDoor
set_option linter.unusedVariables false
set_option linter.unusedSimpArgs false
open Go.RowKit Go.Maps
attribute [local go_sem ↓] fold_E fold_SE
attribute [local irreducible] wpStill

theorem rises_pair : ∀ (l : List Int) (lo : Int), risesFrom lo l = true → l.Pairwise (· ≤ ·)
  | [], _, _ => List.Pairwise.nil
  | x :: l, lo, h => by
    simp only [risesFrom, Bool.and_eq_true, decide_eq_true_eq] at h
    refine List.Pairwise.cons (fun y hy => ?_) (rises_pair l x h.2)
    have := rises_lo l x h.2 y hy
    omega
def InIs (w : World) (r : Bool) (e : Ending) (w' : World) : Prop := ∃ n, e = .returned (.tuple #[.int .i64 n, .bool r]) ∧ Below w.heap.size w w'
theorem search_any (v : Value) (zs : List Int) (x : Int) (w : World) (h : ReadsI w v zs) (hs : rises zs = true) (hn : zs.length ≤ 100000) (r : Bool) (hr : decide (x ∈ zs) = r) : Calls Tryz.prog 151 #[v, .int .i64 x] w fun e w' => InIs w r e w' := by
  subst hr
  rcases h with ⟨⟨a, c, rfl, _⟩, rfl⟩ | ⟨b, off, c, rfl, _, _, _, h4⟩
  · refine (Tryz.slices_BinarySearch_int_empty a c x w).mono ?_
    rintro e w' ⟨rfl, rfl⟩
    exact ⟨0, by simp, Below.refl _ _⟩
  · refine (Tryz.slices_BinarySearch_int b off zs.length c zs x w (Nat.le_refl _) (by omega) h4 (by rw [List.take_length]; exact rises_pair zs (-1) hs)).mono ?_
    rintro e w' ⟨rfl, q, rfl⟩
    have hc : (zs.take zs.length).contains x = decide (x ∈ zs) := by
      rw [List.take_length]
      by_cases hx : x ∈ zs <;> simp [hx]
    exact ⟨((zs.take zs.length).countP (· < x) : Nat), by rw [hc], below_drewW (Below.refl _ _) q⟩
set_option maxRecDepth 100000 in
theorem in_v (c : Cd) (K : Nat → Nat → Int) (p : Vp) (w : World) (h : Vw c K p w) (v : Value) (zs : List Int) (hv : ReadsI w v zs) (hs : rises zs = true) (hn : zs.length ≤ 100000) (a : Nat) (ha : a < c.N) (r : Bool) (hr : decide ((c.at a).1.pos ∈ zs) = r) : Calls Tryz.prog 144 #[.pointer (some ⟨p.g, 0, none⟩), v, .int .i64 (a : Int)] w fun e w' => SaysB w r e w' := by
  obtain ⟨b0, _, _⟩ := h.three
  have hAA := h.hA (by omega)
  rw [hAA] at b0
  have ca : w.cell? ⟨p.b, p.off + a * 14 + 1, none⟩ = some (.int .i64 (c.at a).1.pos) := h.ev a ha 1 _ rfl
  have a0 : (0 : Int) ≤ (a : Int) := by omega
  have a1 : (a : Int) < (c.N : Int) := by omega
  have KS := Lib.hid (search_any v zs (c.at a).1.pos w hv hs hn r hr)
  clear h ha hAA hr hv hs
  go_enter Tryz.func144, Tryz.ntmps144
  go_wp2_with (go_at_call 151; (with_reducible refine (KS.out).mono ?_); rintro e' w2 ⟨k, rfl, hb⟩; have L2 := Lib.hid hb; clear hb)
  go_ret
  exact ⟨rfl, L2.out⟩
end Go.Proofs.YtcbfokbdiefdeaaGreatDoor
namespace Go.Proofs.YtcbfokbdiefdeaaGreatDoor
set_option linter.unusedVariables false
set_option linter.unusedSimpArgs false
open Go.RowKit Go.Maps
attribute [local go_sem ↓] fold_E fold_SE
attribute [local irreducible] wpStill

/-- what the rules stand on -/
structure Rx (c : Cd) : Prop where
  a : ∀ n, n < c.N → rises (c.at n).2.a = true ∧ (c.at n).2.a.length ≤ 100000
  d : ∀ n, n < c.N → rises (c.at n).2.d = true ∧ (c.at n).2.d.length ≤ 100000
  y : ∀ n, n < c.N → rises (c.at n).2.y = true ∧ (c.at n).2.y.length ≤ 100000
  fr : c.fr.length = c.N
  n60 : c.N ≤ 60
theorem Rx.of {c : Cd} (hm : c.may = true) (hL : Lt c) : Rx c := by
  have hs : ∀ n, n < c.N → small (c.at n).2 := fun n hn => by
    obtain ⟨h, j, hh, hj, rfl⟩ := num_of c.len c.nh n hn
    rw [c.at_is h j hh hj]
    exact (hL.small h hh).2 j hj
  have hk : ∀ n, n < c.N → aheadB (c.at n).1.pos (c.at n).2.a = true ∧ aheadB (c.at n).1.pos (c.at n).2.d = true ∧ aheadB (c.at n).1.pos (c.at n).2.y = true := fun n hn => by
    obtain ⟨_, _, _, _, _, _, _, _, hk⟩ := may_num hm n hn
    exact chk_lists hk
  exact ⟨fun n hn => ⟨aheadB_up (hk n hn).1, by have := (hs n hn).1; omega⟩, fun n hn => ⟨aheadB_up (hk n hn).2.1, by have := (hs n hn).2.1; omega⟩, fun n hn => ⟨aheadB_up (hk n hn).2.2, by have := (hs n hn).2.2; omega⟩, (may_found hm).1, hL.n⟩
/-- the From of a number -/
theorem Vw.from_ {c : Cd} {K : Nat → Nat → Int} {p : Vp} {w : World} (h : Vw c K p w) (hx : Rx c) (hN : 0 < c.N) : ∃ b off, p.aR = some ⟨b, off, none⟩ ∧ ∀ W, Vw c K p W → ∀ n, n < c.N → W.cell? ⟨b, off + n, none⟩ = some (.int .i64 (atI c.fr n)) := by
  have hfr := hx.fr
  rcases h.fr0 with ⟨_, h0⟩ | ⟨b, off, cc, e, _, _, hb, hc⟩
  · rw [h0] at hfr; simp at hfr; omega
  · injection e with e1 e2 e3
    exact ⟨b, off, e1, fun W hW n hn => (hW.bel.cell (p := ⟨b, off + n, none⟩) hb).trans (hc n (by omega))⟩
set_option maxRecDepth 100000 in
set_option maxHeartbeats 8000000 in
theorem rule_0 (c : Cd) (p : Vp) (w : World) (h : Vw c (finK c) p w) (hx : Rx c) (a b : Nat) (ha : a < c.N) (hb : b < c.N) (r : Bool) (hr : ruleB c a b 0 = r) : Calls Tryz.prog 118 #[.pointer (some ⟨p.g, 0, none⟩), .int .i64 (a : Int), .int .i64 (b : Int)] w fun e w' => SaysB w r e w' := by
  have hx0 := Lib.hid hx
  have V0 := Lib.hid h
  have hAAh := Lib.hid (h.hA (by omega))
  have a0 : (0 : Int) ≤ (a : Int) := by omega
  have a1 : (a : Int) < (c.N : Int) := by omega
  have x0 : (0 : Int) ≤ (b : Int) := by omega
  have x1 : (b : Int) < (c.N : Int) := by omega
  obtain ⟨r0, hr0⟩ : ∃ r, Hid (writesE (c.at b).1 = r) := ⟨_, Lib.hid rfl⟩
  obtain ⟨r1, hr1⟩ : ∃ r, Hid (decide ((c.at a).1.addr = (c.at b).1.addr) = r) := ⟨_, Lib.hid rfl⟩
  have K0 := Lib.hid (fun w0 h0 => writes_v c (finK c) p w0 h0 b hb (finK_side c b hb) r0 hr0.out)
  have K1 := Lib.hid (fun w0 h0 => oneAddr_v c (finK c) p w0 h0 a b ha hb r1 hr1.out)
  have HR : Hid ((r0 && (r1)) = r) := Lib.hid (by rw [← hr]; rw [← hr0.out, ← hr1.out]; rfl)
  clear hx h hr
  cases r0 with
  | false =>
    go_enter Tryz.func118, Tryz.ntmps118
    go_wp2_with (first | (go_at_call 116; (with_reducible refine (K0.out _ V0.out).mono ?_); rintro e' w1 ⟨rfl, hb0⟩; have V1 := Lib.hid (V0.out.on hb0); have L1 := Lib.hid (hb0); clear hb0))
    go_ret
    exact ⟨by rw [← HR.out]; rfl, L1.out⟩
  | true =>
    cases r1 with
    | false =>
      go_enter Tryz.func118, Tryz.ntmps118
      go_wp2_with (first | (go_at_call 116; (with_reducible refine (K0.out _ V0.out).mono ?_); rintro e' w1 ⟨rfl, hb0⟩; have V1 := Lib.hid (V0.out.on hb0); have L1 := Lib.hid (hb0); clear hb0) | (go_at_call 141; (with_reducible refine (K1.out _ V1.out).mono ?_); rintro e' w2 ⟨rfl, hb1⟩; have V2 := Lib.hid (V1.out.on hb1); have L2 := Lib.hid (L1.out.trans (hb1.mono L1.out.size)); clear hb1))
      go_ret
      exact ⟨by rw [← HR.out]; rfl, L2.out⟩
    | true =>
      go_enter Tryz.func118, Tryz.ntmps118
      go_wp2_with (first | (go_at_call 116; (with_reducible refine (K0.out _ V0.out).mono ?_); rintro e' w1 ⟨rfl, hb0⟩; have V1 := Lib.hid (V0.out.on hb0); have L1 := Lib.hid (hb0); clear hb0) | (go_at_call 141; (with_reducible refine (K1.out _ V1.out).mono ?_); rintro e' w2 ⟨rfl, hb1⟩; have V2 := Lib.hid (V1.out.on hb1); have L2 := Lib.hid (L1.out.trans (hb1.mono L1.out.size)); clear hb1))
      go_ret
      exact ⟨by rw [← HR.out]; rfl, L2.out⟩
set_option maxRecDepth 100000 in
set_option maxHeartbeats 8000000 in
theorem rule_4 (c : Cd) (p : Vp) (w : World) (h : Vw c (finK c) p w) (hx : Rx c) (a b : Nat) (ha : a < c.N) (hb : b < c.N) (r : Bool) (hr : ruleB c a b 4 = r) : Calls Tryz.prog 122 #[.pointer (some ⟨p.g, 0, none⟩), .int .i64 (a : Int), .int .i64 (b : Int)] w fun e w' => SaysB w r e w' := by
  have hx0 := Lib.hid hx
  have V0 := Lib.hid h
  have hAAh := Lib.hid (h.hA (by omega))
  have a0 : (0 : Int) ≤ (a : Int) := by omega
  have a1 : (a : Int) < (c.N : Int) := by omega
  have x0 : (0 : Int) ≤ (b : Int) := by omega
  have x1 : (b : Int) < (c.N : Int) := by omega
  obtain ⟨b0, b1, b2⟩ := V0.out.three
  rw [hAAh.out] at b0
  have ea6 : w.cell? ⟨p.b, p.off + a * 14 + 6, none⟩ = some (.bool (c.at a).1.aq) := V0.out.ev a ha 6 _ rfl
  have hrr : (c.at a).1.aq = r := hr
  rw [hrr] at ea6
  clear hx h hr hrr
  go_enter Tryz.func122, Tryz.ntmps122
  go_wp2
  go_ret
  exact ⟨rfl, Below.refl _ _⟩
set_option maxRecDepth 100000 in
set_option maxHeartbeats 8000000 in
theorem rule_5 (c : Cd) (p : Vp) (w : World) (h : Vw c (finK c) p w) (hx : Rx c) (a b : Nat) (ha : a < c.N) (hb : b < c.N) (r : Bool) (hr : ruleB c a b 5 = r) : Calls Tryz.prog 123 #[.pointer (some ⟨p.g, 0, none⟩), .int .i64 (a : Int), .int .i64 (b : Int)] w fun e w' => SaysB w r e w' := by
  have hx0 := Lib.hid hx
  have V0 := Lib.hid h
  have hAAh := Lib.hid (h.hA (by omega))
  have a0 : (0 : Int) ≤ (a : Int) := by omega
  have a1 : (a : Int) < (c.N : Int) := by omega
  have x0 : (0 : Int) ≤ (b : Int) := by omega
  have x1 : (b : Int) < (c.N : Int) := by omega
  obtain ⟨b0, b1, b2⟩ := V0.out.three
  rw [hAAh.out] at b0
  have eb7 : w.cell? ⟨p.b, p.off + b * 14 + 7, none⟩ = some (.bool (c.at b).1.rl) := V0.out.ev b hb 7 _ rfl
  have hrr : (c.at b).1.rl = r := hr
  rw [hrr] at eb7
  clear hx h hr hrr
  go_enter Tryz.func123, Tryz.ntmps123
  go_wp2
  go_ret
  exact ⟨rfl, Below.refl _ _⟩
set_option maxRecDepth 100000 in
set_option maxHeartbeats 8000000 in
theorem rule_6 (c : Cd) (p : Vp) (w : World) (h : Vw c (finK c) p w) (hx : Rx c) (a b : Nat) (ha : a < c.N) (hb : b < c.N) (r : Bool) (hr : ruleB c a b 6 = r) : Calls Tryz.prog 124 #[.pointer (some ⟨p.g, 0, none⟩), .int .i64 (a : Int), .int .i64 (b : Int)] w fun e w' => SaysB w r e w' := by
  have hx0 := Lib.hid hx
  have V0 := Lib.hid h
  have hAAh := Lib.hid (h.hA (by omega))
  have a0 : (0 : Int) ≤ (a : Int) := by omega
  have a1 : (a : Int) < (c.N : Int) := by omega
  have x0 : (0 : Int) ≤ (b : Int) := by omega
  have x1 : (b : Int) < (c.N : Int) := by omega
  obtain ⟨b0, b1, b2⟩ := V0.out.three
  rw [hAAh.out] at b0
  have ea6 : w.cell? ⟨p.b, p.off + a * 14 + 6, none⟩ = some (.bool (c.at a).1.aq) := V0.out.ev a ha 6 _ rfl
  have ea7 : w.cell? ⟨p.b, p.off + a * 14 + 7, none⟩ = some (.bool (c.at a).1.rl) := V0.out.ev a ha 7 _ rfl
  have eb6 : w.cell? ⟨p.b, p.off + b * 14 + 6, none⟩ = some (.bool (c.at b).1.aq) := V0.out.ev b hb 6 _ rfl
  have eb7 : w.cell? ⟨p.b, p.off + b * 14 + 7, none⟩ = some (.bool (c.at b).1.rl) := V0.out.ev b hb 7 _ rfl
  have hrr : (((c.at a).1.aq || (c.at a).1.rl) && ((c.at b).1.aq || (c.at b).1.rl)) = r := hr
  clear hx h hr
  generalize (c.at a).1.aq = y1 at hrr ea6
  generalize (c.at a).1.rl = y2 at hrr ea7
  generalize (c.at b).1.aq = y3 at hrr eb6
  generalize (c.at b).1.rl = y4 at hrr eb7
  have HR := Lib.hid hrr
  clear hrr
  cases y1 <;> cases y2 <;> cases y3 <;> cases y4
  all_goals
    go_enter Tryz.func124, Tryz.ntmps124
    go_wp2
    go_ret
    exact ⟨by rw [← HR.out]; rfl, Below.refl _ _⟩
set_option maxRecDepth 100000 in
set_option maxHeartbeats 8000000 in
theorem rule_8 (c : Cd) (p : Vp) (w : World) (h : Vw c (finK c) p w) (hx : Rx c) (a b : Nat) (ha : a < c.N) (hb : b < c.N) (r : Bool) (hr : ruleB c a b 8 = r) : Calls Tryz.prog 126 #[.pointer (some ⟨p.g, 0, none⟩), .int .i64 (a : Int), .int .i64 (b : Int)] w fun e w' => SaysB w r e w' := by
  have hx0 := Lib.hid hx
  have V0 := Lib.hid h
  have hAAh := Lib.hid (h.hA (by omega))
  have a0 : (0 : Int) ≤ (a : Int) := by omega
  have a1 : (a : Int) < (c.N : Int) := by omega
  have x0 : (0 : Int) ≤ (b : Int) := by omega
  have x1 : (b : Int) < (c.N : Int) := by omega
  obtain ⟨b0, b1, b2⟩ := V0.out.three
  rw [hAAh.out] at b0
  have eb11 : w.cell? ⟨p.b, p.off + b * 14 + 11, none⟩ = some ((c.at b).1.a) := V0.out.ev b hb 11 _ rfl
  have KI := Lib.hid (in_v c (finK c) p w h (c.at b).1.a (c.at b).2.a (h.rd b hb).1 (hx.a b hb).1 (hx.a b hb).2 a ha r hr)
  clear hx h hr
  go_enter Tryz.func126, Tryz.ntmps126
  go_wp2_with (go_at_call 144; (with_reducible refine (KI.out).mono ?_); rintro e' w2 ⟨rfl, hb2⟩; have L2 := Lib.hid hb2; clear hb2)
  go_ret
  exact ⟨rfl, L2.out⟩
set_option maxRecDepth 100000 in
set_option maxHeartbeats 8000000 in
theorem rule_9 (c : Cd) (p : Vp) (w : World) (h : Vw c (finK c) p w) (hx : Rx c) (a b : Nat) (ha : a < c.N) (hb : b < c.N) (r : Bool) (hr : ruleB c a b 9 = r) : Calls Tryz.prog 127 #[.pointer (some ⟨p.g, 0, none⟩), .int .i64 (a : Int), .int .i64 (b : Int)] w fun e w' => SaysB w r e w' := by
  have hx0 := Lib.hid hx
  have V0 := Lib.hid h
  have hAAh := Lib.hid (h.hA (by omega))
  have a0 : (0 : Int) ≤ (a : Int) := by omega
  have a1 : (a : Int) < (c.N : Int) := by omega
  have x0 : (0 : Int) ≤ (b : Int) := by omega
  have x1 : (b : Int) < (c.N : Int) := by omega
  obtain ⟨b0, b1, b2⟩ := V0.out.three
  rw [hAAh.out] at b0
  have eb12 : w.cell? ⟨p.b, p.off + b * 14 + 12, none⟩ = some ((c.at b).1.d) := V0.out.ev b hb 12 _ rfl
  have KI := Lib.hid (in_v c (finK c) p w h (c.at b).1.d (c.at b).2.d (h.rd b hb).2.1 (hx.d b hb).1 (hx.d b hb).2 a ha r hr)
  clear hx h hr
  go_enter Tryz.func127, Tryz.ntmps127
  go_wp2_with (go_at_call 144; (with_reducible refine (KI.out).mono ?_); rintro e' w2 ⟨rfl, hb2⟩; have L2 := Lib.hid hb2; clear hb2)
  go_ret
  exact ⟨rfl, L2.out⟩
set_option maxRecDepth 100000 in
set_option maxHeartbeats 8000000 in
theorem rule_10 (c : Cd) (p : Vp) (w : World) (h : Vw c (finK c) p w) (hx : Rx c) (a b : Nat) (ha : a < c.N) (hb : b < c.N) (r : Bool) (hr : ruleB c a b 10 = r) : Calls Tryz.prog 128 #[.pointer (some ⟨p.g, 0, none⟩), .int .i64 (a : Int), .int .i64 (b : Int)] w fun e w' => SaysB w r e w' := by
  have hx0 := Lib.hid hx
  have V0 := Lib.hid h
  have hAAh := Lib.hid (h.hA (by omega))
  have a0 : (0 : Int) ≤ (a : Int) := by omega
  have a1 : (a : Int) < (c.N : Int) := by omega
  have x0 : (0 : Int) ≤ (b : Int) := by omega
  have x1 : (b : Int) < (c.N : Int) := by omega
  obtain ⟨r0, hr0⟩ : ∃ r, Hid (writesE (c.at b).1 = r) := ⟨_, Lib.hid rfl⟩
  obtain ⟨r1, hr1⟩ : ∃ r, Hid (decide ((c.at a).1.pos ∈ (c.at b).2.y) = r) := ⟨_, Lib.hid rfl⟩
  have K0 := Lib.hid (fun w0 h0 => writes_v c (finK c) p w0 h0 b hb (finK_side c b hb) r0 hr0.out)
  have K1 := Lib.hid (fun w0 (h0 : Vw c (finK c) p w0) => in_v c (finK c) p w0 h0 (c.at b).1.y (c.at b).2.y (h0.rd b hb).2.2 (hx.y b hb).1 (hx.y b hb).2 a ha r1 hr1.out)
  have HR : Hid ((r0 && (r1)) = r) := Lib.hid (by rw [← hr]; rw [← hr0.out, ← hr1.out]; rfl)
  obtain ⟨b0, b1, b2⟩ := V0.out.three
  rw [hAAh.out] at b0
  have eb13 : w.cell? ⟨p.b, p.off + b * 14 + 13, none⟩ = some ((c.at b).1.y) := V0.out.ev b hb 13 _ rfl
  clear hx h hr
  cases r0 with
  | false =>
    go_enter Tryz.func128, Tryz.ntmps128
    go_wp2_with (first | (go_at_call 116; (with_reducible refine (K0.out _ V0.out).mono ?_); rintro e' w1 ⟨rfl, hb0⟩; have V1 := Lib.hid (V0.out.on hb0); have L1 := Lib.hid (hb0); clear hb0 b0 b1 b2 eb13; obtain ⟨b0, b1, b2⟩ := V1.out.three; rw [hAAh.out] at b0; have eb13 : w1.cell? ⟨p.b, p.off + b * 14 + 13, none⟩ = some ((c.at b).1.y) := V1.out.ev b hb 13 _ rfl))
    go_ret
    exact ⟨by rw [← HR.out]; rfl, L1.out⟩
  | true =>
    cases r1 with
    | false =>
      go_enter Tryz.func128, Tryz.ntmps128
      go_wp2_with (first | (go_at_call 116; (with_reducible refine (K0.out _ V0.out).mono ?_); rintro e' w1 ⟨rfl, hb0⟩; have V1 := Lib.hid (V0.out.on hb0); have L1 := Lib.hid (hb0); clear hb0 b0 b1 b2 eb13; obtain ⟨b0, b1, b2⟩ := V1.out.three; rw [hAAh.out] at b0; have eb13 : w1.cell? ⟨p.b, p.off + b * 14 + 13, none⟩ = some ((c.at b).1.y) := V1.out.ev b hb 13 _ rfl) | (go_at_call 144; (with_reducible refine (K1.out _ V1.out).mono ?_); rintro e' w2 ⟨rfl, hb1⟩; have V2 := Lib.hid (V1.out.on hb1); have L2 := Lib.hid (L1.out.trans (hb1.mono L1.out.size)); clear hb1 b0 b1 b2 eb13; obtain ⟨b0, b1, b2⟩ := V2.out.three; rw [hAAh.out] at b0; have eb13 : w2.cell? ⟨p.b, p.off + b * 14 + 13, none⟩ = some ((c.at b).1.y) := V2.out.ev b hb 13 _ rfl))
      go_ret
      exact ⟨by rw [← HR.out]; rfl, L2.out⟩
    | true =>
      go_enter Tryz.func128, Tryz.ntmps128
      go_wp2_with (first | (go_at_call 116; (with_reducible refine (K0.out _ V0.out).mono ?_); rintro e' w1 ⟨rfl, hb0⟩; have V1 := Lib.hid (V0.out.on hb0); have L1 := Lib.hid (hb0); clear hb0 b0 b1 b2 eb13; obtain ⟨b0, b1, b2⟩ := V1.out.three; rw [hAAh.out] at b0; have eb13 : w1.cell? ⟨p.b, p.off + b * 14 + 13, none⟩ = some ((c.at b).1.y) := V1.out.ev b hb 13 _ rfl) | (go_at_call 144; (with_reducible refine (K1.out _ V1.out).mono ?_); rintro e' w2 ⟨rfl, hb1⟩; have V2 := Lib.hid (V1.out.on hb1); have L2 := Lib.hid (L1.out.trans (hb1.mono L1.out.size)); clear hb1 b0 b1 b2 eb13; obtain ⟨b0, b1, b2⟩ := V2.out.three; rw [hAAh.out] at b0; have eb13 : w2.cell? ⟨p.b, p.off + b * 14 + 13, none⟩ = some ((c.at b).1.y) := V2.out.ev b hb 13 _ rfl))
      go_ret
      exact ⟨by rw [← HR.out]; rfl, L2.out⟩
set_option maxRecDepth 100000 in
set_option maxHeartbeats 8000000 in
theorem rule_12 (c : Cd) (p : Vp) (w : World) (h : Vw c (finK c) p w) (hx : Rx c) (a b : Nat) (ha : a < c.N) (hb : b < c.N) (r : Bool) (hr : ruleB c a b 12 = r) : Calls Tryz.prog 130 #[.pointer (some ⟨p.g, 0, none⟩), .int .i64 (a : Int), .int .i64 (b : Int)] w fun e w' => SaysB w r e w' := by
  have hx0 := Lib.hid hx
  have V0 := Lib.hid h
  have hAAh := Lib.hid (h.hA (by omega))
  have a0 : (0 : Int) ≤ (a : Int) := by omega
  have a1 : (a : Int) < (c.N : Int) := by omega
  have x0 : (0 : Int) ≤ (b : Int) := by omega
  have x1 : (b : Int) < (c.N : Int) := by omega
  obtain ⟨r0, hr0⟩ : ∃ r, Hid (writesE (c.at b).1 = r) := ⟨_, Lib.hid rfl⟩
  obtain ⟨r1, hr1⟩ : ∃ r, Hid (betweenB a (hgL c a c.N) b = r) := ⟨_, Lib.hid rfl⟩
  have K0 := Lib.hid (fun w0 h0 => writes_v c (finK c) p w0 h0 b hb (finK_side c b hb) r0 hr0.out)
  have K1 := Lib.hid (fun w0 (h0 : Vw c (finK c) p w0) => between_v a (hgL c a c.N) b w0 r1 hr1.out)
  have HR : Hid ((r0 && (r1)) = r) := Lib.hid (by rw [← hr]; rw [← hr0.out, ← hr1.out]; rfl)
  obtain ⟨b0, b1, b2⟩ := V0.out.three
  rw [hAAh.out] at b0
  have ka6 : w.cell? ⟨p.gk, a * 7 + 6, none⟩ = some (.int .i64 (hgL c a c.N)) := (V0.out.k a 6 ha (by omega)).trans (by rw [finK_hanger c a ha])
  clear hx h hr
  cases r0 with
  | false =>
    go_enter Tryz.func130, Tryz.ntmps130
    go_wp2_with (first | (go_at_call 116; (with_reducible refine (K0.out _ V0.out).mono ?_); rintro e' w1 ⟨rfl, hb0⟩; have V1 := Lib.hid (V0.out.on hb0); have L1 := Lib.hid (hb0); clear hb0 b0 b1 b2 ka6; obtain ⟨b0, b1, b2⟩ := V1.out.three; rw [hAAh.out] at b0; have ka6 : w1.cell? ⟨p.gk, a * 7 + 6, none⟩ = some (.int .i64 (hgL c a c.N)) := (V1.out.k a 6 ha (by omega)).trans (by rw [finK_hanger c a ha])))
    go_ret
    exact ⟨by rw [← HR.out]; rfl, L1.out⟩
  | true =>
    cases r1 with
    | false =>
      go_enter Tryz.func130, Tryz.ntmps130
      go_wp2_with (first | (go_at_call 116; (with_reducible refine (K0.out _ V0.out).mono ?_); rintro e' w1 ⟨rfl, hb0⟩; have V1 := Lib.hid (V0.out.on hb0); have L1 := Lib.hid (hb0); clear hb0 b0 b1 b2 ka6; obtain ⟨b0, b1, b2⟩ := V1.out.three; rw [hAAh.out] at b0; have ka6 : w1.cell? ⟨p.gk, a * 7 + 6, none⟩ = some (.int .i64 (hgL c a c.N)) := (V1.out.k a 6 ha (by omega)).trans (by rw [finK_hanger c a ha])) | (go_at_call 143; (with_reducible refine (K1.out _ V1.out).mono ?_); rintro e' w2 ⟨rfl, hb1⟩; have V2 := Lib.hid (V1.out.on hb1); have L2 := Lib.hid (L1.out.trans (hb1.mono L1.out.size)); clear hb1 b0 b1 b2 ka6; obtain ⟨b0, b1, b2⟩ := V2.out.three; rw [hAAh.out] at b0; have ka6 : w2.cell? ⟨p.gk, a * 7 + 6, none⟩ = some (.int .i64 (hgL c a c.N)) := (V2.out.k a 6 ha (by omega)).trans (by rw [finK_hanger c a ha])))
      go_ret
      exact ⟨by rw [← HR.out]; rfl, L2.out⟩
    | true =>
      go_enter Tryz.func130, Tryz.ntmps130
      go_wp2_with (first | (go_at_call 116; (with_reducible refine (K0.out _ V0.out).mono ?_); rintro e' w1 ⟨rfl, hb0⟩; have V1 := Lib.hid (V0.out.on hb0); have L1 := Lib.hid (hb0); clear hb0 b0 b1 b2 ka6; obtain ⟨b0, b1, b2⟩ := V1.out.three; rw [hAAh.out] at b0; have ka6 : w1.cell? ⟨p.gk, a * 7 + 6, none⟩ = some (.int .i64 (hgL c a c.N)) := (V1.out.k a 6 ha (by omega)).trans (by rw [finK_hanger c a ha])) | (go_at_call 143; (with_reducible refine (K1.out _ V1.out).mono ?_); rintro e' w2 ⟨rfl, hb1⟩; have V2 := Lib.hid (V1.out.on hb1); have L2 := Lib.hid (L1.out.trans (hb1.mono L1.out.size)); clear hb1 b0 b1 b2 ka6; obtain ⟨b0, b1, b2⟩ := V2.out.three; rw [hAAh.out] at b0; have ka6 : w2.cell? ⟨p.gk, a * 7 + 6, none⟩ = some (.int .i64 (hgL c a c.N)) := (V2.out.k a 6 ha (by omega)).trans (by rw [finK_hanger c a ha])))
      go_ret
      exact ⟨by rw [← HR.out]; rfl, L2.out⟩
end Go.Proofs.YtcbfokbdiefdeaaGreatDoor
