/-
  Proved here: what an ask makes may be; event's Of, kind by kind. Condition: as said at each.
-/
import Derived.Test.YtjdfhohchicgbaaDoorEvMakesWords
namespace Go.Proofs.YtjdfhohchicgbaaDoor
open Go.RowKit

/-- what is asked of the numbers -/
structure Good (q : Aq) (found H P p : Int) (al dl yl : List Int) : Prop where
  H8 : 0 ≤ H ∧ H < 8
  P1 : 1 ≤ P ∧ P ≤ 1000
  p : p + 1 = P
  ok : q.ok
  f : 0 ≤ found ∧ found < 18446744073709551616
  a8 : q.addr % 8 = 0
  pr : 0 ≤ q.pred ∧ q.pred < 16
  su : 0 ≤ q.succ ∧ q.succ < 16
  na : al.length ≤ 60
  nd : dl.length ≤ 60
  ny : yl.length ≤ 60
  ha : aheadB P al = true
  hd : aheadB P dl = true
  hy : aheadB P yl = true
theorem within_yes (x m : Int) (h0 : 0 ≤ x) (h1 : x < m) : withinB x m = true := by unfold withinB; simp [h0, h1]
theorem ahead_three (P : Int) (a d y : List Int) (ha : aheadB P a = true) (hd : aheadB P d = true) (hy : aheadB P y = true) : aheadAll P (fun k => if k = 0 then a else if k = 1 then d else y) = true := by
  unfold aheadAll
  rw [List.all_eq_true]
  intro k hk
  have hk3 := List.mem_range.1 hk
  match k, hk3 with
  | 0, _ => exact ha
  | 1, _ => exact hd
  | 2, _ => exact hy
theorem chk_of (e : Ev) (l : El) (F : Nat) (hF : fieldsOf e.kind = F) (h1 : hasB F 4 = true) (h2 : holdB F (numsL e l.a.length l.d.length l.y.length) = true) (h3 : 0 ≤ e.hart ∧ e.hart < 8) (h4 : 0 ≤ e.pos) (h5 : e.addr % 8 = 0) (h6 : 0 ≤ e.pred ∧ e.pred < 16) (h7 : 0 ≤ e.succ ∧ e.succ < 16)
    (h8 : hasB F 1024 = false ∨ (0 ≤ e.pair ∧ e.pair < e.pos)) (ha : aheadB e.pos l.a = true) (hd : aheadB e.pos l.d = true) (hy : aheadB e.pos l.y = true) : chkE e l = true := by
  unfold chkE
  rw [hF, h1, h2, within_yes _ _ h3.1 h3.2, decide_eq_true h4, decide_eq_true h5, within_yes _ _ h6.1 h6.2, within_yes _ _ h7.1 h7.2, ahead_three _ _ _ _ ha hd hy]
  rcases h8 with h8 | h8
  · rw [h8]; rfl
  · rw [within_yes _ _ h8.1 h8.2]; simp
theorem chk_1 (q : Aq) (found H P p : Int) (al dl yl : List Int) (a d y : Value) (g : Good q found H P p al dl yl) : chkE (⟨H, P, 1, q.addr, found, 0, false, false, 0, 0, 0, a, d, y⟩ : Ev) (⟨al, [], yl⟩ : El) = true := by
  refine chk_of _ _ 10271 rfl (by decide) (holdB_yes _ _ (fun i hi => ?_)) g.H8 (by have := g.P1; show 0 ≤ P; omega) g.a8 ⟨by show (0 : Int) ≤ 0; decide, by show (0 : Int) < 16; decide⟩ ⟨by show (0 : Int) ≤ 0; decide, by show (0 : Int) < 16; decide⟩ (.inl (by decide)) g.ha rfl g.hy
  have hc : i = 0 ∨ i = 1 ∨ i = 2 ∨ i = 3 ∨ i = 4 ∨ i = 5 ∨ i = 6 ∨ i = 7 ∨ i = 8 ∨ i = 9 ∨ i = 10 ∨ i = 11 ∨ i = 12 ∨ i = 13 := by omega
  unfold okAt
  rcases hc with rfl | rfl | rfl | rfl | rfl | rfl | rfl | rfl | rfl | rfl | rfl | rfl | rfl | rfl
  · rw [show hasB 10271 (2 ^ 0) = true from by decide]; exact Bool.or_true _
  · rw [show hasB 10271 (2 ^ 1) = true from by decide]; exact Bool.or_true _
  · rw [show hasB 10271 (2 ^ 2) = true from by decide]; exact Bool.or_true _
  · rw [show hasB 10271 (2 ^ 3) = true from by decide]; exact Bool.or_true _
  · rw [show hasB 10271 (2 ^ 4) = true from by decide]; exact Bool.or_true _
  · rw [decide_eq_true (show atI (numsL (⟨H, P, 1, q.addr, found, 0, false, false, 0, 0, 0, a, d, y⟩ : Ev) _ _ _) 5 = 0 from by first | rfl | decide)]; rfl
  · rw [decide_eq_true (show atI (numsL (⟨H, P, 1, q.addr, found, 0, false, false, 0, 0, 0, a, d, y⟩ : Ev) _ _ _) 6 = 0 from by first | rfl | decide)]; rfl
  · rw [decide_eq_true (show atI (numsL (⟨H, P, 1, q.addr, found, 0, false, false, 0, 0, 0, a, d, y⟩ : Ev) _ _ _) 7 = 0 from by first | rfl | decide)]; rfl
  · rw [decide_eq_true (show atI (numsL (⟨H, P, 1, q.addr, found, 0, false, false, 0, 0, 0, a, d, y⟩ : Ev) _ _ _) 8 = 0 from by first | rfl | decide)]; rfl
  · rw [decide_eq_true (show atI (numsL (⟨H, P, 1, q.addr, found, 0, false, false, 0, 0, 0, a, d, y⟩ : Ev) _ _ _) 9 = 0 from by first | rfl | decide)]; rfl
  · rw [decide_eq_true (show atI (numsL (⟨H, P, 1, q.addr, found, 0, false, false, 0, 0, 0, a, d, y⟩ : Ev) _ _ _) 10 = 0 from by first | rfl | decide)]; rfl
  · rw [show hasB 10271 (2 ^ 11) = true from by decide]; exact Bool.or_true _
  · rw [decide_eq_true (show atI (numsL (⟨H, P, 1, q.addr, found, 0, false, false, 0, 0, 0, a, d, y⟩ : Ev) _ _ _) 12 = 0 from by first | rfl | decide)]; rfl
  · rw [show hasB 10271 (2 ^ 13) = true from by decide]; exact Bool.or_true _
theorem of_1 (q : Aq) (found H P p : Int) (al dl yl : List Int) (va vd vy : Value) (w : World) (hk : q.kind = 1) (haq : q.aq = false) (hrl : q.rl = false) (g : Good q found H P p al dl yl) (hr : ReadsI w va al ∧ ReadsI w vd dl ∧ ReadsI w vy yl) :
    Calls Tryd.prog 6 #[.int .i64 H, .int .i64 P, q.V, .int .u64 found, .int .i64 p, .agg #[va, vd, vy]] w fun e' w' => OfIs w (⟨H, P, 1, q.addr, found, 0, false, false, 0, 0, 0, .slice none 0 0, .slice none 0 0, .slice none 0 0⟩ : Ev) (⟨al, [], yl⟩ : El) e' w' := by
  have hm := fun w0 => made_1 q found w0 hk
  rw [haq, hrl] at hm
  have h := Of_any H P found p q va vd vy al dl yl _ w hr (by have := g.na; omega) (by have := g.nd; omega) (by have := g.ny; omega) hm ⟨rfl, rfl, rfl⟩ g.ok.1 10271 (Lib.hid rfl) false (Lib.hid (by decide)) true (Lib.hid (chk_1 q found H P p al dl yl _ _ _ g))
  exact h
theorem chk_2 (q : Aq) (found H P p : Int) (al dl yl : List Int) (a d y : Value) (g : Good q found H P p al dl yl) : chkE (⟨H, P, 2, q.addr, 0, q.val, false, false, 0, 0, 0, a, d, y⟩ : Ev) (⟨al, dl, yl⟩ : El) = true := by
  refine chk_of _ _ 14383 rfl (by decide) (holdB_yes _ _ (fun i hi => ?_)) g.H8 (by have := g.P1; show 0 ≤ P; omega) g.a8 ⟨by show (0 : Int) ≤ 0; decide, by show (0 : Int) < 16; decide⟩ ⟨by show (0 : Int) ≤ 0; decide, by show (0 : Int) < 16; decide⟩ (.inl (by decide)) g.ha g.hd g.hy
  have hc : i = 0 ∨ i = 1 ∨ i = 2 ∨ i = 3 ∨ i = 4 ∨ i = 5 ∨ i = 6 ∨ i = 7 ∨ i = 8 ∨ i = 9 ∨ i = 10 ∨ i = 11 ∨ i = 12 ∨ i = 13 := by omega
  unfold okAt
  rcases hc with rfl | rfl | rfl | rfl | rfl | rfl | rfl | rfl | rfl | rfl | rfl | rfl | rfl | rfl
  · rw [show hasB 14383 (2 ^ 0) = true from by decide]; exact Bool.or_true _
  · rw [show hasB 14383 (2 ^ 1) = true from by decide]; exact Bool.or_true _
  · rw [show hasB 14383 (2 ^ 2) = true from by decide]; exact Bool.or_true _
  · rw [show hasB 14383 (2 ^ 3) = true from by decide]; exact Bool.or_true _
  · rw [decide_eq_true (show atI (numsL (⟨H, P, 2, q.addr, 0, q.val, false, false, 0, 0, 0, a, d, y⟩ : Ev) _ _ _) 4 = 0 from by first | rfl | decide)]; rfl
  · rw [show hasB 14383 (2 ^ 5) = true from by decide]; exact Bool.or_true _
  · rw [decide_eq_true (show atI (numsL (⟨H, P, 2, q.addr, 0, q.val, false, false, 0, 0, 0, a, d, y⟩ : Ev) _ _ _) 6 = 0 from by first | rfl | decide)]; rfl
  · rw [decide_eq_true (show atI (numsL (⟨H, P, 2, q.addr, 0, q.val, false, false, 0, 0, 0, a, d, y⟩ : Ev) _ _ _) 7 = 0 from by first | rfl | decide)]; rfl
  · rw [decide_eq_true (show atI (numsL (⟨H, P, 2, q.addr, 0, q.val, false, false, 0, 0, 0, a, d, y⟩ : Ev) _ _ _) 8 = 0 from by first | rfl | decide)]; rfl
  · rw [decide_eq_true (show atI (numsL (⟨H, P, 2, q.addr, 0, q.val, false, false, 0, 0, 0, a, d, y⟩ : Ev) _ _ _) 9 = 0 from by first | rfl | decide)]; rfl
  · rw [decide_eq_true (show atI (numsL (⟨H, P, 2, q.addr, 0, q.val, false, false, 0, 0, 0, a, d, y⟩ : Ev) _ _ _) 10 = 0 from by first | rfl | decide)]; rfl
  · rw [show hasB 14383 (2 ^ 11) = true from by decide]; exact Bool.or_true _
  · rw [show hasB 14383 (2 ^ 12) = true from by decide]; exact Bool.or_true _
  · rw [show hasB 14383 (2 ^ 13) = true from by decide]; exact Bool.or_true _
theorem of_2 (q : Aq) (found H P p : Int) (al dl yl : List Int) (va vd vy : Value) (w : World) (hk : q.kind = 2) (haq : q.aq = false) (hrl : q.rl = false) (g : Good q found H P p al dl yl) (hr : ReadsI w va al ∧ ReadsI w vd dl ∧ ReadsI w vy yl) :
    Calls Tryd.prog 6 #[.int .i64 H, .int .i64 P, q.V, .int .u64 found, .int .i64 p, .agg #[va, vd, vy]] w fun e' w' => OfIs w (⟨H, P, 2, q.addr, 0, q.val, false, false, 0, 0, 0, .slice none 0 0, .slice none 0 0, .slice none 0 0⟩ : Ev) (⟨al, dl, yl⟩ : El) e' w' := by
  have hm := fun w0 => made_2 q found w0 hk
  rw [haq, hrl] at hm
  have h := Of_any H P found p q va vd vy al dl yl _ w hr (by have := g.na; omega) (by have := g.nd; omega) (by have := g.ny; omega) hm ⟨rfl, rfl, rfl⟩ g.ok.1 14383 (Lib.hid rfl) false (Lib.hid (by decide)) true (Lib.hid (chk_2 q found H P p al dl yl _ _ _ g))
  exact h
theorem chk_3 (q : Aq) (found H P p : Int) (al dl yl : List Int) (a d y : Value) (g : Good q found H P p al dl yl) : chkE (⟨H, P, 3, q.addr, found, 0, q.aq, q.rl, 0, 0, 0, a, d, y⟩ : Ev) (⟨al, [], yl⟩ : El) = true := by
  refine chk_of _ _ 10463 rfl (by decide) (holdB_yes _ _ (fun i hi => ?_)) g.H8 (by have := g.P1; show 0 ≤ P; omega) g.a8 ⟨by show (0 : Int) ≤ 0; decide, by show (0 : Int) < 16; decide⟩ ⟨by show (0 : Int) ≤ 0; decide, by show (0 : Int) < 16; decide⟩ (.inl (by decide)) g.ha rfl g.hy
  have hc : i = 0 ∨ i = 1 ∨ i = 2 ∨ i = 3 ∨ i = 4 ∨ i = 5 ∨ i = 6 ∨ i = 7 ∨ i = 8 ∨ i = 9 ∨ i = 10 ∨ i = 11 ∨ i = 12 ∨ i = 13 := by omega
  unfold okAt
  rcases hc with rfl | rfl | rfl | rfl | rfl | rfl | rfl | rfl | rfl | rfl | rfl | rfl | rfl | rfl
  · rw [show hasB 10463 (2 ^ 0) = true from by decide]; exact Bool.or_true _
  · rw [show hasB 10463 (2 ^ 1) = true from by decide]; exact Bool.or_true _
  · rw [show hasB 10463 (2 ^ 2) = true from by decide]; exact Bool.or_true _
  · rw [show hasB 10463 (2 ^ 3) = true from by decide]; exact Bool.or_true _
  · rw [show hasB 10463 (2 ^ 4) = true from by decide]; exact Bool.or_true _
  · rw [decide_eq_true (show atI (numsL (⟨H, P, 3, q.addr, found, 0, q.aq, q.rl, 0, 0, 0, a, d, y⟩ : Ev) _ _ _) 5 = 0 from by first | rfl | decide)]; rfl
  · rw [show hasB 10463 (2 ^ 6) = true from by decide]; exact Bool.or_true _
  · rw [show hasB 10463 (2 ^ 7) = true from by decide]; exact Bool.or_true _
  · rw [decide_eq_true (show atI (numsL (⟨H, P, 3, q.addr, found, 0, q.aq, q.rl, 0, 0, 0, a, d, y⟩ : Ev) _ _ _) 8 = 0 from by first | rfl | decide)]; rfl
  · rw [decide_eq_true (show atI (numsL (⟨H, P, 3, q.addr, found, 0, q.aq, q.rl, 0, 0, 0, a, d, y⟩ : Ev) _ _ _) 9 = 0 from by first | rfl | decide)]; rfl
  · rw [decide_eq_true (show atI (numsL (⟨H, P, 3, q.addr, found, 0, q.aq, q.rl, 0, 0, 0, a, d, y⟩ : Ev) _ _ _) 10 = 0 from by first | rfl | decide)]; rfl
  · rw [show hasB 10463 (2 ^ 11) = true from by decide]; exact Bool.or_true _
  · rw [decide_eq_true (show atI (numsL (⟨H, P, 3, q.addr, found, 0, q.aq, q.rl, 0, 0, 0, a, d, y⟩ : Ev) _ _ _) 12 = 0 from by first | rfl | decide)]; rfl
  · rw [show hasB 10463 (2 ^ 13) = true from by decide]; exact Bool.or_true _
theorem of_3 (q : Aq) (found H P p : Int) (al dl yl : List Int) (va vd vy : Value) (w : World) (hk : q.kind = 3) (g : Good q found H P p al dl yl) (hr : ReadsI w va al ∧ ReadsI w vd dl ∧ ReadsI w vy yl) :
    Calls Tryd.prog 6 #[.int .i64 H, .int .i64 P, q.V, .int .u64 found, .int .i64 p, .agg #[va, vd, vy]] w fun e' w' => OfIs w (⟨H, P, 3, q.addr, found, 0, q.aq, q.rl, 0, 0, 0, .slice none 0 0, .slice none 0 0, .slice none 0 0⟩ : Ev) (⟨al, [], yl⟩ : El) e' w' := by
  have hm := fun w0 => made_3 q found w0 hk
  have h := Of_any H P found p q va vd vy al dl yl _ w hr (by have := g.na; omega) (by have := g.nd; omega) (by have := g.ny; omega) hm ⟨rfl, rfl, rfl⟩ g.ok.1 10463 (Lib.hid rfl) false (Lib.hid (by decide)) true (Lib.hid (chk_3 q found H P p al dl yl _ _ _ g))
  exact h
theorem chk_4 (q : Aq) (found H P p : Int) (al dl yl : List Int) (a d y : Value) (g : Good q found H P p al dl yl) : chkE (⟨H, P, 4, q.addr, 0, q.val, q.aq, q.rl, 0, 0, p, a, d, y⟩ : Ev) (⟨al, dl, yl⟩ : El) = true := by
  refine chk_of _ _ 15599 rfl (by decide) (holdB_yes _ _ (fun i hi => ?_)) g.H8 (by have := g.P1; show 0 ≤ P; omega) g.a8 ⟨by show (0 : Int) ≤ 0; decide, by show (0 : Int) < 16; decide⟩ ⟨by show (0 : Int) ≤ 0; decide, by show (0 : Int) < 16; decide⟩ (.inr ⟨by have := g.P1; have := g.p; show 0 ≤ p; omega, by have := g.p; show p < P; omega⟩) g.ha g.hd g.hy
  have hc : i = 0 ∨ i = 1 ∨ i = 2 ∨ i = 3 ∨ i = 4 ∨ i = 5 ∨ i = 6 ∨ i = 7 ∨ i = 8 ∨ i = 9 ∨ i = 10 ∨ i = 11 ∨ i = 12 ∨ i = 13 := by omega
  unfold okAt
  rcases hc with rfl | rfl | rfl | rfl | rfl | rfl | rfl | rfl | rfl | rfl | rfl | rfl | rfl | rfl
  · rw [show hasB 15599 (2 ^ 0) = true from by decide]; exact Bool.or_true _
  · rw [show hasB 15599 (2 ^ 1) = true from by decide]; exact Bool.or_true _
  · rw [show hasB 15599 (2 ^ 2) = true from by decide]; exact Bool.or_true _
  · rw [show hasB 15599 (2 ^ 3) = true from by decide]; exact Bool.or_true _
  · rw [decide_eq_true (show atI (numsL (⟨H, P, 4, q.addr, 0, q.val, q.aq, q.rl, 0, 0, p, a, d, y⟩ : Ev) _ _ _) 4 = 0 from by first | rfl | decide)]; rfl
  · rw [show hasB 15599 (2 ^ 5) = true from by decide]; exact Bool.or_true _
  · rw [show hasB 15599 (2 ^ 6) = true from by decide]; exact Bool.or_true _
  · rw [show hasB 15599 (2 ^ 7) = true from by decide]; exact Bool.or_true _
  · rw [decide_eq_true (show atI (numsL (⟨H, P, 4, q.addr, 0, q.val, q.aq, q.rl, 0, 0, p, a, d, y⟩ : Ev) _ _ _) 8 = 0 from by first | rfl | decide)]; rfl
  · rw [decide_eq_true (show atI (numsL (⟨H, P, 4, q.addr, 0, q.val, q.aq, q.rl, 0, 0, p, a, d, y⟩ : Ev) _ _ _) 9 = 0 from by first | rfl | decide)]; rfl
  · rw [show hasB 15599 (2 ^ 10) = true from by decide]; exact Bool.or_true _
  · rw [show hasB 15599 (2 ^ 11) = true from by decide]; exact Bool.or_true _
  · rw [show hasB 15599 (2 ^ 12) = true from by decide]; exact Bool.or_true _
  · rw [show hasB 15599 (2 ^ 13) = true from by decide]; exact Bool.or_true _
theorem of_4 (q : Aq) (found H P p : Int) (al dl yl : List Int) (va vd vy : Value) (w : World) (hk : q.kind = 4) (g : Good q found H P p al dl yl) (hr : ReadsI w va al ∧ ReadsI w vd dl ∧ ReadsI w vy yl) :
    Calls Tryd.prog 6 #[.int .i64 H, .int .i64 P, q.V, .int .u64 found, .int .i64 p, .agg #[va, vd, vy]] w fun e' w' => OfIs w (⟨H, P, 4, q.addr, 0, q.val, q.aq, q.rl, 0, 0, p, .slice none 0 0, .slice none 0 0, .slice none 0 0⟩ : Ev) (⟨al, dl, yl⟩ : El) e' w' := by
  have hm := fun w0 => made_4 q found w0 hk
  have h := Of_any H P found p q va vd vy al dl yl _ w hr (by have := g.na; omega) (by have := g.nd; omega) (by have := g.ny; omega) hm ⟨rfl, rfl, rfl⟩ g.ok.1 15599 (Lib.hid rfl) true (Lib.hid (by decide)) true (Lib.hid (chk_4 q found H P p al dl yl _ _ _ g))
  exact h
theorem chk_5 (q : Aq) (found H P p : Int) (al dl yl : List Int) (a d y : Value) (g : Good q found H P p al dl yl) : chkE (⟨H, P, 5, q.addr, found, (amI q.op found q.val), q.aq, q.rl, 0, 0, 0, a, d, y⟩ : Ev) (⟨al, dl, yl⟩ : El) = true := by
  refine chk_of _ _ 14591 rfl (by decide) (holdB_yes _ _ (fun i hi => ?_)) g.H8 (by have := g.P1; show 0 ≤ P; omega) g.a8 ⟨by show (0 : Int) ≤ 0; decide, by show (0 : Int) < 16; decide⟩ ⟨by show (0 : Int) ≤ 0; decide, by show (0 : Int) < 16; decide⟩ (.inl (by decide)) g.ha g.hd g.hy
  have hc : i = 0 ∨ i = 1 ∨ i = 2 ∨ i = 3 ∨ i = 4 ∨ i = 5 ∨ i = 6 ∨ i = 7 ∨ i = 8 ∨ i = 9 ∨ i = 10 ∨ i = 11 ∨ i = 12 ∨ i = 13 := by omega
  unfold okAt
  rcases hc with rfl | rfl | rfl | rfl | rfl | rfl | rfl | rfl | rfl | rfl | rfl | rfl | rfl | rfl
  · rw [show hasB 14591 (2 ^ 0) = true from by decide]; exact Bool.or_true _
  · rw [show hasB 14591 (2 ^ 1) = true from by decide]; exact Bool.or_true _
  · rw [show hasB 14591 (2 ^ 2) = true from by decide]; exact Bool.or_true _
  · rw [show hasB 14591 (2 ^ 3) = true from by decide]; exact Bool.or_true _
  · rw [show hasB 14591 (2 ^ 4) = true from by decide]; exact Bool.or_true _
  · rw [show hasB 14591 (2 ^ 5) = true from by decide]; exact Bool.or_true _
  · rw [show hasB 14591 (2 ^ 6) = true from by decide]; exact Bool.or_true _
  · rw [show hasB 14591 (2 ^ 7) = true from by decide]; exact Bool.or_true _
  · rw [decide_eq_true (show atI (numsL (⟨H, P, 5, q.addr, found, (amI q.op found q.val), q.aq, q.rl, 0, 0, 0, a, d, y⟩ : Ev) _ _ _) 8 = 0 from by first | rfl | decide)]; rfl
  · rw [decide_eq_true (show atI (numsL (⟨H, P, 5, q.addr, found, (amI q.op found q.val), q.aq, q.rl, 0, 0, 0, a, d, y⟩ : Ev) _ _ _) 9 = 0 from by first | rfl | decide)]; rfl
  · rw [decide_eq_true (show atI (numsL (⟨H, P, 5, q.addr, found, (amI q.op found q.val), q.aq, q.rl, 0, 0, 0, a, d, y⟩ : Ev) _ _ _) 10 = 0 from by first | rfl | decide)]; rfl
  · rw [show hasB 14591 (2 ^ 11) = true from by decide]; exact Bool.or_true _
  · rw [show hasB 14591 (2 ^ 12) = true from by decide]; exact Bool.or_true _
  · rw [show hasB 14591 (2 ^ 13) = true from by decide]; exact Bool.or_true _
theorem of_5 (q : Aq) (found H P p : Int) (al dl yl : List Int) (va vd vy : Value) (w : World) (hk : q.kind = 5) (hE : amE q.op = 0) (g : Good q found H P p al dl yl) (hr : ReadsI w va al ∧ ReadsI w vd dl ∧ ReadsI w vy yl) :
    Calls Tryd.prog 6 #[.int .i64 H, .int .i64 P, q.V, .int .u64 found, .int .i64 p, .agg #[va, vd, vy]] w fun e' w' => OfIs w (⟨H, P, 5, q.addr, found, (amI q.op found q.val), q.aq, q.rl, 0, 0, 0, .slice none 0 0, .slice none 0 0, .slice none 0 0⟩ : Ev) (⟨al, dl, yl⟩ : El) e' w' := by
  have hm := fun w0 => made_5 q found w0 hk g.ok g.f
  rw [hE] at hm
  have h := Of_any H P found p q va vd vy al dl yl _ w hr (by have := g.na; omega) (by have := g.nd; omega) (by have := g.ny; omega) hm ⟨rfl, rfl, rfl⟩ g.ok.1 14591 (Lib.hid rfl) false (Lib.hid (by decide)) true (Lib.hid (chk_5 q found H P p al dl yl _ _ _ g))
  exact h
theorem chk_6 (q : Aq) (found H P p : Int) (al dl yl : List Int) (a d y : Value) (g : Good q found H P p al dl yl) : chkE (⟨H, P, 6, 0, 0, 0, false, false, q.pred, q.succ, 0, a, d, y⟩ : Ev) (⟨[], [], []⟩ : El) = true := by
  refine chk_of _ _ 775 rfl (by decide) (holdB_yes _ _ (fun i hi => ?_)) g.H8 (by have := g.P1; show 0 ≤ P; omega) (by show (0 : Int) % 8 = 0; decide) g.pr g.su (.inl (by decide)) rfl rfl rfl
  have hc : i = 0 ∨ i = 1 ∨ i = 2 ∨ i = 3 ∨ i = 4 ∨ i = 5 ∨ i = 6 ∨ i = 7 ∨ i = 8 ∨ i = 9 ∨ i = 10 ∨ i = 11 ∨ i = 12 ∨ i = 13 := by omega
  unfold okAt
  rcases hc with rfl | rfl | rfl | rfl | rfl | rfl | rfl | rfl | rfl | rfl | rfl | rfl | rfl | rfl
  · rw [show hasB 775 (2 ^ 0) = true from by decide]; exact Bool.or_true _
  · rw [show hasB 775 (2 ^ 1) = true from by decide]; exact Bool.or_true _
  · rw [show hasB 775 (2 ^ 2) = true from by decide]; exact Bool.or_true _
  · rw [decide_eq_true (show atI (numsL (⟨H, P, 6, 0, 0, 0, false, false, q.pred, q.succ, 0, a, d, y⟩ : Ev) _ _ _) 3 = 0 from by first | rfl | decide)]; rfl
  · rw [decide_eq_true (show atI (numsL (⟨H, P, 6, 0, 0, 0, false, false, q.pred, q.succ, 0, a, d, y⟩ : Ev) _ _ _) 4 = 0 from by first | rfl | decide)]; rfl
  · rw [decide_eq_true (show atI (numsL (⟨H, P, 6, 0, 0, 0, false, false, q.pred, q.succ, 0, a, d, y⟩ : Ev) _ _ _) 5 = 0 from by first | rfl | decide)]; rfl
  · rw [decide_eq_true (show atI (numsL (⟨H, P, 6, 0, 0, 0, false, false, q.pred, q.succ, 0, a, d, y⟩ : Ev) _ _ _) 6 = 0 from by first | rfl | decide)]; rfl
  · rw [decide_eq_true (show atI (numsL (⟨H, P, 6, 0, 0, 0, false, false, q.pred, q.succ, 0, a, d, y⟩ : Ev) _ _ _) 7 = 0 from by first | rfl | decide)]; rfl
  · rw [show hasB 775 (2 ^ 8) = true from by decide]; exact Bool.or_true _
  · rw [show hasB 775 (2 ^ 9) = true from by decide]; exact Bool.or_true _
  · rw [decide_eq_true (show atI (numsL (⟨H, P, 6, 0, 0, 0, false, false, q.pred, q.succ, 0, a, d, y⟩ : Ev) _ _ _) 10 = 0 from by first | rfl | decide)]; rfl
  · rw [decide_eq_true (show atI (numsL (⟨H, P, 6, 0, 0, 0, false, false, q.pred, q.succ, 0, a, d, y⟩ : Ev) _ _ _) 11 = 0 from by first | rfl | decide)]; rfl
  · rw [decide_eq_true (show atI (numsL (⟨H, P, 6, 0, 0, 0, false, false, q.pred, q.succ, 0, a, d, y⟩ : Ev) _ _ _) 12 = 0 from by first | rfl | decide)]; rfl
  · rw [decide_eq_true (show atI (numsL (⟨H, P, 6, 0, 0, 0, false, false, q.pred, q.succ, 0, a, d, y⟩ : Ev) _ _ _) 13 = 0 from by first | rfl | decide)]; rfl
theorem of_6 (q : Aq) (found H P p : Int) (al dl yl : List Int) (va vd vy : Value) (w : World) (hk : q.kind = 6) (g : Good q found H P p al dl yl) (hr : ReadsI w va al ∧ ReadsI w vd dl ∧ ReadsI w vy yl) :
    Calls Tryd.prog 6 #[.int .i64 H, .int .i64 P, q.V, .int .u64 found, .int .i64 p, .agg #[va, vd, vy]] w fun e' w' => OfIs w (⟨H, P, 6, 0, 0, 0, false, false, q.pred, q.succ, 0, .slice none 0 0, .slice none 0 0, .slice none 0 0⟩ : Ev) (⟨[], [], []⟩ : El) e' w' := by
  have hm := fun w0 => made_fence q found w0 hk
  have h := Of_any H P found p q va vd vy al dl yl _ w hr (by have := g.na; omega) (by have := g.nd; omega) (by have := g.ny; omega) hm ⟨rfl, rfl, rfl⟩ (by show (0 : Int) ≤ 0; decide) 775 (Lib.hid rfl) false (Lib.hid (by decide)) true (Lib.hid (chk_6 q found H P p al dl yl _ _ _ g))
  exact h
theorem size_ge (a b : ByteArray) : a.size ≤ (a ++ b).size := by simp
theorem textS_ge (e : Ev) (u x y : Nat) (b1 b2 b3 : Bool) : (baseS e).size ≤ (textS e u x y b1 b2 b3).size ∧ (b1 = true → (baseS e ++ memS u).size ≤ (textS e u x y b1 b2 b3).size) := by
  have key : ∀ s : ByteArray, s.size ≤ (if b3 then (if b2 then s ++ (⟨#[32, 114]⟩ ++ hexS x) else s) ++ (⟨#[32, 119]⟩ ++ hexS y) else (if b2 then s ++ (⟨#[32, 114]⟩ ++ hexS x) else s)).size := by
    intro s
    cases b2 <;> cases b3 <;> simp <;> omega
  unfold textS
  cases b1
  · exact ⟨key _, fun h => by cases h⟩
  · exact ⟨Nat.le_trans (size_ge _ _) (key _), fun _ => key _⟩
theorem base_size (e : Ev) : 4 + (nameS e.kind).size ≤ (baseS e).size := by
  have h1 := itoaS_pos e.hart
  have h2 := itoaS_pos e.pos
  unfold baseS
  simp only [ByteArray.size_append]
  have e1 : (ByteArray.mk #[58]).size = 1 := rfl
  have e2 : (ByteArray.mk #[32]).size = 1 := rfl
  omega
theorem mem_size (u : Nat) (h : u < 18446744073709551616) : 17 ≤ (memS u).size := by
  have := hexS_size u h
  unfold memS
  simp only [ByteArray.size_append, repS_size]
  have e2 : (ByteArray.mk #[32]).size = 1 := rfl
  omega
def TextBig (w : World) (e : Ending) (w' : World) : Prop := ∃ s : ByteArray, e = .returned (.string s) ∧ 9 ≤ s.size ∧ Below w.heap.size w w'
theorem nat_of (z : Int) (h0 : 0 ≤ z) (h1 : z < 18446744073709551616) : ∃ n : Nat, z = n ∧ n < 18446744073709551616 := ⟨z.toNat, by omega, by omega⟩
theorem EReads_of {w : World} {e : Ev} {l : El} (ha : ReadsI w e.a l.a) (hd : ReadsI w e.d l.d) (hy : ReadsI w e.y l.y) : EReads w e l := ⟨ha, hd, hy⟩
theorem text_k1 (q : Aq) (found H P p : Int) (al dl yl : List Int) (a d y : Value) (w : World) (hT : TabB w) (g : Good q found H P p al dl yl) (hr : EReads w (⟨H, P, 1, q.addr, found, 0, false, false, 0, 0, 0, a, d, y⟩ : Ev) (⟨al, [], yl⟩ : El)) :
    Calls Tryd.prog 11 #[(⟨H, P, 1, q.addr, found, 0, false, false, 0, 0, 0, a, d, y⟩ : Ev).V] w fun e' w' => TextBig w e' w' := by
  obtain ⟨u, hu, lu⟩ := nat_of (⟨H, P, 1, q.addr, found, 0, false, false, 0, 0, 0, a, d, y⟩ : Ev).addr g.ok.1 g.ok.2.1
  obtain ⟨x, hx, lx⟩ := nat_of (⟨H, P, 1, q.addr, found, 0, false, false, 0, 0, 0, a, d, y⟩ : Ev).load g.f.1 g.f.2
  obtain ⟨z, hz, lz⟩ := nat_of (⟨H, P, 1, q.addr, found, 0, false, false, 0, 0, 0, a, d, y⟩ : Ev).store (by show (0 : Int) ≤ 0; decide) (by show (0 : Int) < 18446744073709551616; decide)
  have gH := g.H8
  have gP := g.P1
  refine (Text_ok _ (⟨al, [], yl⟩ : El) w u x z hT hr ⟨by have := g.na; show List.length al ≤ _; first | omega | simp, by have := g.nd; show List.length [] ≤ _; first | omega | simp, by have := g.ny; show List.length yl ≤ _; first | omega | simp⟩ (Lib.hid (chk_1 q found H P p al dl yl a d y g)) (Lib.hid ⟨by show (1 : Int) ≤ 1; decide, by show (1 : Int) ≤ 6; decide⟩) (Lib.hid ⟨by show _ ≤ H; omega, by show H ≤ _; omega⟩) (Lib.hid ⟨by show _ ≤ P; omega, by show P ≤ _; omega⟩) hu hx hz lu lx lz true true false (Lib.hid (by show hasB 10271 8 = true; decide)) (Lib.hid (by show hasB 10271 16 = true; decide)) (Lib.hid (by show hasB 10271 32 = false; decide))).mono ?_
  rintro e' w' ⟨rfl, hb⟩
  refine ⟨_, rfl, ?_, hb⟩
  have h1 := textS_ge (⟨H, P, 1, q.addr, found, 0, false, false, 0, 0, 0, a, d, y⟩ : Ev) u x z true true false
  have h2 := base_size (⟨H, P, 1, q.addr, found, 0, false, false, 0, 0, 0, a, d, y⟩ : Ev)
  have h3 := mem_size u lu
  have h4 := h1.2 rfl
  rw [ByteArray.size_append] at h4
  omega
theorem text_k2 (q : Aq) (found H P p : Int) (al dl yl : List Int) (a d y : Value) (w : World) (hT : TabB w) (g : Good q found H P p al dl yl) (hr : EReads w (⟨H, P, 2, q.addr, 0, q.val, false, false, 0, 0, 0, a, d, y⟩ : Ev) (⟨al, dl, yl⟩ : El)) :
    Calls Tryd.prog 11 #[(⟨H, P, 2, q.addr, 0, q.val, false, false, 0, 0, 0, a, d, y⟩ : Ev).V] w fun e' w' => TextBig w e' w' := by
  obtain ⟨u, hu, lu⟩ := nat_of (⟨H, P, 2, q.addr, 0, q.val, false, false, 0, 0, 0, a, d, y⟩ : Ev).addr g.ok.1 g.ok.2.1
  obtain ⟨x, hx, lx⟩ := nat_of (⟨H, P, 2, q.addr, 0, q.val, false, false, 0, 0, 0, a, d, y⟩ : Ev).load (by show (0 : Int) ≤ 0; decide) (by show (0 : Int) < 18446744073709551616; decide)
  obtain ⟨z, hz, lz⟩ := nat_of (⟨H, P, 2, q.addr, 0, q.val, false, false, 0, 0, 0, a, d, y⟩ : Ev).store g.ok.2.2.1 g.ok.2.2.2
  have gH := g.H8
  have gP := g.P1
  refine (Text_ok _ (⟨al, dl, yl⟩ : El) w u x z hT hr ⟨by have := g.na; show List.length al ≤ _; first | omega | simp, by have := g.nd; show List.length dl ≤ _; first | omega | simp, by have := g.ny; show List.length yl ≤ _; first | omega | simp⟩ (Lib.hid (chk_2 q found H P p al dl yl a d y g)) (Lib.hid ⟨by show (1 : Int) ≤ 2; decide, by show (2 : Int) ≤ 6; decide⟩) (Lib.hid ⟨by show _ ≤ H; omega, by show H ≤ _; omega⟩) (Lib.hid ⟨by show _ ≤ P; omega, by show P ≤ _; omega⟩) hu hx hz lu lx lz true false true (Lib.hid (by show hasB 14383 8 = true; decide)) (Lib.hid (by show hasB 14383 16 = false; decide)) (Lib.hid (by show hasB 14383 32 = true; decide))).mono ?_
  rintro e' w' ⟨rfl, hb⟩
  refine ⟨_, rfl, ?_, hb⟩
  have h1 := textS_ge (⟨H, P, 2, q.addr, 0, q.val, false, false, 0, 0, 0, a, d, y⟩ : Ev) u x z true false true
  have h2 := base_size (⟨H, P, 2, q.addr, 0, q.val, false, false, 0, 0, 0, a, d, y⟩ : Ev)
  have h3 := mem_size u lu
  have h4 := h1.2 rfl
  rw [ByteArray.size_append] at h4
  omega
theorem text_k3 (q : Aq) (found H P p : Int) (al dl yl : List Int) (a d y : Value) (w : World) (hT : TabB w) (g : Good q found H P p al dl yl) (hr : EReads w (⟨H, P, 3, q.addr, found, 0, q.aq, q.rl, 0, 0, 0, a, d, y⟩ : Ev) (⟨al, [], yl⟩ : El)) :
    Calls Tryd.prog 11 #[(⟨H, P, 3, q.addr, found, 0, q.aq, q.rl, 0, 0, 0, a, d, y⟩ : Ev).V] w fun e' w' => TextBig w e' w' := by
  obtain ⟨u, hu, lu⟩ := nat_of (⟨H, P, 3, q.addr, found, 0, q.aq, q.rl, 0, 0, 0, a, d, y⟩ : Ev).addr g.ok.1 g.ok.2.1
  obtain ⟨x, hx, lx⟩ := nat_of (⟨H, P, 3, q.addr, found, 0, q.aq, q.rl, 0, 0, 0, a, d, y⟩ : Ev).load g.f.1 g.f.2
  obtain ⟨z, hz, lz⟩ := nat_of (⟨H, P, 3, q.addr, found, 0, q.aq, q.rl, 0, 0, 0, a, d, y⟩ : Ev).store (by show (0 : Int) ≤ 0; decide) (by show (0 : Int) < 18446744073709551616; decide)
  have gH := g.H8
  have gP := g.P1
  refine (Text_ok _ (⟨al, [], yl⟩ : El) w u x z hT hr ⟨by have := g.na; show List.length al ≤ _; first | omega | simp, by have := g.nd; show List.length [] ≤ _; first | omega | simp, by have := g.ny; show List.length yl ≤ _; first | omega | simp⟩ (Lib.hid (chk_3 q found H P p al dl yl a d y g)) (Lib.hid ⟨by show (1 : Int) ≤ 3; decide, by show (3 : Int) ≤ 6; decide⟩) (Lib.hid ⟨by show _ ≤ H; omega, by show H ≤ _; omega⟩) (Lib.hid ⟨by show _ ≤ P; omega, by show P ≤ _; omega⟩) hu hx hz lu lx lz true true false (Lib.hid (by show hasB 10463 8 = true; decide)) (Lib.hid (by show hasB 10463 16 = true; decide)) (Lib.hid (by show hasB 10463 32 = false; decide))).mono ?_
  rintro e' w' ⟨rfl, hb⟩
  refine ⟨_, rfl, ?_, hb⟩
  have h1 := textS_ge (⟨H, P, 3, q.addr, found, 0, q.aq, q.rl, 0, 0, 0, a, d, y⟩ : Ev) u x z true true false
  have h2 := base_size (⟨H, P, 3, q.addr, found, 0, q.aq, q.rl, 0, 0, 0, a, d, y⟩ : Ev)
  have h3 := mem_size u lu
  have h4 := h1.2 rfl
  rw [ByteArray.size_append] at h4
  omega
theorem text_k4 (q : Aq) (found H P p : Int) (al dl yl : List Int) (a d y : Value) (w : World) (hT : TabB w) (g : Good q found H P p al dl yl) (hr : EReads w (⟨H, P, 4, q.addr, 0, q.val, q.aq, q.rl, 0, 0, p, a, d, y⟩ : Ev) (⟨al, dl, yl⟩ : El)) :
    Calls Tryd.prog 11 #[(⟨H, P, 4, q.addr, 0, q.val, q.aq, q.rl, 0, 0, p, a, d, y⟩ : Ev).V] w fun e' w' => TextBig w e' w' := by
  obtain ⟨u, hu, lu⟩ := nat_of (⟨H, P, 4, q.addr, 0, q.val, q.aq, q.rl, 0, 0, p, a, d, y⟩ : Ev).addr g.ok.1 g.ok.2.1
  obtain ⟨x, hx, lx⟩ := nat_of (⟨H, P, 4, q.addr, 0, q.val, q.aq, q.rl, 0, 0, p, a, d, y⟩ : Ev).load (by show (0 : Int) ≤ 0; decide) (by show (0 : Int) < 18446744073709551616; decide)
  obtain ⟨z, hz, lz⟩ := nat_of (⟨H, P, 4, q.addr, 0, q.val, q.aq, q.rl, 0, 0, p, a, d, y⟩ : Ev).store g.ok.2.2.1 g.ok.2.2.2
  have gH := g.H8
  have gP := g.P1
  refine (Text_ok _ (⟨al, dl, yl⟩ : El) w u x z hT hr ⟨by have := g.na; show List.length al ≤ _; first | omega | simp, by have := g.nd; show List.length dl ≤ _; first | omega | simp, by have := g.ny; show List.length yl ≤ _; first | omega | simp⟩ (Lib.hid (chk_4 q found H P p al dl yl a d y g)) (Lib.hid ⟨by show (1 : Int) ≤ 4; decide, by show (4 : Int) ≤ 6; decide⟩) (Lib.hid ⟨by show _ ≤ H; omega, by show H ≤ _; omega⟩) (Lib.hid ⟨by show _ ≤ P; omega, by show P ≤ _; omega⟩) hu hx hz lu lx lz true false true (Lib.hid (by show hasB 15599 8 = true; decide)) (Lib.hid (by show hasB 15599 16 = false; decide)) (Lib.hid (by show hasB 15599 32 = true; decide))).mono ?_
  rintro e' w' ⟨rfl, hb⟩
  refine ⟨_, rfl, ?_, hb⟩
  have h1 := textS_ge (⟨H, P, 4, q.addr, 0, q.val, q.aq, q.rl, 0, 0, p, a, d, y⟩ : Ev) u x z true false true
  have h2 := base_size (⟨H, P, 4, q.addr, 0, q.val, q.aq, q.rl, 0, 0, p, a, d, y⟩ : Ev)
  have h3 := mem_size u lu
  have h4 := h1.2 rfl
  rw [ByteArray.size_append] at h4
  omega
theorem text_k5 (q : Aq) (found H P p : Int) (al dl yl : List Int) (a d y : Value) (w : World) (hT : TabB w) (g : Good q found H P p al dl yl) (hr : EReads w (⟨H, P, 5, q.addr, found, (amI q.op found q.val), q.aq, q.rl, 0, 0, 0, a, d, y⟩ : Ev) (⟨al, dl, yl⟩ : El)) :
    Calls Tryd.prog 11 #[(⟨H, P, 5, q.addr, found, (amI q.op found q.val), q.aq, q.rl, 0, 0, 0, a, d, y⟩ : Ev).V] w fun e' w' => TextBig w e' w' := by
  obtain ⟨u, hu, lu⟩ := nat_of (⟨H, P, 5, q.addr, found, (amI q.op found q.val), q.aq, q.rl, 0, 0, 0, a, d, y⟩ : Ev).addr g.ok.1 g.ok.2.1
  obtain ⟨x, hx, lx⟩ := nat_of (⟨H, P, 5, q.addr, found, (amI q.op found q.val), q.aq, q.rl, 0, 0, 0, a, d, y⟩ : Ev).load g.f.1 g.f.2
  obtain ⟨z, hz, lz⟩ := nat_of (⟨H, P, 5, q.addr, found, (amI q.op found q.val), q.aq, q.rl, 0, 0, 0, a, d, y⟩ : Ev).store (amI_lt _ _ _).1 (amI_lt _ _ _).2
  have gH := g.H8
  have gP := g.P1
  refine (Text_ok _ (⟨al, dl, yl⟩ : El) w u x z hT hr ⟨by have := g.na; show List.length al ≤ _; first | omega | simp, by have := g.nd; show List.length dl ≤ _; first | omega | simp, by have := g.ny; show List.length yl ≤ _; first | omega | simp⟩ (Lib.hid (chk_5 q found H P p al dl yl a d y g)) (Lib.hid ⟨by show (1 : Int) ≤ 5; decide, by show (5 : Int) ≤ 6; decide⟩) (Lib.hid ⟨by show _ ≤ H; omega, by show H ≤ _; omega⟩) (Lib.hid ⟨by show _ ≤ P; omega, by show P ≤ _; omega⟩) hu hx hz lu lx lz true true true (Lib.hid (by show hasB 14591 8 = true; decide)) (Lib.hid (by show hasB 14591 16 = true; decide)) (Lib.hid (by show hasB 14591 32 = true; decide))).mono ?_
  rintro e' w' ⟨rfl, hb⟩
  refine ⟨_, rfl, ?_, hb⟩
  have h1 := textS_ge (⟨H, P, 5, q.addr, found, (amI q.op found q.val), q.aq, q.rl, 0, 0, 0, a, d, y⟩ : Ev) u x z true true true
  have h2 := base_size (⟨H, P, 5, q.addr, found, (amI q.op found q.val), q.aq, q.rl, 0, 0, 0, a, d, y⟩ : Ev)
  have h3 := mem_size u lu
  have h4 := h1.2 rfl
  rw [ByteArray.size_append] at h4
  omega
theorem text_k6 (q : Aq) (found H P p : Int) (al dl yl : List Int) (a d y : Value) (w : World) (hT : TabB w) (g : Good q found H P p al dl yl) (hr : EReads w (⟨H, P, 6, 0, 0, 0, false, false, q.pred, q.succ, 0, a, d, y⟩ : Ev) (⟨[], [], []⟩ : El)) :
    Calls Tryd.prog 11 #[(⟨H, P, 6, 0, 0, 0, false, false, q.pred, q.succ, 0, a, d, y⟩ : Ev).V] w fun e' w' => TextBig w e' w' := by
  obtain ⟨u, hu, lu⟩ := nat_of (⟨H, P, 6, 0, 0, 0, false, false, q.pred, q.succ, 0, a, d, y⟩ : Ev).addr (by show (0 : Int) ≤ 0; decide) (by show (0 : Int) < 18446744073709551616; decide)
  obtain ⟨x, hx, lx⟩ := nat_of (⟨H, P, 6, 0, 0, 0, false, false, q.pred, q.succ, 0, a, d, y⟩ : Ev).load (by show (0 : Int) ≤ 0; decide) (by show (0 : Int) < 18446744073709551616; decide)
  obtain ⟨z, hz, lz⟩ := nat_of (⟨H, P, 6, 0, 0, 0, false, false, q.pred, q.succ, 0, a, d, y⟩ : Ev).store (by show (0 : Int) ≤ 0; decide) (by show (0 : Int) < 18446744073709551616; decide)
  have gH := g.H8
  have gP := g.P1
  refine (Text_ok _ (⟨[], [], []⟩ : El) w u x z hT hr ⟨by have := g.na; show List.length [] ≤ _; first | omega | simp, by have := g.nd; show List.length [] ≤ _; first | omega | simp, by have := g.ny; show List.length [] ≤ _; first | omega | simp⟩ (Lib.hid (chk_6 q found H P p al dl yl a d y g)) (Lib.hid ⟨by show (1 : Int) ≤ 6; decide, by show (6 : Int) ≤ 6; decide⟩) (Lib.hid ⟨by show _ ≤ H; omega, by show H ≤ _; omega⟩) (Lib.hid ⟨by show _ ≤ P; omega, by show P ≤ _; omega⟩) hu hx hz lu lx lz false false false (Lib.hid (by show hasB 775 8 = false; decide)) (Lib.hid (by show hasB 775 16 = false; decide)) (Lib.hid (by show hasB 775 32 = false; decide))).mono ?_
  rintro e' w' ⟨rfl, hb⟩
  refine ⟨_, rfl, ?_, hb⟩
  have h1 := textS_ge (⟨H, P, 6, 0, 0, 0, false, false, q.pred, q.succ, 0, a, d, y⟩ : Ev) u x z false false false
  have h2 := base_size (⟨H, P, 6, 0, 0, 0, false, false, q.pred, q.succ, 0, a, d, y⟩ : Ev)
  have h3 : (nameS 6).size = 5 := by decide
  have h4 : (nameS (6 : Int)).size = (nameS (⟨H, P, 6, 0, 0, 0, false, false, q.pred, q.succ, 0, a, d, y⟩ : Ev).kind).size := rfl
  have := h1.1
  omega
end Go.Proofs.YtjdfhohchicgbaaDoor
