/-
  Proved here: the law CandNames answers true; nothing that was there is changed. No condition.
-/
import Derived.Test.YtcebcmmbokajcaaCdEqual
import Derived.Test.YtcebcmmbokajcaaCdNumber2
import Derived.Test.YtcebcmmbokajcaaCdNumWords
namespace Go.Proofs.Ytcebcmmbokajcaa
set_option linter.unusedVariables false
set_option linter.unusedSimpArgs false
open Go.RowKit
attribute [local go_sem ↓] fold_E fold_SE
attribute [local irreducible] wpStill

def exN : Cd := ⟨2, fun _ => 1, fun h _ => if h = 0 then exA else exB, fun _ _ => nilL, [(16, 4)], [-1, 0], [0, 1]⟩
def exM : Cd := ⟨2, fun _ => 1, fun h _ => if h = 0 then exA else exB, fun _ _ => nilL, [], [-1, 0], [1, 1]⟩
def exZ : Cd := ⟨0, fun _ => 0, fun _ _ => exA, fun _ _ => nilL, [], [], []⟩
def qZ : Cv := ⟨none, 0, none, 0, none, 0, none, 0⟩
theorem exN_may : exN.may = true := by decide +kernel
theorem exM_may : exM.may = false := by decide +kernel
theorem exZ_may : exZ.may = false := by decide +kernel
theorem exN_lt : Lt exN where
  ew := (ex_lt 0).ew
  nh := (ex_lt 0).nh
  n := (ex_lt 0).n
  small := (ex_lt 0).small
  fs := by show (1 : Nat) ≤ 60; omega
  fr := (ex_lt 0).fr
  od := (ex_lt 0).od
  fw := fun j hj => by
    obtain rfl : j = 0 := by simpa [exN] using hj
    exact ⟨⟨by decide, by decide⟩, by decide, by decide⟩
theorem exM_lt : Lt exM where
  ew := (ex_lt 0).ew
  nh := (ex_lt 0).nh
  n := (ex_lt 0).n
  small := (ex_lt 0).small
  fs := Nat.zero_le _
  fr := (ex_lt 0).fr
  od := (ex_lt 0).od
  fw := (ex_lt 0).fw
theorem exZ_lt : Lt exZ where
  ew := fun h hh => absurd hh (by show ¬ h < 0; omega)
  nh := Nat.zero_le _
  n := Nat.zero_le _
  small := fun h hh => absurd hh (by show ¬ h < 0; omega)
  fs := Nat.zero_le _
  fr := Nat.zero_le _
  od := Nat.zero_le _
  fw := fun j hj => absurd hj (by show ¬ j < 0; omega)
theorem exZ_at (w : World) : CAt exZ qZ w := ⟨.inl ⟨EmptyS.nil, rfl⟩, .inl rfl, Nat.le_refl _, .inl ⟨EmptyS.nil, rfl⟩, .inl ⟨EmptyS.nil, rfl⟩⟩
theorem HsAt.as {c d : Cd} {k : Nat} {a : Option Addr} {w : World} (h : HsAt c k a w) (hl : d.len = c.len) (hv : d.ev = c.ev) (he : d.el = c.el) : HsAt d k a w := by
  rcases h with h | ⟨b, off, e, h⟩
  · exact .inl h
  · refine .inr ⟨b, off, e, ⟨fun j hj => ?_, h.lt⟩⟩
    rw [hl, hv, he]
    exact h.each j hj
theorem exN_met (x : Int) : metL exN 2 x = if (8 : Int) = x then some 1 else none := ex_met x
theorem exN_last {l : List (Int × Int)} (hs : ∀ i j, i < j → j < l.length → fA l i < fA l j) (hm : ∀ p, p ∈ l ↔ LastSet exN p) : l.length = 2 := by
  have hset : ∀ p, LastSet exN p ↔ (p = (8, 1) ∨ p = (16, 4)) := fun p => by
    unfold LastSet
    have hf : exN.fs = [(16, 4)] := rfl
    have hn : exN.od.length = 2 := rfl
    rw [hf, hn, exN_met]
    constructor
    · rintro (⟨h, _⟩ | ⟨h, _⟩)
      · exact .inr (by simpa using h)
      · by_cases hx : (8 : Int) = p.1
        · rw [if_pos hx] at h
          exact .inl (Prod.ext hx.symm (Option.some.inj h).symm)
        · rw [if_neg hx] at h; cases h
    · rintro (rfl | rfl)
      · exact .inr ⟨by simp, by simp⟩
      · exact .inl ⟨by simp, by simp, by simp⟩
  have hmem : ∀ p, p ∈ l ↔ (p = (8, 1) ∨ p = (16, 4)) := fun p => (hm p).trans (hset p)
  match l, hs, hmem with
  | [], _, h => exact absurd ((h (8, 1)).2 (.inl rfl)) (by simp)
  | [p], _, h =>
    have h1 := (h (8, 1)).2 (.inl rfl)
    have h2 := (h (16, 4)).2 (.inr rfl)
    simp only [List.mem_singleton] at h1 h2
    rw [← h1] at h2
    simp at h2
  | [p, q], _, _ => rfl
  | p :: q :: r :: t, hs, h =>
    have h1 := (h p).1 (by simp)
    have h2 := (h q).1 (by simp)
    have h3 := (h r).1 (by simp)
    have a := hs 0 1 (by omega) (by simp)
    have b := hs 1 2 (by omega) (by simp)
    simp only [fA, List.getD_cons_zero, List.getD_cons_succ] at a b
    rcases h1 with rfl | rfl <;> rcases h2 with rfl | rfl <;> rcases h3 with rfl | rfl <;> simp at a b
theorem Last_n (q : Cv) (w : World) (h : CAt exN q w) : Calls Try.prog 11 #[cdV exN q] w fun e w' => ∃ a c, e = .returned (.slice a 2 c) ∧ Below w.heap.size w w' :=
  (Last_yes exN q w exN_lt h exN_may).mono fun e w' ⟨v, l, h1, h2, h3, h4, h5, _⟩ => by
    obtain ⟨a, c, hv⟩ := h2.len
    rw [exN_last h3 h4] at hv
    exact ⟨a, c, by rw [h1, hv], h5⟩
theorem All_n (q : Cv) (w : World) (h : CAt exN q w) : Calls Try.prog 13 #[cdV exN q] w fun e w' => ∃ g, e = .returned (.slice (some ⟨g, 0, none⟩) 2 2) ∧ Below w.heap.size w w' :=
  (All_yes exN q w exN_lt h exN_may).mono fun e w' ⟨g, es, h1, _, _, _, _, hb⟩ => ⟨g, h1, hb⟩
theorem Places_n (q : Cv) (w : World) (h : CAt exN q w) : Calls Try.prog 15 #[cdV exN q] w fun e w' => ∃ g, e = .returned (.slice (some ⟨g, 0, none⟩) 2 2) ∧ ReadsI w' (.slice (some ⟨g, 0, none⟩) 2 2) [0, 1] ∧ Below w.heap.size w w' :=
  (Places_yes exN q w exN_lt h exN_may).mono fun e w' ⟨g, h1, _, h2, hb⟩ => ⟨g, h1, .inr ⟨g, 0, 2, rfl, Nat.le_refl _, by omega, h2.lt, fun j hj => by
    have hj' : j < 2 := hj
    rcases j with _ | _ | j
    · exact h2.cell 0 (by show (0 : Nat) < 2; omega)
    · exact h2.cell 1 (by show (1 : Nat) < 2; omega)
    · omega⟩, hb⟩
theorem ints_two (w : World) : ReadsI (w.alloc (.cells #[.int .i64 0, .int .i64 1] 3)) (.slice (some ⟨w.heap.size, 0, none⟩) 2 2) [0, 1] := by
  have h : (w.alloc (.cells #[.int .i64 0, .int .i64 1] 3)).heap[w.heap.size]? = some (.cells #[.int .i64 0, .int .i64 1] 3 (0, 0)) := Array.getElem?_push_size
  refine .inr ⟨w.heap.size, 0, 2, rfl, Nat.le_refl _, by omega, (Array.getElem?_eq_some_iff.1 h).1, fun j hj => ?_⟩
  have hj' : j < 2 := hj
  rcases j with _ | _ | j
  · rw [cell_of_row _ _ _ _ _ _ h]; rfl
  · rw [cell_of_row _ _ _ _ _ _ h]; rfl
  · omega
theorem ints_ones (w : World) : ReadsI (w.alloc (.cells #[.int .i64 1, .int .i64 1] 3)) (.slice (some ⟨w.heap.size, 0, none⟩) 2 2) [1, 1] := by
  have h : (w.alloc (.cells #[.int .i64 1, .int .i64 1] 3)).heap[w.heap.size]? = some (.cells #[.int .i64 1, .int .i64 1] 3 (0, 0)) := Array.getElem?_push_size
  refine .inr ⟨w.heap.size, 0, 2, rfl, Nat.le_refl _, by omega, (Array.getElem?_eq_some_iff.1 h).1, fun j hj => ?_⟩
  have hj' : j < 2 := hj
  rcases j with _ | _ | j
  · rw [cell_of_row _ _ _ _ _ _ h]; rfl
  · rw [cell_of_row _ _ _ _ _ _ h]; rfl
  · omega
/-- the example in a box of its own -/
structure N2 (q : Cv) (w1 W : World) : Prop where
  b : CdAt (exC 0) q w1.heap.size W
  c : CAt (exC 0) q w1
  bw : Below w1.heap.size w1 W
theorem N2.on {q : Cv} {w1 W W2 : World} (h : N2 q w1 W) (hb : Below W.heap.size W W2) : N2 q w1 W2 := ⟨h.b.on hb, h.c, h.bw.trans (hb.mono h.bw.size)⟩
theorem N2.at_ {q : Cv} {w1 W : World} (h : N2 q w1 W) : CAt (exC 0) q W := h.c.below h.bw
theorem nought_at (w : World) : (w.alloc (.cells #[.slice none 0 0, .slice none 0 0, .slice none 0 0, .slice none 0 0] 26)).heap[w.heap.size]? = some (.cells #[.slice none 0 0, .slice none 0 0, .slice none 0 0, .slice none 0 0] 26 (0, 0)) := Array.getElem?_push_size
theorem N2.first {q : Cv} {w1 W : World} (h : N2 q w1 W) : CdAt exN ⟨some ⟨W.heap.size, 0, none⟩, 1, q.aH, q.cH, q.aR, q.cR, q.aO, q.cO⟩ w1.heap.size ((W.alloc (.cells #[.int .u64 16, .int .u64 4] 33)).setCell ⟨w1.heap.size, 0, none⟩ (.slice (some ⟨W.heap.size, 0, none⟩) 1 1)) ∧ CAt exN ⟨some ⟨W.heap.size, 0, none⟩, 1, q.aH, q.cH, q.aR, q.cR, q.aO, q.cO⟩ ((W.alloc (.cells #[.int .u64 16, .int .u64 4] 33)).setCell ⟨w1.heap.size, 0, none⟩ (.slice (some ⟨W.heap.size, 0, none⟩) 1 1)) ∧ Below w1.heap.size w1 ((W.alloc (.cells #[.int .u64 16, .int .u64 4] 33)).setCell ⟨w1.heap.size, 0, none⟩ (.slice (some ⟨W.heap.size, 0, none⟩) 1 1)) := by
  have h2 := h.on (box_below W (.cells #[.int .u64 16, .int .u64 4] 33))
  have hw := h2.bw.setCell (p := ⟨w1.heap.size, 0, none⟩) (Nat.le_refl _) (.slice (some ⟨W.heap.size, 0, none⟩) 1 1)
  have hc := h.c.below hw
  have hlt := h.b.lt
  refine ⟨set_at _ _ 0 _ _ _ _ h2.b, ⟨?_, hc.harts.as rfl rfl rfl, hc.cap, hc.from_, hc.order⟩, hw⟩
  rcases one_cell W 16 4 with ⟨he, h0⟩ | ⟨b, off, cp, e, k1, k2, k3, k4⟩
  · cases h0
  · refine .inr ⟨b, off, cp, e, k1, k2, by simpa [World.setCell] using k3, fun j hj => ?_⟩
    injection e with e1 e2 e3
    injection e1 with e1
    injection e1 with e1 e4
    have hb : w1.heap.size ≠ b := by omega
    have x1 := k4 j hj
    exact ⟨(World.cell?_setCell_other _ _ _ _ (by intro e; injection e with e; exact hb e)).trans x1.1, (World.cell?_setCell_other _ _ _ _ (by intro e; injection e with e; exact hb e)).trans x1.2⟩
theorem N2.order {q : Cv} {w1 W : World} (h : N2 q w1 W) : CdAt exM ⟨q.aF, q.cF, q.aH, q.cH, q.aR, q.cR, some ⟨W.heap.size, 0, none⟩, 2⟩ w1.heap.size ((W.alloc (.cells #[.int .i64 1, .int .i64 1] 3)).setCell ⟨w1.heap.size, 3, none⟩ (.slice (some ⟨W.heap.size, 0, none⟩) 2 2)) ∧ CAt exM ⟨q.aF, q.cF, q.aH, q.cH, q.aR, q.cR, some ⟨W.heap.size, 0, none⟩, 2⟩ ((W.alloc (.cells #[.int .i64 1, .int .i64 1] 3)).setCell ⟨w1.heap.size, 3, none⟩ (.slice (some ⟨W.heap.size, 0, none⟩) 2 2)) ∧ Below w1.heap.size w1 ((W.alloc (.cells #[.int .i64 1, .int .i64 1] 3)).setCell ⟨w1.heap.size, 3, none⟩ (.slice (some ⟨W.heap.size, 0, none⟩) 2 2)) := by
  have h2 := h.on (box_below W (.cells #[.int .i64 1, .int .i64 1] 3))
  have hw := h2.bw.setCell (p := ⟨w1.heap.size, 3, none⟩) (Nat.le_refl _) (.slice (some ⟨W.heap.size, 0, none⟩) 2 2)
  have hc := h.c.below hw
  have hlt := h.b.lt
  refine ⟨set_at _ _ 3 _ _ _ _ h2.b, ⟨hc.first, hc.harts.as rfl rfl rfl, hc.cap, hc.from_, ?_⟩, hw⟩
  rcases ints_ones W with ⟨he, h0⟩ | ⟨b, off, cp, e, k1, k2, k3, k4⟩
  · cases h0
  · refine .inr ⟨b, off, cp, e, k1, k2, by simpa [World.setCell] using k3, fun j hj => ?_⟩
    injection e with e1 e2 e3
    injection e1 with e1
    injection e1 with e1 e4
    have hb : w1.heap.size ≠ b := by omega
    exact (World.cell?_setCell_other _ _ _ _ (by intro e; injection e with e; exact hb e)).trans (k4 j hj)
/-- both candidates in their boxes -/
structure N8 (q p : Cv) (n m : Nat) (w W : World) : Prop where
  b1 : CdAt exN q n W
  b2 : CdAt exM p m W
  c1 : CAt exN q W
  c2 : CAt exM p W
  below : Below w.heap.size w W
theorem N8.on {q p : Cv} {n m : Nat} {w W W2 : World} (h : N8 q p n m w W) (hb : Below W.heap.size W W2) : N8 q p n m w W2 := ⟨h.b1.on hb, h.b2.on hb, h.c1.below hb, h.c2.below hb, h.below.trans (hb.mono h.below.size)⟩
theorem N8.eight {q p : Cv} {n m : Nat} {w W : World} (h : N8 q p n m w W) : W.cell? ⟨n, 0, none⟩ = some (.slice q.aF 1 q.cF) ∧ W.cell? ⟨n, 1, none⟩ = some (.slice q.aH 2 q.cH) ∧ W.cell? ⟨n, 2, none⟩ = some (.slice q.aR 2 q.cR) ∧ W.cell? ⟨n, 3, none⟩ = some (.slice q.aO 2 q.cO) ∧ W.cell? ⟨m, 0, none⟩ = some (.slice p.aF 0 p.cF) ∧ W.cell? ⟨m, 1, none⟩ = some (.slice p.aH 2 p.cH) ∧ W.cell? ⟨m, 2, none⟩ = some (.slice p.aR 2 p.cR) ∧ W.cell? ⟨m, 3, none⟩ = some (.slice p.aO 2 p.cO) := by
  obtain ⟨a, b, c, d⟩ := h.b1.facts
  obtain ⟨a2, b2, c2, d2⟩ := h.b2.facts
  exact ⟨a, b, c, d, a2, b2, c2, d2⟩
set_option maxRecDepth 100000 in
set_option maxHeartbeats 16000000 in
theorem candNames_any (w : World) : Calls Try.prog 3 #[] w fun e w' => SameOk w true e w' := by
  have K0 := Lib.hid (fun w0 => example_any 0 w0)
  have KA := Lib.hid (fun q w0 (h0 : CAt (exC 0) q w0) => (show Calls Try.prog 8 #[cdV (exC 0) q, .int .i64 1, .int .i64 0] w0 fun e w' => NumbIs w0 1 0 e w' from Number_yes (exC 0) q w0 (ex_lt 0) h0 ex_may0 1 0 (by show 1 < 2; omega) (by show 0 < 1; omega)))
  have KB := Lib.hid (fun q w0 (h0 : CAt (exC 0) q w0) => (show Calls Try.prog 8 #[cdV (exC 0) q, .int .i64 1, .int .i64 1] w0 fun e w' => NumbIs w0 0 6 e w' from Number_none (exC 0) q w0 (ex_lt 0) h0 ex_may0 1 1 (by show 1 < 2; omega) (by show 1 ≤ 1; omega)))
  have KZ := Lib.hid (fun w0 => (show Calls Try.prog 8 #[.agg #[.slice none 0 0, .slice none 0 0, .slice none 0 0, .slice none 0 0], .int .i64 0, .int .i64 0] w0 fun e w' => NumbIs w0 0 2 e w' from Number_no exZ qZ w0 exZ_lt (exZ_at w0) exZ_may 0 0))
  have KL := Lib.hid (fun w0 => lives_any w0)
  go_enter Try.func3, Try.ntmps3
  go_upto_region 2 with (first
    | (go_at_call 7; (with_reducible refine (K0.out _).mono ?_); rintro e' w1 ⟨q1, rfl, hc, hb⟩; have C1 := Lib.hid hc; have L1 := Lib.hid hb; clear hc hb)
    | (refine store_cand (nought_at w1) rfl q1.aF q1.aH q1.aR q1.aO 0 2 2 2 q1.cF q1.cH q1.cR q1.cO rfl (.tmp 1) (.tmp 9) rfl rfl rfl ?_; intro w2 hX ho2 hb2 hz2; have S2 : Hid (N2 q1 w1 w2) := Lib.hid ⟨hX, C1.out, (box_below w1 (.cells #[.slice none 0 0, .slice none 0 0, .slice none 0 0, .slice none 0 0] 26)).trans hb2⟩; clear hX ho2 hb2 hz2))
  obtain ⟨u0, u1, u2, u3⟩ := CdAt.facts S2.out.b
  go_upto_region 3 with (go_at_call 8; (with_reducible refine (KA.out q1 _ S2.out.at_).mono ?_); rintro e' w3 ⟨rfl, hb⟩; have S3 := Lib.hid (S2.out.on hb); clear hb u0 u1 u2 u3)
  obtain ⟨u0, u1, u2, u3⟩ := CdAt.facts S3.out.b
  go_upto_region 4 with (go_at_call 8; (with_reducible refine (KB.out q1 _ S3.out.at_).mono ?_); rintro e' w4 ⟨rfl, hb⟩; have S4 := Lib.hid (S3.out.on hb); clear hb u0 u1 u2 u3)
  go_upto_region 5 with (go_at_call 8; (with_reducible refine (KZ.out _).mono ?_); rintro e' w5 ⟨rfl, hb⟩; have S5 := Lib.hid (S4.out.on hb); clear hb)
  have f5 : (w5.alloc (.cells #[.int .u64 16, .int .u64 4] 33)).frozen? ⟨w1.heap.size, 0, none⟩ = false := frozen_of_row _ _ _ _ _ (S5.out.on (box_below w5 (.cells #[.int .u64 16, .int .u64 4] 33))).b
  have u5 := (CdAt.facts (S5.out.on (box_below w5 (.cells #[.int .u64 16, .int .u64 4] 33))).b).1
  have g5 : w5.frozen? ⟨w1.heap.size, 0, none⟩ = false := frozen_of_row _ _ _ _ _ S5.out.b
  have t5 := (CdAt.facts S5.out.b).1
  have F5 := Lib.hid S5.out.first
  go_upto_region 6 with fail
  clear f5 u5 g5 t5 S2 S3 S4
  obtain ⟨W5, hW5⟩ : ∃ W, (w5.alloc (.cells #[.int .u64 16, .int .u64 4] 33)).setCell ⟨w1.heap.size, 0, none⟩ (.slice (some ⟨w5.heap.size, 0, none⟩) 1 1) = W := ⟨_, rfl⟩
  rw [hW5] at F5 ⊢
  obtain ⟨q, hq⟩ : ∃ q : Cv, (⟨some ⟨w5.heap.size, 0, none⟩, 1, q1.aH, q1.cH, q1.aR, q1.cR, q1.aO, q1.cO⟩ : Cv) = q := ⟨_, rfl⟩
  rw [hq] at F5
  have L5 : Hid (Below w.heap.size w W5) := Lib.hid (L1.out.trans (F5.out.2.2.mono L1.out.size))
  clear hW5 hq S5
  go_upto_region 7 with (first
    | (go_at_call 7; (with_reducible refine (K0.out _).mono ?_); rintro e' w6 ⟨q6, rfl, hc, hb⟩; have C6 := Lib.hid hc; have L6 := Lib.hid hb; clear hc hb)
    | (refine store_cand (nought_at w6) rfl q6.aF q6.aH q6.aR q6.aO 0 2 2 2 q6.cF q6.cH q6.cR q6.cO rfl (.tmp 8) (.tmp 28) rfl rfl rfl ?_; intro w7 hX ho7 hb7 hz7; have S7 : Hid (N2 q6 w6 w7) := Lib.hid ⟨hX, C6.out, (box_below w6 (.cells #[.slice none 0 0, .slice none 0 0, .slice none 0 0, .slice none 0 0] 26)).trans hb7⟩; clear hX ho7 hb7 hz7))
  have f7 : (w7.alloc (.cells #[.int .i64 1, .int .i64 1] 3)).frozen? ⟨w6.heap.size, 3, none⟩ = false := frozen_of_row _ _ _ _ _ (S7.out.on (box_below w7 (.cells #[.int .i64 1, .int .i64 1] 3))).b
  have u7 := (CdAt.facts (S7.out.on (box_below w7 (.cells #[.int .i64 1, .int .i64 1] 3))).b).2.2.2
  have g7 : w7.frozen? ⟨w6.heap.size, 3, none⟩ = false := frozen_of_row _ _ _ _ _ S7.out.b
  have t7 := (CdAt.facts S7.out.b).2.2.2
  have F7 := Lib.hid S7.out.order
  go_upto_region 8 with fail
  clear f7 u7 g7 t7
  obtain ⟨W7, hW7⟩ : ∃ W, (w7.alloc (.cells #[.int .i64 1, .int .i64 1] 3)).setCell ⟨w6.heap.size, 3, none⟩ (.slice (some ⟨w7.heap.size, 0, none⟩) 2 2) = W := ⟨_, rfl⟩
  rw [hW7] at F7 ⊢
  obtain ⟨p, hp⟩ : ∃ p : Cv, (⟨q6.aF, q6.cF, q6.aH, q6.cH, q6.aR, q6.cR, some ⟨w7.heap.size, 0, none⟩, 2⟩ : Cv) = p := ⟨_, rfl⟩
  rw [hp] at F7
  have B57 : Hid (Below W5.heap.size W5 W7) := Lib.hid (L6.out.trans (F7.out.2.2.mono L6.out.size))
  have P8 : Hid (N8 q p w1.heap.size w6.heap.size w W7) := Lib.hid ⟨F5.out.1.on B57.out, F7.out.1, F5.out.2.1.below B57.out, F7.out.2.1, L5.out.trans (B57.out.mono L5.out.size)⟩
  clear hW7 hp S7 F5 F7 L5 B57 C1 C6 L1 L6 KA KB KZ
  obtain ⟨n1, hn1⟩ : ∃ n, w1.heap.size = n := ⟨_, rfl⟩
  obtain ⟨n2, hn2⟩ : ∃ n, w6.heap.size = n := ⟨_, rfl⟩
  rw [hn1, hn2] at P8
  rw [hn1, hn2]
  clear hn1 hn2
  have K1 := Lib.hid (fun (q : Cv) w0 (h0 : CAt exN q w0) => (show Calls Try.prog 10 #[.agg #[.slice q.aF 1 q.cF, .slice q.aH 2 q.cH, .slice q.aR 2 q.cR, .slice q.aO 2 q.cO], .int .u64 16] w0 fun e w' => ValIs w0 4 e w' from First_yes exN q w0 exN_lt h0 exN_may 16))
  have K2 := Lib.hid (fun (q : Cv) w0 (h0 : CAt exN q w0) => (show Calls Try.prog 10 #[.agg #[.slice q.aF 1 q.cF, .slice q.aH 2 q.cH, .slice q.aR 2 q.cR, .slice q.aO 2 q.cO], .int .u64 8] w0 fun e w' => ValIs w0 0 e w' from First_yes exN q w0 exN_lt h0 exN_may 8))
  have K3 := Lib.hid (fun (q : Cv) w0 (h0 : CAt exN q w0) => (show Calls Try.prog 11 #[.agg #[.slice q.aF 1 q.cF, .slice q.aH 2 q.cH, .slice q.aR 2 q.cR, .slice q.aO 2 q.cO]] w0 fun e w' => ∃ a c, e = .returned (.slice a 2 c) ∧ Below w0.heap.size w0 w' from Last_n q w0 h0))
  have K4 := Lib.hid (fun (p : Cv) w0 (h0 : CAt exM p w0) => (show Calls Try.prog 12 #[.agg #[.slice p.aF 0 p.cF, .slice p.aH 2 p.cH, .slice p.aR 2 p.cR, .slice p.aO 2 p.cO]] w0 fun e w' => CheckIs w0 false e w' from check_c exM p w0 exM_lt h0 false exM_may))
  have K5 := Lib.hid (fun (q : Cv) w0 (h0 : CAt exN q w0) => (show Calls Try.prog 13 #[.agg #[.slice q.aF 1 q.cF, .slice q.aH 2 q.cH, .slice q.aR 2 q.cR, .slice q.aO 2 q.cO]] w0 fun e w' => ∃ g, e = .returned (.slice (some ⟨g, 0, none⟩) 2 2) ∧ Below w0.heap.size w0 w' from All_n q w0 h0))
  have K6 := Lib.hid (fun (q : Cv) w0 (h0 : CAt exN q w0) => (show Calls Try.prog 15 #[.agg #[.slice q.aF 1 q.cF, .slice q.aH 2 q.cH, .slice q.aR 2 q.cR, .slice q.aO 2 q.cO]] w0 fun e w' => ∃ g, e = .returned (.slice (some ⟨g, 0, none⟩) 2 2) ∧ ReadsI w' (.slice (some ⟨g, 0, none⟩) 2 2) [0, 1] ∧ Below w0.heap.size w0 w' from Places_n q w0 h0))
  have K7 := Lib.hid (fun v1 v2 w0 (h1 : ReadsI w0 v1 [0, 1]) (h2 : ReadsI w0 v2 [0, 1]) => (show Calls Try.prog 14 #[v1, v2] w0 fun e w' => SameOk w0 true e w' from same_any v1 v2 [0, 1] [0, 1] w0 h1 h2 (by simp)))
  have K8 := Lib.hid (fun (q : Cv) w0 (h0 : CAt exN q w0) => (show Calls Try.prog 16 #[.agg #[.slice q.aF 1 q.cF, .slice q.aH 2 q.cH, .slice q.aR 2 q.cR, .slice q.aO 2 q.cO], .agg #[.slice q.aF 1 q.cF, .slice q.aH 2 q.cH, .slice q.aR 2 q.cR, .slice q.aO 2 q.cO]] w0 fun e w' => SameOk w0 true e w' from SameC_self exN q w0 exN_lt h0))
  have K9 := Lib.hid (fun (q p : Cv) w0 => (show Calls Try.prog 16 #[.agg #[.slice q.aF 1 q.cF, .slice q.aH 2 q.cH, .slice q.aR 2 q.cR, .slice q.aO 2 q.cO], cdV (exC 0) p] w0 fun e w' => SameOk w0 false e w' from SameC_lens exN (exC 0) q p w0 (by show (1 : Nat) ≠ 0; omega)))
  have D0 := Lib.hid (P8.out.on (Below.refl _ _).drew)
  try simp only [List.append_eq, List.cons_append, List.nil_append]
  refine wp_region_held_drew (S := (fun W => W.cell? ⟨n1, 0, none⟩ = some (.slice q.aF 1 q.cF) ∧ W.cell? ⟨n1, 1, none⟩ = some (.slice q.aH 2 q.cH) ∧ W.cell? ⟨n1, 2, none⟩ = some (.slice q.aR 2 q.cR) ∧ W.cell? ⟨n1, 3, none⟩ = some (.slice q.aO 2 q.cO) ∧ W.cell? ⟨n2, 0, none⟩ = some (.slice p.aF 0 p.cF) ∧ W.cell? ⟨n2, 1, none⟩ = some (.slice p.aH 2 p.cH) ∧ W.cell? ⟨n2, 2, none⟩ = some (.slice p.aR 2 p.cR) ∧ W.cell? ⟨n2, 3, none⟩ = some (.slice p.aO 2 p.cO))) (by kernel_rfl) ?_ (fun hHeld => ?_)
  · exact D0.out.eight
  refine wpAnyH_ready (rs := [0]) (by kernel_rfl) (by simp) ?_
  refine AllReadyH.cons (o := ({ dst := some 31, op := Op.call { callee := Callee.value (Operand.func 9), args := #[], argTypes := #[] }, type := 4, pos := "law.go:38", after := #[], guard := none } : Oper)) rfl (fun K hK => ?_) AllReadyH.nil
  go_simp
  ((go_at_call 9; (with_reducible refine (KL.out _).mono ?_); rintro e' w11 ⟨rfl, hb⟩; have D1 := Lib.hid (D0.out.on hb); clear hb))
  (try go_wp2_with fail)
  refine hK.out _ _ ?_ (fun hHeld => ?_)
  · exact D1.out.eight
  clear hK K
  (try simp only [Act.put, List.setIfInBounds_toArray, List.set_cons_zero, List.set_cons_succ])
  refine wpAnyH_take (i := 1) (oi := ({ dst := some 32, op := Op.move (Operand.tmp 31), type := 4, pos := "law.go:38", after := #[{ on := 0, ground := Ground.data }, { on := 0, ground := Ground.chain }], guard := none } : Oper)) (v := ?v1) rfl (by kernel_rfl) (by kernel_rfl) (by kernel_rfl) (fun _ _ _ h => h) (Or.inl ⟨by kernel_rfl, ?h1⟩) (by assumption) ?_
  case h1 => ((intro w hSw; (try dsimp only at hSw); go_simp) <;> (try with_reducible rfl))
  (try simp only [Act.put, List.setIfInBounds_toArray, List.set_cons_zero, List.set_cons_succ])
  refine wpAnyH_take (i := 2) (oi := ({ dst := some 33, op := Op.move (Operand.tmp 3), type := 28, pos := "law.go:38", after := #[{ on := 1, ground := Ground.guard }], guard := some (1, true) } : Oper)) (v := ?v2) rfl (by kernel_rfl) (by kernel_rfl) (by kernel_rfl) (fun _ _ _ h => h) (Or.inl ⟨by kernel_rfl, ?h2⟩) (by assumption) ?_
  case h2 => ((intro w hSw; (try dsimp only at hSw); go_simp) <;> (try with_reducible rfl))
  (try simp only [Act.put, List.setIfInBounds_toArray, List.set_cons_zero, List.set_cons_succ])
  refine wpAnyH_take (i := 3) (oi := ({ dst := some 34, op := Op.binOp BinOp.eql 28 (Operand.tmp 33) (Operand.const (Value.int IntKind.i64 0)) 28, type := 4, pos := "law.go:38", after := #[{ on := 2, ground := Ground.data }, { on := 1, ground := Ground.guard }], guard := some (1, true) } : Oper)) (v := ?v3) rfl (by kernel_rfl) (by kernel_rfl) (by kernel_rfl) (fun _ _ _ h => h) (Or.inl ⟨by kernel_rfl, ?h3⟩) (by assumption) ?_
  case h3 => ((intro w hSw; (try dsimp only at hSw); go_simp) <;> (try with_reducible rfl))
  (try simp only [Act.put, List.setIfInBounds_toArray, List.set_cons_zero, List.set_cons_succ])
  refine wpAnyH_take (i := 4) (oi := ({ dst := some 35, op := Op.pick (Operand.tmp 32) (Operand.tmp 34) (Operand.const (Value.bool false)), type := 4, pos := "law.go:38", after := #[{ on := 1, ground := Ground.data }, { on := 3, ground := Ground.data }], guard := none } : Oper)) (v := ?v4) rfl (by kernel_rfl) (by kernel_rfl) (by kernel_rfl) (fun _ _ _ h => h) (Or.inl ⟨by kernel_rfl, ?h4⟩) (by assumption) ?_
  case h4 => ((intro w hSw; (try dsimp only at hSw); go_simp) <;> (try with_reducible rfl))
  (try simp only [Act.put, List.setIfInBounds_toArray, List.set_cons_zero, List.set_cons_succ])
  refine wpAnyH_take (i := 5) (oi := ({ dst := some 36, op := Op.move (Operand.tmp 35), type := 4, pos := "law.go:38", after := #[{ on := 4, ground := Ground.data }, { on := 1, ground := Ground.chain }], guard := none } : Oper)) (v := ?v5) rfl (by kernel_rfl) (by kernel_rfl) (by kernel_rfl) (fun _ _ _ h => h) (Or.inl ⟨by kernel_rfl, ?h5⟩) (by assumption) ?_
  case h5 => ((intro w hSw; (try dsimp only at hSw); go_simp) <;> (try with_reducible rfl))
  (try simp only [Act.put, List.setIfInBounds_toArray, List.set_cons_zero, List.set_cons_succ])
  refine wpAnyH_take (i := 6) (oi := ({ dst := some 37, op := Op.move (Operand.tmp 2), type := 3, pos := "law.go:38", after := #[{ on := 5, ground := Ground.guard }], guard := some (5, true) } : Oper)) (v := ?v6) rfl (by kernel_rfl) (by kernel_rfl) (by kernel_rfl) (fun _ _ _ h => h) (Or.inl ⟨by kernel_rfl, ?h6⟩) (by assumption) ?_
  case h6 => ((intro w hSw; (try dsimp only at hSw); go_simp) <;> (try with_reducible rfl))
  (try simp only [Act.put, List.setIfInBounds_toArray, List.set_cons_zero, List.set_cons_succ])
  refine wpAnyH_take (i := 7) (oi := ({ dst := some 38, op := Op.binOp BinOp.eql 3 (Operand.tmp 37) (Operand.const (Value.int IntKind.i64 1)) 3, type := 4, pos := "law.go:38", after := #[{ on := 6, ground := Ground.data }, { on := 5, ground := Ground.guard }], guard := some (5, true) } : Oper)) (v := ?v7) rfl (by kernel_rfl) (by kernel_rfl) (by kernel_rfl) (fun _ _ _ h => h) (Or.inl ⟨by kernel_rfl, ?h7⟩) (by assumption) ?_
  case h7 => ((intro w hSw; (try dsimp only at hSw); go_simp) <;> (try with_reducible rfl))
  (try simp only [Act.put, List.setIfInBounds_toArray, List.set_cons_zero, List.set_cons_succ])
  refine wpAnyH_take (i := 8) (oi := ({ dst := some 39, op := Op.pick (Operand.tmp 36) (Operand.tmp 38) (Operand.const (Value.bool false)), type := 4, pos := "law.go:38", after := #[{ on := 5, ground := Ground.data }, { on := 7, ground := Ground.data }], guard := none } : Oper)) (v := ?v8) rfl (by kernel_rfl) (by kernel_rfl) (by kernel_rfl) (fun _ _ _ h => h) (Or.inl ⟨by kernel_rfl, ?h8⟩) (by assumption) ?_
  case h8 => ((intro w hSw; (try dsimp only at hSw); go_simp) <;> (try with_reducible rfl))
  (try simp only [Act.put, List.setIfInBounds_toArray, List.set_cons_zero, List.set_cons_succ])
  refine wpAnyH_take (i := 9) (oi := ({ dst := some 40, op := Op.move (Operand.tmp 39), type := 4, pos := "law.go:38", after := #[{ on := 8, ground := Ground.data }, { on := 5, ground := Ground.chain }], guard := none } : Oper)) (v := ?v9) rfl (by kernel_rfl) (by kernel_rfl) (by kernel_rfl) (fun _ _ _ h => h) (Or.inl ⟨by kernel_rfl, ?h9⟩) (by assumption) ?_
  case h9 => ((intro w hSw; (try dsimp only at hSw); go_simp) <;> (try with_reducible rfl))
  (try simp only [Act.put, List.setIfInBounds_toArray, List.set_cons_zero, List.set_cons_succ])
  refine wpAnyH_take (i := 10) (oi := ({ dst := some 41, op := Op.move (Operand.tmp 5), type := 28, pos := "law.go:38", after := #[{ on := 9, ground := Ground.guard }], guard := some (9, true) } : Oper)) (v := ?v10) rfl (by kernel_rfl) (by kernel_rfl) (by kernel_rfl) (fun _ _ _ h => h) (Or.inl ⟨by kernel_rfl, ?h10⟩) (by assumption) ?_
  case h10 => ((intro w hSw; (try dsimp only at hSw); go_simp) <;> (try with_reducible rfl))
  (try simp only [Act.put, List.setIfInBounds_toArray, List.set_cons_zero, List.set_cons_succ])
  refine wpAnyH_take (i := 11) (oi := ({ dst := some 42, op := Op.binOp BinOp.eql 28 (Operand.tmp 41) (Operand.const (Value.int IntKind.i64 6)) 28, type := 4, pos := "law.go:38", after := #[{ on := 10, ground := Ground.data }, { on := 9, ground := Ground.guard }], guard := some (9, true) } : Oper)) (v := ?v11) rfl (by kernel_rfl) (by kernel_rfl) (by kernel_rfl) (fun _ _ _ h => h) (Or.inl ⟨by kernel_rfl, ?h11⟩) (by assumption) ?_
  case h11 => ((intro w hSw; (try dsimp only at hSw); go_simp) <;> (try with_reducible rfl))
  (try simp only [Act.put, List.setIfInBounds_toArray, List.set_cons_zero, List.set_cons_succ])
  refine wpAnyH_take (i := 12) (oi := ({ dst := some 43, op := Op.pick (Operand.tmp 40) (Operand.tmp 42) (Operand.const (Value.bool false)), type := 4, pos := "law.go:38", after := #[{ on := 9, ground := Ground.data }, { on := 11, ground := Ground.data }], guard := none } : Oper)) (v := ?v12) rfl (by kernel_rfl) (by kernel_rfl) (by kernel_rfl) (fun _ _ _ h => h) (Or.inl ⟨by kernel_rfl, ?h12⟩) (by assumption) ?_
  case h12 => ((intro w hSw; (try dsimp only at hSw); go_simp) <;> (try with_reducible rfl))
  (try simp only [Act.put, List.setIfInBounds_toArray, List.set_cons_zero, List.set_cons_succ])
  refine wpAnyH_take (i := 13) (oi := ({ dst := some 44, op := Op.move (Operand.tmp 43), type := 4, pos := "law.go:38", after := #[{ on := 12, ground := Ground.data }, { on := 9, ground := Ground.chain }], guard := none } : Oper)) (v := ?v13) rfl (by kernel_rfl) (by kernel_rfl) (by kernel_rfl) (fun _ _ _ h => h) (Or.inl ⟨by kernel_rfl, ?h13⟩) (by assumption) ?_
  case h13 => ((intro w hSw; (try dsimp only at hSw); go_simp) <;> (try with_reducible rfl))
  (try simp only [Act.put, List.setIfInBounds_toArray, List.set_cons_zero, List.set_cons_succ])
  refine wpAnyH_take (i := 14) (oi := ({ dst := some 45, op := Op.move (Operand.tmp 7), type := 28, pos := "law.go:38", after := #[{ on := 13, ground := Ground.guard }], guard := some (13, true) } : Oper)) (v := ?v14) rfl (by kernel_rfl) (by kernel_rfl) (by kernel_rfl) (fun _ _ _ h => h) (Or.inl ⟨by kernel_rfl, ?h14⟩) (by assumption) ?_
  case h14 => ((intro w hSw; (try dsimp only at hSw); go_simp) <;> (try with_reducible rfl))
  (try simp only [Act.put, List.setIfInBounds_toArray, List.set_cons_zero, List.set_cons_succ])
  refine wpAnyH_take (i := 15) (oi := ({ dst := some 46, op := Op.binOp BinOp.eql 28 (Operand.tmp 45) (Operand.const (Value.int IntKind.i64 2)) 28, type := 4, pos := "law.go:38", after := #[{ on := 14, ground := Ground.data }, { on := 13, ground := Ground.guard }], guard := some (13, true) } : Oper)) (v := ?v15) rfl (by kernel_rfl) (by kernel_rfl) (by kernel_rfl) (fun _ _ _ h => h) (Or.inl ⟨by kernel_rfl, ?h15⟩) (by assumption) ?_
  case h15 => ((intro w hSw; (try dsimp only at hSw); go_simp) <;> (try with_reducible rfl))
  (try simp only [Act.put, List.setIfInBounds_toArray, List.set_cons_zero, List.set_cons_succ])
  refine wpAnyH_take (i := 16) (oi := ({ dst := some 47, op := Op.pick (Operand.tmp 44) (Operand.tmp 46) (Operand.const (Value.bool false)), type := 4, pos := "law.go:38", after := #[{ on := 13, ground := Ground.data }, { on := 15, ground := Ground.data }], guard := none } : Oper)) (v := ?v16) rfl (by kernel_rfl) (by kernel_rfl) (by kernel_rfl) (fun _ _ _ h => h) (Or.inl ⟨by kernel_rfl, ?h16⟩) (by assumption) ?_
  case h16 => ((intro w hSw; (try dsimp only at hSw); go_simp) <;> (try with_reducible rfl))
  (try simp only [Act.put, List.setIfInBounds_toArray, List.set_cons_zero, List.set_cons_succ])
  refine wpAnyH_take (i := 17) (oi := ({ dst := some 48, op := Op.move (Operand.tmp 47), type := 4, pos := "law.go:38", after := #[{ on := 16, ground := Ground.data }, { on := 13, ground := Ground.chain }], guard := none } : Oper)) (v := ?v17) rfl (by kernel_rfl) (by kernel_rfl) (by kernel_rfl) (fun _ _ _ h => h) (Or.inl ⟨by kernel_rfl, ?h17⟩) (by assumption) ?_
  case h17 => ((intro w hSw; (try dsimp only at hSw); go_simp) <;> (try with_reducible rfl))
  (try simp only [Act.put, List.setIfInBounds_toArray, List.set_cons_zero, List.set_cons_succ])
  refine wpAnyH_take (i := 18) (oi := ({ dst := some 49, op := Op.load 26 (Operand.tmp 1), type := 26, pos := "law.go:38", after := #[{ on := 17, ground := Ground.guard }], guard := some (17, true) } : Oper)) (v := .agg #[.slice q.aF 1 q.cF, .slice q.aH 2 q.cH, .slice q.aR 2 q.cR, .slice q.aO 2 q.cO]) rfl (by kernel_rfl) (by kernel_rfl) (by kernel_rfl) (fun _ _ _ h => h) (Or.inl ⟨by kernel_rfl, fun w hSw => by ((try dsimp only at hSw); go_simp; done)⟩) (by assumption) ?_
  (try simp only [Act.put, List.setIfInBounds_toArray, List.set_cons_zero, List.set_cons_succ])
  refine wpAnyH_ready (rs := [19]) (by kernel_rfl) (by simp) ?_
  refine AllReadyH.cons (o := ({ dst := some 50, op := Op.call { callee := Callee.value (Operand.func 10), args := #[Operand.tmp 49, Operand.const (Value.int IntKind.u64 16)], argTypes := #[26, 31] }, type := 31, pos := "law.go:38", after := #[{ on := 18, ground := Ground.data }, { on := 17, ground := Ground.chain }, { on := 17, ground := Ground.guard }], guard := some (17, true) } : Oper)) rfl (fun K hK => ?_) AllReadyH.nil
  go_simp
  ((go_at_call 10; (with_reducible refine (K1.out q _ D1.out.c1).mono ?_); rintro e' w12 ⟨rfl, hb⟩; have D2 := Lib.hid (D1.out.on hb); clear hb))
  (try go_wp2_with fail)
  refine hK.out _ _ ?_ (fun hHeld => ?_)
  · exact D2.out.eight
  clear hK K
  (try simp only [Act.put, List.setIfInBounds_toArray, List.set_cons_zero, List.set_cons_succ])
  refine wpAnyH_take (i := 20) (oi := ({ dst := some 51, op := Op.binOp BinOp.eql 31 (Operand.tmp 50) (Operand.const (Value.int IntKind.u64 4)) 31, type := 4, pos := "law.go:38", after := #[{ on := 19, ground := Ground.data }, { on := 17, ground := Ground.guard }], guard := some (17, true) } : Oper)) (v := ?v20) rfl (by kernel_rfl) (by kernel_rfl) (by kernel_rfl) (fun _ _ _ h => h) (Or.inl ⟨by kernel_rfl, ?h20⟩) (by assumption) ?_
  case h20 => ((intro w hSw; (try dsimp only at hSw); go_simp) <;> (try with_reducible rfl))
  (try simp only [Act.put, List.setIfInBounds_toArray, List.set_cons_zero, List.set_cons_succ])
  refine wpAnyH_take (i := 21) (oi := ({ dst := some 52, op := Op.pick (Operand.tmp 48) (Operand.tmp 51) (Operand.const (Value.bool false)), type := 4, pos := "law.go:38", after := #[{ on := 17, ground := Ground.data }, { on := 20, ground := Ground.data }], guard := none } : Oper)) (v := ?v21) rfl (by kernel_rfl) (by kernel_rfl) (by kernel_rfl) (fun _ _ _ h => h) (Or.inl ⟨by kernel_rfl, ?h21⟩) (by assumption) ?_
  case h21 => ((intro w hSw; (try dsimp only at hSw); go_simp) <;> (try with_reducible rfl))
  (try simp only [Act.put, List.setIfInBounds_toArray, List.set_cons_zero, List.set_cons_succ])
  refine wpAnyH_take (i := 22) (oi := ({ dst := some 53, op := Op.move (Operand.tmp 52), type := 4, pos := "law.go:38", after := #[{ on := 21, ground := Ground.data }, { on := 19, ground := Ground.chain }], guard := none } : Oper)) (v := ?v22) rfl (by kernel_rfl) (by kernel_rfl) (by kernel_rfl) (fun _ _ _ h => h) (Or.inl ⟨by kernel_rfl, ?h22⟩) (by assumption) ?_
  case h22 => ((intro w hSw; (try dsimp only at hSw); go_simp) <;> (try with_reducible rfl))
  (try simp only [Act.put, List.setIfInBounds_toArray, List.set_cons_zero, List.set_cons_succ])
  refine wpAnyH_take (i := 23) (oi := ({ dst := some 54, op := Op.load 26 (Operand.tmp 1), type := 26, pos := "law.go:38", after := #[{ on := 22, ground := Ground.guard }], guard := some (22, true) } : Oper)) (v := .agg #[.slice q.aF 1 q.cF, .slice q.aH 2 q.cH, .slice q.aR 2 q.cR, .slice q.aO 2 q.cO]) rfl (by kernel_rfl) (by kernel_rfl) (by kernel_rfl) (fun _ _ _ h => h) (Or.inl ⟨by kernel_rfl, fun w hSw => by ((try dsimp only at hSw); go_simp; done)⟩) (by assumption) ?_
  (try simp only [Act.put, List.setIfInBounds_toArray, List.set_cons_zero, List.set_cons_succ])
  refine wpAnyH_ready (rs := [24]) (by kernel_rfl) (by simp) ?_
  refine AllReadyH.cons (o := ({ dst := some 55, op := Op.call { callee := Callee.value (Operand.func 10), args := #[Operand.tmp 54, Operand.const (Value.int IntKind.u64 8)], argTypes := #[26, 31] }, type := 31, pos := "law.go:38", after := #[{ on := 23, ground := Ground.data }, { on := 22, ground := Ground.chain }, { on := 22, ground := Ground.guard }], guard := some (22, true) } : Oper)) rfl (fun K hK => ?_) AllReadyH.nil
  go_simp
  ((go_at_call 10; (with_reducible refine (K2.out q _ D2.out.c1).mono ?_); rintro e' w13 ⟨rfl, hb⟩; have D3 := Lib.hid (D2.out.on hb); clear hb))
  (try go_wp2_with fail)
  refine hK.out _ _ ?_ (fun hHeld => ?_)
  · exact D3.out.eight
  clear hK K
  (try simp only [Act.put, List.setIfInBounds_toArray, List.set_cons_zero, List.set_cons_succ])
  refine wpAnyH_take (i := 25) (oi := ({ dst := some 56, op := Op.binOp BinOp.eql 31 (Operand.tmp 55) (Operand.const (Value.int IntKind.u64 0)) 31, type := 4, pos := "law.go:38", after := #[{ on := 24, ground := Ground.data }, { on := 22, ground := Ground.guard }], guard := some (22, true) } : Oper)) (v := ?v25) rfl (by kernel_rfl) (by kernel_rfl) (by kernel_rfl) (fun _ _ _ h => h) (Or.inl ⟨by kernel_rfl, ?h25⟩) (by assumption) ?_
  case h25 => ((intro w hSw; (try dsimp only at hSw); go_simp) <;> (try with_reducible rfl))
  (try simp only [Act.put, List.setIfInBounds_toArray, List.set_cons_zero, List.set_cons_succ])
  refine wpAnyH_take (i := 26) (oi := ({ dst := some 57, op := Op.pick (Operand.tmp 53) (Operand.tmp 56) (Operand.const (Value.bool false)), type := 4, pos := "law.go:38", after := #[{ on := 22, ground := Ground.data }, { on := 25, ground := Ground.data }], guard := none } : Oper)) (v := ?v26) rfl (by kernel_rfl) (by kernel_rfl) (by kernel_rfl) (fun _ _ _ h => h) (Or.inl ⟨by kernel_rfl, ?h26⟩) (by assumption) ?_
  case h26 => ((intro w hSw; (try dsimp only at hSw); go_simp) <;> (try with_reducible rfl))
  (try simp only [Act.put, List.setIfInBounds_toArray, List.set_cons_zero, List.set_cons_succ])
  refine wpAnyH_take (i := 27) (oi := ({ dst := some 58, op := Op.move (Operand.tmp 57), type := 4, pos := "law.go:38", after := #[{ on := 26, ground := Ground.data }, { on := 24, ground := Ground.chain }], guard := none } : Oper)) (v := ?v27) rfl (by kernel_rfl) (by kernel_rfl) (by kernel_rfl) (fun _ _ _ h => h) (Or.inl ⟨by kernel_rfl, ?h27⟩) (by assumption) ?_
  case h27 => ((intro w hSw; (try dsimp only at hSw); go_simp) <;> (try with_reducible rfl))
  (try simp only [Act.put, List.setIfInBounds_toArray, List.set_cons_zero, List.set_cons_succ])
  refine wpAnyH_take (i := 28) (oi := ({ dst := some 59, op := Op.load 26 (Operand.tmp 1), type := 26, pos := "law.go:38", after := #[{ on := 27, ground := Ground.guard }], guard := some (27, true) } : Oper)) (v := .agg #[.slice q.aF 1 q.cF, .slice q.aH 2 q.cH, .slice q.aR 2 q.cR, .slice q.aO 2 q.cO]) rfl (by kernel_rfl) (by kernel_rfl) (by kernel_rfl) (fun _ _ _ h => h) (Or.inl ⟨by kernel_rfl, fun w hSw => by ((try dsimp only at hSw); go_simp; done)⟩) (by assumption) ?_
  (try simp only [Act.put, List.setIfInBounds_toArray, List.set_cons_zero, List.set_cons_succ])
  refine wpAnyH_ready (rs := [29]) (by kernel_rfl) (by simp) ?_
  refine AllReadyH.cons (o := ({ dst := some 60, op := Op.call { callee := Callee.value (Operand.func 11), args := #[Operand.tmp 59], argTypes := #[26] }, type := 22, pos := "law.go:38", after := #[{ on := 28, ground := Ground.data }, { on := 27, ground := Ground.chain }, { on := 27, ground := Ground.guard }], guard := some (27, true) } : Oper)) rfl (fun K hK => ?_) AllReadyH.nil
  go_simp
  ((go_at_call 11; (with_reducible refine (K3.out q _ D3.out.c1).mono ?_); rintro e' w14 ⟨aL, cL, rfl, hb⟩; have D4 := Lib.hid (D3.out.on hb); clear hb))
  (try go_wp2_with fail)
  refine hK.out _ _ ?_ (fun hHeld => ?_)
  · exact D4.out.eight
  clear hK K
  (try simp only [Act.put, List.setIfInBounds_toArray, List.set_cons_zero, List.set_cons_succ])
  refine wpAnyH_take (i := 30) (oi := ({ dst := some 61, op := Op.call { callee := Callee.builtin Builtin.len, args := #[Operand.tmp 60], argTypes := #[22] }, type := 3, pos := "law.go:38", after := #[{ on := 29, ground := Ground.data }, { on := 27, ground := Ground.guard }], guard := some (27, true) } : Oper)) (v := ?v30) rfl (by kernel_rfl) (by kernel_rfl) (by kernel_rfl) (fun _ _ _ h => h) (Or.inl ⟨by kernel_rfl, ?h30⟩) (by assumption) ?_
  case h30 => ((intro w hSw; (try dsimp only at hSw); go_simp) <;> (try with_reducible rfl))
  (try simp only [Act.put, List.setIfInBounds_toArray, List.set_cons_zero, List.set_cons_succ])
  refine wpAnyH_take (i := 31) (oi := ({ dst := some 62, op := Op.binOp BinOp.eql 3 (Operand.tmp 61) (Operand.const (Value.int IntKind.i64 2)) 3, type := 4, pos := "law.go:38", after := #[{ on := 30, ground := Ground.data }, { on := 27, ground := Ground.guard }], guard := some (27, true) } : Oper)) (v := ?v31) rfl (by kernel_rfl) (by kernel_rfl) (by kernel_rfl) (fun _ _ _ h => h) (Or.inl ⟨by kernel_rfl, ?h31⟩) (by assumption) ?_
  case h31 => ((intro w hSw; (try dsimp only at hSw); go_simp) <;> (try with_reducible rfl))
  (try simp only [Act.put, List.setIfInBounds_toArray, List.set_cons_zero, List.set_cons_succ])
  refine wpAnyH_take (i := 32) (oi := ({ dst := some 63, op := Op.pick (Operand.tmp 58) (Operand.tmp 62) (Operand.const (Value.bool false)), type := 4, pos := "law.go:38", after := #[{ on := 27, ground := Ground.data }, { on := 31, ground := Ground.data }], guard := none } : Oper)) (v := ?v32) rfl (by kernel_rfl) (by kernel_rfl) (by kernel_rfl) (fun _ _ _ h => h) (Or.inl ⟨by kernel_rfl, ?h32⟩) (by assumption) ?_
  case h32 => ((intro w hSw; (try dsimp only at hSw); go_simp) <;> (try with_reducible rfl))
  (try simp only [Act.put, List.setIfInBounds_toArray, List.set_cons_zero, List.set_cons_succ])
  refine wpAnyH_take (i := 33) (oi := ({ dst := some 64, op := Op.move (Operand.tmp 63), type := 4, pos := "law.go:38", after := #[{ on := 32, ground := Ground.data }, { on := 29, ground := Ground.chain }], guard := none } : Oper)) (v := ?v33) rfl (by kernel_rfl) (by kernel_rfl) (by kernel_rfl) (fun _ _ _ h => h) (Or.inl ⟨by kernel_rfl, ?h33⟩) (by assumption) ?_
  case h33 => ((intro w hSw; (try dsimp only at hSw); go_simp) <;> (try with_reducible rfl))
  (try simp only [Act.put, List.setIfInBounds_toArray, List.set_cons_zero, List.set_cons_succ])
  refine wpAnyH_take (i := 34) (oi := ({ dst := some 65, op := Op.load 26 (Operand.tmp 8), type := 26, pos := "law.go:38", after := #[{ on := 33, ground := Ground.guard }], guard := some (33, true) } : Oper)) (v := .agg #[.slice p.aF 0 p.cF, .slice p.aH 2 p.cH, .slice p.aR 2 p.cR, .slice p.aO 2 p.cO]) rfl (by kernel_rfl) (by kernel_rfl) (by kernel_rfl) (fun _ _ _ h => h) (Or.inl ⟨by kernel_rfl, fun w hSw => by ((try dsimp only at hSw); go_simp; done)⟩) (by assumption) ?_
  (try simp only [Act.put, List.setIfInBounds_toArray, List.set_cons_zero, List.set_cons_succ])
  refine wpAnyH_ready (rs := [35]) (by kernel_rfl) (by simp) ?_
  refine AllReadyH.cons (o := ({ dst := some 66, op := Op.call { callee := Callee.value (Operand.func 12), args := #[Operand.tmp 65], argTypes := #[26] }, type := 28, pos := "law.go:38", after := #[{ on := 34, ground := Ground.data }, { on := 33, ground := Ground.chain }, { on := 33, ground := Ground.guard }], guard := some (33, true) } : Oper)) rfl (fun K hK => ?_) AllReadyH.nil
  go_simp
  ((go_at_call 12; (with_reducible refine (K4.out p _ D4.out.c2).mono ?_); rintro e' w15 ⟨rfl, hb⟩; have D5 := Lib.hid (D4.out.on hb); clear hb))
  (try go_wp2_with fail)
  refine hK.out _ _ ?_ (fun hHeld => ?_)
  · exact D5.out.eight
  clear hK K
  (try simp only [Act.put, List.setIfInBounds_toArray, List.set_cons_zero, List.set_cons_succ])
  refine wpAnyH_take (i := 36) (oi := ({ dst := some 67, op := Op.binOp BinOp.eql 28 (Operand.tmp 66) (Operand.const (Value.int IntKind.i64 2)) 28, type := 4, pos := "law.go:38", after := #[{ on := 35, ground := Ground.data }, { on := 33, ground := Ground.guard }], guard := some (33, true) } : Oper)) (v := ?v36) rfl (by kernel_rfl) (by kernel_rfl) (by kernel_rfl) (fun _ _ _ h => h) (Or.inl ⟨by kernel_rfl, ?h36⟩) (by assumption) ?_
  case h36 => ((intro w hSw; (try dsimp only at hSw); go_simp) <;> (try with_reducible rfl))
  (try simp only [Act.put, List.setIfInBounds_toArray, List.set_cons_zero, List.set_cons_succ])
  refine wpAnyH_take (i := 37) (oi := ({ dst := some 68, op := Op.pick (Operand.tmp 64) (Operand.tmp 67) (Operand.const (Value.bool false)), type := 4, pos := "law.go:38", after := #[{ on := 33, ground := Ground.data }, { on := 36, ground := Ground.data }], guard := none } : Oper)) (v := ?v37) rfl (by kernel_rfl) (by kernel_rfl) (by kernel_rfl) (fun _ _ _ h => h) (Or.inl ⟨by kernel_rfl, ?h37⟩) (by assumption) ?_
  case h37 => ((intro w hSw; (try dsimp only at hSw); go_simp) <;> (try with_reducible rfl))
  (try simp only [Act.put, List.setIfInBounds_toArray, List.set_cons_zero, List.set_cons_succ])
  refine wpAnyH_take (i := 38) (oi := ({ dst := some 69, op := Op.move (Operand.tmp 68), type := 4, pos := "law.go:38", after := #[{ on := 37, ground := Ground.data }, { on := 35, ground := Ground.chain }], guard := none } : Oper)) (v := ?v38) rfl (by kernel_rfl) (by kernel_rfl) (by kernel_rfl) (fun _ _ _ h => h) (Or.inl ⟨by kernel_rfl, ?h38⟩) (by assumption) ?_
  case h38 => ((intro w hSw; (try dsimp only at hSw); go_simp) <;> (try with_reducible rfl))
  (try simp only [Act.put, List.setIfInBounds_toArray, List.set_cons_zero, List.set_cons_succ])
  refine wpAnyH_take (i := 39) (oi := ({ dst := some 70, op := Op.load 26 (Operand.tmp 1), type := 26, pos := "law.go:38", after := #[{ on := 38, ground := Ground.guard }], guard := some (38, true) } : Oper)) (v := .agg #[.slice q.aF 1 q.cF, .slice q.aH 2 q.cH, .slice q.aR 2 q.cR, .slice q.aO 2 q.cO]) rfl (by kernel_rfl) (by kernel_rfl) (by kernel_rfl) (fun _ _ _ h => h) (Or.inl ⟨by kernel_rfl, fun w hSw => by ((try dsimp only at hSw); go_simp; done)⟩) (by assumption) ?_
  (try simp only [Act.put, List.setIfInBounds_toArray, List.set_cons_zero, List.set_cons_succ])
  refine wpAnyH_ready (rs := [40]) (by kernel_rfl) (by simp) ?_
  refine AllReadyH.cons (o := ({ dst := some 71, op := Op.call { callee := Callee.value (Operand.func 13), args := #[Operand.tmp 70], argTypes := #[26] }, type := 38, pos := "law.go:38", after := #[{ on := 39, ground := Ground.data }, { on := 38, ground := Ground.chain }, { on := 38, ground := Ground.guard }], guard := some (38, true) } : Oper)) rfl (fun K hK => ?_) AllReadyH.nil
  go_simp
  ((go_at_call 13; (with_reducible refine (K5.out q _ D5.out.c1).mono ?_); rintro e' w16 ⟨gA, rfl, hb⟩; have D6 := Lib.hid (D5.out.on hb); clear hb))
  (try go_wp2_with fail)
  refine hK.out _ _ ?_ (fun hHeld => ?_)
  · exact D6.out.eight
  clear hK K
  (try simp only [Act.put, List.setIfInBounds_toArray, List.set_cons_zero, List.set_cons_succ])
  refine wpAnyH_take (i := 41) (oi := ({ dst := some 72, op := Op.call { callee := Callee.builtin Builtin.len, args := #[Operand.tmp 71], argTypes := #[38] }, type := 3, pos := "law.go:38", after := #[{ on := 40, ground := Ground.data }, { on := 38, ground := Ground.guard }], guard := some (38, true) } : Oper)) (v := ?v41) rfl (by kernel_rfl) (by kernel_rfl) (by kernel_rfl) (fun _ _ _ h => h) (Or.inl ⟨by kernel_rfl, ?h41⟩) (by assumption) ?_
  case h41 => ((intro w hSw; (try dsimp only at hSw); go_simp) <;> (try with_reducible rfl))
  (try simp only [Act.put, List.setIfInBounds_toArray, List.set_cons_zero, List.set_cons_succ])
  refine wpAnyH_take (i := 42) (oi := ({ dst := some 73, op := Op.binOp BinOp.eql 3 (Operand.tmp 72) (Operand.const (Value.int IntKind.i64 2)) 3, type := 4, pos := "law.go:38", after := #[{ on := 41, ground := Ground.data }, { on := 38, ground := Ground.guard }], guard := some (38, true) } : Oper)) (v := ?v42) rfl (by kernel_rfl) (by kernel_rfl) (by kernel_rfl) (fun _ _ _ h => h) (Or.inl ⟨by kernel_rfl, ?h42⟩) (by assumption) ?_
  case h42 => ((intro w hSw; (try dsimp only at hSw); go_simp) <;> (try with_reducible rfl))
  (try simp only [Act.put, List.setIfInBounds_toArray, List.set_cons_zero, List.set_cons_succ])
  refine wpAnyH_take (i := 43) (oi := ({ dst := some 74, op := Op.pick (Operand.tmp 69) (Operand.tmp 73) (Operand.const (Value.bool false)), type := 4, pos := "law.go:38", after := #[{ on := 38, ground := Ground.data }, { on := 42, ground := Ground.data }], guard := none } : Oper)) (v := ?v43) rfl (by kernel_rfl) (by kernel_rfl) (by kernel_rfl) (fun _ _ _ h => h) (Or.inl ⟨by kernel_rfl, ?h43⟩) (by assumption) ?_
  case h43 => ((intro w hSw; (try dsimp only at hSw); go_simp) <;> (try with_reducible rfl))
  (try simp only [Act.put, List.setIfInBounds_toArray, List.set_cons_zero, List.set_cons_succ])
  refine wpAnyH_take (i := 44) (oi := ({ dst := some 75, op := Op.move (Operand.tmp 74), type := 4, pos := "law.go:38", after := #[{ on := 43, ground := Ground.data }, { on := 40, ground := Ground.chain }], guard := none } : Oper)) (v := ?v44) rfl (by kernel_rfl) (by kernel_rfl) (by kernel_rfl) (fun _ _ _ h => h) (Or.inl ⟨by kernel_rfl, ?h44⟩) (by assumption) ?_
  case h44 => ((intro w hSw; (try dsimp only at hSw); go_simp) <;> (try with_reducible rfl))
  (try simp only [Act.put, List.setIfInBounds_toArray, List.set_cons_zero, List.set_cons_succ])
  refine wpAnyH_take (i := 45) (oi := ({ dst := some 76, op := Op.load 26 (Operand.tmp 1), type := 26, pos := "law.go:38", after := #[{ on := 44, ground := Ground.guard }], guard := some (44, true) } : Oper)) (v := .agg #[.slice q.aF 1 q.cF, .slice q.aH 2 q.cH, .slice q.aR 2 q.cR, .slice q.aO 2 q.cO]) rfl (by kernel_rfl) (by kernel_rfl) (by kernel_rfl) (fun _ _ _ h => h) (Or.inl ⟨by kernel_rfl, fun w hSw => by ((try dsimp only at hSw); go_simp; done)⟩) (by assumption) ?_
  (try simp only [Act.put, List.setIfInBounds_toArray, List.set_cons_zero, List.set_cons_succ])
  refine wpAnyH_ready (rs := [46, 47]) (by kernel_rfl) (by simp) ?_
  refine AllReadyH.cons (o := ({ dst := some 77, op := Op.call { callee := Callee.value (Operand.func 15), args := #[Operand.tmp 76], argTypes := #[26] }, type := 24, pos := "law.go:38", after := #[{ on := 45, ground := Ground.data }, { on := 44, ground := Ground.chain }, { on := 44, ground := Ground.guard }], guard := some (44, true) } : Oper)) rfl (fun K hK => ?_) ?_
  · go_simp
    (go_at_call 15; (with_reducible refine (K6.out q _ D6.out.c1).mono ?_); rintro e' w17 ⟨gP, rfl, hr, hb⟩; have D7 := Lib.hid (D6.out.on hb); have RP := Lib.hid hr; clear hb hr)
    (try go_wp2_with fail)
    refine hK.out _ _ D7.out.eight (fun hHeld => ?_)
    clear hK K
    (try simp only [Act.put, List.setIfInBounds_toArray, List.set_cons_zero, List.set_cons_succ])
    have D8 := Lib.hid (D7.out.on (box_below w17 (.cells #[.int .i64 0, .int .i64 1] 3)))
    have RP2 := Lib.hid (RP.out.below (box_below w17 (.cells #[.int .i64 0, .int .i64 1] 3)))
    have RQ := Lib.hid (ints_two w17)
    refine wpAnyH_ready (rs := [47]) (by kernel_rfl) (by simp) ?_
    refine AllReadyH.cons (o := ({ dst := some 78, op := Op.buildSlice 24 2 #[(0, Operand.const (Value.int IntKind.i64 0)), (1, Operand.const (Value.int IntKind.i64 1))], type := 24, pos := "law.go:38", after := #[{ on := 44, ground := Ground.guard }], guard := some (44, true) } : Oper)) rfl (fun K hK => ?_) AllReadyH.nil
    go_simp
    refine hK.out _ _ ?_ (fun hHeld => ?_)
    · exact D8.out.eight
    clear hK K
    (try simp only [Act.put, List.setIfInBounds_toArray, List.set_cons_zero, List.set_cons_succ])
    refine wpAnyH_ready (rs := [48]) (by kernel_rfl) (by simp) ?_
    refine AllReadyH.cons (o := ({ dst := some 79, op := Op.call { callee := Callee.value (Operand.func 14), args := #[Operand.tmp 77, Operand.tmp 78], argTypes := #[24, 24] }, type := 4, pos := "law.go:38", after := #[{ on := 46, ground := Ground.data }, { on := 47, ground := Ground.data }, { on := 46, ground := Ground.chain }, { on := 44, ground := Ground.guard }], guard := some (44, true) } : Oper)) rfl (fun K hK => ?_) AllReadyH.nil
    go_simp
    ((go_at_call 14; (with_reducible refine (K7.out _ _ _ RP2.out RQ.out).mono ?_); rintro e' w19 ⟨rfl, hb⟩; have D9 := Lib.hid (D8.out.on hb); clear hb))
    (try go_wp2_with fail)
    refine hK.out _ _ ?_ (fun hHeld => ?_)
    · exact D9.out.eight
    clear hK K
    (try simp only [Act.put, List.setIfInBounds_toArray, List.set_cons_zero, List.set_cons_succ])
    refine wpAnyH_take (i := 49) (oi := ({ dst := some 80, op := Op.pick (Operand.tmp 75) (Operand.tmp 79) (Operand.const (Value.bool false)), type := 4, pos := "law.go:38", after := #[{ on := 44, ground := Ground.data }, { on := 48, ground := Ground.data }], guard := none } : Oper)) (v := ?v49) rfl (by kernel_rfl) (by kernel_rfl) (by kernel_rfl) (fun _ _ _ h => h) (Or.inl ⟨by kernel_rfl, ?h49⟩) (by assumption) ?_
    case h49 => ((intro w hSw; (try dsimp only at hSw); go_simp) <;> (try with_reducible rfl))
    (try simp only [Act.put, List.setIfInBounds_toArray, List.set_cons_zero, List.set_cons_succ])
    refine wpAnyH_take (i := 50) (oi := ({ dst := some 81, op := Op.move (Operand.tmp 80), type := 4, pos := "law.go:38", after := #[{ on := 49, ground := Ground.data }, { on := 48, ground := Ground.chain }], guard := none } : Oper)) (v := ?v50) rfl (by kernel_rfl) (by kernel_rfl) (by kernel_rfl) (fun _ _ _ h => h) (Or.inl ⟨by kernel_rfl, ?h50⟩) (by assumption) ?_
    case h50 => ((intro w hSw; (try dsimp only at hSw); go_simp) <;> (try with_reducible rfl))
    (try simp only [Act.put, List.setIfInBounds_toArray, List.set_cons_zero, List.set_cons_succ])
    refine wpAnyH_take (i := 51) (oi := ({ dst := some 82, op := Op.load 26 (Operand.tmp 1), type := 26, pos := "law.go:38", after := #[{ on := 50, ground := Ground.guard }], guard := some (50, true) } : Oper)) (v := .agg #[.slice q.aF 1 q.cF, .slice q.aH 2 q.cH, .slice q.aR 2 q.cR, .slice q.aO 2 q.cO]) rfl (by kernel_rfl) (by kernel_rfl) (by kernel_rfl) (fun _ _ _ h => h) (Or.inl ⟨by kernel_rfl, fun w hSw => by ((try dsimp only at hSw); go_simp; done)⟩) (by assumption) ?_
    (try simp only [Act.put, List.setIfInBounds_toArray, List.set_cons_zero, List.set_cons_succ])
    refine wpAnyH_take (i := 52) (oi := ({ dst := some 83, op := Op.load 26 (Operand.tmp 1), type := 26, pos := "law.go:38", after := #[{ on := 50, ground := Ground.guard }], guard := some (50, true) } : Oper)) (v := .agg #[.slice q.aF 1 q.cF, .slice q.aH 2 q.cH, .slice q.aR 2 q.cR, .slice q.aO 2 q.cO]) rfl (by kernel_rfl) (by kernel_rfl) (by kernel_rfl) (fun _ _ _ h => h) (Or.inl ⟨by kernel_rfl, fun w hSw => by ((try dsimp only at hSw); go_simp; done)⟩) (by assumption) ?_
    (try simp only [Act.put, List.setIfInBounds_toArray, List.set_cons_zero, List.set_cons_succ])
    refine wpAnyH_ready (rs := [53]) (by kernel_rfl) (by simp) ?_
    refine AllReadyH.cons (o := ({ dst := some 84, op := Op.call { callee := Callee.value (Operand.func 16), args := #[Operand.tmp 82, Operand.tmp 83], argTypes := #[26, 26] }, type := 4, pos := "law.go:38", after := #[{ on := 51, ground := Ground.data }, { on := 52, ground := Ground.data }, { on := 50, ground := Ground.chain }, { on := 50, ground := Ground.guard }], guard := some (50, true) } : Oper)) rfl (fun K hK => ?_) AllReadyH.nil
    go_simp
    ((go_at_call 16; (with_reducible refine (K8.out q _ D9.out.c1).mono ?_); rintro e' w20 ⟨rfl, hb⟩; have D10 := Lib.hid (D9.out.on hb); clear hb))
    (try go_wp2_with fail)
    refine hK.out _ _ ?_ (fun hHeld => ?_)
    · exact D10.out.eight
    clear hK K
    (try simp only [Act.put, List.setIfInBounds_toArray, List.set_cons_zero, List.set_cons_succ])
    refine wpAnyH_take (i := 54) (oi := ({ dst := some 85, op := Op.pick (Operand.tmp 81) (Operand.tmp 84) (Operand.const (Value.bool false)), type := 4, pos := "law.go:38", after := #[{ on := 50, ground := Ground.data }, { on := 53, ground := Ground.data }], guard := none } : Oper)) (v := ?v54) rfl (by kernel_rfl) (by kernel_rfl) (by kernel_rfl) (fun _ _ _ h => h) (Or.inl ⟨by kernel_rfl, ?h54⟩) (by assumption) ?_
    case h54 => ((intro w hSw; (try dsimp only at hSw); go_simp) <;> (try with_reducible rfl))
    (try simp only [Act.put, List.setIfInBounds_toArray, List.set_cons_zero, List.set_cons_succ])
    refine wpAnyH_take (i := 55) (oi := ({ dst := some 86, op := Op.move (Operand.tmp 85), type := 4, pos := "law.go:38", after := #[{ on := 54, ground := Ground.data }, { on := 53, ground := Ground.chain }], guard := none } : Oper)) (v := ?v55) rfl (by kernel_rfl) (by kernel_rfl) (by kernel_rfl) (fun _ _ _ h => h) (Or.inl ⟨by kernel_rfl, ?h55⟩) (by assumption) ?_
    case h55 => ((intro w hSw; (try dsimp only at hSw); go_simp) <;> (try with_reducible rfl))
    (try simp only [Act.put, List.setIfInBounds_toArray, List.set_cons_zero, List.set_cons_succ])
    refine wpAnyH_take (i := 56) (oi := ({ dst := some 87, op := Op.load 26 (Operand.tmp 1), type := 26, pos := "law.go:38", after := #[{ on := 55, ground := Ground.guard }], guard := some (55, true) } : Oper)) (v := .agg #[.slice q.aF 1 q.cF, .slice q.aH 2 q.cH, .slice q.aR 2 q.cR, .slice q.aO 2 q.cO]) rfl (by kernel_rfl) (by kernel_rfl) (by kernel_rfl) (fun _ _ _ h => h) (Or.inl ⟨by kernel_rfl, fun w hSw => by ((try dsimp only at hSw); go_simp; done)⟩) (by assumption) ?_
    (try simp only [Act.put, List.setIfInBounds_toArray, List.set_cons_zero, List.set_cons_succ])
    refine wpAnyH_ready (rs := [57]) (by kernel_rfl) (by simp) ?_
    refine AllReadyH.cons (o := ({ dst := some 88, op := Op.call { callee := Callee.value (Operand.func 7), args := #[Operand.const (Value.int IntKind.i64 0)], argTypes := #[3] }, type := 26, pos := "law.go:38", after := #[{ on := 55, ground := Ground.chain }, { on := 55, ground := Ground.guard }], guard := some (55, true) } : Oper)) rfl (fun K hK => ?_) AllReadyH.nil
    go_simp
    ((go_at_call 7; (with_reducible refine (K0.out _).mono ?_); rintro e' w21 ⟨q9, rfl, hc, hb⟩; have D11 := Lib.hid (D10.out.on hb); clear hb hc))
    (try go_wp2_with fail)
    refine hK.out _ _ ?_ (fun hHeld => ?_)
    · exact D11.out.eight
    clear hK K
    (try simp only [Act.put, List.setIfInBounds_toArray, List.set_cons_zero, List.set_cons_succ])
    refine wpAnyH_ready (rs := [58]) (by kernel_rfl) (by simp) ?_
    refine AllReadyH.cons (o := ({ dst := some 89, op := Op.call { callee := Callee.value (Operand.func 16), args := #[Operand.tmp 87, Operand.tmp 88], argTypes := #[26, 26] }, type := 4, pos := "law.go:38", after := #[{ on := 56, ground := Ground.data }, { on := 57, ground := Ground.data }, { on := 57, ground := Ground.chain }, { on := 55, ground := Ground.guard }], guard := some (55, true) } : Oper)) rfl (fun K hK => ?_) AllReadyH.nil
    go_simp
    ((go_at_call 16; (with_reducible refine (K9.out q q9 _).mono ?_); rintro e' w22 ⟨rfl, hb⟩; have D12 := Lib.hid (D11.out.on hb); clear hb))
    (try go_wp2_with fail)
    refine hK.out _ _ ?_ (fun hHeld => ?_)
    · exact D12.out.eight
    clear hK K
    (try simp only [Act.put, List.setIfInBounds_toArray, List.set_cons_zero, List.set_cons_succ])
    refine wpAnyH_take (i := 59) (oi := ({ dst := some 90, op := Op.unOp UnOp.not 4 (Operand.tmp 89), type := 4, pos := "law.go:38", after := #[{ on := 58, ground := Ground.data }, { on := 55, ground := Ground.guard }], guard := some (55, true) } : Oper)) (v := ?v59) rfl (by kernel_rfl) (by kernel_rfl) (by kernel_rfl) (fun _ _ _ h => h) (Or.inl ⟨by kernel_rfl, ?h59⟩) (by assumption) ?_
    case h59 => ((intro w hSw; (try dsimp only at hSw); go_simp) <;> (try with_reducible rfl))
    (try simp only [Act.put, List.setIfInBounds_toArray, List.set_cons_zero, List.set_cons_succ])
    refine wpAnyH_take (i := 60) (oi := ({ dst := some 91, op := Op.pick (Operand.tmp 86) (Operand.tmp 90) (Operand.const (Value.bool false)), type := 4, pos := "law.go:38", after := #[{ on := 55, ground := Ground.data }, { on := 59, ground := Ground.data }], guard := none } : Oper)) (v := ?v60) rfl (by kernel_rfl) (by kernel_rfl) (by kernel_rfl) (fun _ _ _ h => h) (Or.inl ⟨by kernel_rfl, ?h60⟩) (by assumption) ?_
    case h60 => ((intro w hSw; (try dsimp only at hSw); go_simp) <;> (try with_reducible rfl))
    (try simp only [Act.put, List.setIfInBounds_toArray, List.set_cons_zero, List.set_cons_succ])
    refine wpAnyH_take (i := 61) (oi := ({ dst := some 0, op := Op.assign (Operand.tmp 91), type := 4, pos := "law.go:38", after := #[{ on := 60, ground := Ground.data }, { on := 58, ground := Ground.chain }, { on := 0, ground := Ground.phase }, { on := 1, ground := Ground.phase }, { on := 2, ground := Ground.phase }, { on := 3, ground := Ground.phase }, { on := 4, ground := Ground.phase }, { on := 5, ground := Ground.phase }, { on := 6, ground := Ground.phase }, { on := 7, ground := Ground.phase }, { on := 8, ground := Ground.phase }, { on := 9, ground := Ground.phase }, { on := 10, ground := Ground.phase }, { on := 11, ground := Ground.phase }, { on := 12, ground := Ground.phase }, { on := 13, ground := Ground.phase }, { on := 14, ground := Ground.phase }, { on := 15, ground := Ground.phase }, { on := 16, ground := Ground.phase }, { on := 17, ground := Ground.phase }, { on := 18, ground := Ground.phase }, { on := 19, ground := Ground.phase }, { on := 20, ground := Ground.phase }, { on := 21, ground := Ground.phase }, { on := 22, ground := Ground.phase }, { on := 23, ground := Ground.phase }, { on := 24, ground := Ground.phase }, { on := 25, ground := Ground.phase }, { on := 26, ground := Ground.phase }, { on := 27, ground := Ground.phase }, { on := 28, ground := Ground.phase }, { on := 29, ground := Ground.phase }, { on := 30, ground := Ground.phase }, { on := 31, ground := Ground.phase }, { on := 32, ground := Ground.phase }, { on := 33, ground := Ground.phase }, { on := 34, ground := Ground.phase }, { on := 35, ground := Ground.phase }, { on := 36, ground := Ground.phase }, { on := 37, ground := Ground.phase }, { on := 38, ground := Ground.phase }, { on := 39, ground := Ground.phase }, { on := 40, ground := Ground.phase }, { on := 41, ground := Ground.phase }, { on := 42, ground := Ground.phase }, { on := 43, ground := Ground.phase }, { on := 44, ground := Ground.phase }, { on := 45, ground := Ground.phase }, { on := 46, ground := Ground.phase }, { on := 47, ground := Ground.phase }, { on := 48, ground := Ground.phase }, { on := 49, ground := Ground.phase }, { on := 50, ground := Ground.phase }, { on := 51, ground := Ground.phase }, { on := 52, ground := Ground.phase }, { on := 53, ground := Ground.phase }, { on := 54, ground := Ground.phase }, { on := 55, ground := Ground.phase }, { on := 56, ground := Ground.phase }, { on := 57, ground := Ground.phase }, { on := 58, ground := Ground.phase }, { on := 59, ground := Ground.phase }, { on := 60, ground := Ground.phase }], guard := none } : Oper)) (v := ?v61) rfl (by kernel_rfl) (by kernel_rfl) (by kernel_rfl) (fun _ _ _ h => h) (Or.inl ⟨by kernel_rfl, ?h61⟩) (by assumption) ?_
    case h61 => ((intro w hSw; (try dsimp only at hSw); go_simp) <;> (try with_reducible rfl))
    (try simp only [Act.put, List.setIfInBounds_toArray, List.set_cons_zero, List.set_cons_succ])
    refine wpAnyH_done (by kernel_rfl) ?_ _
    go_wp2_with fail
    go_ret
    exact ⟨rfl, D12.out.below⟩
  refine AllReadyH.cons (o := ({ dst := some 78, op := Op.buildSlice 24 2 #[(0, Operand.const (Value.int IntKind.i64 0)), (1, Operand.const (Value.int IntKind.i64 1))], type := 24, pos := "law.go:38", after := #[{ on := 44, ground := Ground.guard }], guard := some (44, true) } : Oper)) rfl (fun K hK => ?_) AllReadyH.nil
  have D7 := Lib.hid (D6.out.on (box_below w16 (.cells #[.int .i64 0, .int .i64 1] 3)))
  have RQ := Lib.hid (ints_two w16)
  go_simp
  refine hK.out _ _ D7.out.eight (fun hHeld => ?_)
  clear hK K
  (try simp only [Act.put, List.setIfInBounds_toArray, List.set_cons_zero, List.set_cons_succ])
  refine wpAnyH_ready (rs := [46]) (by kernel_rfl) (by simp) ?_
  refine AllReadyH.cons (o := ({ dst := some 77, op := Op.call { callee := Callee.value (Operand.func 15), args := #[Operand.tmp 76], argTypes := #[26] }, type := 24, pos := "law.go:38", after := #[{ on := 45, ground := Ground.data }, { on := 44, ground := Ground.chain }, { on := 44, ground := Ground.guard }], guard := some (44, true) } : Oper)) rfl (fun K hK => ?_) AllReadyH.nil
  go_simp
  ((go_at_call 15; (with_reducible refine (K6.out q _ D7.out.c1).mono ?_); rintro e' w18 ⟨gP, rfl, hr, hb⟩; have D8 := Lib.hid (D7.out.on hb); have RP := Lib.hid hr; have RQ2 := Lib.hid (RQ.out.below hb); clear hb hr))
  (try go_wp2_with fail)
  refine hK.out _ _ ?_ (fun hHeld => ?_)
  · exact D8.out.eight
  clear hK K
  (try simp only [Act.put, List.setIfInBounds_toArray, List.set_cons_zero, List.set_cons_succ])
  refine wpAnyH_ready (rs := [48]) (by kernel_rfl) (by simp) ?_
  refine AllReadyH.cons (o := ({ dst := some 79, op := Op.call { callee := Callee.value (Operand.func 14), args := #[Operand.tmp 77, Operand.tmp 78], argTypes := #[24, 24] }, type := 4, pos := "law.go:38", after := #[{ on := 46, ground := Ground.data }, { on := 47, ground := Ground.data }, { on := 46, ground := Ground.chain }, { on := 44, ground := Ground.guard }], guard := some (44, true) } : Oper)) rfl (fun K hK => ?_) AllReadyH.nil
  go_simp
  ((go_at_call 14; (with_reducible refine (K7.out _ _ _ RP.out RQ2.out).mono ?_); rintro e' w19 ⟨rfl, hb⟩; have D9 := Lib.hid (D8.out.on hb); clear hb))
  (try go_wp2_with fail)
  refine hK.out _ _ ?_ (fun hHeld => ?_)
  · exact D9.out.eight
  clear hK K
  (try simp only [Act.put, List.setIfInBounds_toArray, List.set_cons_zero, List.set_cons_succ])
  refine wpAnyH_take (i := 49) (oi := ({ dst := some 80, op := Op.pick (Operand.tmp 75) (Operand.tmp 79) (Operand.const (Value.bool false)), type := 4, pos := "law.go:38", after := #[{ on := 44, ground := Ground.data }, { on := 48, ground := Ground.data }], guard := none } : Oper)) (v := ?v49) rfl (by kernel_rfl) (by kernel_rfl) (by kernel_rfl) (fun _ _ _ h => h) (Or.inl ⟨by kernel_rfl, ?h49⟩) (by assumption) ?_
  case h49 => ((intro w hSw; (try dsimp only at hSw); go_simp) <;> (try with_reducible rfl))
  (try simp only [Act.put, List.setIfInBounds_toArray, List.set_cons_zero, List.set_cons_succ])
  refine wpAnyH_take (i := 50) (oi := ({ dst := some 81, op := Op.move (Operand.tmp 80), type := 4, pos := "law.go:38", after := #[{ on := 49, ground := Ground.data }, { on := 48, ground := Ground.chain }], guard := none } : Oper)) (v := ?v50) rfl (by kernel_rfl) (by kernel_rfl) (by kernel_rfl) (fun _ _ _ h => h) (Or.inl ⟨by kernel_rfl, ?h50⟩) (by assumption) ?_
  case h50 => ((intro w hSw; (try dsimp only at hSw); go_simp) <;> (try with_reducible rfl))
  (try simp only [Act.put, List.setIfInBounds_toArray, List.set_cons_zero, List.set_cons_succ])
  refine wpAnyH_take (i := 51) (oi := ({ dst := some 82, op := Op.load 26 (Operand.tmp 1), type := 26, pos := "law.go:38", after := #[{ on := 50, ground := Ground.guard }], guard := some (50, true) } : Oper)) (v := .agg #[.slice q.aF 1 q.cF, .slice q.aH 2 q.cH, .slice q.aR 2 q.cR, .slice q.aO 2 q.cO]) rfl (by kernel_rfl) (by kernel_rfl) (by kernel_rfl) (fun _ _ _ h => h) (Or.inl ⟨by kernel_rfl, fun w hSw => by ((try dsimp only at hSw); go_simp; done)⟩) (by assumption) ?_
  (try simp only [Act.put, List.setIfInBounds_toArray, List.set_cons_zero, List.set_cons_succ])
  refine wpAnyH_take (i := 52) (oi := ({ dst := some 83, op := Op.load 26 (Operand.tmp 1), type := 26, pos := "law.go:38", after := #[{ on := 50, ground := Ground.guard }], guard := some (50, true) } : Oper)) (v := .agg #[.slice q.aF 1 q.cF, .slice q.aH 2 q.cH, .slice q.aR 2 q.cR, .slice q.aO 2 q.cO]) rfl (by kernel_rfl) (by kernel_rfl) (by kernel_rfl) (fun _ _ _ h => h) (Or.inl ⟨by kernel_rfl, fun w hSw => by ((try dsimp only at hSw); go_simp; done)⟩) (by assumption) ?_
  (try simp only [Act.put, List.setIfInBounds_toArray, List.set_cons_zero, List.set_cons_succ])
  refine wpAnyH_ready (rs := [53]) (by kernel_rfl) (by simp) ?_
  refine AllReadyH.cons (o := ({ dst := some 84, op := Op.call { callee := Callee.value (Operand.func 16), args := #[Operand.tmp 82, Operand.tmp 83], argTypes := #[26, 26] }, type := 4, pos := "law.go:38", after := #[{ on := 51, ground := Ground.data }, { on := 52, ground := Ground.data }, { on := 50, ground := Ground.chain }, { on := 50, ground := Ground.guard }], guard := some (50, true) } : Oper)) rfl (fun K hK => ?_) AllReadyH.nil
  go_simp
  ((go_at_call 16; (with_reducible refine (K8.out q _ D9.out.c1).mono ?_); rintro e' w20 ⟨rfl, hb⟩; have D10 := Lib.hid (D9.out.on hb); clear hb))
  (try go_wp2_with fail)
  refine hK.out _ _ ?_ (fun hHeld => ?_)
  · exact D10.out.eight
  clear hK K
  (try simp only [Act.put, List.setIfInBounds_toArray, List.set_cons_zero, List.set_cons_succ])
  refine wpAnyH_take (i := 54) (oi := ({ dst := some 85, op := Op.pick (Operand.tmp 81) (Operand.tmp 84) (Operand.const (Value.bool false)), type := 4, pos := "law.go:38", after := #[{ on := 50, ground := Ground.data }, { on := 53, ground := Ground.data }], guard := none } : Oper)) (v := ?v54) rfl (by kernel_rfl) (by kernel_rfl) (by kernel_rfl) (fun _ _ _ h => h) (Or.inl ⟨by kernel_rfl, ?h54⟩) (by assumption) ?_
  case h54 => ((intro w hSw; (try dsimp only at hSw); go_simp) <;> (try with_reducible rfl))
  (try simp only [Act.put, List.setIfInBounds_toArray, List.set_cons_zero, List.set_cons_succ])
  refine wpAnyH_take (i := 55) (oi := ({ dst := some 86, op := Op.move (Operand.tmp 85), type := 4, pos := "law.go:38", after := #[{ on := 54, ground := Ground.data }, { on := 53, ground := Ground.chain }], guard := none } : Oper)) (v := ?v55) rfl (by kernel_rfl) (by kernel_rfl) (by kernel_rfl) (fun _ _ _ h => h) (Or.inl ⟨by kernel_rfl, ?h55⟩) (by assumption) ?_
  case h55 => ((intro w hSw; (try dsimp only at hSw); go_simp) <;> (try with_reducible rfl))
  (try simp only [Act.put, List.setIfInBounds_toArray, List.set_cons_zero, List.set_cons_succ])
  refine wpAnyH_take (i := 56) (oi := ({ dst := some 87, op := Op.load 26 (Operand.tmp 1), type := 26, pos := "law.go:38", after := #[{ on := 55, ground := Ground.guard }], guard := some (55, true) } : Oper)) (v := .agg #[.slice q.aF 1 q.cF, .slice q.aH 2 q.cH, .slice q.aR 2 q.cR, .slice q.aO 2 q.cO]) rfl (by kernel_rfl) (by kernel_rfl) (by kernel_rfl) (fun _ _ _ h => h) (Or.inl ⟨by kernel_rfl, fun w hSw => by ((try dsimp only at hSw); go_simp; done)⟩) (by assumption) ?_
  (try simp only [Act.put, List.setIfInBounds_toArray, List.set_cons_zero, List.set_cons_succ])
  refine wpAnyH_ready (rs := [57]) (by kernel_rfl) (by simp) ?_
  refine AllReadyH.cons (o := ({ dst := some 88, op := Op.call { callee := Callee.value (Operand.func 7), args := #[Operand.const (Value.int IntKind.i64 0)], argTypes := #[3] }, type := 26, pos := "law.go:38", after := #[{ on := 55, ground := Ground.chain }, { on := 55, ground := Ground.guard }], guard := some (55, true) } : Oper)) rfl (fun K hK => ?_) AllReadyH.nil
  go_simp
  ((go_at_call 7; (with_reducible refine (K0.out _).mono ?_); rintro e' w21 ⟨q9, rfl, hc, hb⟩; have D11 := Lib.hid (D10.out.on hb); clear hb hc))
  (try go_wp2_with fail)
  refine hK.out _ _ ?_ (fun hHeld => ?_)
  · exact D11.out.eight
  clear hK K
  (try simp only [Act.put, List.setIfInBounds_toArray, List.set_cons_zero, List.set_cons_succ])
  refine wpAnyH_ready (rs := [58]) (by kernel_rfl) (by simp) ?_
  refine AllReadyH.cons (o := ({ dst := some 89, op := Op.call { callee := Callee.value (Operand.func 16), args := #[Operand.tmp 87, Operand.tmp 88], argTypes := #[26, 26] }, type := 4, pos := "law.go:38", after := #[{ on := 56, ground := Ground.data }, { on := 57, ground := Ground.data }, { on := 57, ground := Ground.chain }, { on := 55, ground := Ground.guard }], guard := some (55, true) } : Oper)) rfl (fun K hK => ?_) AllReadyH.nil
  go_simp
  ((go_at_call 16; (with_reducible refine (K9.out q q9 _).mono ?_); rintro e' w22 ⟨rfl, hb⟩; have D12 := Lib.hid (D11.out.on hb); clear hb))
  (try go_wp2_with fail)
  refine hK.out _ _ ?_ (fun hHeld => ?_)
  · exact D12.out.eight
  clear hK K
  (try simp only [Act.put, List.setIfInBounds_toArray, List.set_cons_zero, List.set_cons_succ])
  refine wpAnyH_take (i := 59) (oi := ({ dst := some 90, op := Op.unOp UnOp.not 4 (Operand.tmp 89), type := 4, pos := "law.go:38", after := #[{ on := 58, ground := Ground.data }, { on := 55, ground := Ground.guard }], guard := some (55, true) } : Oper)) (v := ?v59) rfl (by kernel_rfl) (by kernel_rfl) (by kernel_rfl) (fun _ _ _ h => h) (Or.inl ⟨by kernel_rfl, ?h59⟩) (by assumption) ?_
  case h59 => ((intro w hSw; (try dsimp only at hSw); go_simp) <;> (try with_reducible rfl))
  (try simp only [Act.put, List.setIfInBounds_toArray, List.set_cons_zero, List.set_cons_succ])
  refine wpAnyH_take (i := 60) (oi := ({ dst := some 91, op := Op.pick (Operand.tmp 86) (Operand.tmp 90) (Operand.const (Value.bool false)), type := 4, pos := "law.go:38", after := #[{ on := 55, ground := Ground.data }, { on := 59, ground := Ground.data }], guard := none } : Oper)) (v := ?v60) rfl (by kernel_rfl) (by kernel_rfl) (by kernel_rfl) (fun _ _ _ h => h) (Or.inl ⟨by kernel_rfl, ?h60⟩) (by assumption) ?_
  case h60 => ((intro w hSw; (try dsimp only at hSw); go_simp) <;> (try with_reducible rfl))
  (try simp only [Act.put, List.setIfInBounds_toArray, List.set_cons_zero, List.set_cons_succ])
  refine wpAnyH_take (i := 61) (oi := ({ dst := some 0, op := Op.assign (Operand.tmp 91), type := 4, pos := "law.go:38", after := #[{ on := 60, ground := Ground.data }, { on := 58, ground := Ground.chain }, { on := 0, ground := Ground.phase }, { on := 1, ground := Ground.phase }, { on := 2, ground := Ground.phase }, { on := 3, ground := Ground.phase }, { on := 4, ground := Ground.phase }, { on := 5, ground := Ground.phase }, { on := 6, ground := Ground.phase }, { on := 7, ground := Ground.phase }, { on := 8, ground := Ground.phase }, { on := 9, ground := Ground.phase }, { on := 10, ground := Ground.phase }, { on := 11, ground := Ground.phase }, { on := 12, ground := Ground.phase }, { on := 13, ground := Ground.phase }, { on := 14, ground := Ground.phase }, { on := 15, ground := Ground.phase }, { on := 16, ground := Ground.phase }, { on := 17, ground := Ground.phase }, { on := 18, ground := Ground.phase }, { on := 19, ground := Ground.phase }, { on := 20, ground := Ground.phase }, { on := 21, ground := Ground.phase }, { on := 22, ground := Ground.phase }, { on := 23, ground := Ground.phase }, { on := 24, ground := Ground.phase }, { on := 25, ground := Ground.phase }, { on := 26, ground := Ground.phase }, { on := 27, ground := Ground.phase }, { on := 28, ground := Ground.phase }, { on := 29, ground := Ground.phase }, { on := 30, ground := Ground.phase }, { on := 31, ground := Ground.phase }, { on := 32, ground := Ground.phase }, { on := 33, ground := Ground.phase }, { on := 34, ground := Ground.phase }, { on := 35, ground := Ground.phase }, { on := 36, ground := Ground.phase }, { on := 37, ground := Ground.phase }, { on := 38, ground := Ground.phase }, { on := 39, ground := Ground.phase }, { on := 40, ground := Ground.phase }, { on := 41, ground := Ground.phase }, { on := 42, ground := Ground.phase }, { on := 43, ground := Ground.phase }, { on := 44, ground := Ground.phase }, { on := 45, ground := Ground.phase }, { on := 46, ground := Ground.phase }, { on := 47, ground := Ground.phase }, { on := 48, ground := Ground.phase }, { on := 49, ground := Ground.phase }, { on := 50, ground := Ground.phase }, { on := 51, ground := Ground.phase }, { on := 52, ground := Ground.phase }, { on := 53, ground := Ground.phase }, { on := 54, ground := Ground.phase }, { on := 55, ground := Ground.phase }, { on := 56, ground := Ground.phase }, { on := 57, ground := Ground.phase }, { on := 58, ground := Ground.phase }, { on := 59, ground := Ground.phase }, { on := 60, ground := Ground.phase }], guard := none } : Oper)) (v := ?v61) rfl (by kernel_rfl) (by kernel_rfl) (by kernel_rfl) (fun _ _ _ h => h) (Or.inl ⟨by kernel_rfl, ?h61⟩) (by assumption) ?_
  case h61 => ((intro w hSw; (try dsimp only at hSw); go_simp) <;> (try with_reducible rfl))
  (try simp only [Act.put, List.setIfInBounds_toArray, List.set_cons_zero, List.set_cons_succ])
  refine wpAnyH_done (by kernel_rfl) ?_ _
  go_wp2_with fail
  go_ret
  exact ⟨rfl, D12.out.below⟩
end Go.Proofs.Ytcebcmmbokajcaa
