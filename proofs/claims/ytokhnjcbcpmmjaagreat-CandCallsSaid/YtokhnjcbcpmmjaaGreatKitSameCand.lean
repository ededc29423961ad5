/-
  Proved here: the kit's Cand tells whether two candidates are the same; nothing that was there is changed. Condition: light candidates.
  (With it: Proved here: the kit's Events and Cand tell whether two are the same; nothing that was there is changed. Condition: light candidates.)
-/
import Derived.Test.YtokhnjcbcpmmjaaGreatKitSame
namespace Go.Proofs.YtokhnjcbcpmmjaaGreat
set_option linter.unusedVariables false
set_option linter.unusedSimpArgs false
open Go.RowKit
attribute [local go_sem ↓] fold_E fold_SE
attribute [local irreducible] wpStill

/-- are two rows the same -/
def rowQ (n m : Nat) (ev1 ev2 : Nat → Ev) (el1 el2 : Nat → El) : Bool := decide (n = m) && (List.range n).all (fun k => evB (ev1 k) (ev2 k) (el1 k) (el2 k))
theorem rowQ_no {n m : Nat} {ev1 ev2 : Nat → Ev} {el1 el2 : Nat → El} (h : n ≠ m) : rowQ n m ev1 ev2 el1 el2 = false := by unfold rowQ; rw [decide_eq_false h]; rfl
theorem rowQ_yes {n : Nat} {ev1 ev2 : Nat → Ev} {el1 el2 : Nat → El} (h : ∀ k, k < n → evB (ev1 k) (ev2 k) (el1 k) (el2 k) = true) : rowQ n n ev1 ev2 el1 el2 = true := by
  unfold rowQ
  rw [decide_eq_true rfl, Bool.true_and, List.all_eq_true]
  exact fun k hk => h k (List.mem_range.1 hk)
theorem rowQ_at {n k : Nat} {ev1 ev2 : Nat → Ev} {el1 el2 : Nat → El} (hk : k < n) (h : evB (ev1 k) (ev2 k) (el1 k) (el2 k) = false) : rowQ n n ev1 ev2 el1 el2 = false := by
  unfold rowQ
  rw [decide_eq_true rfl, Bool.true_and, List.all_eq_false]
  exact ⟨k, List.mem_range.2 hk, by rw [h]; simp⟩
theorem keventsA_lens (a1 a2 : Option Addr) (n m c d : Nat) (hnm : n ≠ m) (w : World) : Calls Tryz.prog 10 #[.slice a1 n c, .slice a2 m d] w fun e w' => SameOk w false e w' := by
  have h1 : (((n : Nat) : Int) != ((m : Nat) : Int)) = true := by simp; omega
  go_enter Tryz.func10, Tryz.ntmps10
  go_wp2
  go_ret
  exact ⟨rfl, Below.refl _ _⟩
theorem keventsA_none (a1 a2 : Option Addr) (c d : Nat) (w : World) : Calls Tryz.prog 10 #[.slice a1 0 c, .slice a2 0 d] w fun e w' => SameOk w true e w' := by
  go_enter Tryz.func10, Tryz.ntmps10
  go_wp2
  refine wp_loop_rounds 1 ?_
  rw [rounds_succ]
  go_wp2
  go_ret
  exact ⟨rfl, Below.refl _ _⟩
set_option maxRecDepth 100000 in
set_option maxHeartbeats 4000000 in
theorem keventsA_some (n b1 o1 c1 b2 o2 c2 : Nat) (ev1 ev2 : Nat → Ev) (el1 el2 : Nat → El) (w : World) (hn : n ≤ 60) (hl : ∀ k, k < n → (el1 k).n) (hp : 0 < n) (h1 : Rw n b1 o1 ev1 el1 w) (h2 : Rw n b2 o2 ev2 el2 w) :
    Calls Tryz.prog 10 #[.slice (some ⟨b1, o1, none⟩) n c1, .slice (some ⟨b2, o2, none⟩) n c2] w fun e w' => SameOk w (rowQ n n ev1 ev2 el1 el2) e w' := by
  have H1 := Lib.hid h1
  have H2 := Lib.hid h2
  have HLn := Lib.hid hl
  have HY := Lib.hid (fun h => rowQ_yes (n := n) (ev1 := ev1) (ev2 := ev2) (el1 := el1) (el2 := el2) h)
  have HX := Lib.hid (fun k hk h => rowQ_at (n := n) (k := k) (ev1 := ev1) (ev2 := ev2) (el1 := el1) (el2 := el2) hk h)
  obtain ⟨rb, hrb⟩ : ∃ b, rowQ n n ev1 ev2 el1 el2 = b := ⟨_, rfl⟩
  rw [hrb] at HY HX ⊢
  have d0 : (((n : Nat) : Int) != ((n : Nat) : Int)) = false := by simp
  clear h1 h2 hl hrb
  go_enter Tryz.func10, Tryz.ntmps10
  go_wp2
  go_loopw [5] (fun i wr => ∃ k : Nat, k ≤ n ∧ i = .int .i64 k ∧ Hid (∀ j, j < k → evB (ev1 j) (ev2 j) (el1 j) (el2 j) = true) ∧ Hid (Below w.heap.size w wr)) (fun i _ => n - (intOf i).toNat)
  case atStart => exact ⟨0, Nat.zero_le _, rfl, Lib.hid (fun j h => by omega), Lib.hid (Below.refl _ _)⟩
  case round =>
    obtain ⟨k, hk, rfl, HA, HL⟩ := hrel
    by_cases hlt : k < n
    · have hki : (k : Int) < (n : Int) := by omega
      have hk0 : (0 : Int) ≤ (k : Int) := by omega
      have HL0 := Lib.hid (HL.out.trans ((Below.refl wr.heap.size wr).drew.mono HL.out.size))
      have G1 := Lib.hid (H1.out.below HL.out)
      have G2 := Lib.hid (H2.out.below HL.out)
      obtain ⟨X, hX⟩ : ∃ X, ev1 k = X := ⟨_, rfl⟩
      obtain ⟨Y, hY⟩ : ∃ Y, ev2 k = Y := ⟨_, rfl⟩
      have q1 := (G1.out.at_ k hlt)
      have q2 := (G2.out.at_ k hlt)
      rw [hX] at q1
      rw [hY] at q2
      obtain ⟨r, hr⟩ : ∃ r, Hid (evB (ev1 k) (ev2 k) (el1 k) (el2 k) = r) := ⟨_, Lib.hid rfl⟩
      have KE := Lib.hid (fun (w0 : World) (b : Below w.heap.size w w0) => (show Calls Tryz.prog 34 #[X.V, Y.V] w0 fun e' w' => SameOk w0 r e' w' from by
        rw [← hr.out, hX, hY]
        exact kevent_any X Y (el1 k) (el2 k) w0 (by rw [← hX]; exact ((H1.out.below b).reads k hlt)) (by rw [← hY]; exact ((H2.out.below b).reads k hlt)) (HLn.out k hlt)))
      have FX : Hid (∀ W, Below wr.heap.size wr W → (LoadE (.pointer (some ⟨b1, o1 + k * 14, none⟩))).run Tryz.prog W = .ok X.V W ∧ (LoadE (.pointer (some ⟨b2, o2 + k * 14, none⟩))).run Tryz.prog W = .ok Y.V W) := Lib.hid (fun W hb => ⟨(q1.below hb (G1.out.lt hp)).load, (q2.below hb (G2.out.lt hp)).load⟩)
      clear hX hY q1 q2
      have BD := Lib.hid (Below.refl wr.heap.size wr).drew
      cases r with
      | true =>
        have HA2 : Hid (∀ j, j < k + 1 → evB (ev1 j) (ev2 j) (el1 j) (el2 j) = true) := Lib.hid (fun j hj => by
          by_cases e : j = k
          · rw [e]; exact hr.out
          · exact HA.out j (by omega))
        go_upto_region 6 with fail
        go_region_held3 (fun w' => (LoadE (.pointer (some ⟨b1, o1 + k * 14, none⟩))).run Tryz.prog w' = .ok X.V w' ∧ (LoadE (.pointer (some ⟨b2, o2 + k * 14, none⟩))).run Tryz.prog w' = .ok Y.V w') (first | exact FX.out _ BD.out | exact FX.out _ B2.out)
          ((go_at_call 34; (with_reducible refine (KE.out _ HL0.out).mono ?_); rintro e' w2 ⟨rfl, hb⟩; have B2 := Lib.hid (BD.out.trans hb); have L2 := Lib.hid (HL0.out.trans (hb.mono HL0.out.size)); clear hb))
        go_wp2
        go_roundw
        case rel => exact ⟨k + 1, by omega, by go_num, HA2, L2⟩
        case measure => simp [intOf]; omega
      | false =>
        have HN := Lib.hid (HX.out k hlt hr.out)
        go_upto_region 6 with fail
        go_region_held3 (fun w' => (LoadE (.pointer (some ⟨b1, o1 + k * 14, none⟩))).run Tryz.prog w' = .ok X.V w' ∧ (LoadE (.pointer (some ⟨b2, o2 + k * 14, none⟩))).run Tryz.prog w' = .ok Y.V w') (first | exact FX.out _ BD.out | exact FX.out _ B2.out)
          ((go_at_call 34; (with_reducible refine (KE.out _ HL0.out).mono ?_); rintro e' w2 ⟨rfl, hb⟩; have B2 := Lib.hid (BD.out.trans hb); have L2 := Lib.hid (HL0.out.trans (hb.mono HL0.out.size)); clear hb))
        go_wp2
        go_ret
        exact ⟨by rw [HN.out]; rfl, L2.out⟩
    · obtain rfl : k = n := by omega
      have HN := Lib.hid (HY.out HA.out)
      go_wp2
      go_ret
      exact ⟨by rw [HN.out]; rfl, HL.out⟩
theorem keventsA_any (v1 v2 : Value) (n m : Nat) (ev1 ev2 : Nat → Ev) (el1 el2 : Nat → El) (w : World) (hn : n ≤ 60) (hl : ∀ k, k < n → (el1 k).n) (h1 : RowV w v1 n ev1 el1) (h2 : RowV w v2 m ev2 el2) :
    Calls Tryz.prog 10 #[v1, v2] w fun e w' => SameOk w (rowQ n m ev1 ev2 el1 el2) e w' := by
  obtain ⟨a1, c1, rfl, _, h1⟩ := h1
  obtain ⟨a2, c2, rfl, _, h2⟩ := h2
  by_cases hnm : n = m
  · subst hnm
    by_cases hp : 0 < n
    · rcases h1 with h | ⟨b1, o1, rfl, h1⟩
      · omega
      rcases h2 with h | ⟨b2, o2, rfl, h2⟩
      · omega
      exact keventsA_some n b1 o1 c1 b2 o2 c2 ev1 ev2 el1 el2 w hn hl hp h1 h2
    · obtain rfl : n = 0 := by omega
      rw [rowQ_yes (fun k hk => by omega)]
      exact keventsA_none a1 a2 c1 c2 w
  · rw [rowQ_no hnm]
    exact keventsA_lens a1 a2 n m c1 c2 hnm w
end Go.Proofs.YtokhnjcbcpmmjaaGreat
namespace Go.Proofs.YtokhnjcbcpmmjaaGreat
set_option linter.unusedVariables false
set_option linter.unusedSimpArgs false
open Go.RowKit
attribute [local go_sem ↓] fold_E fold_SE
attribute [local irreducible] wpStill

/-- are two candidates the same -/
def candB (d c : Cd) : Bool := (decide (d.nh = c.nh) && (List.range d.nh).all (fun h => rowQ (d.len h) (c.len h) (d.ev h) (c.ev h) (d.el h) (c.el h))) && (decide (d.fs = c.fs) && (decide (d.fr = c.fr) && decide (d.od = c.od)))
theorem candB_nh {d c : Cd} (h : d.nh ≠ c.nh) : candB d c = false := by unfold candB; rw [decide_eq_false h]; rfl
theorem candB_at {d c : Cd} {k : Nat} (hk : k < d.nh) (h : rowQ (d.len k) (c.len k) (d.ev k) (c.ev k) (d.el k) (c.el k) = false) : candB d c = false := by
  unfold candB
  have e : (List.range d.nh).all (fun h => rowQ (d.len h) (c.len h) (d.ev h) (c.ev h) (d.el h) (c.el h)) = false := by
    rw [List.all_eq_false]
    exact ⟨k, List.mem_range.2 hk, by rw [h]; simp⟩
  rw [e, Bool.and_false, Bool.false_and]
theorem candB_rows {d c : Cd} (hn : d.nh = c.nh) (h : ∀ k, k < d.nh → rowQ (d.len k) (c.len k) (d.ev k) (c.ev k) (d.el k) (c.el k) = true) : candB d c = (decide (d.fs = c.fs) && (decide (d.fr = c.fr) && decide (d.od = c.od))) := by
  unfold candB
  have e : (List.range d.nh).all (fun h => rowQ (d.len h) (c.len h) (d.ev h) (c.ev h) (d.el h) (c.el h)) = true := by
    rw [List.all_eq_true]
    exact fun k hk => h k (List.mem_range.1 hk)
  rw [e, decide_eq_true hn]; rfl
/-- the boxes of a call of Cand -/
structure Cbx (d : Cd) (q' : Cv) (c : Cd) (q : Cv) (w W : World) : Prop where
  b0 : CdAt d q' w.heap.size W
  b1 : CdAt c q (w.heap.size + 1) W
  at0 : CAt d q' W
  at1 : CAt c q W
  below : Below w.heap.size w W
theorem Cbx.on {d : Cd} {q' : Cv} {c : Cd} {q : Cv} {w W W2 : World} (h : Cbx d q' c q w W) (hb : Below W.heap.size W W2) : Cbx d q' c q w W2 := ⟨h.b0.on hb, h.b1.on hb, h.at0.below hb, h.at1.below hb, h.below.trans (hb.mono h.below.size)⟩
theorem Cbx.start {d : Cd} {q' : Cv} {c : Cd} {q : Cv} {w : World} (h0 : CAt d q' w) (h1 : CAt c q w) : Cbx d q' c q w ((w.alloc (.cells #[.slice q'.aF d.fs.length q'.cF, .slice q'.aH d.nh q'.cH, .slice q'.aR d.fr.length q'.cR, .slice q'.aO d.od.length q'.cO] 26)).alloc (.cells #[.slice q.aF c.fs.length q.cF, .slice q.aH c.nh q.cH, .slice q.aR c.fr.length q.cR, .slice q.aO c.od.length q.cO] 26)) := by
  have B := ((box_below w (.cells #[.slice q'.aF d.fs.length q'.cF, .slice q'.aH d.nh q'.cH, .slice q'.aR d.fr.length q'.cR, .slice q'.aO d.od.length q'.cO] 26)).trans ((box_below _ (.cells #[.slice q.aF c.fs.length q.cF, .slice q.aH c.nh q.cH, .slice q.aR c.fr.length q.cR, .slice q.aO c.od.length q.cO] 26)).mono (by simp)))
  have h := CdAt.new c q (w.alloc (.cells #[.slice q'.aF d.fs.length q'.cF, .slice q'.aH d.nh q'.cH, .slice q'.aR d.fr.length q'.cR, .slice q'.aO d.od.length q'.cO] 26))
  rw [show (w.alloc (.cells #[.slice q'.aF d.fs.length q'.cF, .slice q'.aH d.nh q'.cH, .slice q'.aR d.fr.length q'.cR, .slice q'.aO d.od.length q'.cO] 26)).heap.size = w.heap.size + 1 by simp] at h
  exact ⟨(CdAt.new d q' w).on (box_below _ _), h, h0.below B, h1.below B, B⟩
theorem Cbx.facts {d : Cd} {q' : Cv} {c : Cd} {q : Cv} {w W : World} (h : Cbx d q' c q w W) : W.cell? ⟨w.heap.size, 0, none⟩ = some (.slice q'.aF d.fs.length q'.cF) ∧ W.cell? ⟨w.heap.size, 1, none⟩ = some (.slice q'.aH d.nh q'.cH) ∧ W.cell? ⟨w.heap.size, 2, none⟩ = some (.slice q'.aR d.fr.length q'.cR) ∧ W.cell? ⟨w.heap.size, 3, none⟩ = some (.slice q'.aO d.od.length q'.cO) ∧ W.cell? ⟨w.heap.size + 1, 0, none⟩ = some (.slice q.aF c.fs.length q.cF) ∧ W.cell? ⟨w.heap.size + 1, 1, none⟩ = some (.slice q.aH c.nh q.cH) ∧ W.cell? ⟨w.heap.size + 1, 2, none⟩ = some (.slice q.aR c.fr.length q.cR) ∧ W.cell? ⟨w.heap.size + 1, 3, none⟩ = some (.slice q.aO c.od.length q.cO) := by
  obtain ⟨a0, a1, a2, a3⟩ := h.b0.facts
  obtain ⟨b0, b1, b2, b3⟩ := h.b1.facts
  exact ⟨a0, a1, a2, a3, b0, b1, b2, b3⟩
set_option maxRecDepth 100000 in
set_option maxHeartbeats 4000000 in
theorem kcandA_nh (d : Cd) (q' : Cv) (c : Cd) (q : Cv) (w : World) (hn : d.nh ≠ c.nh) (h0 : CAt d q' w) (h1 : CAt c q w) : Calls Tryz.prog 23 #[cdV d q', cdV c q] w fun e w' => SameOk w false e w' := by
  have S0 := Lib.hid (Cbx.start h0 h1)
  have dn : (((d.nh : Nat) : Int) != ((c.nh : Nat) : Int)) = true := by simp; omega
  obtain ⟨x0, x1, x2, x3, y0, y1, y2, y3⟩ := S0.out.facts
  clear h0 h1 hn
  go_enter Tryz.func23, Tryz.ntmps23
  go_wp2
  go_ret
  exact ⟨rfl, S0.out.below⟩
set_option maxRecDepth 100000 in
set_option maxHeartbeats 16000000 in
theorem kcandA_any (d : Cd) (q' : Cv) (c : Cd) (q : Cv) (w : World) (hL : Lt d) (h0 : CAt d q' w) (h1 : CAt c q w) : Calls Tryz.prog 23 #[cdV d q', cdV c q] w fun e w' => SameOk w (candB d c) e w' := by
  by_cases hn : d.nh = c.nh
  · have HR := Lib.hid (fun h => candB_rows (d := d) (c := c) hn h)
    have HX := Lib.hid (fun k hk h => candB_at (d := d) (c := c) (k := k) hk h)
    obtain ⟨rb, hrb⟩ : ∃ b, candB d c = b := ⟨_, rfl⟩
    rw [hrb] at HR HX ⊢
    obtain ⟨rF, hrF⟩ : ∃ b, Hid (decide (d.fs = c.fs) = b) := ⟨_, Lib.hid rfl⟩
    obtain ⟨rR, hrR⟩ : ∃ b, Hid (decide (d.fr = c.fr) = b) := ⟨_, Lib.hid rfl⟩
    obtain ⟨rO, hrO⟩ : ∃ b, Hid (decide (d.od = c.od) = b) := ⟨_, Lib.hid rfl⟩
    rw [hrF.out, hrR.out, hrO.out] at HR
    have S0 := Lib.hid (Cbx.start h0 h1)
    have KE := Lib.hid (fun (h : Nat) (hh : h < d.nh) (r : Bool) (hr : rowQ (d.len h) (c.len h) (d.ev h) (c.ev h) (d.el h) (c.el h) = r) (v1 v2 : Value) (w0 : World) (x1 : RowV w0 v1 (d.len h) (d.ev h) (d.el h)) (x2 : RowV w0 v2 (c.len h) (c.ev h) (c.el h)) => (show Calls Tryz.prog 10 #[v1, v2] w0 fun e w' => SameOk w0 r e w' from by
      rw [← hr]
      exact keventsA_any v1 v2 (d.len h) (c.len h) (d.ev h) (c.ev h) (d.el h) (c.el h) w0 (hL.small h hh).1 (fun k hk => ((hL.small h hh).2 k hk).n) x1 x2))
    have KF := Lib.hid (fun (w0 : World) (x0 : CAt d q' w0) (x1 : CAt c q w0) => (show Calls Tryz.prog 19 #[.slice q'.aF d.fs.length q'.cF, .slice q.aF c.fs.length q.cF] w0 fun e w' => SameOk w0 rF e w' from by
      rw [← hrF.out]
      exact sameC_any _ _ d.fs c.fs w0 x0.first x1.first (by have := hL.fs; omega)))
    have KR := Lib.hid (fun (w0 : World) (x0 : CAt d q' w0) (x1 : CAt c q w0) => same_b _ _ d.fr c.fr rR hrR.out w0 x0.from_ x1.from_ (by have := hL.fr; omega))
    have KO := Lib.hid (fun (w0 : World) (x0 : CAt d q' w0) (x1 : CAt c q w0) => same_b _ _ d.od c.od rO hrO.out w0 x0.order x1.order (by have := hL.od; omega))
    have HRow : Hid (∀ (W : World), Cbx d q' c q w W → ∀ h, h < d.nh → ∃ b1 o1 a1 c1 b2 o2 a2 c2, q'.aH = some ⟨b1, o1, none⟩ ∧ W.cell? ⟨b1, o1 + h, none⟩ = some (.slice a1 (d.len h) c1) ∧ RowV W (.slice a1 (d.len h) c1) (d.len h) (d.ev h) (d.el h) ∧ q.aH = some ⟨b2, o2, none⟩ ∧ W.cell? ⟨b2, o2 + h, none⟩ = some (.slice a2 (c.len h) c2) ∧ RowV W (.slice a2 (c.len h) c2) (c.len h) (c.ev h) (c.el h)) := Lib.hid (fun W hW h hh => by
      obtain ⟨b1, o1, a1, c1, e1, f1, _, g1⟩ := hW.at0.harts.row h hh
      obtain ⟨b2, o2, a2, c2, e2, f2, _, g2⟩ := hW.at1.harts.row h (by omega)
      exact ⟨b1, o1, a1, c1, b2, o2, a2, c2, e1, f1, g1, e2, f2, g2⟩)
    have FX : Hid (∀ W, Cbx d q' c q w W → W.cell? ⟨w.heap.size, 0, none⟩ = some (.slice q'.aF d.fs.length q'.cF) ∧ W.cell? ⟨w.heap.size, 1, none⟩ = some (.slice q'.aH d.nh q'.cH) ∧ W.cell? ⟨w.heap.size, 2, none⟩ = some (.slice q'.aR d.fr.length q'.cR) ∧ W.cell? ⟨w.heap.size, 3, none⟩ = some (.slice q'.aO d.od.length q'.cO) ∧ W.cell? ⟨w.heap.size + 1, 0, none⟩ = some (.slice q.aF c.fs.length q.cF) ∧ W.cell? ⟨w.heap.size + 1, 1, none⟩ = some (.slice q.aH d.nh q.cH) ∧ W.cell? ⟨w.heap.size + 1, 2, none⟩ = some (.slice q.aR c.fr.length q.cR) ∧ W.cell? ⟨w.heap.size + 1, 3, none⟩ = some (.slice q.aO c.od.length q.cO)) := Lib.hid (fun W hW => by
      have := hW.facts
      rw [← hn] at this
      exact this)
    have hnh := hL.nh
    have dn : (((d.nh : Nat) : Int) != ((d.nh : Nat) : Int)) = false := by simp
    obtain ⟨x0, x1, x2, x3, y0, y1, y2, y3⟩ := FX.out _ S0.out
    rw [← hn] at x0 x1 x2 x3 y0 y1 y2 y3 S0
    clear h0 h1 hrb hrF hrR hrO hL
    unfold cdV
    rw [← hn]
    clear hn
    go_enter Tryz.func23, Tryz.ntmps23
    go_wp2
    go_loopw [5] (fun i wr => ∃ k : Nat, k ≤ d.nh ∧ i = .int .i64 k ∧ Hid (∀ j, j < k → rowQ (d.len j) (c.len j) (d.ev j) (c.ev j) (d.el j) (c.el j) = true) ∧ Hid (Cbx d q' c q w wr)) (fun i _ => d.nh - (intOf i).toNat)
    case atStart => exact ⟨0, Nat.zero_le _, rfl, Lib.hid (fun j h => by omega), S0⟩
    case round =>
      clear x0 x1 x2 x3 y0 y1 y2 y3 S0
      obtain ⟨k, hk, rfl, HA, S1⟩ := hrel
      obtain ⟨x0, x1, x2, x3, y0, y1, y2, y3⟩ := FX.out _ S1.out
      by_cases hlt : k < d.nh
      · have hki : (k : Int) < (d.nh : Int) := by omega
        have hk0 : (0 : Int) ≤ (k : Int) := by omega
        obtain ⟨b1, o1, a1, c1, b2, o2, a2, c2, e1, f1, g1, e2, f2, g2⟩ := HRow.out _ S1.out k hlt
        have G1 := Lib.hid g1
        have G2 := Lib.hid g2
        have l1 : b1 < wr.heap.size := World.block_lt_of_cell? wr _ f1
        have l2 : b2 < wr.heap.size := World.block_lt_of_cell? wr _ f2
        have SD := Lib.hid (S1.out.on (Below.refl wr.heap.size wr).drew)
        have FR : Hid (∀ W, Below wr.heap.size wr W → Cbx d q' c q w W → W.cell? ⟨w.heap.size, 1, none⟩ = some (.slice (some ⟨b1, o1, none⟩) d.nh q'.cH) ∧ W.cell? ⟨w.heap.size + 1, 1, none⟩ = some (.slice (some ⟨b2, o2, none⟩) d.nh q.cH) ∧ W.cell? ⟨b1, o1 + k, none⟩ = some (.slice a1 (d.len k) c1) ∧ W.cell? ⟨b2, o2 + k, none⟩ = some (.slice a2 (c.len k) c2)) := Lib.hid (fun W hb hW => by
          obtain ⟨_, p1, _, _, _, p2, _, _⟩ := FX.out _ hW
          rw [e1] at p1
          rw [e2] at p2
          exact ⟨p1, p2, (hb.cell (p := ⟨b1, o1 + k, none⟩) l1).trans f1, (hb.cell (p := ⟨b2, o2 + k, none⟩) l2).trans f2⟩)
        have BD := Lib.hid (Below.refl wr.heap.size wr).drew
        obtain ⟨r, hr⟩ : ∃ r, Hid (rowQ (d.len k) (c.len k) (d.ev k) (c.ev k) (d.el k) (c.el k) = r) := ⟨_, Lib.hid rfl⟩
        clear g1 g2 f1 f2 l1 l2 e1 e2
        cases r with
        | true =>
          have HA2 : Hid (∀ j, j < k + 1 → rowQ (d.len j) (c.len j) (d.ev j) (c.ev j) (d.el j) (c.el j) = true) := Lib.hid (fun j hj => by
            by_cases e : j = k
            · rw [e]; exact hr.out
            · exact HA.out j (by omega))
          go_upto_region 6 with fail
          go_region_held3 (fun w' => w'.cell? ⟨w.heap.size, 1, none⟩ = some (.slice (some ⟨b1, o1, none⟩) d.nh q'.cH) ∧ w'.cell? ⟨w.heap.size + 1, 1, none⟩ = some (.slice (some ⟨b2, o2, none⟩) d.nh q.cH) ∧ w'.cell? ⟨b1, o1 + k, none⟩ = some (.slice a1 (d.len k) c1) ∧ w'.cell? ⟨b2, o2 + k, none⟩ = some (.slice a2 (c.len k) c2)) (first | exact FR.out _ BD.out SD.out | exact FR.out _ B2.out S2.out)
            ((go_at_call 10; (with_reducible refine (KE.out k hlt _ hr.out _ _ _ (G1.out.below BD.out) (G2.out.below BD.out)).mono ?_); rintro e' w2 ⟨rfl, hb⟩; have S2 := Lib.hid (SD.out.on hb); have B2 := Lib.hid (BD.out.trans hb); clear hb))
          go_wp2
          go_roundw
          case rel => exact ⟨k + 1, by omega, by go_num, HA2, S2⟩
          case measure => simp [intOf]; omega
        | false =>
          have HN := Lib.hid (HX.out k hlt hr.out)
          go_upto_region 6 with fail
          go_region_held3 (fun w' => w'.cell? ⟨w.heap.size, 1, none⟩ = some (.slice (some ⟨b1, o1, none⟩) d.nh q'.cH) ∧ w'.cell? ⟨w.heap.size + 1, 1, none⟩ = some (.slice (some ⟨b2, o2, none⟩) d.nh q.cH) ∧ w'.cell? ⟨b1, o1 + k, none⟩ = some (.slice a1 (d.len k) c1) ∧ w'.cell? ⟨b2, o2 + k, none⟩ = some (.slice a2 (c.len k) c2)) (first | exact FR.out _ BD.out SD.out | exact FR.out _ B2.out S2.out)
            ((go_at_call 10; (with_reducible refine (KE.out k hlt _ hr.out _ _ _ (G1.out.below BD.out) (G2.out.below BD.out)).mono ?_); rintro e' w2 ⟨rfl, hb⟩; have S2 := Lib.hid (SD.out.on hb); have B2 := Lib.hid (BD.out.trans hb); clear hb))
          go_wp2
          go_ret
          exact ⟨by rw [HN.out]; rfl, S2.out.below⟩
      · obtain rfl : k = d.nh := by omega
        have HN := Lib.hid (HR.out HA.out)
        cases rF with
        | false =>
          go_wp2_with (first
            | (go_at_call 19; (with_reducible refine (KF.out _ S1.out.at0 S1.out.at1).mono ?_); rintro e' w3 ⟨rfl, hb⟩; have S3 := Lib.hid (S1.out.on hb); clear hb x0 x1 x2 x3 y0 y1 y2 y3; obtain ⟨x0, x1, x2, x3, y0, y1, y2, y3⟩ := FX.out _ S3.out))
          go_ret
          exact ⟨by rw [HN.out]; first | rfl | simp, S3.out.below⟩
        | true =>
          cases rR with
          | false =>
            go_wp2_with (first
              | (go_at_call 19; (with_reducible refine (KF.out _ S1.out.at0 S1.out.at1).mono ?_); rintro e' w3 ⟨rfl, hb⟩; have S3 := Lib.hid (S1.out.on hb); clear hb x0 x1 x2 x3 y0 y1 y2 y3; obtain ⟨x0, x1, x2, x3, y0, y1, y2, y3⟩ := FX.out _ S3.out)
              | (go_at_call 14; (with_reducible refine (KR.out _ S3.out.at0 S3.out.at1).mono ?_); rintro e' w4 ⟨rfl, hb⟩; have S4 := Lib.hid (S3.out.on hb); clear hb x0 x1 x2 x3 y0 y1 y2 y3; obtain ⟨x0, x1, x2, x3, y0, y1, y2, y3⟩ := FX.out _ S4.out))
            go_ret
            exact ⟨by rw [HN.out]; first | rfl | simp, S4.out.below⟩
          | true =>
            go_wp2_with (first
              | (go_at_call 19; (with_reducible refine (KF.out _ S1.out.at0 S1.out.at1).mono ?_); rintro e' w3 ⟨rfl, hb⟩; have S3 := Lib.hid (S1.out.on hb); clear hb x0 x1 x2 x3 y0 y1 y2 y3; obtain ⟨x0, x1, x2, x3, y0, y1, y2, y3⟩ := FX.out _ S3.out)
              | (go_at_call 14; (with_reducible refine (KR.out _ S3.out.at0 S3.out.at1).mono ?_); rintro e' w4 ⟨rfl, hb⟩; have S4 := Lib.hid (S3.out.on hb); clear hb x0 x1 x2 x3 y0 y1 y2 y3; obtain ⟨x0, x1, x2, x3, y0, y1, y2, y3⟩ := FX.out _ S4.out)
              | (go_at_call 14; (with_reducible refine (KO.out _ S4.out.at0 S4.out.at1).mono ?_); rintro e' w5 ⟨rfl, hb⟩; have S5 := Lib.hid (S4.out.on hb); clear hb))
            go_ret
            exact ⟨by rw [HN.out]; first | rfl | simp, S5.out.below⟩
  · rw [candB_nh hn]
    exact kcandA_nh d q' c q w hn h0 h1
end Go.Proofs.YtokhnjcbcpmmjaaGreat
