/-
  Proved here: the law PpoFences answers true of every candidate; nothing that was there is changed. Condition: numbers of 64 bits; the table of zero bits as the library lays it.
  (With it: Words: where a fence of all to all stands behind each event, each two of memory's of one hart are preserved, all is full. No condition.)
  (With it: Proved here: the kit's LightCand with at most 30 events; nothing that was there is changed. Condition: none but that a candidate lies there.)
-/
import Derived.Test.YtgkiaeddlahngaaGreatDoorCdNumber
import Derived.Test.YtgkiaeddlahngaaGreatDoorPpSpread
import Derived.Test.YtgkiaeddlahngaaGreatDoorPpWhole
import Derived.Test.YtgkiaeddlahngaaGreatDoorCdFew
import Derived.Test.YtgkiaeddlahngaaGreatDoorRf09All
import Derived.Test.YtgkiaeddlahngaaGreatDoorPpLives
import Derived.Test.YtgkiaeddlahngaaGreatDoorPpOwn
namespace Go.Proofs.YtgkiaeddlahngaaGreatDoor
set_option linter.unusedVariables false
set_option linter.unusedSimpArgs false
open Go.RowKit
attribute [local go_sem ↓] fold_E fold_SE

/-- little in it: at most 30 events, 60 froms -/
structure L30 (c : Cd) : Prop where
  lw : Lw c
  n : c.N ≤ 30
  fr : c.fr.length ≤ 60
def LightS (c : Cd) (w : World) (e : Ending) (w' : World) : Prop := ∃ r, e = .returned (.bool r) ∧ (r = true → L30 c) ∧ Below w.heap.size w w'
theorem LightS.no {c : Cd} {w w' : World} (hb : Below w.heap.size w w') : LightS c w (.returned (.bool false)) w' := ⟨false, rfl, (fun h => by cases h), hb⟩
theorem light_none30 (a : Option Addr) (c : Nat) (el : Nat → El) (w : World) : Calls Tryz.prog 27 #[.slice a 0 c, .int .i64 30] w fun e w' => LightIs w 0 el e w' := by
  go_enter Tryz.func27, Tryz.ntmps27
  go_wp2
  refine wp_loop_rounds 1 ?_
  rw [rounds_succ]
  go_wp2
  go_ret
  exact ⟨true, rfl, fun _ => ⟨by omega, fun k hk => absurd hk (by omega)⟩, Below.refl _ _⟩
theorem light_long30 (a : Option Addr) (n c : Nat) (el : Nat → El) (w : World) (hn : 30 < n) : Calls Tryz.prog 27 #[.slice a n c, .int .i64 30] w fun e w' => LightIs w n el e w' := by
  have d1 : decide (30 < n) = true := by simpa using hn
  go_enter Tryz.func27, Tryz.ntmps27
  go_wp2
  go_ret
  exact ⟨false, rfl, (fun h => by cases h), Below.refl _ _⟩
set_option maxRecDepth 100000 in
set_option maxHeartbeats 4000000 in
theorem light_row30 (n b off c : Nat) (ev : Nat → Ev) (el : Nat → El) (w : World) (hn : n ≤ 30) (h : Rw n b off ev el w) :
    Calls Tryz.prog 27 #[.slice (some ⟨b, off, none⟩) n c, .int .i64 30] w fun e w' => LightIs w n el e w' := by
  have HV := Lib.hid h
  have d1 : decide (30 < n) = false := by simp; omega
  clear h
  go_enter Tryz.func27, Tryz.ntmps27
  go_wp2
  go_loopw [5] (fun vi wr => ∃ (k : Nat), k ≤ n ∧ vi = .int .i64 k ∧ Hid (∀ j, j < k → small (el j)) ∧ Below w.heap.size w wr) (fun vi _ => n - (intOf vi).toNat)
  case atStart => exact ⟨0, Nat.zero_le _, rfl, Lib.hid (fun j hj => absurd hj (by omega)), Below.refl _ _⟩
  case round =>
    obtain ⟨k, hk, rfl, hR, hbel⟩ := hrel
    have HL := Lib.hid hbel
    clear hbel
    by_cases hlt : k < n
    · have HE := Lib.hid (HV.out.below HL.out)
      obtain ⟨u0, u1, u2⟩ := (HE.out.at_ k hlt).deps
      obtain ⟨a1, c1, e1⟩ := (HE.out.reads k hlt).1.len
      obtain ⟨a2, c2, e2⟩ := (HE.out.reads k hlt).2.1.len
      obtain ⟨a3, c3, e3⟩ := (HE.out.reads k hlt).2.2.len
      rw [e1] at u0
      rw [e2] at u1
      rw [e3] at u2
      clear e1 e2 e3
      by_cases hs : small (el k)
      · have KL := Lib.hid (fun w0 => light_b a1 a2 a3 (el k).a.length (el k).d.length (el k).y.length c1 c2 c3 true (Lib.hid (by simp [hs.1, hs.2.1, hs.2.2])) w0)
        have HS2 : Hid (∀ j, j < k + 1 → small (el j)) := Lib.hid (fun j hj => by
          by_cases h : j < k
          · exact hR.out j h
          · obtain rfl : j = k := by omega
            exact hs)
        clear hs
        go_wp2_with (go_at_call 50; (with_reducible refine (KL.out _).mono ?_); rintro e' w1 ⟨rfl, hb⟩; have L1 := Lib.hid (HL.out.trans (hb.mono HL.out.size)); clear hb)
        go_roundw
        case rel => exact ⟨k + 1, by omega, by go_num, HS2, L1.out⟩
        case measure => simp [intOf]; omega
      · have KL := Lib.hid (fun w0 => light_b a1 a2 a3 (el k).a.length (el k).d.length (el k).y.length c1 c2 c3 false (Lib.hid (by
          have hs' : ¬ ((el k).a.length ≤ 60 ∧ (el k).d.length ≤ 60 ∧ (el k).y.length ≤ 60) := hs
          cases h : (decide ((el k).a.length ≤ 60) && (decide ((el k).d.length ≤ 60) && decide ((el k).y.length ≤ 60))) with
          | false => rfl
          | true => exact absurd (by simpa using h) hs')) w0)
        clear hs
        go_wp2_with (go_at_call 50; (with_reducible refine (KL.out _).mono ?_); rintro e' w1 ⟨rfl, hb⟩; have L1 := Lib.hid (HL.out.trans (hb.mono HL.out.size)); clear hb)
        go_ret
        exact ⟨false, rfl, (fun h => by cases h), L1.out⟩
    · obtain rfl : k = n := by omega
      go_wp2
      go_ret
      exact ⟨true, rfl, fun _ => ⟨by omega, hR.out⟩, HL.out⟩
theorem light_v30 {w : World} {a : Option Addr} {n c : Nat} {ev : Nat → Ev} {el : Nat → El} (h : RowV w (.slice a n c) n ev el) : Calls Tryz.prog 27 #[.slice a n c, .int .i64 30] w fun e w' => LightIs w n el e w' := by
  obtain ⟨a', c', e, _, h⟩ := h
  injection e with e1 e2 e3
  subst e1 e3
  rcases h with rfl | ⟨b, off, rfl, h⟩
  · exact light_none30 a c el w
  · by_cases hn : n ≤ 30
    · exact light_row30 n b off c ev el w hn h
    · exact light_long30 _ n c el w (by omega)
set_option maxRecDepth 100000 in
set_option maxHeartbeats 8000000 in
theorem lightCand_s30 (c : Cd) (q : Cv) (w : World) (h : CAt c q w) : Calls Tryz.prog 7 #[cdV c q, .int .i64 30] w fun e w' => LightS c w e w' := by
  have H := Lib.hid h
  have HB0 := Lib.hid (box_below w (.cells #[.slice q.aF c.fs.length q.cF, .slice q.aH c.nh q.cH, .slice q.aR c.fr.length q.cR, .slice q.aO c.od.length q.cO] 26))
  clear h
  go_enter Tryz.func7, Tryz.ntmps7
  go_wp2
  go_loopw [5, 6] (fun vn vi wr => ∃ (k : Nat), k ≤ c.nh ∧ k ≤ 10 ∧ vi = .int .i64 k ∧ vn = .int .i64 (baseL c.len k : Nat) ∧ Hid (smallTo c k) ∧ Hid (CdAt c q w.heap.size wr) ∧ Below w.heap.size w wr) (fun _ vi _ => 10 - (intOf vi).toNat)
  case atStart => exact ⟨0, Nat.zero_le _, Nat.zero_le _, rfl, rfl, Lib.hid (fun h hh => absurd hh (by omega)), Lib.hid (CdAt.new c q w), HB0.out⟩
  case round =>
    obtain ⟨k, hk, hk10, rfl, rfl, hS, hbx, hbel⟩ := hrel
    have HB := Lib.hid hbel
    have hbase := smallTo.base k hS.out
    clear hbel
    obtain ⟨u0, u1, u2, u3⟩ := hbx.out.facts
    by_cases hlt : k < c.nh ∧ k < 10
    · obtain ⟨h1, h2⟩ := hlt
      obtain ⟨b, off, a2, c2, hq, hc, _, hrow⟩ := (H.out.harts.below HB.out).row k h1
      have KL := Lib.hid (light_v30 (w := wr) hrow)
      have hbk : baseL c.len (k + 1) = baseL c.len k + c.len k := rfl
      have hlk := Lib.hid hrow
      clear hrow
      obtain ⟨L, hL⟩ : ∃ L, baseL c.len k = L := ⟨_, rfl⟩
      rw [hL] at hbase hbk ⊢
      have h1' : (k : Int) < (c.nh : Int) := by omega
      have h2' : (k : Int) < 10 := by omega
      go_wp2_with (go_at_call 27; (with_reducible refine (KL.out).mono ?_); rintro e' w2 ⟨r, rfl, hr, hb⟩; have X2 := Lib.hid (hbx.out.on hb); have L2 := Lib.hid (HB.out.trans (hb.mono HB.out.size)); have R2 := Lib.hid hr; clear hb hr)
      · go_ret
        exact LightS.no L2.out
      · rename_i hr
        have hr2 := Lib.hid (R2.out (by simpa using hr))
        have hS2 : Hid (smallTo c (k + 1)) := Lib.hid (fun h hh => by
          rcases Nat.lt_or_ge h k with h3 | h3
          · exact hS.out h h3
          · obtain rfl : h = k := by omega
            exact hr2.out)
        have hwr : wrap64 ((L : Int) + (c.len k : Int)) = ((baseL c.len (k + 1) : Nat) : Int) := by
          rw [IntWalk.wrap64_in _ (by have := hr2.out.1; omega), hbk]; omega
        rw [hwr]
        clear hr hwr
        go_roundw
        case rel => exact ⟨k + 1, by omega, by omega, by go_num, rfl, hS2, X2, L2.out⟩
        case measure => simp [intOf]; omega
    · by_cases h9 : c.nh ≤ 9
      rotate_left
      · have d9 : decide ((c.nh : Int) ≤ 9) = false := by simp; omega
        by_cases hl : k < c.nh
        · have hk : k = 10 := by omega
          subst hk
          have h1' : (10 : Int) < (c.nh : Int) := by omega
          go_wp2
          go_ret
          exact LightS.no HB.out
        · obtain rfl : k = c.nh := by omega
          have h1' : decide ((c.nh : Int) < (c.nh : Int)) = false := by simp
          go_wp2
          go_ret
          exact LightS.no HB.out
      obtain hkn : k = c.nh := by omega
      rw [hkn] at hbase hS ⊢
      have d9 : decide ((c.nh : Int) ≤ 9) = true := by simp; omega
      have h1' : decide ((c.nh : Int) < (c.nh : Int)) = false := by simp
      have hLw := Lib.hid (fun (h2 : c.N ≤ 30) (h3 : c.fs.length ≤ 60) (h4 : c.fr.length ≤ 60) (h5 : c.od.length ≤ 120) => (show L30 c from ⟨⟨h9, by omega, hS.out, h3, by omega, h5⟩, h2, h4⟩))
      obtain ⟨N, hN⟩ : ∃ N, baseL c.len c.nh = N := ⟨_, rfl⟩
      have hN2 : Hid (c.N = N) := Lib.hid hN
      rw [hN] at hbase ⊢
      rw [hN2.out] at hLw
      clear hkn hk hk10 hlt h9 hN
      by_cases e2 : N ≤ 30
      · by_cases e3 : c.fs.length ≤ 30
        · by_cases e4 : c.fr.length ≤ 60
          · by_cases e5 : c.od.length ≤ 60
            · have g2 : decide ((N : Int) ≤ 30) = true := by simp; omega
              have g3 : decide ((c.fs.length : Int) ≤ 30) = true := by simp; omega
              have g4 : decide ((c.fr.length : Int) ≤ 60) = true := by simp; omega
              have g5 : decide ((c.od.length : Int) ≤ 60) = true := by simp; omega
              have hOK := Lib.hid (hLw.out (by omega) (by omega) (by omega) (by omega))
              clear e2 e3 e4 e5
              go_wp2
              go_ret
              exact ⟨_, rfl, fun _ => hOK.out, HB.out⟩
            · have g2 : decide ((N : Int) ≤ 30) = true := by simp; omega
              have g3 : decide ((c.fs.length : Int) ≤ 30) = true := by simp; omega
              have g4 : decide ((c.fr.length : Int) ≤ 60) = true := by simp; omega
              have g5 : decide ((c.od.length : Int) ≤ 60) = false := by simp; omega
              clear e2 e3 e4 e5
              go_wp2
              go_ret
              exact LightS.no HB.out
          · have g2 : decide ((N : Int) ≤ 30) = true := by simp; omega
            have g3 : decide ((c.fs.length : Int) ≤ 30) = true := by simp; omega
            have g4 : decide ((c.fr.length : Int) ≤ 60) = false := by simp; omega
            clear e2 e3 e4
            go_wp2
            go_ret
            exact LightS.no HB.out
        · have g2 : decide ((N : Int) ≤ 30) = true := by simp; omega
          have g3 : decide ((c.fs.length : Int) ≤ 30) = false := by simp; omega
          clear e2 e3
          go_wp2
          go_ret
          exact LightS.no HB.out
      · have g2 : decide ((N : Int) ≤ 30) = false := by simp; omega
        clear e2
        go_wp2
        go_ret
        exact LightS.no HB.out
end Go.Proofs.YtgkiaeddlahngaaGreatDoor
namespace Go.Proofs.YtgkiaeddlahngaaGreatDoor
set_option linter.unusedVariables false
set_option linter.unusedSimpArgs false
open Go.RowKit Go.Maps

theorem memE_side (e : Ev) : memE e = true ↔ sideE e ≠ 0 := by
  rw [mem_kind]
  unfold sideE
  cases readsE e <;> cases writesE e <;> simp
theorem meet_three {s : Nat} (h : s ≠ 0) (h4 : s < 4) : meetS 3 s = true := by
  have : s = 1 ∨ s = 2 ∨ s = 3 := by omega
  rcases this with rfl | rfl | rfl <;> decide
theorem fnL_ge (c : Cd) (s p k : Nat) (h0 : sideE (c.at k).1 = 0) (h1 : meetS (c.at k).1.succ s = true) (h2 : meetS (c.at k).1.pred p = true) : ∀ n, k < n → k ≤ fnL c s p n ∧ fnL c s p n < n
  | 0, h => by omega
  | n + 1, h => by
    unfold fnL
    split
    · omega
    · rename_i hn
      have hk : k ≠ n := fun e => hn (e ▸ ⟨h0, h1, h2⟩)
      have := fnL_ge c s p k h0 h1 h2 n (by omega)
      omega
theorem sp_rule {c d : Cd} (h : Sp c d) {a b : Int} (ha : aheadP d a b = true) : ruleL d a b ≠ 0 := by
  obtain ⟨i0, i1, i2⟩ := aheadP_in ha
  obtain ⟨x, rfl⟩ : ∃ x : Nat, a = x := ⟨a.toNat, by omega⟩
  obtain ⟨y, rfl⟩ : ∃ y : Nat, b = y := ⟨b.toNat, by omega⟩
  obtain ⟨hh, mx, my⟩ := aheadP_hart ha
  have hN := h.N
  have even : ∀ z, z < d.N → memE (d.at z).1 = true → ∃ n, z = 2 * n ∧ n < c.N := fun z hz hm => by
    rcases Nat.mod_two_eq_zero_or_one z with h0 | h1
    · exact ⟨z / 2, by omega, by omega⟩
    · have e : z = 2 * (z / 2) + 1 := by omega
      have := h.side (z / 2) (by omega)
      rw [← e] at this
      exact absurd this ((memE_side _).1 hm)
  obtain ⟨m, em, hm⟩ := even x (by omega) mx
  obtain ⟨n, en, hn⟩ := even y (by omega) my
  have sx := (memE_side _).1 mx
  have sy := (memE_side _).1 my
  have key := fnL_ge d (sideE (d.at y).1) (sideE (d.at x).1) (2 * m + 1) (h.side m hm) (by rw [h.succ m hm]; exact meet_three sy (sideE_lt _)) (by rw [h.pred m hm]; exact meet_three sx (sideE_lt _)) y (by omega)
  have hr : ruleB d x y 3 = true := by
    show betweenB (x : Int) ((fnL d (sideE (d.at y).1) (sideE (d.at x).1) y : Nat) : Int) (y : Int) = true
    unfold betweenB
    simp only [Bool.and_eq_true, decide_eq_true_eq]
    omega
  unfold ruleL
  rw [ha, if_pos rfl, Int.toNat_natCast, Int.toNat_natCast]
  intro h0
  have := (firstFrom_zero _ _ _).1 h0 3 (by omega) (by omega)
  rw [hr] at this; cases this
/-- what was ahead of what in c is so in d, by the new numbers -/
theorem sp_ahead {c d : Cd} (h : Sp c d) {a b : Nat} (ha : aheadP c a b = true) : aheadP d (2 * a : Nat) (2 * b : Nat) = true := by
  obtain ⟨i0, i1, i2⟩ := aheadP_in ha
  obtain ⟨hh, mx, my⟩ := aheadP_hart ha
  have hN := h.N
  unfold aheadP
  simp only [Bool.and_eq_true, decide_eq_true_eq, Int.toNat_natCast]
  exact ⟨by omega, by omega, by omega, by rw [h.hart a (by omega), h.hart b (by omega)]; exact hh, by rw [h.mem a (by omega)]; exact mx, by rw [h.mem b (by omega)]; exact my⟩
theorem sp_keeps {c d : Cd} (h : Sp c d) {a b : Nat} (hr : ruleL c a b ≠ 0) : ruleL d (2 * a : Nat) (2 * b : Nat) ≠ 0 := sp_rule h (sp_ahead h (rule_ahead hr))
theorem sp_whole {c d : Cd} (h : Sp c d) (hm : d.may = true) {a b : Nat} (ha : aheadP d a b = true) : wholeW d a b = true := whole_pair hm (sp_rule h ha)
theorem fullG_yes {d : Cd} (h : ∀ a b : Int, aheadP d a b = true → ruleL d a b ≠ 0) : ∀ (k : Nat) (last : Int) (n : Nat), fullG d k last n = true
  | 0, _, _ => rfl
  | k + 1, last, n => by
    unfold fullG
    rw [if_neg (by
      intro hc
      simp only [Bool.and_eq_true, decide_eq_true_eq] at hc
      exact h _ _ hc.1 hc.2)]
    exact fullG_yes h k _ _
theorem sp_full {c d : Cd} (h : Sp c d) (hm : d.may = true) : fullW d = true := by
  unfold fullW
  rw [hm, fullG_yes (fun a b ha => sp_rule h ha)]; rfl
end Go.Proofs.YtgkiaeddlahngaaGreatDoor
namespace Go.Proofs.YtgkiaeddlahngaaGreatDoor
set_option linter.unusedVariables false
set_option linter.unusedSimpArgs false
open Go.RowKit Go.Maps
attribute [local go_sem ↓] fold_E fold_SE
attribute [local irreducible] wpStill

/-- the spread candidate in its box -/
structure Fsp (d : Cd) (q' : Cv) (gD : Nat) (w W : World) : Prop where
  box : CdAt d q' gD W
  at_ : CAt d q' W
  below : Below w.heap.size w W
theorem Fsp.on {d : Cd} {q' : Cv} {gD : Nat} {w W W2 : World} (h : Fsp d q' gD w W) (hb : Below W.heap.size W W2) : Fsp d q' gD w W2 := ⟨h.box.on hb, h.at_.below hb, h.below.trans (hb.mono h.below.size)⟩
theorem lt_as {c d : Cd} (h : Lt c) (ha : AsEv c d) (hr : d.fr = c.fr) (ho : d.od = c.od) : Lt d where
  ew := fun j hj k hk => by
    obtain ⟨a, x, y, e⟩ := ha.ev j k
    have := h.ew j (by rw [← ha.nh]; exact hj) k (by rw [← ha.len]; exact hk)
    rw [e]
    exact this
  nh := by rw [ha.nh]; exact h.nh
  n := by rw [ha.N]; exact h.n
  small := by rw [ha.nh, ha.len, ha.el]; exact h.small
  fs := by rw [ha.fs]; exact h.fs
  fr := by rw [hr]; exact h.fr
  od := by rw [ho]; exact h.od
  fw := by rw [ha.fs]; exact h.fw
theorem pf_as {c d : Cd} (h : ∀ h, h < c.nh → ∀ k, k < c.len h → WordX (c.ev h k)) (ha : AsEv c d) : ∀ h, h < d.nh → ∀ k, k < d.len h → PairFits (d.ev h k) := fun j hj k hk => by
  obtain ⟨a, x, y, e⟩ := ha.ev j k
  have := (h j (by rw [← ha.nh]; exact hj) k (by rw [← ha.len]; exact hk)).2
  rw [e]
  exact this
theorem rowP2_cell : ∀ (L : List (Nat × Nat)) (i a b : Nat), L[i]? = some (a, b) → (rowP2 L)[i * 2]? = some (.int .i64 (a : Int)) ∧ (rowP2 L)[i * 2 + 1]? = some (.int .i64 (b : Int))
  | [], i, a, b, h => by simp at h
  | p :: l, 0, a, b, h => by
    simp at h; subst h
    exact ⟨rfl, rfl⟩
  | p :: l, i + 1, a, b, h => by
    have := rowP2_cell l i a b (by simpa using h)
    rw [show (i + 1) * 2 = i * 2 + 2 by omega]
    exact this
theorem rowP2_size (L : List (Nat × Nat)) : (rowP2 L).length = L.length * 2 := by
  induction L with
  | nil => rfl
  | cons p l ih => simp [rowP2] at ih ⊢; omega
theorem hart_like9 {c : Cd} {es : List Ev} {g off : Nat} {w : World} (h : RAll c (evAtN es) g off w) (k : Nat) (hk : k < c.N) : (evAtN es k).hart = (c.at k).1.hart := by
  obtain ⟨a, d, y, e⟩ := h.like k hk
  rw [e]; try rfl
theorem ahead_mk9 {c : Cd} {a b : Nat} (h1 : a < b) (h2 : b < c.N) (h3 : (c.at a).1.hart = (c.at b).1.hart) (h4 : memE (c.at a).1 = true) (h5 : memE (c.at b).1 = true) : aheadP c a b = true := by
  unfold aheadP
  simp only [Int.toNat_natCast]
  rw [decide_eq_true h3, h4, h5, decide_eq_true (show (0 : Int) ≤ a by omega), decide_eq_true (show (a : Int) < b by omega), decide_eq_true (show (b : Int) < c.N by omega)]
  rfl
theorem pair_cells {W : World} {bL g cap : Nat} {L : List (Nat × Nat)} (h : W.ownsRow bL 36 2 (.slice (some ⟨g, 0, none⟩) L.length cap) L.length (rowP2 L)) {i a b : Nat} (hi : L[i]? = some (a, b)) : W.cell? ⟨g, i * 2, none⟩ = some (.int .i64 (a : Int)) ∧ W.cell? ⟨g, i * 2 + 1, none⟩ = some (.int .i64 (b : Int)) := by
  have hlt : i < L.length := (List.getElem?_eq_some_iff.1 hi).1
  obtain ⟨h1, h2⟩ := rowP2_cell L i a b hi
  exact ⟨(h.cellAt (i * 2) (by omega)).trans h1, (h.cellAt (i * 2 + 1) (by omega)).trans h2⟩
set_option maxRecDepth 100000 in
set_option maxHeartbeats 32000000 in
theorem ppoFences_any (c : Cd) (q : Cv) (w : World) (h : CAt c q w) (hx : ∀ h, h < c.nh → ∀ k, k < c.len h → WordX (c.ev h k)) (hf : ∀ j, j < c.fs.length → (0 ≤ fA c.fs j ∧ fA c.fs j < 18446744073709551616) ∧ (0 ≤ fV c.fs j ∧ fV c.fs j < 18446744073709551616)) (hT : TabT w) :
    Calls Tryz.prog 5 #[cdV c q] w fun e w' => SameOk w true e w' := by
  have S0 := Lib.hid (Lk.start h)
  have HX := Lib.hid hx
  have HP := Lib.hid (fun h hh k hk => (hx h hh k hk).2)
  have HE := Lib.hid (fun h hh k hk => (hx h hh k hk).1)
  have HFW := Lib.hid hf
  have HT := Lib.hid hT
  clear h hx hf hT
  go_enter Tryz.func5, Tryz.ntmps5
  go_upto_region 3 with (go_at_call 6; (with_reducible refine (plives_any _).mono ?_); rintro e' w1 ⟨rfl, hb⟩; have S1 := Lib.hid (S0.out.on hb); clear hb)
  obtain ⟨x0, x1, x2, x3⟩ := S1.out.box.facts
  obtain ⟨m, hm⟩ : ∃ m, Hid (c.may = m) := ⟨_, Lib.hid rfl⟩
  cases m with
  | false =>
    go_wp2_with (first | (go_at_call 7; (with_reducible refine (lightCand_s30 c q w1 S1.out.at_).mono ?_); rintro e' w2 ⟨r, rfl, hr, hb⟩; have S2 := Lib.hid (S1.out.on hb); have R2 := Lib.hid (fun (e : r = true) => (hr e).lw.lt HE.out HFW.out); clear hb hr x0 x1 x2 x3; obtain ⟨x0, x1, x2, x3⟩ := S2.out.box.facts; cases r) | (go_at_call 8; (with_reducible refine (rcheck9_is c q w2 (R2.out (by first | rfl | trivial)) HP.out S2.out.at_ false hm.out).mono ?_); rintro e' w3 ⟨rfl, hb⟩; have S3 := Lib.hid (S2.out.on hb); clear hb x0 x1 x2 x3))
    · go_ret
      exact ⟨rfl, S2.out.below⟩
    · go_ret
      exact ⟨rfl, S3.out.below⟩
  | true =>
    go_upto_region 5 with (first | (go_at_call 7; (with_reducible refine (lightCand_s30 c q w1 S1.out.at_).mono ?_); rintro e' w2 ⟨r, rfl, hr, hb⟩; have S2 := Lib.hid (S1.out.on hb); have R2 := Lib.hid (fun (e : r = true) => (hr e).lw.lt HE.out HFW.out); have RS := Lib.hid hr; clear hb hr x0 x1 x2 x3; obtain ⟨x0, x1, x2, x3⟩ := S2.out.box.facts; cases r) | (go_at_call 8; (with_reducible refine (rcheck9_is c q w2 (R2.out (by first | rfl | trivial)) HP.out S2.out.at_ true hm.out).mono ?_); rintro e' w3 ⟨rfl, hb⟩; have S3 := Lib.hid (S2.out.on hb); have LT := Lib.hid (R2.out (by first | rfl | trivial)); have LS := Lib.hid (RS.out (by first | rfl | trivial)); clear hb x0 x1 x2 x3; obtain ⟨x0, x1, x2, x3⟩ := S3.out.box.facts))
    · go_ret
      exact ⟨rfl, S2.out.below⟩
    go_upto_region 6 with (go_at_call 24; (with_reducible refine (spread_any c q w3 LT.out LS.out.n LS.out.fr S3.out.at_).mono ?_); rintro e' w4 ⟨d, q', rfl, hc, hsp, has, hr, ho, hb⟩; have S4 := Lib.hid (S3.out.on hb); have SP := Lib.hid hsp; have C4 := Lib.hid hc; have LD := Lib.hid (lt_as (spread_lt LT.out LS.out.n LS.out.fr HX.out) has hr ho); have PD := Lib.hid (pf_as (spread_word HX.out) has); clear hb hc hsp has hr ho x0 x1 x2 x3)
    have BB := Lib.hid (box_below w4 (.cells #[.slice q'.aF d.fs.length q'.cF, .slice q'.aH d.nh q'.cH, .slice q'.aR d.fr.length q'.cR, .slice q'.aO d.od.length q'.cO] 26))
    have S5 := Lib.hid (S4.out.on BB.out)
    have F5 : Hid (Fsp d q' w4.heap.size w (w4.alloc (.cells #[.slice q'.aF d.fs.length q'.cF, .slice q'.aH d.nh q'.cH, .slice q'.aR d.fr.length q'.cR, .slice q'.aO d.od.length q'.cO] 26))) := Lib.hid ⟨CdAt.new d q' w4, C4.out.below BB.out, S5.out.below⟩
    go_name_world W5 hW5
    rw [hW5] at S5 F5
    obtain ⟨gD, hgD⟩ : ∃ g, w4.heap.size = g := ⟨_, rfl⟩
    rw [hgD] at F5 ⊢
    clear hW5 hgD S1 S2 S3 S4 C4 BB RS R2
    obtain ⟨x0, x1, x2, x3⟩ := F5.out.box.facts
    obtain ⟨md, hmd⟩ : ∃ m, Hid (d.may = m) := ⟨_, Lib.hid rfl⟩
    have KC := Lib.hid (rcheck9_is d q' W5 LD.out PD.out F5.out.at_ md hmd.out)
    cases md with
    | false =>
      go_wp2_with (go_at_call 8; (with_reducible refine (KC.out).mono ?_); rintro e' w6 ⟨rfl, hb⟩; have F6 := Lib.hid (F5.out.on hb); clear hb x0 x1 x2 x3)
      go_ret
      exact ⟨rfl, F6.out.below⟩
    | true =>
      go_upto_region 8 with (go_at_call 8; (with_reducible refine (KC.out).mono ?_); rintro e' w6 ⟨rfl, hb⟩; have F6 := Lib.hid (F5.out.on hb); have S6 := Lib.hid (S5.out.on hb); clear hb x0 x1 x2 x3; obtain ⟨x0, x1, x2, x3⟩ := S6.out.box.facts)
      obtain ⟨L, hLL⟩ : ∃ L, pairsW c = L := ⟨_, rfl⟩
      have HLen : Hid (L.length ≤ 3600) := Lib.hid (by rw [← hLL]; unfold pairsW; rw [hm.out, if_pos rfl]; have := pairsOut_len c LT.out.n c.N 0; have := LT.out.n; omega)
      have HLM : Hid (∀ a b, (a, b) ∈ L ↔ ruleL c a b ≠ 0) := Lib.hid (fun a b => by rw [← hLL]; exact mem_pairsW hm.out a b)
      have KP : Hid (Calls Tryz.prog 11 #[cdV c q] w6 fun e w' => ∃ a cp base, e = .returned (.slice a L.length cp) ∧ w'.ownsRow base 36 2 (.slice a L.length cp) L.length (rowP2 L) ∧ Below w6.heap.size w6 w') := Lib.hid (by
        have := own_pairs c q w6 LT.out S6.out.at_
        rw [hLL] at this
        exact this)
      have KR := Lib.hid (fun w0 h0 a b => Rule_any d q' w0 LD.out h0 a b)
      have KW := Lib.hid (fun w0 h0 hT a b r hr => Whole_any d q' w0 LD.out h0 hT a b r hr)
      have KF := Lib.hid (fun w0 h0 => Full_any d q' w0 LD.out h0 true (sp_full SP.out hmd.out))
      have KA := Lib.hid (fun w0 h0 => rall9_yes d q' w0 LD.out PD.out h0 hmd.out)
      clear hLL KC
      go_upto_region 9 with (go_at_call 11; (with_reducible refine (KP.out).mono ?_); rintro e' w7 ⟨aL, cL, bL, rfl, ho, hb⟩; have F7 := Lib.hid (F6.out.on hb); have O7 := Lib.hid ho; clear hb ho x0 x1 x2 x3)
      clear S5 S6 F5 F6 KP
      go_wp2
      go_loopw [5] (fun vi wr => ∃ i : Nat, i ≤ L.length ∧ vi = .int .i64 (i : Int) ∧ Hid (Below w7.heap.size w7 wr)) (fun vi _ => L.length - (intOf vi).toNat)
      case atStart => exact ⟨0, by omega, rfl, Lib.hid (Below.refl _ _)⟩
      case round =>
        obtain ⟨i, hi, rfl, HB⟩ := hrel
        have F8 := Lib.hid (F7.out.on HB.out)
        by_cases hlt : i < L.length
        · have d1 : decide (i < L.length) = true := by simpa using hlt
          have d2 : IntKind.i64.wrap ((i : Int) + 1) = ((i + 1 : Nat) : Int) := by rw [IntWalk.i64_in _ (by have := HLen.out; omega)]; omega
          have hi0 : (0 : Int) ≤ (i : Int) := by omega
          have hii : (i : Int) < (L.length : Int) := by omega
          obtain ⟨⟨a, b⟩, hab⟩ : ∃ p, L[i]? = some p := ⟨_, List.getElem?_eq_getElem hlt⟩
          have HR0 := Lib.hid ((HLM.out a b).1 (List.mem_of_getElem? hab))
          have O8 := Lib.hid (own_on O7.out HB.out)
          obtain ⟨gL, cp, ev⟩ : ∃ g cap, (Value.slice aL L.length cL) = .slice (some ⟨g, 0, none⟩) L.length cap := by
            rcases O8.out.2 with ⟨_, h0⟩ | ⟨g, cap, cur, e, _⟩
            · omega
            · exact ⟨g, cap, e⟩
          injection ev with ev1 ev2 ev3
          subst ev1 ev3
          clear ev2
          have hin := aheadP_in (rule_ahead HR0.out)
          have hN60 := LT.out.n
          have hw1 : IntKind.i64.wrap (2 * (a : Int)) = ((2 * a : Nat) : Int) := by rw [IntWalk.i64_in _ (by omega)]; omega
          have hw2 : IntKind.i64.wrap (2 * (b : Int)) = ((2 * b : Nat) : Int) := by rw [IntWalk.i64_in _ (by omega)]; omega
          obtain ⟨n, hn⟩ : ∃ n, ruleW d (2 * a : Nat) (2 * b : Nat) = n := ⟨_, rfl⟩
          have nz : (((n : Nat) : Int) == 0) = false := by
            have h1 := sp_keeps SP.out HR0.out
            have h2 : n = ruleL d (2 * a : Nat) (2 * b : Nat) := by rw [← hn]; unfold ruleW; rw [hmd.out, if_pos rfl]
            simp; omega
          have KR1 : Hid (∀ w0, CAt d q' w0 → Calls Tryz.prog 14 #[cdV d q', .int .i64 (2 * (a : Int)), .int .i64 (2 * (b : Int))] w0 fun e w' => FirstIs w0 n e w') := Lib.hid (fun w0 h0 => by
            have := KR.out w0 h0 (2 * a : Nat) (2 * b : Nat)
            rw [hn, show ((2 * a : Nat) : Int) = 2 * (a : Int) by omega, show ((2 * b : Nat) : Int) = 2 * (b : Int) by omega] at this
            exact this)
          clear hn hN60 hin
          go_upto_region 12 with fail
          have F9 := Lib.hid (F8.out.on (Below.refl wr.heap.size wr).drew)
          obtain ⟨c0, c1⟩ := pair_cells (own_on O8.out (Below.refl wr.heap.size wr).drew) hab
          obtain ⟨x0, x1, x2, x3⟩ := F9.out.box.facts
          clear hab
          refine wp_region_still_tail 13 (by kernel_rfl) (by kernel_rfl) ?_
          simp only [List.take_succ_cons, List.take_zero, List.drop_succ_cons, List.drop_zero]
          iterate 13 still_step
          refine wpStill_nil ?_
          change wpList _ _ _ _ _ (World.drew _)
          have HB2 := Lib.hid (HB.out.trans ((Below.refl wr.heap.size wr).drew.mono HB.out.size))
          go_wp2_with (go_at_call 14; (with_reducible refine (KR1.out _ F9.out.at_).mono ?_); rintro e' w9 ⟨rfl, hb⟩; have HB9 := Lib.hid (HB2.out.trans (hb.mono HB2.out.size)); clear hb x0 x1 x2 x3 c0 c1)
          go_roundw
          case rel => exact ⟨i + 1, by omega, by first | rfl | simp, HB9⟩
          case measure => simp [intOf]; omega
        · have d1 : decide (i < L.length) = false := by simpa using hlt
          obtain ⟨x0, x1, x2, x3⟩ := F8.out.box.facts
          go_upto_region 15 with (go_at_call 22; (with_reducible refine (KA.out _ F8.out.at_).mono ?_); rintro e' w9 ⟨v, es, base, rfl, hbase, hra, hb⟩; obtain ⟨a4, c4, rfl⟩ := own_form hra.own; have G9 := Lib.hid (F8.out.on hb); have A9 := Lib.hid hra; clear hb hra hbase x0 x1 x2 x3)
          have hN60 := LD.out.n
          go_wp2
          go_loopw [7] (fun va wr => ∃ (a : Nat), a ≤ d.N ∧ va = .int .i64 a ∧ Hid (Below w9.heap.size w9 wr)) (fun va _ => d.N - (intOf va).toNat)
          case atStart => exact ⟨0, Nat.zero_le _, rfl, Lib.hid (Below.refl _ _)⟩
          case round =>
            obtain ⟨a, ha, rfl, HBa⟩ := hrel
            by_cases hal : a < d.N
            · have e1 : decide (a < d.N) = true := by simpa using hal
              have hai : (a : Int) < (d.N : Int) := by omega
              go_wp2
              go_loopw [8] (fun vb wr => ∃ (b : Nat), a < b ∧ b ≤ d.N ∧ vb = .int .i64 b ∧ Hid (Below w9.heap.size w9 wr)) (fun vb _ => d.N - (intOf vb).toNat)
              case atStart => exact ⟨a + 1, by omega, by omega, by go_num, HBa⟩
              case round =>
                clear HBa
                obtain ⟨b, hab, hb, rfl, HBb⟩ := hrel
                by_cases hbl : b < d.N
                · have f1 : decide (b < d.N) = true := by simpa using hbl
                  have AW := Lib.hid (A9.out.on HBb.out)
                  obtain ⟨g, cap, ev, _, hra⟩ := AW.out.rall (by omega)
                  injection ev with ev1 ev2 ev3
                  subst ev1 ev3
                  clear ev2
                  have HA := Lib.hid (hra.on (Below.refl wr.heap.size wr).drew)
                  obtain ⟨X, hX⟩ : ∃ X, evAtN es a = X := ⟨_, rfl⟩
                  obtain ⟨Y, hY⟩ : ∃ Y, evAtN es b = Y := ⟨_, rfl⟩
                  have MX : Hid (memE X = memE (d.at a).1) := Lib.hid (by rw [← hX]; exact mem_like hra a hal)
                  have MY : Hid (memE Y = memE (d.at b).1) := Lib.hid (by rw [← hY]; exact mem_like hra b hbl)
                  have HX1 : Hid (X.hart = (d.at a).1.hart) := Lib.hid (by rw [← hX]; exact hart_like9 hra a hal)
                  have HY1 : Hid (Y.hart = (d.at b).1.hart) := Lib.hid (by rw [← hY]; exact hart_like9 hra b hbl)
                  have lx : (LoadE (.pointer (some ⟨g, a * 14, none⟩))).run Tryz.prog wr.drew = .ok X.V wr.drew := by rw [← hX]; exact load0 HA.out a hal
                  have hxc : wr.drew.cell? ⟨g, a * 14, none⟩ = some (.int .i64 X.hart) := by
                    have := HA.out.at_ a hal 0 _ rfl
                    rw [Nat.zero_add, Nat.add_zero, hX] at this
                    exact this
                  have hyc : wr.drew.cell? ⟨g, b * 14, none⟩ = some (.int .i64 Y.hart) := by
                    have := HA.out.at_ b hbl 0 _ rfl
                    rw [Nat.zero_add, Nat.add_zero, hY] at this
                    exact this
                  have KY : Hid (∀ w0, Below wr.drew.heap.size wr.drew w0 → (LoadE (.pointer (some ⟨g, b * 14, none⟩))).run Tryz.prog w0 = .ok Y.V w0) := Lib.hid (fun w0 hb => by rw [← hY]; exact load0 (HA.out.on hb) b hbl)
                  have ha0 : (0 : Int) ≤ (a : Int) := by omega
                  have hb0 : (0 : Int) ≤ (b : Int) := by omega
                  have hbi : (b : Int) < (d.N : Int) := by omega
                  obtain ⟨mx, hmx⟩ : ∃ mx, Hid (memE X = mx) := ⟨_, Lib.hid rfl⟩
                  obtain ⟨my, hmy⟩ : ∃ my, Hid (memE Y = my) := ⟨_, Lib.hid rfl⟩
                  have KMX := Lib.hid (fun w0 => rMemory_b X mx hmx.out w0)
                  have KMY := Lib.hid (fun w0 => rMemory_b Y my hmy.out w0)
                  have BD := Lib.hid ((Below.refl wr.heap.size wr).drew)
                  have HBD := Lib.hid (HBb.out.trans (BD.out.mono HBb.out.size))
                  have hX0 := Lib.hid hX
                  have FW := Lib.hid ((G9.out.on HBb.out).on BD.out)
                  clear hX hY hra
                  go_upto_region 21 with fail
                  have KS : Hid (∀ w0, Below wr.drew.heap.size wr.drew w0 → (LoadE (.pointer (some ⟨g, a * 14, none⟩))).run Tryz.prog w0 = .ok X.V w0 ∧ w0.cell? ⟨g, a * 14, none⟩ = some (.int .i64 X.hart) ∧ (LoadE (.pointer (some ⟨g, b * 14, none⟩))).run Tryz.prog w0 = .ok Y.V w0 ∧ w0.cell? ⟨g, b * 14, none⟩ = some (.int .i64 Y.hart) ∧ w0.cell? ⟨gD, 0, none⟩ = some (.slice q'.aF d.fs.length q'.cF) ∧ w0.cell? ⟨gD, 1, none⟩ = some (.slice q'.aH d.nh q'.cH) ∧ w0.cell? ⟨gD, 2, none⟩ = some (.slice q'.aR d.fr.length q'.cR) ∧ w0.cell? ⟨gD, 3, none⟩ = some (.slice q'.aO d.od.length q'.cO)) := Lib.hid (fun w0 hb => ⟨by rw [← hX0.out]; exact load0 (HA.out.on hb) a hal, (hb.cell (p := ⟨g, a * 14, none⟩) (HA.out.lt (by omega))).trans hxc, KY.out _ hb, (hb.cell (p := ⟨g, b * 14, none⟩) (HA.out.lt (by omega))).trans hyc, (FW.out.on hb).box.facts.1, (FW.out.on hb).box.facts.2.1, (FW.out.on hb).box.facts.2.2.1, (FW.out.on hb).box.facts.2.2.2⟩)
                  have BD0 := Lib.hid (Below.refl wr.drew.heap.size wr.drew)
                  clear lx hxc hyc hX0 KY
                  go_cut [94] (fun t94 wx => t94 = .bool false ∧ Hid (Below wr.heap.size wr wx))
                  case first => as_aux_lemma =>
                    by_cases hh : X.hart = Y.hart
                    rotate_left
                    · have g1 : (X.hart == Y.hart) = false := by simpa using hh
                      have g2 : decide (X.hart = Y.hart) = false := by simpa using hh
                      clear hh
                      refine wp_region_held_drew (S := (fun w' => (LoadE (.pointer (some ⟨g, a * 14, none⟩))).run Tryz.prog w' = .ok X.V w' ∧ w'.cell? ⟨g, a * 14, none⟩ = some (.int .i64 X.hart) ∧ (LoadE (.pointer (some ⟨g, b * 14, none⟩))).run Tryz.prog w' = .ok Y.V w' ∧ w'.cell? ⟨g, b * 14, none⟩ = some (.int .i64 Y.hart) ∧ w'.cell? ⟨gD, 0, none⟩ = some (.slice q'.aF d.fs.length q'.cF) ∧ w'.cell? ⟨gD, 1, none⟩ = some (.slice q'.aH d.nh q'.cH) ∧ w'.cell? ⟨gD, 2, none⟩ = some (.slice q'.aR d.fr.length q'.cR) ∧ w'.cell? ⟨gD, 3, none⟩ = some (.slice q'.aO d.od.length q'.cO))) (by kernel_rfl) ?_ (fun hHeld => ?_)
                      · exact KS.out _ (Below.refl _ _)
                      refine wpAnyH_take (i := 0) (oi := ⟨some 63, _, _, _, _, _⟩) (v := .slice (some ⟨g, 0, none⟩) d.N c4) rfl (by kernel_rfl) (by kernel_rfl) (by kernel_rfl) (fun _ _ _ h => h) (Or.inl ⟨by kernel_rfl, fun w hSw => by ((try dsimp only at hSw); go_simp; done)⟩) (by assumption) ?_
                      (try simp only [Act.put, List.setIfInBounds_toArray, List.set_cons_zero, List.set_cons_succ])
                      refine wpAnyH_take (i := 1) (oi := ⟨some 64, _, _, _, _, _⟩) (v := .int .i64 (a : Int)) rfl (by kernel_rfl) (by kernel_rfl) (by kernel_rfl) (fun _ _ _ h => h) (Or.inl ⟨by kernel_rfl, fun w hSw => by ((try dsimp only at hSw); go_simp; done)⟩) (by assumption) ?_
                      (try simp only [Act.put, List.setIfInBounds_toArray, List.set_cons_zero, List.set_cons_succ])
                      refine wpAnyH_take (i := 2) (oi := ⟨some 65, _, _, _, _, _⟩) (v := .pointer (some ⟨g, a * 14, none⟩)) rfl (by kernel_rfl) (by kernel_rfl) (by kernel_rfl) (fun _ _ _ h => h) (Or.inl ⟨by kernel_rfl, fun w hSw => by ((try dsimp only at hSw); go_simp; done)⟩) (by assumption) ?_
                      (try simp only [Act.put, List.setIfInBounds_toArray, List.set_cons_zero, List.set_cons_succ])
                      refine wpAnyH_take (i := 3) (oi := ⟨some 66, _, _, _, _, _⟩) (v := .pointer (some ⟨g, a * 14, none⟩)) rfl (by kernel_rfl) (by kernel_rfl) (by kernel_rfl) (fun _ _ _ h => h) (Or.inl ⟨by kernel_rfl, fun w hSw => by ((try dsimp only at hSw); go_simp; done)⟩) (by assumption) ?_
                      (try simp only [Act.put, List.setIfInBounds_toArray, List.set_cons_zero, List.set_cons_succ])
                      refine wpAnyH_take (i := 4) (oi := ⟨some 67, _, _, _, _, _⟩) (v := .int .i64 X.hart) rfl (by kernel_rfl) (by kernel_rfl) (by kernel_rfl) (fun _ _ _ h => h) (Or.inl ⟨by kernel_rfl, fun w hSw => by ((try dsimp only at hSw); go_simp; done)⟩) (by assumption) ?_
                      (try simp only [Act.put, List.setIfInBounds_toArray, List.set_cons_zero, List.set_cons_succ])
                      refine wpAnyH_take (i := 5) (oi := ⟨some 68, _, _, _, _, _⟩) (v := .slice (some ⟨g, 0, none⟩) d.N c4) rfl (by kernel_rfl) (by kernel_rfl) (by kernel_rfl) (fun _ _ _ h => h) (Or.inl ⟨by kernel_rfl, fun w hSw => by ((try dsimp only at hSw); go_simp; done)⟩) (by assumption) ?_
                      (try simp only [Act.put, List.setIfInBounds_toArray, List.set_cons_zero, List.set_cons_succ])
                      refine wpAnyH_take (i := 6) (oi := ⟨some 69, _, _, _, _, _⟩) (v := .int .i64 (b : Int)) rfl (by kernel_rfl) (by kernel_rfl) (by kernel_rfl) (fun _ _ _ h => h) (Or.inl ⟨by kernel_rfl, fun w hSw => by ((try dsimp only at hSw); go_simp; done)⟩) (by assumption) ?_
                      (try simp only [Act.put, List.setIfInBounds_toArray, List.set_cons_zero, List.set_cons_succ])
                      refine wpAnyH_take (i := 7) (oi := ⟨some 70, _, _, _, _, _⟩) (v := .pointer (some ⟨g, b * 14, none⟩)) rfl (by kernel_rfl) (by kernel_rfl) (by kernel_rfl) (fun _ _ _ h => h) (Or.inl ⟨by kernel_rfl, fun w hSw => by ((try dsimp only at hSw); go_simp; done)⟩) (by assumption) ?_
                      (try simp only [Act.put, List.setIfInBounds_toArray, List.set_cons_zero, List.set_cons_succ])
                      refine wpAnyH_take (i := 8) (oi := ⟨some 71, _, _, _, _, _⟩) (v := .pointer (some ⟨g, b * 14, none⟩)) rfl (by kernel_rfl) (by kernel_rfl) (by kernel_rfl) (fun _ _ _ h => h) (Or.inl ⟨by kernel_rfl, fun w hSw => by ((try dsimp only at hSw); go_simp; done)⟩) (by assumption) ?_
                      (try simp only [Act.put, List.setIfInBounds_toArray, List.set_cons_zero, List.set_cons_succ])
                      refine wpAnyH_take (i := 9) (oi := ⟨some 72, _, _, _, _, _⟩) (v := .int .i64 Y.hart) rfl (by kernel_rfl) (by kernel_rfl) (by kernel_rfl) (fun _ _ _ h => h) (Or.inl ⟨by kernel_rfl, fun w hSw => by ((try dsimp only at hSw); go_simp; done)⟩) (by assumption) ?_
                      (try simp only [Act.put, List.setIfInBounds_toArray, List.set_cons_zero, List.set_cons_succ])
                      refine wpAnyH_take (i := 10) (oi := ⟨some 73, _, _, _, _, _⟩) (v := .bool false) rfl (by kernel_rfl) (by kernel_rfl) (by kernel_rfl) (fun _ _ _ h => h) (Or.inl ⟨by kernel_rfl, fun w hSw => by ((try dsimp only at hSw); go_simp; done)⟩) (by assumption) ?_
                      (try simp only [Act.put, List.setIfInBounds_toArray, List.set_cons_zero, List.set_cons_succ])
                      refine wpAnyH_take (i := 11) (oi := ⟨some 74, _, _, _, _, _⟩) (v := .bool false) rfl (by kernel_rfl) (by kernel_rfl) (by kernel_rfl) (fun _ _ _ h => h) (Or.inl ⟨by kernel_rfl, fun w hSw => by ((try dsimp only at hSw); go_simp; done)⟩) (by assumption) ?_
                      (try simp only [Act.put, List.setIfInBounds_toArray, List.set_cons_zero, List.set_cons_succ])
                      refine wpAnyH_take (i := 12) (oi := ⟨some 75, _, _, _, _, _⟩) (v := undef) rfl (by kernel_rfl) (by kernel_rfl) (by kernel_rfl) (fun _ _ _ h => h) (Or.inr ⟨by kernel_rfl, rfl⟩) (by assumption) ?_
                      (try simp only [Act.put, List.setIfInBounds_toArray, List.set_cons_zero, List.set_cons_succ])
                      refine wpAnyH_take (i := 13) (oi := ⟨some 76, _, _, _, _, _⟩) (v := undef) rfl (by kernel_rfl) (by kernel_rfl) (by kernel_rfl) (fun _ _ _ h => h) (Or.inr ⟨by kernel_rfl, rfl⟩) (by assumption) ?_
                      (try simp only [Act.put, List.setIfInBounds_toArray, List.set_cons_zero, List.set_cons_succ])
                      refine wpAnyH_take (i := 14) (oi := ⟨some 77, _, _, _, _, _⟩) (v := undef) rfl (by kernel_rfl) (by kernel_rfl) (by kernel_rfl) (fun _ _ _ h => h) (Or.inr ⟨by kernel_rfl, rfl⟩) (by assumption) ?_
                      (try simp only [Act.put, List.setIfInBounds_toArray, List.set_cons_zero, List.set_cons_succ])
                      refine wpAnyH_take (i := 15) (oi := ⟨some 78, _, _, _, _, _⟩) (v := undef) rfl (by kernel_rfl) (by kernel_rfl) (by kernel_rfl) (fun _ _ _ h => h) (Or.inr ⟨by kernel_rfl, rfl⟩) (by assumption) ?_
                      (try simp only [Act.put, List.setIfInBounds_toArray, List.set_cons_zero, List.set_cons_succ])
                      refine wpAnyH_take (i := 16) (oi := ⟨some 79, _, _, _, _, _⟩) (v := undef) rfl (by kernel_rfl) (by kernel_rfl) (by kernel_rfl) (fun _ _ _ h => h) (Or.inr ⟨by kernel_rfl, rfl⟩) (by assumption) ?_
                      (try simp only [Act.put, List.setIfInBounds_toArray, List.set_cons_zero, List.set_cons_succ])
                      refine wpAnyH_take (i := 17) (oi := ⟨some 80, _, _, _, _, _⟩) (v := .bool false) rfl (by kernel_rfl) (by kernel_rfl) (by kernel_rfl) (fun _ _ _ h => h) (Or.inl ⟨by kernel_rfl, fun w hSw => by ((try dsimp only at hSw); go_simp; done)⟩) (by assumption) ?_
                      (try simp only [Act.put, List.setIfInBounds_toArray, List.set_cons_zero, List.set_cons_succ])
                      refine wpAnyH_take (i := 18) (oi := ⟨some 81, _, _, _, _, _⟩) (v := .bool false) rfl (by kernel_rfl) (by kernel_rfl) (by kernel_rfl) (fun _ _ _ h => h) (Or.inl ⟨by kernel_rfl, fun w hSw => by ((try dsimp only at hSw); go_simp; done)⟩) (by assumption) ?_
                      (try simp only [Act.put, List.setIfInBounds_toArray, List.set_cons_zero, List.set_cons_succ])
                      refine wpAnyH_take (i := 19) (oi := ⟨some 82, _, _, _, _, _⟩) (v := undef) rfl (by kernel_rfl) (by kernel_rfl) (by kernel_rfl) (fun _ _ _ h => h) (Or.inr ⟨by kernel_rfl, rfl⟩) (by assumption) ?_
                      (try simp only [Act.put, List.setIfInBounds_toArray, List.set_cons_zero, List.set_cons_succ])
                      refine wpAnyH_take (i := 20) (oi := ⟨some 83, _, _, _, _, _⟩) (v := undef) rfl (by kernel_rfl) (by kernel_rfl) (by kernel_rfl) (fun _ _ _ h => h) (Or.inr ⟨by kernel_rfl, rfl⟩) (by assumption) ?_
                      (try simp only [Act.put, List.setIfInBounds_toArray, List.set_cons_zero, List.set_cons_succ])
                      refine wpAnyH_take (i := 21) (oi := ⟨some 84, _, _, _, _, _⟩) (v := undef) rfl (by kernel_rfl) (by kernel_rfl) (by kernel_rfl) (fun _ _ _ h => h) (Or.inr ⟨by kernel_rfl, rfl⟩) (by assumption) ?_
                      (try simp only [Act.put, List.setIfInBounds_toArray, List.set_cons_zero, List.set_cons_succ])
                      refine wpAnyH_take (i := 22) (oi := ⟨some 85, _, _, _, _, _⟩) (v := undef) rfl (by kernel_rfl) (by kernel_rfl) (by kernel_rfl) (fun _ _ _ h => h) (Or.inr ⟨by kernel_rfl, rfl⟩) (by assumption) ?_
                      (try simp only [Act.put, List.setIfInBounds_toArray, List.set_cons_zero, List.set_cons_succ])
                      refine wpAnyH_take (i := 23) (oi := ⟨some 86, _, _, _, _, _⟩) (v := undef) rfl (by kernel_rfl) (by kernel_rfl) (by kernel_rfl) (fun _ _ _ h => h) (Or.inr ⟨by kernel_rfl, rfl⟩) (by assumption) ?_
                      (try simp only [Act.put, List.setIfInBounds_toArray, List.set_cons_zero, List.set_cons_succ])
                      refine wpAnyH_take (i := 24) (oi := ⟨some 87, _, _, _, _, _⟩) (v := .bool false) rfl (by kernel_rfl) (by kernel_rfl) (by kernel_rfl) (fun _ _ _ h => h) (Or.inl ⟨by kernel_rfl, fun w hSw => by ((try dsimp only at hSw); go_simp; done)⟩) (by assumption) ?_
                      (try simp only [Act.put, List.setIfInBounds_toArray, List.set_cons_zero, List.set_cons_succ])
                      refine wpAnyH_take (i := 25) (oi := ⟨some 88, _, _, _, _, _⟩) (v := .bool false) rfl (by kernel_rfl) (by kernel_rfl) (by kernel_rfl) (fun _ _ _ h => h) (Or.inl ⟨by kernel_rfl, fun w hSw => by ((try dsimp only at hSw); go_simp; done)⟩) (by assumption) ?_
                      (try simp only [Act.put, List.setIfInBounds_toArray, List.set_cons_zero, List.set_cons_succ])
                      refine wpAnyH_take (i := 26) (oi := ⟨some 89, _, _, _, _, _⟩) (v := undef) rfl (by kernel_rfl) (by kernel_rfl) (by kernel_rfl) (fun _ _ _ h => h) (Or.inr ⟨by kernel_rfl, rfl⟩) (by assumption) ?_
                      (try simp only [Act.put, List.setIfInBounds_toArray, List.set_cons_zero, List.set_cons_succ])
                      refine wpAnyH_take (i := 27) (oi := ⟨some 90, _, _, _, _, _⟩) (v := undef) rfl (by kernel_rfl) (by kernel_rfl) (by kernel_rfl) (fun _ _ _ h => h) (Or.inr ⟨by kernel_rfl, rfl⟩) (by assumption) ?_
                      (try simp only [Act.put, List.setIfInBounds_toArray, List.set_cons_zero, List.set_cons_succ])
                      refine wpAnyH_take (i := 28) (oi := ⟨some 91, _, _, _, _, _⟩) (v := undef) rfl (by kernel_rfl) (by kernel_rfl) (by kernel_rfl) (fun _ _ _ h => h) (Or.inr ⟨by kernel_rfl, rfl⟩) (by assumption) ?_
                      (try simp only [Act.put, List.setIfInBounds_toArray, List.set_cons_zero, List.set_cons_succ])
                      refine wpAnyH_take (i := 29) (oi := ⟨some 92, _, _, _, _, _⟩) (v := undef) rfl (by kernel_rfl) (by kernel_rfl) (by kernel_rfl) (fun _ _ _ h => h) (Or.inr ⟨by kernel_rfl, rfl⟩) (by assumption) ?_
                      (try simp only [Act.put, List.setIfInBounds_toArray, List.set_cons_zero, List.set_cons_succ])
                      refine wpAnyH_take (i := 30) (oi := ⟨some 93, _, _, _, _, _⟩) (v := undef) rfl (by kernel_rfl) (by kernel_rfl) (by kernel_rfl) (fun _ _ _ h => h) (Or.inr ⟨by kernel_rfl, rfl⟩) (by assumption) ?_
                      (try simp only [Act.put, List.setIfInBounds_toArray, List.set_cons_zero, List.set_cons_succ])
                      refine wpAnyH_take (i := 31) (oi := ⟨some 94, _, _, _, _, _⟩) (v := .bool false) rfl (by kernel_rfl) (by kernel_rfl) (by kernel_rfl) (fun _ _ _ h => h) (Or.inl ⟨by kernel_rfl, fun w hSw => by ((try dsimp only at hSw); go_simp; done)⟩) (by assumption) ?_
                      (try simp only [Act.put, List.setIfInBounds_toArray, List.set_cons_zero, List.set_cons_succ])
                      refine wpAnyH_done (by kernel_rfl) ?_ _
                      go_wp2_with fail
                      go_meet
                      exact ⟨rfl, Lib.hid (BD.out)⟩
                    · have g1 : (X.hart == Y.hart) = true := by simpa using hh
                      have g2 : decide (X.hart = Y.hart) = true := by simpa using hh
                      have HH := Lib.hid hh
                      clear hh
                      cases mx with
                      | false =>
                        refine wp_region_held_drew (S := (fun w' => (LoadE (.pointer (some ⟨g, a * 14, none⟩))).run Tryz.prog w' = .ok X.V w' ∧ w'.cell? ⟨g, a * 14, none⟩ = some (.int .i64 X.hart) ∧ (LoadE (.pointer (some ⟨g, b * 14, none⟩))).run Tryz.prog w' = .ok Y.V w' ∧ w'.cell? ⟨g, b * 14, none⟩ = some (.int .i64 Y.hart) ∧ w'.cell? ⟨gD, 0, none⟩ = some (.slice q'.aF d.fs.length q'.cF) ∧ w'.cell? ⟨gD, 1, none⟩ = some (.slice q'.aH d.nh q'.cH) ∧ w'.cell? ⟨gD, 2, none⟩ = some (.slice q'.aR d.fr.length q'.cR) ∧ w'.cell? ⟨gD, 3, none⟩ = some (.slice q'.aO d.od.length q'.cO))) (by kernel_rfl) ?_ (fun hHeld => ?_)
                        · exact KS.out _ (Below.refl _ _)
                        refine wpAnyH_take (i := 0) (oi := ⟨some 63, _, _, _, _, _⟩) (v := .slice (some ⟨g, 0, none⟩) d.N c4) rfl (by kernel_rfl) (by kernel_rfl) (by kernel_rfl) (fun _ _ _ h => h) (Or.inl ⟨by kernel_rfl, fun w hSw => by ((try dsimp only at hSw); go_simp; done)⟩) (by assumption) ?_
                        (try simp only [Act.put, List.setIfInBounds_toArray, List.set_cons_zero, List.set_cons_succ])
                        refine wpAnyH_take (i := 1) (oi := ⟨some 64, _, _, _, _, _⟩) (v := .int .i64 (a : Int)) rfl (by kernel_rfl) (by kernel_rfl) (by kernel_rfl) (fun _ _ _ h => h) (Or.inl ⟨by kernel_rfl, fun w hSw => by ((try dsimp only at hSw); go_simp; done)⟩) (by assumption) ?_
                        (try simp only [Act.put, List.setIfInBounds_toArray, List.set_cons_zero, List.set_cons_succ])
                        refine wpAnyH_take (i := 2) (oi := ⟨some 65, _, _, _, _, _⟩) (v := .pointer (some ⟨g, a * 14, none⟩)) rfl (by kernel_rfl) (by kernel_rfl) (by kernel_rfl) (fun _ _ _ h => h) (Or.inl ⟨by kernel_rfl, fun w hSw => by ((try dsimp only at hSw); go_simp; done)⟩) (by assumption) ?_
                        (try simp only [Act.put, List.setIfInBounds_toArray, List.set_cons_zero, List.set_cons_succ])
                        refine wpAnyH_take (i := 3) (oi := ⟨some 66, _, _, _, _, _⟩) (v := .pointer (some ⟨g, a * 14, none⟩)) rfl (by kernel_rfl) (by kernel_rfl) (by kernel_rfl) (fun _ _ _ h => h) (Or.inl ⟨by kernel_rfl, fun w hSw => by ((try dsimp only at hSw); go_simp; done)⟩) (by assumption) ?_
                        (try simp only [Act.put, List.setIfInBounds_toArray, List.set_cons_zero, List.set_cons_succ])
                        refine wpAnyH_take (i := 4) (oi := ⟨some 67, _, _, _, _, _⟩) (v := .int .i64 X.hart) rfl (by kernel_rfl) (by kernel_rfl) (by kernel_rfl) (fun _ _ _ h => h) (Or.inl ⟨by kernel_rfl, fun w hSw => by ((try dsimp only at hSw); go_simp; done)⟩) (by assumption) ?_
                        (try simp only [Act.put, List.setIfInBounds_toArray, List.set_cons_zero, List.set_cons_succ])
                        refine wpAnyH_take (i := 5) (oi := ⟨some 68, _, _, _, _, _⟩) (v := .slice (some ⟨g, 0, none⟩) d.N c4) rfl (by kernel_rfl) (by kernel_rfl) (by kernel_rfl) (fun _ _ _ h => h) (Or.inl ⟨by kernel_rfl, fun w hSw => by ((try dsimp only at hSw); go_simp; done)⟩) (by assumption) ?_
                        (try simp only [Act.put, List.setIfInBounds_toArray, List.set_cons_zero, List.set_cons_succ])
                        refine wpAnyH_take (i := 6) (oi := ⟨some 69, _, _, _, _, _⟩) (v := .int .i64 (b : Int)) rfl (by kernel_rfl) (by kernel_rfl) (by kernel_rfl) (fun _ _ _ h => h) (Or.inl ⟨by kernel_rfl, fun w hSw => by ((try dsimp only at hSw); go_simp; done)⟩) (by assumption) ?_
                        (try simp only [Act.put, List.setIfInBounds_toArray, List.set_cons_zero, List.set_cons_succ])
                        refine wpAnyH_take (i := 7) (oi := ⟨some 70, _, _, _, _, _⟩) (v := .pointer (some ⟨g, b * 14, none⟩)) rfl (by kernel_rfl) (by kernel_rfl) (by kernel_rfl) (fun _ _ _ h => h) (Or.inl ⟨by kernel_rfl, fun w hSw => by ((try dsimp only at hSw); go_simp; done)⟩) (by assumption) ?_
                        (try simp only [Act.put, List.setIfInBounds_toArray, List.set_cons_zero, List.set_cons_succ])
                        refine wpAnyH_take (i := 8) (oi := ⟨some 71, _, _, _, _, _⟩) (v := .pointer (some ⟨g, b * 14, none⟩)) rfl (by kernel_rfl) (by kernel_rfl) (by kernel_rfl) (fun _ _ _ h => h) (Or.inl ⟨by kernel_rfl, fun w hSw => by ((try dsimp only at hSw); go_simp; done)⟩) (by assumption) ?_
                        (try simp only [Act.put, List.setIfInBounds_toArray, List.set_cons_zero, List.set_cons_succ])
                        refine wpAnyH_take (i := 9) (oi := ⟨some 72, _, _, _, _, _⟩) (v := .int .i64 Y.hart) rfl (by kernel_rfl) (by kernel_rfl) (by kernel_rfl) (fun _ _ _ h => h) (Or.inl ⟨by kernel_rfl, fun w hSw => by ((try dsimp only at hSw); go_simp; done)⟩) (by assumption) ?_
                        (try simp only [Act.put, List.setIfInBounds_toArray, List.set_cons_zero, List.set_cons_succ])
                        refine wpAnyH_take (i := 10) (oi := ⟨some 73, _, _, _, _, _⟩) (v := .bool true) rfl (by kernel_rfl) (by kernel_rfl) (by kernel_rfl) (fun _ _ _ h => h) (Or.inl ⟨by kernel_rfl, fun w hSw => by ((try dsimp only at hSw); go_simp; done)⟩) (by assumption) ?_
                        (try simp only [Act.put, List.setIfInBounds_toArray, List.set_cons_zero, List.set_cons_succ])
                        refine wpAnyH_take (i := 11) (oi := ⟨some 74, _, _, _, _, _⟩) (v := .bool true) rfl (by kernel_rfl) (by kernel_rfl) (by kernel_rfl) (fun _ _ _ h => h) (Or.inl ⟨by kernel_rfl, fun w hSw => by ((try dsimp only at hSw); go_simp; done)⟩) (by assumption) ?_
                        (try simp only [Act.put, List.setIfInBounds_toArray, List.set_cons_zero, List.set_cons_succ])
                        refine wpAnyH_take (i := 12) (oi := ⟨some 75, _, _, _, _, _⟩) (v := .slice (some ⟨g, 0, none⟩) d.N c4) rfl (by kernel_rfl) (by kernel_rfl) (by kernel_rfl) (fun _ _ _ h => h) (Or.inl ⟨by kernel_rfl, fun w hSw => by ((try dsimp only at hSw); go_simp; done)⟩) (by assumption) ?_
                        (try simp only [Act.put, List.setIfInBounds_toArray, List.set_cons_zero, List.set_cons_succ])
                        refine wpAnyH_take (i := 13) (oi := ⟨some 76, _, _, _, _, _⟩) (v := .int .i64 (a : Int)) rfl (by kernel_rfl) (by kernel_rfl) (by kernel_rfl) (fun _ _ _ h => h) (Or.inl ⟨by kernel_rfl, fun w hSw => by ((try dsimp only at hSw); go_simp; done)⟩) (by assumption) ?_
                        (try simp only [Act.put, List.setIfInBounds_toArray, List.set_cons_zero, List.set_cons_succ])
                        refine wpAnyH_take (i := 14) (oi := ⟨some 77, _, _, _, _, _⟩) (v := .pointer (some ⟨g, a * 14, none⟩)) rfl (by kernel_rfl) (by kernel_rfl) (by kernel_rfl) (fun _ _ _ h => h) (Or.inl ⟨by kernel_rfl, fun w hSw => by ((try dsimp only at hSw); go_simp; done)⟩) (by assumption) ?_
                        (try simp only [Act.put, List.setIfInBounds_toArray, List.set_cons_zero, List.set_cons_succ])
                        refine wpAnyH_take (i := 15) (oi := ⟨some 78, _, _, _, _, _⟩) (v := X.V) rfl (by kernel_rfl) (by kernel_rfl) (by kernel_rfl) (fun _ _ _ h => h) (Or.inl ⟨by kernel_rfl, fun w hSw => by ((try dsimp only at hSw); go_simp; done)⟩) (by assumption) ?_
                        (try simp only [Act.put, List.setIfInBounds_toArray, List.set_cons_zero, List.set_cons_succ])
                        refine wpAnyH_ready (rs := [16]) (by kernel_rfl) (by simp) ?_
                        refine AllReadyH.cons (o := ⟨some 79, _, _, _, _, _⟩) rfl (fun K hK => ?_) AllReadyH.nil
                        go_simp
                        ((go_at_call 23; (with_reducible refine (KMX.out _).mono ?_); rintro e' wa ⟨rfl, hb⟩; have BA := Lib.hid (BD0.out.trans (hb.mono BD0.out.size)); clear hb))
                        (try go_wp2_with fail)
                        refine hK.out _ _ ?_ (fun hHeld => ?_)
                        · exact KS.out _ BA.out
                        clear hK K
                        (try simp only [Act.put, List.setIfInBounds_toArray, List.set_cons_zero, List.set_cons_succ])
                        refine wpAnyH_take (i := 17) (oi := ⟨some 80, _, _, _, _, _⟩) (v := .bool false) rfl (by kernel_rfl) (by kernel_rfl) (by kernel_rfl) (fun _ _ _ h => h) (Or.inl ⟨by kernel_rfl, fun w hSw => by ((try dsimp only at hSw); go_simp; done)⟩) (by assumption) ?_
                        (try simp only [Act.put, List.setIfInBounds_toArray, List.set_cons_zero, List.set_cons_succ])
                        refine wpAnyH_take (i := 18) (oi := ⟨some 81, _, _, _, _, _⟩) (v := .bool false) rfl (by kernel_rfl) (by kernel_rfl) (by kernel_rfl) (fun _ _ _ h => h) (Or.inl ⟨by kernel_rfl, fun w hSw => by ((try dsimp only at hSw); go_simp; done)⟩) (by assumption) ?_
                        (try simp only [Act.put, List.setIfInBounds_toArray, List.set_cons_zero, List.set_cons_succ])
                        refine wpAnyH_take (i := 19) (oi := ⟨some 82, _, _, _, _, _⟩) (v := undef) rfl (by kernel_rfl) (by kernel_rfl) (by kernel_rfl) (fun _ _ _ h => h) (Or.inr ⟨by kernel_rfl, rfl⟩) (by assumption) ?_
                        (try simp only [Act.put, List.setIfInBounds_toArray, List.set_cons_zero, List.set_cons_succ])
                        refine wpAnyH_take (i := 20) (oi := ⟨some 83, _, _, _, _, _⟩) (v := undef) rfl (by kernel_rfl) (by kernel_rfl) (by kernel_rfl) (fun _ _ _ h => h) (Or.inr ⟨by kernel_rfl, rfl⟩) (by assumption) ?_
                        (try simp only [Act.put, List.setIfInBounds_toArray, List.set_cons_zero, List.set_cons_succ])
                        refine wpAnyH_take (i := 21) (oi := ⟨some 84, _, _, _, _, _⟩) (v := undef) rfl (by kernel_rfl) (by kernel_rfl) (by kernel_rfl) (fun _ _ _ h => h) (Or.inr ⟨by kernel_rfl, rfl⟩) (by assumption) ?_
                        (try simp only [Act.put, List.setIfInBounds_toArray, List.set_cons_zero, List.set_cons_succ])
                        refine wpAnyH_take (i := 22) (oi := ⟨some 85, _, _, _, _, _⟩) (v := undef) rfl (by kernel_rfl) (by kernel_rfl) (by kernel_rfl) (fun _ _ _ h => h) (Or.inr ⟨by kernel_rfl, rfl⟩) (by assumption) ?_
                        (try simp only [Act.put, List.setIfInBounds_toArray, List.set_cons_zero, List.set_cons_succ])
                        refine wpAnyH_take (i := 23) (oi := ⟨some 86, _, _, _, _, _⟩) (v := undef) rfl (by kernel_rfl) (by kernel_rfl) (by kernel_rfl) (fun _ _ _ h => h) (Or.inr ⟨by kernel_rfl, rfl⟩) (by assumption) ?_
                        (try simp only [Act.put, List.setIfInBounds_toArray, List.set_cons_zero, List.set_cons_succ])
                        refine wpAnyH_take (i := 24) (oi := ⟨some 87, _, _, _, _, _⟩) (v := .bool false) rfl (by kernel_rfl) (by kernel_rfl) (by kernel_rfl) (fun _ _ _ h => h) (Or.inl ⟨by kernel_rfl, fun w hSw => by ((try dsimp only at hSw); go_simp; done)⟩) (by assumption) ?_
                        (try simp only [Act.put, List.setIfInBounds_toArray, List.set_cons_zero, List.set_cons_succ])
                        refine wpAnyH_take (i := 25) (oi := ⟨some 88, _, _, _, _, _⟩) (v := .bool false) rfl (by kernel_rfl) (by kernel_rfl) (by kernel_rfl) (fun _ _ _ h => h) (Or.inl ⟨by kernel_rfl, fun w hSw => by ((try dsimp only at hSw); go_simp; done)⟩) (by assumption) ?_
                        (try simp only [Act.put, List.setIfInBounds_toArray, List.set_cons_zero, List.set_cons_succ])
                        refine wpAnyH_take (i := 26) (oi := ⟨some 89, _, _, _, _, _⟩) (v := undef) rfl (by kernel_rfl) (by kernel_rfl) (by kernel_rfl) (fun _ _ _ h => h) (Or.inr ⟨by kernel_rfl, rfl⟩) (by assumption) ?_
                        (try simp only [Act.put, List.setIfInBounds_toArray, List.set_cons_zero, List.set_cons_succ])
                        refine wpAnyH_take (i := 27) (oi := ⟨some 90, _, _, _, _, _⟩) (v := undef) rfl (by kernel_rfl) (by kernel_rfl) (by kernel_rfl) (fun _ _ _ h => h) (Or.inr ⟨by kernel_rfl, rfl⟩) (by assumption) ?_
                        (try simp only [Act.put, List.setIfInBounds_toArray, List.set_cons_zero, List.set_cons_succ])
                        refine wpAnyH_take (i := 28) (oi := ⟨some 91, _, _, _, _, _⟩) (v := undef) rfl (by kernel_rfl) (by kernel_rfl) (by kernel_rfl) (fun _ _ _ h => h) (Or.inr ⟨by kernel_rfl, rfl⟩) (by assumption) ?_
                        (try simp only [Act.put, List.setIfInBounds_toArray, List.set_cons_zero, List.set_cons_succ])
                        refine wpAnyH_take (i := 29) (oi := ⟨some 92, _, _, _, _, _⟩) (v := undef) rfl (by kernel_rfl) (by kernel_rfl) (by kernel_rfl) (fun _ _ _ h => h) (Or.inr ⟨by kernel_rfl, rfl⟩) (by assumption) ?_
                        (try simp only [Act.put, List.setIfInBounds_toArray, List.set_cons_zero, List.set_cons_succ])
                        refine wpAnyH_take (i := 30) (oi := ⟨some 93, _, _, _, _, _⟩) (v := undef) rfl (by kernel_rfl) (by kernel_rfl) (by kernel_rfl) (fun _ _ _ h => h) (Or.inr ⟨by kernel_rfl, rfl⟩) (by assumption) ?_
                        (try simp only [Act.put, List.setIfInBounds_toArray, List.set_cons_zero, List.set_cons_succ])
                        refine wpAnyH_take (i := 31) (oi := ⟨some 94, _, _, _, _, _⟩) (v := .bool false) rfl (by kernel_rfl) (by kernel_rfl) (by kernel_rfl) (fun _ _ _ h => h) (Or.inl ⟨by kernel_rfl, fun w hSw => by ((try dsimp only at hSw); go_simp; done)⟩) (by assumption) ?_
                        (try simp only [Act.put, List.setIfInBounds_toArray, List.set_cons_zero, List.set_cons_succ])
                        refine wpAnyH_done (by kernel_rfl) ?_ _
                        go_wp2_with fail
                        go_meet
                        exact ⟨rfl, Lib.hid (BD.out.trans (BA.out.mono BD.out.size))⟩
                      | true =>
                        cases my with
                        | false =>
                          refine wp_region_held_drew (S := (fun w' => (LoadE (.pointer (some ⟨g, a * 14, none⟩))).run Tryz.prog w' = .ok X.V w' ∧ w'.cell? ⟨g, a * 14, none⟩ = some (.int .i64 X.hart) ∧ (LoadE (.pointer (some ⟨g, b * 14, none⟩))).run Tryz.prog w' = .ok Y.V w' ∧ w'.cell? ⟨g, b * 14, none⟩ = some (.int .i64 Y.hart) ∧ w'.cell? ⟨gD, 0, none⟩ = some (.slice q'.aF d.fs.length q'.cF) ∧ w'.cell? ⟨gD, 1, none⟩ = some (.slice q'.aH d.nh q'.cH) ∧ w'.cell? ⟨gD, 2, none⟩ = some (.slice q'.aR d.fr.length q'.cR) ∧ w'.cell? ⟨gD, 3, none⟩ = some (.slice q'.aO d.od.length q'.cO))) (by kernel_rfl) ?_ (fun hHeld => ?_)
                          · exact KS.out _ (Below.refl _ _)
                          refine wpAnyH_take (i := 0) (oi := ⟨some 63, _, _, _, _, _⟩) (v := .slice (some ⟨g, 0, none⟩) d.N c4) rfl (by kernel_rfl) (by kernel_rfl) (by kernel_rfl) (fun _ _ _ h => h) (Or.inl ⟨by kernel_rfl, fun w hSw => by ((try dsimp only at hSw); go_simp; done)⟩) (by assumption) ?_
                          (try simp only [Act.put, List.setIfInBounds_toArray, List.set_cons_zero, List.set_cons_succ])
                          refine wpAnyH_take (i := 1) (oi := ⟨some 64, _, _, _, _, _⟩) (v := .int .i64 (a : Int)) rfl (by kernel_rfl) (by kernel_rfl) (by kernel_rfl) (fun _ _ _ h => h) (Or.inl ⟨by kernel_rfl, fun w hSw => by ((try dsimp only at hSw); go_simp; done)⟩) (by assumption) ?_
                          (try simp only [Act.put, List.setIfInBounds_toArray, List.set_cons_zero, List.set_cons_succ])
                          refine wpAnyH_take (i := 2) (oi := ⟨some 65, _, _, _, _, _⟩) (v := .pointer (some ⟨g, a * 14, none⟩)) rfl (by kernel_rfl) (by kernel_rfl) (by kernel_rfl) (fun _ _ _ h => h) (Or.inl ⟨by kernel_rfl, fun w hSw => by ((try dsimp only at hSw); go_simp; done)⟩) (by assumption) ?_
                          (try simp only [Act.put, List.setIfInBounds_toArray, List.set_cons_zero, List.set_cons_succ])
                          refine wpAnyH_take (i := 3) (oi := ⟨some 66, _, _, _, _, _⟩) (v := .pointer (some ⟨g, a * 14, none⟩)) rfl (by kernel_rfl) (by kernel_rfl) (by kernel_rfl) (fun _ _ _ h => h) (Or.inl ⟨by kernel_rfl, fun w hSw => by ((try dsimp only at hSw); go_simp; done)⟩) (by assumption) ?_
                          (try simp only [Act.put, List.setIfInBounds_toArray, List.set_cons_zero, List.set_cons_succ])
                          refine wpAnyH_take (i := 4) (oi := ⟨some 67, _, _, _, _, _⟩) (v := .int .i64 X.hart) rfl (by kernel_rfl) (by kernel_rfl) (by kernel_rfl) (fun _ _ _ h => h) (Or.inl ⟨by kernel_rfl, fun w hSw => by ((try dsimp only at hSw); go_simp; done)⟩) (by assumption) ?_
                          (try simp only [Act.put, List.setIfInBounds_toArray, List.set_cons_zero, List.set_cons_succ])
                          refine wpAnyH_take (i := 5) (oi := ⟨some 68, _, _, _, _, _⟩) (v := .slice (some ⟨g, 0, none⟩) d.N c4) rfl (by kernel_rfl) (by kernel_rfl) (by kernel_rfl) (fun _ _ _ h => h) (Or.inl ⟨by kernel_rfl, fun w hSw => by ((try dsimp only at hSw); go_simp; done)⟩) (by assumption) ?_
                          (try simp only [Act.put, List.setIfInBounds_toArray, List.set_cons_zero, List.set_cons_succ])
                          refine wpAnyH_take (i := 6) (oi := ⟨some 69, _, _, _, _, _⟩) (v := .int .i64 (b : Int)) rfl (by kernel_rfl) (by kernel_rfl) (by kernel_rfl) (fun _ _ _ h => h) (Or.inl ⟨by kernel_rfl, fun w hSw => by ((try dsimp only at hSw); go_simp; done)⟩) (by assumption) ?_
                          (try simp only [Act.put, List.setIfInBounds_toArray, List.set_cons_zero, List.set_cons_succ])
                          refine wpAnyH_take (i := 7) (oi := ⟨some 70, _, _, _, _, _⟩) (v := .pointer (some ⟨g, b * 14, none⟩)) rfl (by kernel_rfl) (by kernel_rfl) (by kernel_rfl) (fun _ _ _ h => h) (Or.inl ⟨by kernel_rfl, fun w hSw => by ((try dsimp only at hSw); go_simp; done)⟩) (by assumption) ?_
                          (try simp only [Act.put, List.setIfInBounds_toArray, List.set_cons_zero, List.set_cons_succ])
                          refine wpAnyH_take (i := 8) (oi := ⟨some 71, _, _, _, _, _⟩) (v := .pointer (some ⟨g, b * 14, none⟩)) rfl (by kernel_rfl) (by kernel_rfl) (by kernel_rfl) (fun _ _ _ h => h) (Or.inl ⟨by kernel_rfl, fun w hSw => by ((try dsimp only at hSw); go_simp; done)⟩) (by assumption) ?_
                          (try simp only [Act.put, List.setIfInBounds_toArray, List.set_cons_zero, List.set_cons_succ])
                          refine wpAnyH_take (i := 9) (oi := ⟨some 72, _, _, _, _, _⟩) (v := .int .i64 Y.hart) rfl (by kernel_rfl) (by kernel_rfl) (by kernel_rfl) (fun _ _ _ h => h) (Or.inl ⟨by kernel_rfl, fun w hSw => by ((try dsimp only at hSw); go_simp; done)⟩) (by assumption) ?_
                          (try simp only [Act.put, List.setIfInBounds_toArray, List.set_cons_zero, List.set_cons_succ])
                          refine wpAnyH_take (i := 10) (oi := ⟨some 73, _, _, _, _, _⟩) (v := .bool true) rfl (by kernel_rfl) (by kernel_rfl) (by kernel_rfl) (fun _ _ _ h => h) (Or.inl ⟨by kernel_rfl, fun w hSw => by ((try dsimp only at hSw); go_simp; done)⟩) (by assumption) ?_
                          (try simp only [Act.put, List.setIfInBounds_toArray, List.set_cons_zero, List.set_cons_succ])
                          refine wpAnyH_take (i := 11) (oi := ⟨some 74, _, _, _, _, _⟩) (v := .bool true) rfl (by kernel_rfl) (by kernel_rfl) (by kernel_rfl) (fun _ _ _ h => h) (Or.inl ⟨by kernel_rfl, fun w hSw => by ((try dsimp only at hSw); go_simp; done)⟩) (by assumption) ?_
                          (try simp only [Act.put, List.setIfInBounds_toArray, List.set_cons_zero, List.set_cons_succ])
                          refine wpAnyH_take (i := 12) (oi := ⟨some 75, _, _, _, _, _⟩) (v := .slice (some ⟨g, 0, none⟩) d.N c4) rfl (by kernel_rfl) (by kernel_rfl) (by kernel_rfl) (fun _ _ _ h => h) (Or.inl ⟨by kernel_rfl, fun w hSw => by ((try dsimp only at hSw); go_simp; done)⟩) (by assumption) ?_
                          (try simp only [Act.put, List.setIfInBounds_toArray, List.set_cons_zero, List.set_cons_succ])
                          refine wpAnyH_take (i := 13) (oi := ⟨some 76, _, _, _, _, _⟩) (v := .int .i64 (a : Int)) rfl (by kernel_rfl) (by kernel_rfl) (by kernel_rfl) (fun _ _ _ h => h) (Or.inl ⟨by kernel_rfl, fun w hSw => by ((try dsimp only at hSw); go_simp; done)⟩) (by assumption) ?_
                          (try simp only [Act.put, List.setIfInBounds_toArray, List.set_cons_zero, List.set_cons_succ])
                          refine wpAnyH_take (i := 14) (oi := ⟨some 77, _, _, _, _, _⟩) (v := .pointer (some ⟨g, a * 14, none⟩)) rfl (by kernel_rfl) (by kernel_rfl) (by kernel_rfl) (fun _ _ _ h => h) (Or.inl ⟨by kernel_rfl, fun w hSw => by ((try dsimp only at hSw); go_simp; done)⟩) (by assumption) ?_
                          (try simp only [Act.put, List.setIfInBounds_toArray, List.set_cons_zero, List.set_cons_succ])
                          refine wpAnyH_take (i := 15) (oi := ⟨some 78, _, _, _, _, _⟩) (v := X.V) rfl (by kernel_rfl) (by kernel_rfl) (by kernel_rfl) (fun _ _ _ h => h) (Or.inl ⟨by kernel_rfl, fun w hSw => by ((try dsimp only at hSw); go_simp; done)⟩) (by assumption) ?_
                          (try simp only [Act.put, List.setIfInBounds_toArray, List.set_cons_zero, List.set_cons_succ])
                          refine wpAnyH_ready (rs := [16]) (by kernel_rfl) (by simp) ?_
                          refine AllReadyH.cons (o := ⟨some 79, _, _, _, _, _⟩) rfl (fun K hK => ?_) AllReadyH.nil
                          go_simp
                          ((go_at_call 23; (with_reducible refine (KMX.out _).mono ?_); rintro e' wa ⟨rfl, hb⟩; have BA := Lib.hid (BD0.out.trans (hb.mono BD0.out.size)); clear hb))
                          (try go_wp2_with fail)
                          refine hK.out _ _ ?_ (fun hHeld => ?_)
                          · exact KS.out _ BA.out
                          clear hK K
                          (try simp only [Act.put, List.setIfInBounds_toArray, List.set_cons_zero, List.set_cons_succ])
                          refine wpAnyH_take (i := 17) (oi := ⟨some 80, _, _, _, _, _⟩) (v := .bool true) rfl (by kernel_rfl) (by kernel_rfl) (by kernel_rfl) (fun _ _ _ h => h) (Or.inl ⟨by kernel_rfl, fun w hSw => by ((try dsimp only at hSw); go_simp; done)⟩) (by assumption) ?_
                          (try simp only [Act.put, List.setIfInBounds_toArray, List.set_cons_zero, List.set_cons_succ])
                          refine wpAnyH_take (i := 18) (oi := ⟨some 81, _, _, _, _, _⟩) (v := .bool true) rfl (by kernel_rfl) (by kernel_rfl) (by kernel_rfl) (fun _ _ _ h => h) (Or.inl ⟨by kernel_rfl, fun w hSw => by ((try dsimp only at hSw); go_simp; done)⟩) (by assumption) ?_
                          (try simp only [Act.put, List.setIfInBounds_toArray, List.set_cons_zero, List.set_cons_succ])
                          refine wpAnyH_take (i := 19) (oi := ⟨some 82, _, _, _, _, _⟩) (v := .slice (some ⟨g, 0, none⟩) d.N c4) rfl (by kernel_rfl) (by kernel_rfl) (by kernel_rfl) (fun _ _ _ h => h) (Or.inl ⟨by kernel_rfl, fun w hSw => by ((try dsimp only at hSw); go_simp; done)⟩) (by assumption) ?_
                          (try simp only [Act.put, List.setIfInBounds_toArray, List.set_cons_zero, List.set_cons_succ])
                          refine wpAnyH_take (i := 20) (oi := ⟨some 83, _, _, _, _, _⟩) (v := .int .i64 (b : Int)) rfl (by kernel_rfl) (by kernel_rfl) (by kernel_rfl) (fun _ _ _ h => h) (Or.inl ⟨by kernel_rfl, fun w hSw => by ((try dsimp only at hSw); go_simp; done)⟩) (by assumption) ?_
                          (try simp only [Act.put, List.setIfInBounds_toArray, List.set_cons_zero, List.set_cons_succ])
                          refine wpAnyH_take (i := 21) (oi := ⟨some 84, _, _, _, _, _⟩) (v := .pointer (some ⟨g, b * 14, none⟩)) rfl (by kernel_rfl) (by kernel_rfl) (by kernel_rfl) (fun _ _ _ h => h) (Or.inl ⟨by kernel_rfl, fun w hSw => by ((try dsimp only at hSw); go_simp; done)⟩) (by assumption) ?_
                          (try simp only [Act.put, List.setIfInBounds_toArray, List.set_cons_zero, List.set_cons_succ])
                          refine wpAnyH_take (i := 22) (oi := ⟨some 85, _, _, _, _, _⟩) (v := Y.V) rfl (by kernel_rfl) (by kernel_rfl) (by kernel_rfl) (fun _ _ _ h => h) (Or.inl ⟨by kernel_rfl, fun w hSw => by ((try dsimp only at hSw); go_simp; done)⟩) (by assumption) ?_
                          (try simp only [Act.put, List.setIfInBounds_toArray, List.set_cons_zero, List.set_cons_succ])
                          refine wpAnyH_ready (rs := [23]) (by kernel_rfl) (by simp) ?_
                          refine AllReadyH.cons (o := ⟨some 86, _, _, _, _, _⟩) rfl (fun K hK => ?_) AllReadyH.nil
                          go_simp
                          ((go_at_call 23; (with_reducible refine (KMY.out _).mono ?_); rintro e' wb ⟨rfl, hb⟩; have BB := Lib.hid (BA.out.trans (hb.mono BA.out.size)); clear hb))
                          (try go_wp2_with fail)
                          refine hK.out _ _ ?_ (fun hHeld => ?_)
                          · exact KS.out _ BB.out
                          clear hK K
                          (try simp only [Act.put, List.setIfInBounds_toArray, List.set_cons_zero, List.set_cons_succ])
                          refine wpAnyH_take (i := 24) (oi := ⟨some 87, _, _, _, _, _⟩) (v := .bool false) rfl (by kernel_rfl) (by kernel_rfl) (by kernel_rfl) (fun _ _ _ h => h) (Or.inl ⟨by kernel_rfl, fun w hSw => by ((try dsimp only at hSw); go_simp; done)⟩) (by assumption) ?_
                          (try simp only [Act.put, List.setIfInBounds_toArray, List.set_cons_zero, List.set_cons_succ])
                          refine wpAnyH_take (i := 25) (oi := ⟨some 88, _, _, _, _, _⟩) (v := .bool false) rfl (by kernel_rfl) (by kernel_rfl) (by kernel_rfl) (fun _ _ _ h => h) (Or.inl ⟨by kernel_rfl, fun w hSw => by ((try dsimp only at hSw); go_simp; done)⟩) (by assumption) ?_
                          (try simp only [Act.put, List.setIfInBounds_toArray, List.set_cons_zero, List.set_cons_succ])
                          refine wpAnyH_take (i := 26) (oi := ⟨some 89, _, _, _, _, _⟩) (v := undef) rfl (by kernel_rfl) (by kernel_rfl) (by kernel_rfl) (fun _ _ _ h => h) (Or.inr ⟨by kernel_rfl, rfl⟩) (by assumption) ?_
                          (try simp only [Act.put, List.setIfInBounds_toArray, List.set_cons_zero, List.set_cons_succ])
                          refine wpAnyH_take (i := 27) (oi := ⟨some 90, _, _, _, _, _⟩) (v := undef) rfl (by kernel_rfl) (by kernel_rfl) (by kernel_rfl) (fun _ _ _ h => h) (Or.inr ⟨by kernel_rfl, rfl⟩) (by assumption) ?_
                          (try simp only [Act.put, List.setIfInBounds_toArray, List.set_cons_zero, List.set_cons_succ])
                          refine wpAnyH_take (i := 28) (oi := ⟨some 91, _, _, _, _, _⟩) (v := undef) rfl (by kernel_rfl) (by kernel_rfl) (by kernel_rfl) (fun _ _ _ h => h) (Or.inr ⟨by kernel_rfl, rfl⟩) (by assumption) ?_
                          (try simp only [Act.put, List.setIfInBounds_toArray, List.set_cons_zero, List.set_cons_succ])
                          refine wpAnyH_take (i := 29) (oi := ⟨some 92, _, _, _, _, _⟩) (v := undef) rfl (by kernel_rfl) (by kernel_rfl) (by kernel_rfl) (fun _ _ _ h => h) (Or.inr ⟨by kernel_rfl, rfl⟩) (by assumption) ?_
                          (try simp only [Act.put, List.setIfInBounds_toArray, List.set_cons_zero, List.set_cons_succ])
                          refine wpAnyH_take (i := 30) (oi := ⟨some 93, _, _, _, _, _⟩) (v := undef) rfl (by kernel_rfl) (by kernel_rfl) (by kernel_rfl) (fun _ _ _ h => h) (Or.inr ⟨by kernel_rfl, rfl⟩) (by assumption) ?_
                          (try simp only [Act.put, List.setIfInBounds_toArray, List.set_cons_zero, List.set_cons_succ])
                          refine wpAnyH_take (i := 31) (oi := ⟨some 94, _, _, _, _, _⟩) (v := .bool false) rfl (by kernel_rfl) (by kernel_rfl) (by kernel_rfl) (fun _ _ _ h => h) (Or.inl ⟨by kernel_rfl, fun w hSw => by ((try dsimp only at hSw); go_simp; done)⟩) (by assumption) ?_
                          (try simp only [Act.put, List.setIfInBounds_toArray, List.set_cons_zero, List.set_cons_succ])
                          refine wpAnyH_done (by kernel_rfl) ?_ _
                          go_wp2_with fail
                          go_meet
                          exact ⟨rfl, Lib.hid (BD.out.trans (BB.out.mono BD.out.size))⟩
                        | true =>
                          have HAH : Hid (aheadP d (a : Int) (b : Int) = true) := Lib.hid (ahead_mk9 hab hbl (by rw [← HX1.out, ← HY1.out]; exact HH.out) (by rw [← MX.out]; exact hmx.out) (by rw [← MY.out]; exact hmy.out))
                          have KW1 : Hid (∀ w0, Below wr.drew.heap.size wr.drew w0 → Calls Tryz.prog 18 #[cdV d q', .int .i64 (a : Int), .int .i64 (b : Int)] w0 fun e w' => SaysB w0 true e w') := Lib.hid (fun w0 hb => KW.out w0 (FW.out.on hb).at_ (HT.out.on (FW.out.on hb).below) a b true (sp_whole SP.out hmd.out HAH.out))
                          refine wp_region_held_drew (S := (fun w' => (LoadE (.pointer (some ⟨g, a * 14, none⟩))).run Tryz.prog w' = .ok X.V w' ∧ w'.cell? ⟨g, a * 14, none⟩ = some (.int .i64 X.hart) ∧ (LoadE (.pointer (some ⟨g, b * 14, none⟩))).run Tryz.prog w' = .ok Y.V w' ∧ w'.cell? ⟨g, b * 14, none⟩ = some (.int .i64 Y.hart) ∧ w'.cell? ⟨gD, 0, none⟩ = some (.slice q'.aF d.fs.length q'.cF) ∧ w'.cell? ⟨gD, 1, none⟩ = some (.slice q'.aH d.nh q'.cH) ∧ w'.cell? ⟨gD, 2, none⟩ = some (.slice q'.aR d.fr.length q'.cR) ∧ w'.cell? ⟨gD, 3, none⟩ = some (.slice q'.aO d.od.length q'.cO))) (by kernel_rfl) ?_ (fun hHeld => ?_)
                          · exact KS.out _ (Below.refl _ _)
                          refine wpAnyH_take (i := 0) (oi := ⟨some 63, _, _, _, _, _⟩) (v := .slice (some ⟨g, 0, none⟩) d.N c4) rfl (by kernel_rfl) (by kernel_rfl) (by kernel_rfl) (fun _ _ _ h => h) (Or.inl ⟨by kernel_rfl, fun w hSw => by ((try dsimp only at hSw); go_simp; done)⟩) (by assumption) ?_
                          (try simp only [Act.put, List.setIfInBounds_toArray, List.set_cons_zero, List.set_cons_succ])
                          refine wpAnyH_take (i := 1) (oi := ⟨some 64, _, _, _, _, _⟩) (v := .int .i64 (a : Int)) rfl (by kernel_rfl) (by kernel_rfl) (by kernel_rfl) (fun _ _ _ h => h) (Or.inl ⟨by kernel_rfl, fun w hSw => by ((try dsimp only at hSw); go_simp; done)⟩) (by assumption) ?_
                          (try simp only [Act.put, List.setIfInBounds_toArray, List.set_cons_zero, List.set_cons_succ])
                          refine wpAnyH_take (i := 2) (oi := ⟨some 65, _, _, _, _, _⟩) (v := .pointer (some ⟨g, a * 14, none⟩)) rfl (by kernel_rfl) (by kernel_rfl) (by kernel_rfl) (fun _ _ _ h => h) (Or.inl ⟨by kernel_rfl, fun w hSw => by ((try dsimp only at hSw); go_simp; done)⟩) (by assumption) ?_
                          (try simp only [Act.put, List.setIfInBounds_toArray, List.set_cons_zero, List.set_cons_succ])
                          refine wpAnyH_take (i := 3) (oi := ⟨some 66, _, _, _, _, _⟩) (v := .pointer (some ⟨g, a * 14, none⟩)) rfl (by kernel_rfl) (by kernel_rfl) (by kernel_rfl) (fun _ _ _ h => h) (Or.inl ⟨by kernel_rfl, fun w hSw => by ((try dsimp only at hSw); go_simp; done)⟩) (by assumption) ?_
                          (try simp only [Act.put, List.setIfInBounds_toArray, List.set_cons_zero, List.set_cons_succ])
                          refine wpAnyH_take (i := 4) (oi := ⟨some 67, _, _, _, _, _⟩) (v := .int .i64 X.hart) rfl (by kernel_rfl) (by kernel_rfl) (by kernel_rfl) (fun _ _ _ h => h) (Or.inl ⟨by kernel_rfl, fun w hSw => by ((try dsimp only at hSw); go_simp; done)⟩) (by assumption) ?_
                          (try simp only [Act.put, List.setIfInBounds_toArray, List.set_cons_zero, List.set_cons_succ])
                          refine wpAnyH_take (i := 5) (oi := ⟨some 68, _, _, _, _, _⟩) (v := .slice (some ⟨g, 0, none⟩) d.N c4) rfl (by kernel_rfl) (by kernel_rfl) (by kernel_rfl) (fun _ _ _ h => h) (Or.inl ⟨by kernel_rfl, fun w hSw => by ((try dsimp only at hSw); go_simp; done)⟩) (by assumption) ?_
                          (try simp only [Act.put, List.setIfInBounds_toArray, List.set_cons_zero, List.set_cons_succ])
                          refine wpAnyH_take (i := 6) (oi := ⟨some 69, _, _, _, _, _⟩) (v := .int .i64 (b : Int)) rfl (by kernel_rfl) (by kernel_rfl) (by kernel_rfl) (fun _ _ _ h => h) (Or.inl ⟨by kernel_rfl, fun w hSw => by ((try dsimp only at hSw); go_simp; done)⟩) (by assumption) ?_
                          (try simp only [Act.put, List.setIfInBounds_toArray, List.set_cons_zero, List.set_cons_succ])
                          refine wpAnyH_take (i := 7) (oi := ⟨some 70, _, _, _, _, _⟩) (v := .pointer (some ⟨g, b * 14, none⟩)) rfl (by kernel_rfl) (by kernel_rfl) (by kernel_rfl) (fun _ _ _ h => h) (Or.inl ⟨by kernel_rfl, fun w hSw => by ((try dsimp only at hSw); go_simp; done)⟩) (by assumption) ?_
                          (try simp only [Act.put, List.setIfInBounds_toArray, List.set_cons_zero, List.set_cons_succ])
                          refine wpAnyH_take (i := 8) (oi := ⟨some 71, _, _, _, _, _⟩) (v := .pointer (some ⟨g, b * 14, none⟩)) rfl (by kernel_rfl) (by kernel_rfl) (by kernel_rfl) (fun _ _ _ h => h) (Or.inl ⟨by kernel_rfl, fun w hSw => by ((try dsimp only at hSw); go_simp; done)⟩) (by assumption) ?_
                          (try simp only [Act.put, List.setIfInBounds_toArray, List.set_cons_zero, List.set_cons_succ])
                          refine wpAnyH_take (i := 9) (oi := ⟨some 72, _, _, _, _, _⟩) (v := .int .i64 Y.hart) rfl (by kernel_rfl) (by kernel_rfl) (by kernel_rfl) (fun _ _ _ h => h) (Or.inl ⟨by kernel_rfl, fun w hSw => by ((try dsimp only at hSw); go_simp; done)⟩) (by assumption) ?_
                          (try simp only [Act.put, List.setIfInBounds_toArray, List.set_cons_zero, List.set_cons_succ])
                          refine wpAnyH_take (i := 10) (oi := ⟨some 73, _, _, _, _, _⟩) (v := .bool true) rfl (by kernel_rfl) (by kernel_rfl) (by kernel_rfl) (fun _ _ _ h => h) (Or.inl ⟨by kernel_rfl, fun w hSw => by ((try dsimp only at hSw); go_simp; done)⟩) (by assumption) ?_
                          (try simp only [Act.put, List.setIfInBounds_toArray, List.set_cons_zero, List.set_cons_succ])
                          refine wpAnyH_take (i := 11) (oi := ⟨some 74, _, _, _, _, _⟩) (v := .bool true) rfl (by kernel_rfl) (by kernel_rfl) (by kernel_rfl) (fun _ _ _ h => h) (Or.inl ⟨by kernel_rfl, fun w hSw => by ((try dsimp only at hSw); go_simp; done)⟩) (by assumption) ?_
                          (try simp only [Act.put, List.setIfInBounds_toArray, List.set_cons_zero, List.set_cons_succ])
                          refine wpAnyH_take (i := 12) (oi := ⟨some 75, _, _, _, _, _⟩) (v := .slice (some ⟨g, 0, none⟩) d.N c4) rfl (by kernel_rfl) (by kernel_rfl) (by kernel_rfl) (fun _ _ _ h => h) (Or.inl ⟨by kernel_rfl, fun w hSw => by ((try dsimp only at hSw); go_simp; done)⟩) (by assumption) ?_
                          (try simp only [Act.put, List.setIfInBounds_toArray, List.set_cons_zero, List.set_cons_succ])
                          refine wpAnyH_take (i := 13) (oi := ⟨some 76, _, _, _, _, _⟩) (v := .int .i64 (a : Int)) rfl (by kernel_rfl) (by kernel_rfl) (by kernel_rfl) (fun _ _ _ h => h) (Or.inl ⟨by kernel_rfl, fun w hSw => by ((try dsimp only at hSw); go_simp; done)⟩) (by assumption) ?_
                          (try simp only [Act.put, List.setIfInBounds_toArray, List.set_cons_zero, List.set_cons_succ])
                          refine wpAnyH_take (i := 14) (oi := ⟨some 77, _, _, _, _, _⟩) (v := .pointer (some ⟨g, a * 14, none⟩)) rfl (by kernel_rfl) (by kernel_rfl) (by kernel_rfl) (fun _ _ _ h => h) (Or.inl ⟨by kernel_rfl, fun w hSw => by ((try dsimp only at hSw); go_simp; done)⟩) (by assumption) ?_
                          (try simp only [Act.put, List.setIfInBounds_toArray, List.set_cons_zero, List.set_cons_succ])
                          refine wpAnyH_take (i := 15) (oi := ⟨some 78, _, _, _, _, _⟩) (v := X.V) rfl (by kernel_rfl) (by kernel_rfl) (by kernel_rfl) (fun _ _ _ h => h) (Or.inl ⟨by kernel_rfl, fun w hSw => by ((try dsimp only at hSw); go_simp; done)⟩) (by assumption) ?_
                          (try simp only [Act.put, List.setIfInBounds_toArray, List.set_cons_zero, List.set_cons_succ])
                          refine wpAnyH_ready (rs := [16]) (by kernel_rfl) (by simp) ?_
                          refine AllReadyH.cons (o := ⟨some 79, _, _, _, _, _⟩) rfl (fun K hK => ?_) AllReadyH.nil
                          go_simp
                          ((go_at_call 23; (with_reducible refine (KMX.out _).mono ?_); rintro e' wa ⟨rfl, hb⟩; have BA := Lib.hid (BD0.out.trans (hb.mono BD0.out.size)); clear hb))
                          (try go_wp2_with fail)
                          refine hK.out _ _ ?_ (fun hHeld => ?_)
                          · exact KS.out _ BA.out
                          clear hK K
                          (try simp only [Act.put, List.setIfInBounds_toArray, List.set_cons_zero, List.set_cons_succ])
                          refine wpAnyH_take (i := 17) (oi := ⟨some 80, _, _, _, _, _⟩) (v := .bool true) rfl (by kernel_rfl) (by kernel_rfl) (by kernel_rfl) (fun _ _ _ h => h) (Or.inl ⟨by kernel_rfl, fun w hSw => by ((try dsimp only at hSw); go_simp; done)⟩) (by assumption) ?_
                          (try simp only [Act.put, List.setIfInBounds_toArray, List.set_cons_zero, List.set_cons_succ])
                          refine wpAnyH_take (i := 18) (oi := ⟨some 81, _, _, _, _, _⟩) (v := .bool true) rfl (by kernel_rfl) (by kernel_rfl) (by kernel_rfl) (fun _ _ _ h => h) (Or.inl ⟨by kernel_rfl, fun w hSw => by ((try dsimp only at hSw); go_simp; done)⟩) (by assumption) ?_
                          (try simp only [Act.put, List.setIfInBounds_toArray, List.set_cons_zero, List.set_cons_succ])
                          refine wpAnyH_take (i := 19) (oi := ⟨some 82, _, _, _, _, _⟩) (v := .slice (some ⟨g, 0, none⟩) d.N c4) rfl (by kernel_rfl) (by kernel_rfl) (by kernel_rfl) (fun _ _ _ h => h) (Or.inl ⟨by kernel_rfl, fun w hSw => by ((try dsimp only at hSw); go_simp; done)⟩) (by assumption) ?_
                          (try simp only [Act.put, List.setIfInBounds_toArray, List.set_cons_zero, List.set_cons_succ])
                          refine wpAnyH_take (i := 20) (oi := ⟨some 83, _, _, _, _, _⟩) (v := .int .i64 (b : Int)) rfl (by kernel_rfl) (by kernel_rfl) (by kernel_rfl) (fun _ _ _ h => h) (Or.inl ⟨by kernel_rfl, fun w hSw => by ((try dsimp only at hSw); go_simp; done)⟩) (by assumption) ?_
                          (try simp only [Act.put, List.setIfInBounds_toArray, List.set_cons_zero, List.set_cons_succ])
                          refine wpAnyH_take (i := 21) (oi := ⟨some 84, _, _, _, _, _⟩) (v := .pointer (some ⟨g, b * 14, none⟩)) rfl (by kernel_rfl) (by kernel_rfl) (by kernel_rfl) (fun _ _ _ h => h) (Or.inl ⟨by kernel_rfl, fun w hSw => by ((try dsimp only at hSw); go_simp; done)⟩) (by assumption) ?_
                          (try simp only [Act.put, List.setIfInBounds_toArray, List.set_cons_zero, List.set_cons_succ])
                          refine wpAnyH_take (i := 22) (oi := ⟨some 85, _, _, _, _, _⟩) (v := Y.V) rfl (by kernel_rfl) (by kernel_rfl) (by kernel_rfl) (fun _ _ _ h => h) (Or.inl ⟨by kernel_rfl, fun w hSw => by ((try dsimp only at hSw); go_simp; done)⟩) (by assumption) ?_
                          (try simp only [Act.put, List.setIfInBounds_toArray, List.set_cons_zero, List.set_cons_succ])
                          refine wpAnyH_ready (rs := [23]) (by kernel_rfl) (by simp) ?_
                          refine AllReadyH.cons (o := ⟨some 86, _, _, _, _, _⟩) rfl (fun K hK => ?_) AllReadyH.nil
                          go_simp
                          ((go_at_call 23; (with_reducible refine (KMY.out _).mono ?_); rintro e' wb ⟨rfl, hb⟩; have BB := Lib.hid (BA.out.trans (hb.mono BA.out.size)); clear hb))
                          (try go_wp2_with fail)
                          refine hK.out _ _ ?_ (fun hHeld => ?_)
                          · exact KS.out _ BB.out
                          clear hK K
                          (try simp only [Act.put, List.setIfInBounds_toArray, List.set_cons_zero, List.set_cons_succ])
                          refine wpAnyH_take (i := 24) (oi := ⟨some 87, _, _, _, _, _⟩) (v := .bool true) rfl (by kernel_rfl) (by kernel_rfl) (by kernel_rfl) (fun _ _ _ h => h) (Or.inl ⟨by kernel_rfl, fun w hSw => by ((try dsimp only at hSw); go_simp; done)⟩) (by assumption) ?_
                          (try simp only [Act.put, List.setIfInBounds_toArray, List.set_cons_zero, List.set_cons_succ])
                          refine wpAnyH_take (i := 25) (oi := ⟨some 88, _, _, _, _, _⟩) (v := .bool true) rfl (by kernel_rfl) (by kernel_rfl) (by kernel_rfl) (fun _ _ _ h => h) (Or.inl ⟨by kernel_rfl, fun w hSw => by ((try dsimp only at hSw); go_simp; done)⟩) (by assumption) ?_
                          (try simp only [Act.put, List.setIfInBounds_toArray, List.set_cons_zero, List.set_cons_succ])
                          refine wpAnyH_take (i := 26) (oi := ⟨some 89, _, _, _, _, _⟩) (v := ?v26) rfl (by kernel_rfl) (by kernel_rfl) (by kernel_rfl) (fun _ _ _ h => h) (Or.inl ⟨by kernel_rfl, ?h26⟩) (by assumption) ?_
                          case h26 => ((intro w hSw; (try dsimp only at hSw); go_simp) <;> (try with_reducible rfl))
                          (try simp only [Act.put, List.setIfInBounds_toArray, List.set_cons_zero, List.set_cons_succ])
                          refine wpAnyH_take (i := 27) (oi := ⟨some 90, _, _, _, _, _⟩) (v := .int .i64 (a : Int)) rfl (by kernel_rfl) (by kernel_rfl) (by kernel_rfl) (fun _ _ _ h => h) (Or.inl ⟨by kernel_rfl, fun w hSw => by ((try dsimp only at hSw); go_simp; done)⟩) (by assumption) ?_
                          (try simp only [Act.put, List.setIfInBounds_toArray, List.set_cons_zero, List.set_cons_succ])
                          refine wpAnyH_take (i := 28) (oi := ⟨some 91, _, _, _, _, _⟩) (v := .int .i64 (b : Int)) rfl (by kernel_rfl) (by kernel_rfl) (by kernel_rfl) (fun _ _ _ h => h) (Or.inl ⟨by kernel_rfl, fun w hSw => by ((try dsimp only at hSw); go_simp; done)⟩) (by assumption) ?_
                          (try simp only [Act.put, List.setIfInBounds_toArray, List.set_cons_zero, List.set_cons_succ])
                          refine wpAnyH_ready (rs := [29]) (by kernel_rfl) (by simp) ?_
                          refine AllReadyH.cons (o := ⟨some 92, _, _, _, _, _⟩) rfl (fun K hK => ?_) AllReadyH.nil
                          go_simp
                          ((go_at_call 18; (with_reducible refine (KW1.out _ BB.out).mono ?_); rintro e' wd ⟨rfl, hb⟩; have BC := Lib.hid (BB.out.trans (hb.mono BB.out.size)); clear hb))
                          (try go_wp2_with fail)
                          refine hK.out _ _ ?_ (fun hHeld => ?_)
                          · exact KS.out _ BC.out
                          clear hK K
                          (try simp only [Act.put, List.setIfInBounds_toArray, List.set_cons_zero, List.set_cons_succ])
                          refine wpAnyH_take (i := 30) (oi := ⟨some 93, _, _, _, _, _⟩) (v := .bool false) rfl (by kernel_rfl) (by kernel_rfl) (by kernel_rfl) (fun _ _ _ h => h) (Or.inl ⟨by kernel_rfl, fun w hSw => by ((try dsimp only at hSw); go_simp; done)⟩) (by assumption) ?_
                          (try simp only [Act.put, List.setIfInBounds_toArray, List.set_cons_zero, List.set_cons_succ])
                          refine wpAnyH_take (i := 31) (oi := ⟨some 94, _, _, _, _, _⟩) (v := .bool false) rfl (by kernel_rfl) (by kernel_rfl) (by kernel_rfl) (fun _ _ _ h => h) (Or.inl ⟨by kernel_rfl, fun w hSw => by ((try dsimp only at hSw); go_simp; done)⟩) (by assumption) ?_
                          (try simp only [Act.put, List.setIfInBounds_toArray, List.set_cons_zero, List.set_cons_succ])
                          refine wpAnyH_done (by kernel_rfl) ?_ _
                          go_wp2_with fail
                          go_meet
                          exact ⟨rfl, Lib.hid (BD.out.trans (BC.out.mono BD.out.size))⟩
                  case rest =>
                    obtain ⟨rfl, HB21⟩ := hcut
                    have HBD2 := Lib.hid (HBb.out.trans (HB21.out.mono HBb.out.size))
                    go_wp2
                    go_roundw
                    case rel => exact ⟨b + 1, by omega, by omega, by go_num, HBD2⟩
                    case measure => simp [intOf]; omega
                · obtain rfl : b = d.N := by omega
                  go_wp2
                  go_roundw
                  case rel => exact ⟨a + 1, by omega, by go_num, HBb⟩
                  case measure => simp [intOf]; omega
            · obtain rfl : a = d.N := by omega
              have FZ := Lib.hid (G9.out.on HBa.out)
              obtain ⟨x0, x1, x2, x3⟩ := FZ.out.box.facts
              go_wp2_with (go_at_call 20; (with_reducible refine (KF.out _ FZ.out.at_).mono ?_); rintro e' w10 ⟨rfl, hb⟩; have FY := Lib.hid (FZ.out.on hb); clear hb x0 x1 x2 x3)
              go_ret
              exact ⟨rfl, FY.out.below⟩
end Go.Proofs.YtgkiaeddlahngaaGreatDoor
