/-
  Proved here: the kit's LightCand with at most 30 events; nothing that was there is changed. Condition: none but that a candidate lies there.
-/
import Derived.Test.YtcbfokbdiefdeaaGreatDoorCdNumber
namespace Go.Proofs.YtcbfokbdiefdeaaGreatDoor
set_option linter.unusedVariables false
set_option linter.unusedSimpArgs false
open Go.RowKit
attribute [local go_sem ↓] fold_E fold_SE

theorem light_none30 (a : Option Addr) (c : Nat) (el : Nat → El) (w : World) : Calls Tryz.prog 43 #[.slice a 0 c, .int .i64 30] w fun e w' => LightIs w 0 el e w' := by
  go_enter Tryz.func43, Tryz.ntmps43
  go_wp2
  refine wp_loop_rounds 1 ?_
  rw [rounds_succ]
  go_wp2
  go_ret
  exact ⟨true, rfl, fun _ => ⟨by omega, fun k hk => absurd hk (by omega)⟩, Below.refl _ _⟩
theorem light_long30 (a : Option Addr) (n c : Nat) (el : Nat → El) (w : World) (hn : 30 < n) : Calls Tryz.prog 43 #[.slice a n c, .int .i64 30] w fun e w' => LightIs w n el e w' := by
  have d1 : decide (30 < n) = true := by simpa using hn
  go_enter Tryz.func43, Tryz.ntmps43
  go_wp2
  go_ret
  exact ⟨false, rfl, (fun h => by cases h), Below.refl _ _⟩
set_option maxRecDepth 100000 in
set_option maxHeartbeats 4000000 in
theorem light_row30 (n b off c : Nat) (ev : Nat → Ev) (el : Nat → El) (w : World) (hn : n ≤ 30) (h : Rw n b off ev el w) :
    Calls Tryz.prog 43 #[.slice (some ⟨b, off, none⟩) n c, .int .i64 30] w fun e w' => LightIs w n el e w' := by
  have HV := Lib.hid h
  have d1 : decide (30 < n) = false := by simp; omega
  clear h
  go_enter Tryz.func43, Tryz.ntmps43
  go_wp2
  go_loopw [5] (fun vi wr => ∃ (k : Nat), k ≤ n ∧ vi = .int .i64 k ∧ Hid (∀ j, j < k → small (el j)) ∧ Below w.heap.size w wr) (fun vi _ => n - (intOf vi).toNat)
  case atStart => exact ⟨0, Nat.zero_le _, rfl, Lib.hid (fun j hj => absurd hj (by omega)), Below.refl _ _⟩
  case round =>
    obtain ⟨k, hk, rfl, hR, hbel⟩ := hrel
    have HL := Lib.hid hbel
    clear hbel
    by_cases hlt : k < n
    · have HE := Lib.hid (HV.out.below HL.out)
      obtain ⟨u0, u1, u2⟩ := (HE.out.at_ k hlt).deps
      obtain ⟨a1, c1, e1⟩ := (HE.out.reads k hlt).1.len
      obtain ⟨a2, c2, e2⟩ := (HE.out.reads k hlt).2.1.len
      obtain ⟨a3, c3, e3⟩ := (HE.out.reads k hlt).2.2.len
      rw [e1] at u0
      rw [e2] at u1
      rw [e3] at u2
      clear e1 e2 e3
      by_cases hs : small (el k)
      · have KL := Lib.hid (fun w0 => light_b a1 a2 a3 (el k).a.length (el k).d.length (el k).y.length c1 c2 c3 true (Lib.hid (by simp [hs.1, hs.2.1, hs.2.2])) w0)
        have HS2 : Hid (∀ j, j < k + 1 → small (el j)) := Lib.hid (fun j hj => by
          by_cases h : j < k
          · exact hR.out j h
          · obtain rfl : j = k := by omega
            exact hs)
        clear hs
        go_wp2_with (go_at_call 67; (with_reducible refine (KL.out _).mono ?_); rintro e' w1 ⟨rfl, hb⟩; have L1 := Lib.hid (HL.out.trans (hb.mono HL.out.size)); clear hb)
        go_roundw
        case rel => exact ⟨k + 1, by omega, by go_num, HS2, L1.out⟩
        case measure => simp [intOf]; omega
      · have KL := Lib.hid (fun w0 => light_b a1 a2 a3 (el k).a.length (el k).d.length (el k).y.length c1 c2 c3 false (Lib.hid (by
          have hs' : ¬ ((el k).a.length ≤ 60 ∧ (el k).d.length ≤ 60 ∧ (el k).y.length ≤ 60) := hs
          cases h : (decide ((el k).a.length ≤ 60) && (decide ((el k).d.length ≤ 60) && decide ((el k).y.length ≤ 60))) with
          | false => rfl
          | true => exact absurd (by simpa using h) hs')) w0)
        clear hs
        go_wp2_with (go_at_call 67; (with_reducible refine (KL.out _).mono ?_); rintro e' w1 ⟨rfl, hb⟩; have L1 := Lib.hid (HL.out.trans (hb.mono HL.out.size)); clear hb)
        go_ret
        exact ⟨false, rfl, (fun h => by cases h), L1.out⟩
    · obtain rfl : k = n := by omega
      go_wp2
      go_ret
      exact ⟨true, rfl, fun _ => ⟨by omega, hR.out⟩, HL.out⟩
theorem light_v30 {w : World} {a : Option Addr} {n c : Nat} {ev : Nat → Ev} {el : Nat → El} (h : RowV w (.slice a n c) n ev el) : Calls Tryz.prog 43 #[.slice a n c, .int .i64 30] w fun e w' => LightIs w n el e w' := by
  obtain ⟨a', c', e, _, h⟩ := h
  injection e with e1 e2 e3
  subst e1 e3
  rcases h with rfl | ⟨b, off, rfl, h⟩
  · exact light_none30 a c el w
  · by_cases hn : n ≤ 30
    · exact light_row30 n b off c ev el w hn h
    · exact light_long30 _ n c el w (by omega)
set_option maxRecDepth 100000 in
set_option maxHeartbeats 8000000 in
theorem lightCand_any30 (c : Cd) (q : Cv) (w : World) (h : CAt c q w) : Calls Tryz.prog 15 #[cdV c q, .int .i64 30] w fun e w' => LightC c w e w' := by
  have H := Lib.hid h
  have HB0 := Lib.hid (box_below w (.cells #[.slice q.aF c.fs.length q.cF, .slice q.aH c.nh q.cH, .slice q.aR c.fr.length q.cR, .slice q.aO c.od.length q.cO] 26))
  clear h
  go_enter Tryz.func15, Tryz.ntmps15
  go_wp2
  go_loopw [5, 6] (fun vn vi wr => ∃ (k : Nat), k ≤ c.nh ∧ k ≤ 10 ∧ vi = .int .i64 k ∧ vn = .int .i64 (baseL c.len k : Nat) ∧ Hid (smallTo c k) ∧ Hid (CdAt c q w.heap.size wr) ∧ Below w.heap.size w wr) (fun _ vi _ => 10 - (intOf vi).toNat)
  case atStart => exact ⟨0, Nat.zero_le _, Nat.zero_le _, rfl, rfl, Lib.hid (fun h hh => absurd hh (by omega)), Lib.hid (CdAt.new c q w), HB0.out⟩
  case round =>
    obtain ⟨k, hk, hk10, rfl, rfl, hS, hbx, hbel⟩ := hrel
    have HB := Lib.hid hbel
    have hbase := smallTo.base k hS.out
    clear hbel
    obtain ⟨u0, u1, u2, u3⟩ := hbx.out.facts
    by_cases hlt : k < c.nh ∧ k < 10
    · obtain ⟨h1, h2⟩ := hlt
      obtain ⟨b, off, a2, c2, hq, hc, _, hrow⟩ := (H.out.harts.below HB.out).row k h1
      have KL := Lib.hid (light_v30 (w := wr) hrow)
      have hbk : baseL c.len (k + 1) = baseL c.len k + c.len k := rfl
      have hlk := Lib.hid hrow
      clear hrow
      obtain ⟨L, hL⟩ : ∃ L, baseL c.len k = L := ⟨_, rfl⟩
      rw [hL] at hbase hbk ⊢
      have h1' : (k : Int) < (c.nh : Int) := by omega
      have h2' : (k : Int) < 10 := by omega
      go_wp2_with (go_at_call 43; (with_reducible refine (KL.out).mono ?_); rintro e' w2 ⟨r, rfl, hr, hb⟩; have X2 := Lib.hid (hbx.out.on hb); have L2 := Lib.hid (HB.out.trans (hb.mono HB.out.size)); have R2 := Lib.hid hr; clear hb hr)
      · go_ret
        exact LightC.no L2.out
      · rename_i hr
        have hr2 := Lib.hid (R2.out (by simpa using hr))
        have hS2 : Hid (smallTo c (k + 1)) := Lib.hid (fun h hh => by
          rcases Nat.lt_or_ge h k with h3 | h3
          · exact hS.out h h3
          · obtain rfl : h = k := by omega
            exact hr2.out)
        have hwr : wrap64 ((L : Int) + (c.len k : Int)) = ((baseL c.len (k + 1) : Nat) : Int) := by
          rw [IntWalk.wrap64_in _ (by have := hr2.out.1; omega), hbk]; omega
        rw [hwr]
        clear hr hwr
        go_roundw
        case rel => exact ⟨k + 1, by omega, by omega, by go_num, rfl, hS2, X2, L2.out⟩
        case measure => simp [intOf]; omega
    · by_cases h9 : c.nh ≤ 9
      rotate_left
      · have d9 : decide ((c.nh : Int) ≤ 9) = false := by simp; omega
        by_cases hl : k < c.nh
        · have hk : k = 10 := by omega
          subst hk
          have h1' : (10 : Int) < (c.nh : Int) := by omega
          go_wp2
          go_ret
          exact LightC.no HB.out
        · obtain rfl : k = c.nh := by omega
          have h1' : decide ((c.nh : Int) < (c.nh : Int)) = false := by simp
          go_wp2
          go_ret
          exact LightC.no HB.out
      obtain hkn : k = c.nh := by omega
      rw [hkn] at hbase hS ⊢
      have d9 : decide ((c.nh : Int) ≤ 9) = true := by simp; omega
      have h1' : decide ((c.nh : Int) < (c.nh : Int)) = false := by simp
      have hLw := Lib.hid (fun (h2 : c.N ≤ 60) (h3 : c.fs.length ≤ 60) (h4 : c.fr.length ≤ 120) (h5 : c.od.length ≤ 120) => (show Lw c from ⟨h9, h2, hS.out, h3, h4, h5⟩))
      obtain ⟨N, hN⟩ : ∃ N, baseL c.len c.nh = N := ⟨_, rfl⟩
      have hN2 : Hid (c.N = N) := Lib.hid hN
      rw [hN] at hbase ⊢
      rw [hN2.out] at hLw
      clear hkn hk hk10 hlt h9 hN
      by_cases e2 : N ≤ 30
      · by_cases e3 : c.fs.length ≤ 30
        · by_cases e4 : c.fr.length ≤ 60
          · by_cases e5 : c.od.length ≤ 60
            · have g2 : decide ((N : Int) ≤ 30) = true := by simp; omega
              have g3 : decide ((c.fs.length : Int) ≤ 30) = true := by simp; omega
              have g4 : decide ((c.fr.length : Int) ≤ 60) = true := by simp; omega
              have g5 : decide ((c.od.length : Int) ≤ 60) = true := by simp; omega
              have hOK := Lib.hid (hLw.out (by omega) (by omega) (by omega) (by omega))
              clear e2 e3 e4 e5
              go_wp2
              go_ret
              exact ⟨_, rfl, fun _ => hOK.out, HB.out⟩
            · have g2 : decide ((N : Int) ≤ 30) = true := by simp; omega
              have g3 : decide ((c.fs.length : Int) ≤ 30) = true := by simp; omega
              have g4 : decide ((c.fr.length : Int) ≤ 60) = true := by simp; omega
              have g5 : decide ((c.od.length : Int) ≤ 60) = false := by simp; omega
              clear e2 e3 e4 e5
              go_wp2
              go_ret
              exact LightC.no HB.out
          · have g2 : decide ((N : Int) ≤ 30) = true := by simp; omega
            have g3 : decide ((c.fs.length : Int) ≤ 30) = true := by simp; omega
            have g4 : decide ((c.fr.length : Int) ≤ 60) = false := by simp; omega
            clear e2 e3 e4
            go_wp2
            go_ret
            exact LightC.no HB.out
        · have g2 : decide ((N : Int) ≤ 30) = true := by simp; omega
          have g3 : decide ((c.fs.length : Int) ≤ 30) = false := by simp; omega
          clear e2 e3
          go_wp2
          go_ret
          exact LightC.no HB.out
      · have g2 : decide ((N : Int) ≤ 30) = false := by simp; omega
        clear e2
        go_wp2
        go_ret
        exact LightC.no HB.out
end Go.Proofs.YtcbfokbdiefdeaaGreatDoor
