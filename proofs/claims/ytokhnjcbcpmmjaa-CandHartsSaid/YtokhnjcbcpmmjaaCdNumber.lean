/-
  Proved here: cand's Number answers the number of a hart's event, First what memory had somewhere; nothing that was there is changed. Condition: a light candidate.
  (With it: Proved here: the kit's LightCand; nothing that was there is changed. Condition: none but that a candidate lies there.)
-/
import Derived.Test.YtokhnjcbcpmmjaaCdNumbered
import Derived.Test.YtokhnjcbcpmmjaaEvRowWords
import Derived.Test.YtokhnjcbcpmmjaaCdLook
namespace Go.Proofs.Ytokhnjcbcpmmjaa
set_option linter.unusedVariables false
set_option linter.unusedSimpArgs false
open Go.RowKit
attribute [local go_sem ↓] fold_E fold_SE

/-- little in the first k rows -/
def smallTo (c : Cd) (k : Nat) : Prop := ∀ h, h < k → c.len h ≤ 60 ∧ ∀ j, j < c.len h → small (c.el h j)
theorem smallTo.base {c : Cd} : ∀ (k : Nat), smallTo c k → baseL c.len k ≤ k * 60
  | 0, _ => by simp [baseL]
  | k + 1, h => by
    have ih := smallTo.base k (fun j hj => h j (by omega))
    have h1 := (h k (by omega)).1
    show baseL c.len k + c.len k ≤ _
    omega
structure Lw (c : Cd) : Prop where
  nh : c.nh ≤ 9
  n : c.N ≤ 60
  small : smallTo c c.nh
  fs : c.fs.length ≤ 60
  fr : c.fr.length ≤ 120
  od : c.od.length ≤ 120
def LightC (c : Cd) (w : World) (e : Ending) (w' : World) : Prop := ∃ r, e = .returned (.bool r) ∧ (r = true → Lw c) ∧ Below w.heap.size w w'
theorem LightC.no {c : Cd} {w w' : World} (hb : Below w.heap.size w w') : LightC c w (.returned (.bool false)) w' := ⟨false, rfl, (fun h => by cases h), hb⟩
theorem light_v {w : World} {a : Option Addr} {n c : Nat} {ev : Nat → Ev} {el : Nat → El} (h : RowV w (.slice a n c) n ev el) : Calls Try.prog 14 #[.slice a n c, .int .i64 60] w fun e w' => LightIs w n el e w' := by
  obtain ⟨a', c', e, _, h⟩ := h
  injection e with e1 e2 e3
  subst e1 e3
  rcases h with rfl | ⟨b, off, rfl, h⟩
  · exact light_none a c el w
  · by_cases hn : n ≤ 60
    · exact light_row n b off c ev el w hn h
    · exact light_long _ n c el w (by omega)
set_option maxRecDepth 100000 in
set_option maxHeartbeats 8000000 in
theorem lightCand_any (c : Cd) (q : Cv) (w : World) (h : CAt c q w) : Calls Try.prog 5 #[cdV c q, .int .i64 60] w fun e w' => LightC c w e w' := by
  have H := Lib.hid h
  have HB0 := Lib.hid (box_below w (.cells #[.slice q.aF c.fs.length q.cF, .slice q.aH c.nh q.cH, .slice q.aR c.fr.length q.cR, .slice q.aO c.od.length q.cO] 26))
  clear h
  go_enter Try.func5, Try.ntmps5
  go_wp2
  go_loopw [5, 6] (fun vn vi wr => ∃ (k : Nat), k ≤ c.nh ∧ k ≤ 10 ∧ vi = .int .i64 k ∧ vn = .int .i64 (baseL c.len k : Nat) ∧ Hid (smallTo c k) ∧ Hid (CdAt c q w.heap.size wr) ∧ Below w.heap.size w wr) (fun _ vi _ => 10 - (intOf vi).toNat)
  case atStart => exact ⟨0, Nat.zero_le _, Nat.zero_le _, rfl, rfl, Lib.hid (fun h hh => absurd hh (by omega)), Lib.hid (CdAt.new c q w), HB0.out⟩
  case round =>
    obtain ⟨k, hk, hk10, rfl, rfl, hS, hbx, hbel⟩ := hrel
    have HB := Lib.hid hbel
    have hbase := smallTo.base k hS.out
    clear hbel
    obtain ⟨u0, u1, u2, u3⟩ := hbx.out.facts
    by_cases hlt : k < c.nh ∧ k < 10
    · obtain ⟨h1, h2⟩ := hlt
      obtain ⟨b, off, a2, c2, hq, hc, _, hrow⟩ := (H.out.harts.below HB.out).row k h1
      have KL := Lib.hid (light_v (w := wr) hrow)
      have hbk : baseL c.len (k + 1) = baseL c.len k + c.len k := rfl
      have hlk := Lib.hid hrow
      clear hrow
      obtain ⟨L, hL⟩ : ∃ L, baseL c.len k = L := ⟨_, rfl⟩
      rw [hL] at hbase hbk ⊢
      have h1' : (k : Int) < (c.nh : Int) := by omega
      have h2' : (k : Int) < 10 := by omega
      go_wp2_with (go_at_call 14; (with_reducible refine (KL.out).mono ?_); rintro e' w2 ⟨r, rfl, hr, hb⟩; have X2 := Lib.hid (hbx.out.on hb); have L2 := Lib.hid (HB.out.trans (hb.mono HB.out.size)); have R2 := Lib.hid hr; clear hb hr)
      · go_ret
        exact LightC.no L2.out
      · rename_i hr
        have hr2 := Lib.hid (R2.out (by simpa using hr))
        have hS2 : Hid (smallTo c (k + 1)) := Lib.hid (fun h hh => by
          rcases Nat.lt_or_ge h k with h3 | h3
          · exact hS.out h h3
          · obtain rfl : h = k := by omega
            exact hr2.out)
        have hwr : wrap64 ((L : Int) + (c.len k : Int)) = ((baseL c.len (k + 1) : Nat) : Int) := by
          rw [IntWalk.wrap64_in _ (by have := hr2.out.1; omega), hbk]; omega
        rw [hwr]
        clear hr hwr
        go_roundw
        case rel => exact ⟨k + 1, by omega, by omega, by go_num, rfl, hS2, X2, L2.out⟩
        case measure => simp [intOf]; omega
    · by_cases h9 : c.nh ≤ 9
      rotate_left
      · have d9 : decide ((c.nh : Int) ≤ 9) = false := by simp; omega
        by_cases hl : k < c.nh
        · have hk : k = 10 := by omega
          subst hk
          have h1' : (10 : Int) < (c.nh : Int) := by omega
          go_wp2
          go_ret
          exact LightC.no HB.out
        · obtain rfl : k = c.nh := by omega
          have h1' : decide ((c.nh : Int) < (c.nh : Int)) = false := by simp
          go_wp2
          go_ret
          exact LightC.no HB.out
      obtain hkn : k = c.nh := by omega
      rw [hkn] at hbase hS ⊢
      have d9 : decide ((c.nh : Int) ≤ 9) = true := by simp; omega
      have h1' : decide ((c.nh : Int) < (c.nh : Int)) = false := by simp
      have hLw := Lib.hid (fun (h2 : c.N ≤ 60) (h3 : c.fs.length ≤ 60) (h4 : c.fr.length ≤ 120) (h5 : c.od.length ≤ 120) => (show Lw c from ⟨h9, h2, hS.out, h3, h4, h5⟩))
      obtain ⟨N, hN⟩ : ∃ N, baseL c.len c.nh = N := ⟨_, rfl⟩
      have hN2 : Hid (c.N = N) := Lib.hid hN
      rw [hN] at hbase ⊢
      rw [hN2.out] at hLw
      clear hkn hk hk10 hlt h9 hN
      by_cases e2 : N ≤ 60
      · by_cases e3 : c.fs.length ≤ 60
        · by_cases e4 : c.fr.length ≤ 120
          · by_cases e5 : c.od.length ≤ 120
            · have g2 : decide ((N : Int) ≤ 60) = true := by simp; omega
              have g3 : decide ((c.fs.length : Int) ≤ 60) = true := by simp; omega
              have g4 : decide ((c.fr.length : Int) ≤ 120) = true := by simp; omega
              have g5 : decide ((c.od.length : Int) ≤ 120) = true := by simp; omega
              have hOK := Lib.hid (hLw.out e2 e3 e4 e5)
              clear e2 e3 e4 e5
              go_wp2
              go_ret
              exact ⟨_, rfl, fun _ => hOK.out, HB.out⟩
            · have g2 : decide ((N : Int) ≤ 60) = true := by simp; omega
              have g3 : decide ((c.fs.length : Int) ≤ 60) = true := by simp; omega
              have g4 : decide ((c.fr.length : Int) ≤ 120) = true := by simp; omega
              have g5 : decide ((c.od.length : Int) ≤ 120) = false := by simp; omega
              clear e2 e3 e4 e5
              go_wp2
              go_ret
              exact LightC.no HB.out
          · have g2 : decide ((N : Int) ≤ 60) = true := by simp; omega
            have g3 : decide ((c.fs.length : Int) ≤ 60) = true := by simp; omega
            have g4 : decide ((c.fr.length : Int) ≤ 120) = false := by simp; omega
            clear e2 e3 e4
            go_wp2
            go_ret
            exact LightC.no HB.out
        · have g2 : decide ((N : Int) ≤ 60) = true := by simp; omega
          have g3 : decide ((c.fs.length : Int) ≤ 60) = false := by simp; omega
          clear e2 e3
          go_wp2
          go_ret
          exact LightC.no HB.out
      · have g2 : decide ((N : Int) ≤ 60) = false := by simp; omega
        clear e2
        go_wp2
        go_ret
        exact LightC.no HB.out
end Go.Proofs.Ytokhnjcbcpmmjaa
namespace Go.Proofs.Ytokhnjcbcpmmjaa
set_option linter.unusedVariables false
set_option linter.unusedSimpArgs false
open Go.RowKit
attribute [local go_sem ↓] fold_E fold_SE

end Go.Proofs.Ytokhnjcbcpmmjaa
