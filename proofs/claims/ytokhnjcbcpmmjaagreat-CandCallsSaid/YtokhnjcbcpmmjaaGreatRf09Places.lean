/-
  Proved here: the document's Places of a candidate that may be: the place of each number; nothing that was there is changed. Condition: a light candidate whose pairs fit.
-/
import Derived.Test.YtokhnjcbcpmmjaaGreatCdPlaces
import Derived.Test.YtokhnjcbcpmmjaaGreatRf09All
namespace Go.Proofs.YtokhnjcbcpmmjaaGreat
set_option linter.unusedVariables false
set_option linter.unusedSimpArgs false
open Go.RowKit
attribute [local go_sem ↓] fold_E fold_SE
attribute [local irreducible] wpStill

theorem Lk.set1 {c : Cd} {q : Cv} {w W : World} {g i : Nat} (h : Lk c q w W) (hg : w.heap.size < g) (u : Value) : Lk c q w (W.setCell ⟨g, i, none⟩ u) :=
  ⟨(Below.heap_setCell W ⟨g, i, none⟩ u w.heap.size (by show w.heap.size ≠ g; omega)).trans h.box, h.below.setCell (by show w.heap.size ≤ g; omega) u, h.here⟩
/-- so many set to -1 -/
def negF (k n : Nat) : Int := if n < k then -1 else 0
set_option maxRecDepth 100000 in
set_option maxHeartbeats 8000000 in
theorem rplaces_yes (c : Cd) (q : Cv) (w : World) (hL : Lt c) (hX : ∀ h, h < c.nh → ∀ k, k < c.len h → PairFits (c.ev h k)) (h : CAt c q w) (hm : c.may = true) : Calls Tryz.prog 16 #[cdV c q] w fun e w' => PlacesIs c w e w' := by
  have KC := Lib.hid (fun w0 h0 => rcheck9_is c q w0 hL hX h0 true hm)
  have S0 := Lib.hid (Lk.start h)
  have HIN := Lib.hid (may_in hm)
  have hn60 := hL.n
  have ho120 := hL.od
  have HFR : Hid (c.fr.length = c.N) := Lib.hid (by
    have hm2 := hm
    rw [may_is] at hm2
    simp only [Bool.and_eq_true] at hm2
    have := hm2.2.2.2.2.2.1
    unfold foundB at this
    rw [Bool.and_eq_true, decide_eq_true_eq] at this
    exact this.1)
  have HO : Hid (c.od.length = 0 ∨ ∃ b off, q.aO = some ⟨b, off, none⟩ ∧ b < w.heap.size ∧ ∀ j, j < c.od.length → w.cell? ⟨b, off + j, none⟩ = some (.int .i64 (atI c.od j))) := Lib.hid (by
    rcases S0.out.here.order with ⟨_, h0⟩ | ⟨b, off, c2, e, _, _, h3, h4⟩
    · exact .inl (by rw [h0]; rfl)
    · injection e with e1 e2 e3
      exact .inr ⟨b, off, e1, h3, h4⟩)
  clear h hm hL hX
  obtain ⟨N, hN⟩ : ∃ N, Hid (c.N = N) := ⟨_, Lib.hid rfl⟩
  obtain ⟨no, hno⟩ : ∃ no, Hid (c.od.length = no) := ⟨_, Lib.hid rfl⟩
  have HF : Hid (∀ W e, (∃ g, e = .returned (.slice (some ⟨g, 0, none⟩) N N) ∧ w.heap.size ≤ g ∧ IntsAt (plcL c no) N g W ∧ Below w.heap.size w W) → PlacesIs c w e W) := Lib.hid (fun W e h => by unfold PlacesIs; rw [hno.out, hN.out]; exact h)
  obtain ⟨u0, u1, u2, u3⟩ := S0.out.box.facts
  rw [hno.out] at HO HIN ho120
  rw [hN.out] at hn60 HIN HFR
  go_enter Tryz.func16, Tryz.ntmps16
  go_upto_region 3 with (go_at_call 9; (with_reducible refine (KC.out _ S0.out.at_).mono ?_); rintro e' w1 ⟨rfl, hb⟩; have S1 := Lib.hid (S0.out.on hb); clear hb u0 u1 u2 u3)
  obtain ⟨u0, u1, u2, u3⟩ := S1.out.box.facts
  have hmk := make_ints N hn60 w1
  rw [HFR.out] at u2
  rw [hno.out] at u3
  obtain ⟨W2, hW2⟩ : ∃ W, w1.alloc (.cells (intsOf (fun _ => 0) N).toArray 3) = W := ⟨_, rfl⟩
  have I2 : Hid (IntsAt (negF 0) N w1.heap.size W2) := Lib.hid (by
    rw [← hW2]
    have e : intsOf (negF 0) N = intsOf (fun _ => 0) N := intsOf_ext (fun k _ => by unfold negF; simp)
    unfold IntsAt
    rw [e]; exact Array.getElem?_push_size)
  have S2 := Lib.hid (S1.out.on (show Below w1.heap.size w1 W2 by rw [← hW2]; exact box_below _ _))
  have G2 : Hid (w.heap.size < w1.heap.size) := Lib.hid (Array.getElem?_eq_some_iff.1 S1.out.box).1
  obtain ⟨g, hg⟩ : ∃ g, w1.heap.size = g := ⟨_, rfl⟩
  rw [hW2] at hmk
  rw [hg] at hmk I2 G2
  clear hW2 hg S1
  go_wp2
  go_loopw [4] (fun vi wr => ∃ (k : Nat), k ≤ N ∧ vi = .int .i64 k ∧ Hid (IntsAt (negF k) N g wr) ∧ Hid (Lk c q w wr)) (fun vi _ => N - (intOf vi).toNat)
  case atStart => exact ⟨0, Nat.zero_le _, rfl, I2, S2⟩
  case round =>
    obtain ⟨k, hk, rfl, hI, hS⟩ := hrel
    by_cases hlt : k < N
    · have zx := hI.out.free k
      have cx := hI.out.cell k hlt
      go_wp2
      go_roundw
      case rel =>
        refine ⟨k + 1, by omega, by go_num, Lib.hid (hI.out.set k (-1) (fun n _ => ?_)), Lib.hid (hS.out.set1 G2.out _)⟩
        unfold negF
        by_cases e : n = k
        · rw [if_pos e, if_pos (by omega)]
        · rw [if_neg e]
          by_cases e2 : n < k
          · rw [if_pos e2, if_pos (by omega)]
          · rw [if_neg e2, if_neg (by omega)]
      case measure => simp [intOf]; omega
    · obtain rfl : k = N := by omega
      have I3 : Hid (IntsAt (plcL c 0) k g wr) := Lib.hid (by
        have := hI.out
        unfold IntsAt at this ⊢
        rw [show intsOf (plcL c 0) k = intsOf (negF k) k from intsOf_ext (fun n hn => by unfold negF; rw [if_pos hn]; rfl)]
        exact this)
      obtain ⟨v0, v1, v2, v3⟩ := hS.out.box.facts
      rw [hno.out] at v3
      have HB3 := Lib.hid hS.out
      clear hI hS
      go_wp2
      go_loopw [5] (fun vi wr2 => ∃ (j : Nat), j ≤ no ∧ vi = .int .i64 j ∧ Hid (IntsAt (plcL c j) k g wr2) ∧ Hid (Lk c q w wr2)) (fun vi _ => no - (intOf vi).toNat)
      case atStart => exact ⟨0, Nat.zero_le _, rfl, I3, HB3⟩
      case round =>
        obtain ⟨j, hj, rfl, hI, hS⟩ := hrel
        obtain ⟨y0, y1, y2, y3⟩ := hS.out.box.facts
        rw [hno.out] at y3
        by_cases hjt : j < no
        · rcases HO.out with h0 | ⟨b, off, hq, hbl, hcell⟩
          · exact absurd h0 (by omega)
          have d0 := (hS.out.below.cell (p := ⟨b, off + j, none⟩) hbl).trans (hcell j hjt)
          obtain ⟨i0, i1⟩ := HIN.out j hjt
          obtain ⟨x, hx⟩ : ∃ x : Nat, atI c.od j = x := ⟨(atI c.od j).toNat, by omega⟩
          have HSET : Hid (∀ n, plcL c (j + 1) n = if n = x then (j : Int) else plcL c j n) := Lib.hid (fun n => by
            show (if (n : Int) = atI c.od j then (j : Int) else plcL c j n) = _
            rw [hx]
            by_cases hn : n = x
            · rw [if_pos hn, if_pos (by omega)]
            · rw [if_neg hn, if_neg (by omega)])
          rw [hx] at d0 i1
          have hxN : x < k := by omega
          have cx := hI.out.cell x hxN
          have zx := hI.out.free x
          rw [hq] at y3
          clear hcell i0 i1 hx
          go_wp2
          go_roundw
          case rel => exact ⟨j + 1, by omega, by go_num, Lib.hid (hI.out.set x j (fun n _ => HSET.out n)), Lib.hid (hS.out.set1 G2.out _)⟩
          case measure => simp [intOf]; omega
        · obtain rfl : j = no := by omega
          go_wp2
          go_ret
          exact HF.out _ _ ⟨g, rfl, Nat.le_of_lt G2.out, hI.out, hS.out.below⟩
end Go.Proofs.YtokhnjcbcpmmjaaGreat
