/-
  Proved here: the law EventRows answers true of rows; nothing that was there is changed. Condition: the tables of strconv and math/bits as the library lays them; numbers of 64 bits.
-/
import Derived.Test.YtjdfhohchicgbaaDoorEvRowsMap
namespace Go.Proofs.YtjdfhohchicgbaaDoor
open Go.RowKit Go.Maps
attribute [local go_sem ↓] fold_E fold_SE

theorem chk_hart {e : Ev} {l : El} (h : chkE e l = true) : 0 ≤ e.hart ∧ e.hart < 8 := by
  unfold chkE withinB at h
  simp only [Bool.and_eq_true, decide_eq_true_eq] at h
  exact h.2.2.1
set_option maxRecDepth 100000 in
set_option maxHeartbeats 8000000 in
theorem rows_good (hart pos : Int) (n b off c : Nat) (ev : Nat → Ev) (el : Nat → El) (w : World) (hT : TabB w) (h : Rw n b off ev el w) (hs : AllSmall n el) (last : Int) (hr : rowL hart ev el n = some last) (hn0 : 0 < n) (hnc : n ≤ c)
    (hpos : -9223372036854775808 ≤ pos ∧ pos ≤ 9223372036854775807) :
    Calls Tryd.prog 5 #[.int .i64 hart, .slice (some ⟨b, off, none⟩) n c, .int .i64 pos] w fun e w' => SameOk w true e w' := by
  have HT := Lib.hid hT
  have hn60 : n ≤ 60 := hs.1
  have KL := Lib.hid (fun w0 (hb : Below w.heap.size w w0) => light_yes n b off c ev el w0 hs (h.below hb))
  have HV := Lib.hid (h.evs (fun k hk => (hs.2 k hk).n))
  have KR := Lib.hid (fun w0 (hb : Below w.heap.size w w0) => row_b hart n b off c ev el w0 true (by rw [hr]; rfl) (by omega) (HV.out.below hb))
  have KP := Lib.hid (fun k (hk : k < n) w0 (hb : Below w.heap.size w w0) => row_b hart k b off c ev el w0 true (by obtain ⟨l, hl⟩ := rowL_pre hr (show k ≤ n by omega); rw [hl]; rfl) (by omega) ((HV.out.less (show k ≤ n by omega)).below hb))
  have HOK := Lib.hid (fun k (hk : k < n) => (show (ev k).hart = hart ∧ (ev k).pos = k ∧ chkE (ev k) (el k) = true by obtain ⟨l, l', _, h2, _⟩ := rowL_at hr k hk; obtain ⟨p1, p2, p3, _⟩ := step_ok h2; exact ⟨p1, p2, p3⟩))
  have HSC := Lib.hid (fun k (hk : k < n) => rowL_sc hr k hk)
  have hmm := @run_makeMap Tryd.prog
  have hw1 : (Lit.int .i64 1).wf = true := by decide
  clear hT h hs hr
  go_enter Tryd.func5, Tryd.ntmps5
  go_wp2_with (first
    | (go_at_call 7; (with_reducible refine (lives_any _ HT.out).mono ?_); rintro e' w1 ⟨rfl, hb⟩; have L1 := Lib.hid hb; clear hb)
    | (go_at_call 22; (with_reducible refine (KL.out _ L1.out).mono ?_); rintro e' w2 ⟨rfl, hb⟩; have L2 := Lib.hid (L1.out.trans (hb.mono L1.out.size)); clear hb)
    | (go_at_call 12; (with_reducible refine (KR.out _ L2.out).mono ?_); rintro e' w3 ⟨rfl, hb⟩; have L3 := Lib.hid (L2.out.trans (hb.mono L2.out.size)); clear hb))
  clear KL KR hmm
  go_loopw [8] (fun vi wr => ∃ (k : Nat) (D : DataW Unit), k ≤ n ∧ vi = .int .i64 k ∧ Hid (OM w3.heap.size k D wr) ∧ Hid (Fresh ev k D) ∧ Below w3.heap.size w3 wr) (fun vi _ => n - (intOf vi).toNat)
  case atStart => exact ⟨0, _, Nat.zero_le _, rfl, Lib.hid (World.ownsMap_made _ _ _ _), Lib.hid (Fresh.start ev), box_below _ _⟩
  case round =>
    obtain ⟨k, D, hk, rfl, HO, HF, hbel⟩ := hrel
    have HL := Lib.hid hbel
    clear hbel
    have W0 := Lib.hid (L3.out.trans (HL.out.mono L3.out.size))
    by_cases hlt : k < n
    · have KPk := Lib.hid (KP.out k hlt)
      have hk0 := Lib.hid (HOK.out k hlt)
      have HC := Lib.hid (HSC.out k hlt)
      have hkc : k ≤ c := by omega
      go_upto_region 11 with (go_at_call 12; (with_reducible refine (KPk.out _ W0.out).mono ?_); rintro e' w4 ⟨rfl, hb⟩; have L4 := Lib.hid (HL.out.trans (hb.mono HL.out.size)); have O4 := Lib.hid (HO.out.on hb); have HE := Lib.hid (HV.out.below (W0.out.trans (hb.mono W0.out.size))); clear hb; obtain ⟨u0, u1, u2, u10⟩ := (HE.out.at_ k hlt).four; rw [hk0.out.1] at u0; rw [hk0.out.2.1] at u1)
      by_cases h4 : (ev k).kind = 4
      · obtain ⟨m, hpm, hmk, hm3, hfr⟩ := HC.out h4
        have HAt : Hid (D.atKey (.int .i64 (m : Int)) (.lit (.int .i64 0)) = .lit (.int .i64 0)) := Lib.hid (HF.out.2 m hfr)
        have HF2 := Lib.hid (HF.out.put m h4 hpm)
        have um := (HE.out.at_ m (by omega)).four.2.2.1
        rw [hm3] at um
        rw [h4] at u2
        rw [hpm] at u10
        have hwf : (Lit.int .i64 (m : Int)).wf = true := WalkArith.wf_i64 (by omega)
        have hmn : m < n := by omega
        clear h4 hpm hm3 hfr HC
        go_wp2_with (first
          | (at_lookup; refine wpList_lookup_own_int _ rfl _ _ 50 rfl 3 3 .i64 law_int Tryd.underlying50 Tryd.underlying3 (zero_int _) w3.heap.size k _ rfl O4.out _ _ rfl (keyOf_int_mk Tryd.underlying3 hwf) ?_; intro cc1 hat hwc; rw [HAt.out] at hat; have hcc : cc1 = 0 := (by injection hat with h1; injection h1 with _ h2; exact h2.symm); subst hcc; clear hat hwc)
          | (at_mapUpdate; refine wpList_mapUpdate_own _ rfl _ _ _ 50 rfl 3 3 law_int Tryd.underlying50 _ w3.heap.size k _ rfl O4.out (by unfold maxLen; omega) _ _ _ rfl rfl (keyOf_int_mk Tryd.underlying3 hwf) _ [] (plainElem_int Tryd.underlying3 hw1) ?_; intro w8 hown1 hgrow1))
        have HO1 := Lib.hid hown1
        have HL1 := Lib.hid (L4.out.grown hgrow1 L4.out.size (fun j hj => by cases hj; exact Nat.le_refl _))
        clear hown1 hgrow1
        go_roundw
        case rel => exact ⟨k + 1, _, by omega, by go_num, HO1, HF2, HL1.out⟩
        case measure => simp [intOf]; omega
      · have h4' : ((ev k).kind == 4) = false := by simpa using h4
        clear h4
        go_wp2
        go_roundw
        case rel => exact ⟨k + 1, D, by omega, by go_num, Lib.hid O4.out.more, Lib.hid HF.out.skip, L4.out⟩
        case measure => simp [intOf]; omega
    · have hkn : n = k := by omega
      subst hkn
      have hpk := pickI_lt pos n (by omega)
      have KK := Lib.hid (fun w0 => Pick_fit pos hpos n (by omega) w0)
      obtain ⟨q, hq⟩ : ∃ q : Nat, pickI pos n = q := ⟨(pickI pos n).toNat, by omega⟩
      rw [hq] at KK hpk
      have hqn : q < n := by omega
      have hne : ((n : Int) == 0) = false := by simp; omega
      clear hq
      go_upto_region 19 with (first
        | (go_at_call 15; (with_reducible refine (KK.out _).mono ?_); rintro e' w4 ⟨rfl, rfl⟩)
        | (go_at_call 23; (with_reducible refine (owns_row n b off c ev el wr hn60 (HV.out.below W0.out)).mono ?_); rintro e' w5 ⟨v1, es1, rfl, hl1, ho1, hc1, hb⟩; obtain ⟨g1, p1, ev1, rfl, hg1, hcr1, hlk1⟩ := copy_of hn0 hl1 ho1 hc1 HV.out.len HV.out.low; have X1 := Lib.hid hcr1; have K1 := Lib.hid hlk1; have W1 := Lib.hid (W0.out.trans (hb.mono W0.out.size)); have G1 := Lib.hid hg1; clear hl1 ho1 hc1 hb hg1 hcr1 hlk1)
        | (go_at_call 23; (with_reducible refine (owns_row n b off c ev el w5 hn60 (HV.out.below W1.out)).mono ?_); rintro e' w6 ⟨v2, es2, rfl, hl2, ho2, hc2, hb⟩; obtain ⟨g2, p2, ev2, rfl, hg2, hcr2, hlk2⟩ := copy_of hn0 hl2 ho2 hc2 HV.out.len HV.out.low; have Y2 := Lib.hid hcr2; have K2 := Lib.hid hlk2; have X2 := Lib.hid (X1.out.on hb); have W2 := Lib.hid (W1.out.trans (hb.mono W1.out.size)); have N12 := Lib.hid (show g1 < g2 from Nat.lt_of_lt_of_le X1.out.heap.lt hg2); have G2 := Lib.hid hg2; clear hl2 ho2 hc2 hb hg2 hcr2 hlk2))
      have hh8 : 0 ≤ hart ∧ hart < 8 := by
        have h0 := HOK.out 0 hn0
        rw [← h0.1]
        exact chk_hart h0.2.2
      have hwh : IntKind.i64.wrap (hart + 1) = hart + 1 := IntWalk.i64_in _ (by omega)
      have hwq : IntKind.i64.wrap ((q : Int) + 1) = (q : Int) + 1 := IntWalk.i64_in _ (by omega)
      have cx := (X2.out.evs.at_ q hqn).four.1
      have cy := (Y2.out.evs.at_ q hqn).four.2.1
      rw [Nat.zero_add] at cx cy
      have zx := X2.out.heap.free (q * 14)
      have zy := Y2.out.heap.free (q * 14 + 1)
      have ne1 : g1 ≠ g2 := by have := N12.out; omega
      have ne2 : g2 ≠ g1 := by have := N12.out; omega
      go_upto_region 20 with fail
      obtain ⟨V, hV⟩ : ∃ V, Hid ((w6.setCell ⟨g1, q * 14, none⟩ (.int .i64 (hart + 1))).setCell ⟨g2, q * 14 + 1, none⟩ (.int .i64 ((q : Int) + 1)) = V) := ⟨_, Lib.hid rfl⟩
      have X3 : Cr n g1 (fun j => if j = q then { ev1 q with hart := hart + 1 } else ev1 j) el (w6.setCell ⟨g1, q * 14, none⟩ (.int .i64 (hart + 1))) := X2.out.put q 0 hqn (by omega) (.int .i64 (hart + 1)) { ev1 q with hart := hart + 1 } ⟨rfl, rfl, rfl⟩ (X2.out.evs.low q hqn) rfl
      have Y3 : Cr n g2 ev2 el (w6.setCell ⟨g1, q * 14, none⟩ (.int .i64 (hart + 1))) := Y2.out.far X2.out.heap ne2
      have X4 : Hid (Cr n g1 (fun j => if j = q then { ev1 q with hart := hart + 1 } else ev1 j) el V) := Lib.hid (by rw [← hV.out]; exact X3.far Y3.heap ne1)
      have Y4 : Hid (Cr n g2 (fun j => if j = q then { ev2 q with pos := (q : Int) + 1 } else ev2 j) el V) := Lib.hid (by rw [← hV.out]; exact Y3.put q 1 hqn (by omega) (.int .i64 ((q : Int) + 1)) { ev2 q with pos := (q : Int) + 1 } ⟨rfl, rfl, rfl⟩ (Y3.evs.low q hqn) rfl)
      have hg1w : w.heap.size ≤ g1 := Nat.le_trans W0.out.size G1.out
      have BV : Hid (Below w.heap.size w V) := Lib.hid (by
        rw [← hV.out]
        exact (W2.out.setCell (p := ⟨g1, q * 14, none⟩) hg1w _).setCell (p := ⟨g2, q * 14 + 1, none⟩) (by show w.heap.size ≤ g2; have := N12.out; omega) _)
      rw [hV.out]
      have RX := Lib.hid (row_b hart n g1 0 p1 _ el V false (rowL_no q hqn (.inl (by rw [if_pos rfl]; show hart + 1 ≠ hart; omega))) (by omega) X4.out.evs)
      have RY := Lib.hid (fun w0 (hb : Below V.heap.size V w0) => row_b hart n g2 0 p2 _ el w0 false (rowL_no q hqn (.inr (by rw [if_pos rfl]; show (q : Int) + 1 ≠ q; omega))) (by omega) (Y4.out.evs.below hb))
      have RL := Lib.hid (fun w0 (hb : Below w.heap.size w w0) => row_b (hart + 1) n b off c ev el w0 false (rowL_no 0 hn0 (.inl (by rw [(HOK.out 0 hn0).1]; omega))) (by omega) (HV.out.below hb))
      clear hV X3 Y3 X4 Y4 X2 Y2 X1 cx cy zx zy ne1 ne2 K1 K2 KP
      go_wp2_with (first
        | (go_at_call 12; (with_reducible refine (RX.out).mono ?_); rintro e' w7 ⟨rfl, hb⟩; have B7 := Lib.hid hb; have L7 := Lib.hid (BV.out.trans (hb.mono BV.out.size)); clear hb RX)
        | (go_at_call 12; (with_reducible refine (RY.out _ B7.out).mono ?_); rintro e' w8 ⟨rfl, hb⟩; have L8 := Lib.hid (L7.out.trans (hb.mono L7.out.size)); clear hb RY)
        | (go_at_call 12; (with_reducible refine (RL.out _ L8.out).mono ?_); rintro e' w9 ⟨rfl, hb⟩; have L9 := Lib.hid (L8.out.trans (hb.mono L8.out.size)); clear hb RL))
      go_ret
      exact ⟨rfl, L9.out⟩
theorem rows_any (hart pos : Int) (a : Option Addr) (n c : Nat) (ev : Nat → Ev) (el : Nat → El) (w : World) (hT : TabB w) (hpos : -9223372036854775808 ≤ pos ∧ pos ≤ 9223372036854775807)
    (h : n = 0 ∨ ∃ b off, a = some ⟨b, off, none⟩ ∧ n ≤ maxLen ∧ n ≤ c ∧ Rw n b off ev el w) :
    Calls Tryd.prog 5 #[.int .i64 hart, .slice a n c, .int .i64 pos] w fun e w' => SameOk w true e w' := by
  rcases Nat.eq_zero_or_pos n with h0 | hn0
  · subst h0
    exact rows_nil hart pos a c w hT
  rcases h with h0 | ⟨b, off, rfl, hm, hc, h⟩
  · omega
  by_cases hs : AllSmall n el
  · cases hr : rowL hart ev el n with
    | none => exact rows_bad hart pos n b off c ev el w hT h hs (by rw [hr]; rfl)
    | some last => exact rows_good hart pos n b off c ev el w hT h hs last hr hn0 hc hpos
  · exact rows_heavy hart pos _ n c ev el w hT (.inr ⟨b, off, rfl, hm, h⟩) hs
end Go.Proofs.YtjdfhohchicgbaaDoor
