/-
  Proved here: comparing lists and deps; the package taint's New; the law's start (event 3 is on register 5, event 4 on register 6). Condition: lists of at most 100,000 numbers.
-/
import Derived.Test.YtfbnijcmfaeoeaaGreatTaintStepWalk
namespace Go.Proofs.YtfbnijcmfaeoeaaGreat
open Go.RowKit
attribute [local go_sem ↓] fold_T fold_I

theorem take_more (a b : List Int) (k : Nat) (ha : k < a.length) (hb : k < b.length) (h : a.take k = b.take k) : (a.take (k + 1) = b.take (k + 1)) ↔ atI a k = atI b k := by
  rw [List.take_succ_eq_append_getElem ha, List.take_succ_eq_append_getElem hb, h]
  unfold atI
  rw [List.getD_eq_getElem?_getD, List.getD_eq_getElem?_getD, List.getElem?_eq_getElem ha, List.getElem?_eq_getElem hb]
  simp only [List.append_cancel_left_eq, List.cons.injEq, and_true, Option.getD_some]
theorem take_ne (a b : List Int) (k : Nat) (h : a.take k ≠ b.take k) : a ≠ b := fun e => h (by rw [e])
def SameOk (w : World) (b : Bool) (e : Ending) (w' : World) : Prop := e = .returned (.bool b) ∧ Below w.heap.size w w'
theorem SameOk.mk {w w' : World} {b c : Bool} (h : b = c) (hb : Below w.heap.size w w') : SameOk w c (.returned (.bool b)) w' := ⟨by rw [h], hb⟩
theorem below_drewW {B : Nat} {a w : World} (h : Below B a w) (n : Nat) : Below B a (w.drewN n) := ⟨h.os, h.tape, h.output, h.size, h.block⟩
set_option maxRecDepth 100000 in
set_option maxHeartbeats 2000000 in
theorem same_lens (a1 a2 : Option Addr) (n m c d : Nat) (hnm : n ≠ m) (w : World) : Calls Tryz.prog 16 #[.slice a1 n c, .slice a2 m d] w fun e w' => SameOk w false e w' := by
  have h1 : (((n : Nat) : Int) != ((m : Nat) : Int)) = true := by simp; omega
  go_enter Tryz.func16, Tryz.ntmps16
  go_wp2
  go_ret
  exact ⟨rfl, Below.refl _ _⟩
set_option maxRecDepth 100000 in
set_option maxHeartbeats 2000000 in
theorem same_none (a1 a2 : Option Addr) (c d : Nat) (w : World) : Calls Tryz.prog 16 #[.slice a1 0 c, .slice a2 0 d] w fun e w' => SameOk w true e w' := by
  go_enter Tryz.func16, Tryz.ntmps16
  go_wp2
  refine wp_loop_rounds 1 ?_
  rw [rounds_succ]
  go_wp2
  go_ret
  exact ⟨rfl, Below.refl _ _⟩
set_option maxRecDepth 100000 in
set_option maxHeartbeats 2000000 in
theorem same_some (a b : List Int) (n b1 o1 c1 b2 o2 c2 : Nat) (w : World) (ha : a.length = n) (hb : b.length = n) (hn : n ≤ 100000) (hl1 : b1 < w.heap.size) (hl2 : b2 < w.heap.size) (h1 : ∀ j, j < n → w.cell? ⟨b1, o1 + j, none⟩ = some (.int .i64 (atI a j))) (h2 : ∀ j, j < n → w.cell? ⟨b2, o2 + j, none⟩ = some (.int .i64 (atI b j))) :
    Calls Tryz.prog 16 #[.slice (some ⟨b1, o1, none⟩) n c1, .slice (some ⟨b2, o2, none⟩) n c2] w fun e w' => SameOk w (decide (a = b)) e w' := by
  have H1 := Lib.hid h1
  have H2 := Lib.hid h2
  have HA := Lib.hid ha
  have HB := Lib.hid hb
  clear h1 h2 ha hb
  go_enter Tryz.func16, Tryz.ntmps16
  go_wp2
  go_loopw [5] (fun i wr => ∃ k : Nat, k ≤ n ∧ i = .int .i64 k ∧ Hid (a.take k = b.take k) ∧ Below w.heap.size w wr) (fun i _ => n - (intOf i).toNat)
  case atStart => exact ⟨0, Nat.zero_le _, rfl, Lib.hid (by simp), Below.refl _ _⟩
  case round =>
    obtain ⟨k, hk, rfl, HT, hbel⟩ := hrel
    have HL := Lib.hid hbel
    clear hbel
    by_cases hlt : k < n
    · have hc1 := (HL.out.cell (p := ⟨b1, o1 + k, none⟩) hl1).trans (H1.out k hlt)
      have hc2 := (HL.out.cell (p := ⟨b2, o2 + k, none⟩) hl2).trans (H2.out k hlt)
      have HM := Lib.hid (take_more a b k (by rw [HA.out]; exact hlt) (by rw [HB.out]; exact hlt) HT.out)
      by_cases he : atI a k = atI b k
      · have h0 : (atI a k != atI b k) = false := by simpa using he
        have HE := Lib.hid he
        clear he
        go_upto_region 6 with fail
        go_quiet (fail)
        have HL2 := Lib.hid (below_drewW HL.out nq)
        go_wp2
        go_roundw
        case rel => exact ⟨k + 1, by omega, by go_num, Lib.hid (HM.out.2 HE.out), HL2.out⟩
        case measure => simp [intOf]; omega
      · have h0 : (atI a k != atI b k) = true := by simpa using he
        have HE := Lib.hid he
        clear he
        go_upto_region 6 with fail
        go_quiet (fail)
        have HL2 := Lib.hid (below_drewW HL.out nq)
        go_wp2
        go_ret
        refine SameOk.mk ?_ HL2.out
        exact (decide_eq_false (take_ne a b (k + 1) (fun h => HE.out (HM.out.1 h)))).symm
    · have HK : Hid (k = n) := Lib.hid (by omega)
      go_wp2
      go_ret
      refine SameOk.mk ?_ HL.out
      have := HT.out
      rw [List.take_of_length_le (by rw [HA.out]; omega), List.take_of_length_le (by rw [HB.out]; omega)] at this
      exact (decide_eq_true this).symm
theorem same_any (va vb : Value) (a b : List Int) (w : World) (ha : ReadsI w va a) (hb : ReadsI w vb b) (hn : a.length ≤ 100000) : Calls Tryz.prog 16 #[va, vb] w fun e w' => SameOk w (decide (a = b)) e w' := by
  by_cases hl : a.length = b.length
  · rcases ha with ⟨⟨a1, c1, rfl, _⟩, rfl⟩ | ⟨b1, o1, c1, rfl, _, _, g1, g2⟩
    · obtain ⟨a2, d, rfl⟩ := hb.len
      have hb0 : b = [] := List.length_eq_zero_iff.1 (by rw [← hl]; rfl)
      subst hb0
      exact same_none a1 a2 c1 d w
    · rcases hb with ⟨⟨a2, c2, rfl, _⟩, rfl⟩ | ⟨b2, o2, c2, rfl, _, _, g3, g4⟩
      · have ha0 : a = [] := List.length_eq_zero_iff.1 (by rw [hl]; rfl)
        subst ha0
        exact same_none _ a2 c1 c2 w
      · rw [← hl]
        exact same_some a b a.length b1 o1 c1 b2 o2 c2 w rfl hl.symm hn g1 g3 g2 (by rw [hl]; exact g4)
  · obtain ⟨a1, c1, rfl⟩ := ha.len
    obtain ⟨a2, c2, rfl⟩ := hb.len
    have e : decide (a = b) = false := decide_eq_false (fun h => hl (by rw [h]))
    rw [e]
    exact same_lens a1 a2 _ _ c1 c2 hl w
set_option maxRecDepth 100000 in
set_option maxHeartbeats 2000000 in
theorem New_any (w : World) : Calls Tryz.prog 33 #[] w fun e w' => e = .returned zeroTa.V ∧ Below w.heap.size w w' := by
  have HZ := Lib.hid (zero_at w)
  have HB := Lib.hid (box_below w (.cells #[.slice none 0 0, .slice none 0 0, .slice none 0 0, .slice none 0 0, .slice none 0 0, .slice none 0 0, .slice none 0 0, .slice none 0 0, .slice none 0 0, .slice none 0 0, .slice none 0 0, .slice none 0 0, .slice none 0 0, .slice none 0 0, .slice none 0 0, .slice none 0 0, .slice none 0 0, .slice none 0 0, .slice none 0 0, .slice none 0 0, .slice none 0 0, .slice none 0 0, .slice none 0 0, .slice none 0 0, .slice none 0 0, .slice none 0 0, .slice none 0 0, .slice none 0 0, .slice none 0 0, .slice none 0 0, .slice none 0 0, .slice none 0 0, .slice none 0 0] 25))
  go_enter Tryz.func33, Tryz.ntmps33
  go_wp2_with (refine store_ta HZ.out zeroTa zeroFlat rfl (.tmp 0) (.tmp 1) rfl rfl (congrArg Value.agg zero_tC) ?_; intro w9 D9 ho9 hb9 hz9)
  refine bodyPost_ret (ta_end rfl rfl D9) rfl ?_
  exact ⟨rfl, HB.out.trans hb9⟩
end Go.Proofs.YtfbnijcmfaeoeaaGreat
