/-
  Proved here: the package taint's New answers a taint of empty lists, its Check whether a taint may be; each writes nothing that was there. Condition: lists of at most 10,000 numbers.
-/
import Derived.Test.YtfbnijcmfaeoeaaGreatTaintTable
import Derived.Deep.DeepCutAuto
namespace Go.Proofs.YtfbnijcmfaeoeaaGreat
open Go.RowKit

/-- may it be? -/
def Tl.ok (l : Tl) : Bool := (List.range 32).all (fun k => rises (l.x k)) && (rises l.way && decide ((l.x 0).length = 0))
theorem Tl.ok_no (l : Tl) (k : Nat) (hk : k < 32) (h : rises (l.x k) = false) : l.ok = false := by
  unfold Tl.ok
  rw [Bool.and_eq_false_iff]
  left
  rw [List.all_eq_false]
  exact ⟨k, List.mem_range.2 hk, by rw [h]; decide⟩
theorem Tl.ok_all (l : Tl) (h : ∀ k, k < 32 → rises (l.x k) = true) (a b : Bool) (ha : rises l.way = a) (hb : decide ((l.x 0).length = 0) = b) : l.ok = (a && b) := by
  unfold Tl.ok
  have e : (List.range 32).all (fun k => rises (l.x k)) = true := by
    rw [List.all_eq_true]
    exact fun k hk => h k (List.mem_range.1 hk)
  rw [e, ha, hb, Bool.true_and]
theorem retInt {k : IntKind} {a b : Int} (h : a = b) : Ending.returned (.int k a) = .returned (.int k b) := by rw [h]
theorem box_below (w : World) (o : Obj) : Below w.heap.size w (w.alloc o) := (Below.refl _ _).alloc (Nat.le_refl _) _
def zeroTa : Ta := ⟨List.replicate 32 (.slice none 0 0), .slice none 0 0, by simp⟩
def zeroTl : Tl := ⟨List.replicate 32 [], [], by simp⟩
theorem zeroTa_v (k : Nat) (hk : k < 32) : zeroTa.v k = .slice none 0 0 := by
  unfold zeroTa Ta.v; simp only [List.getD_eq_getElem?_getD, List.getElem?_replicate]; rw [if_pos hk]; rfl
theorem zeroTl_x (k : Nat) : zeroTl.x k = [] := by
  unfold zeroTl Tl.x; simp only [List.getD_eq_getElem?_getD, List.getElem?_replicate]; split <;> rfl
theorem zeroTa_reads (w : World) : TReads w zeroTa zeroTl :=
  ⟨fun k hk => by rw [zeroTa_v k hk, zeroTl_x]; exact ReadsI.nil w, ReadsI.nil w⟩
set_option maxRecDepth 100000 in
set_option maxHeartbeats 2000000 in
theorem tCheck_any (t : Ta) (l : Tl) (w : World) (h : TReads w t l) (hs : l.short) : Calls Tryz.prog 11 #[t.V] w fun e w' => e = .returned (.int .i64 (errI l.ok)) ∧ Below w.heap.size w w' := by
  have HB := Lib.hid (box_below w (.cells (tC t) 25))
  have H := TAt.new 25 t w
  have HT := Lib.hid (h.alloc (.cells (tC t) 25))
  have hS := Lib.hid hs
  obtain ⟨W, HW⟩ : ∃ W, Hid (w.alloc (.cells (tC t) 25) = W) := ⟨_, Lib.hid rfl⟩
  rw [HW.out] at H HB HT
  have HA := Lib.hid H
  have hR := fun (k : Nat) (hk : k < 32) (w0 : World) (hw : W = w0) => rising_any (t.v k) (l.x k) w0 (by rw [← hw]; exact HT.out.x k hk) (by have := hS.out.x k hk; omega)
  have HR := Lib.hid hR
  clear h hs H hR
  go_enter Tryz.func11, Tryz.ntmps11
  go_upto_region 1 with fail
  rw [HW.out]
  go_wp2_with (refine load_tx HA.out rfl _ rfl rfl ?_)
  go_loop [7] (fun i => ∃ k : Nat, k ≤ 32 ∧ i = .int .i64 k ∧ Hid (∀ j, j < k → rises (l.x j) = true)) (fun i => 32 - (intOf i).toNat)
  case atStart => exact ⟨0, Nat.zero_le _, rfl, Lib.hid (fun j hj => absurd hj (by omega))⟩
  case round =>
    obtain ⟨k, hk, rfl, hr⟩ := hrel
    by_cases hlt : k < 32
    · have hi := index_tx t k hlt
      cases hb : rises (l.x k) with
      | false =>
        have HN := Lib.hid hb
        clear hb
        go_wp2_with (go_at_call 14; (with_reducible refine (HR.out k hlt _ rfl).mono ?_); rw [HN.out]; rintro e w1 ⟨rfl, rfl⟩)
        go_ret
        exact ⟨retInt (by rw [Tl.ok_no l k hlt HN.out]; rfl), HB.out⟩
      | true =>
        have HN := Lib.hid hb
        clear hb
        go_wp2_with (go_at_call 14; (with_reducible refine (HR.out k hlt _ rfl).mono ?_); rw [HN.out]; rintro e w1 ⟨rfl, rfl⟩)
        go_round
        case rel => exact ⟨k + 1, by omega, by go_num, Lib.hid (fun j hj => (Nat.lt_succ_iff_lt_or_eq.1 hj).elim (hr.out j) (fun h => h ▸ HN.out))⟩
        case measure => simp [intOf]; omega
    · obtain rfl : k = 32 := by omega
      have hcw := HA.out.cw
      have hc0 := HA.out.cx 0 (by omega)
      have hwr := Lib.hid (rising_any t.way l.way W HT.out.w (by have := hS.out.w; omega))
      obtain ⟨a0, c0, e0⟩ := (HT.out.x 0 (by omega)).len
      rw [e0] at hc0
      have HE := Lib.hid (Tl.ok_all l hr.out)
      cases hb : rises l.way with
      | false =>
        have HN := Lib.hid hb
        clear hb e0
        go_wp2_with (go_at_call 14; (with_reducible refine (hwr.out).mono ?_); rw [HN.out]; rintro e w1 ⟨rfl, rfl⟩)
        go_ret
        exact ⟨retInt (by rw [HE.out _ _ HN.out rfl]; rfl), HB.out⟩
      | true =>
        have HN := Lib.hid hb
        clear hb e0
        by_cases h0 : (l.x 0).length = 0
        · have hd : decide (0 < (l.x 0).length) = false := by simp [h0]
          have HD := Lib.hid (decide_eq_true h0)
          clear h0
          go_wp2_with (go_at_call 14; (with_reducible refine (hwr.out).mono ?_); rw [HN.out]; rintro e w1 ⟨rfl, rfl⟩)
          go_ret
          exact ⟨retInt (by rw [HE.out _ _ HN.out HD.out]; rfl), HB.out⟩
        · have hd : decide (0 < (l.x 0).length) = true := by simp; omega
          have HD := Lib.hid (decide_eq_false h0)
          clear h0
          go_wp2_with (go_at_call 14; (with_reducible refine (hwr.out).mono ?_); rw [HN.out]; rintro e w1 ⟨rfl, rfl⟩)
          go_ret
          exact ⟨retInt (by rw [HE.out _ _ HN.out HD.out]; rfl), HB.out⟩
end Go.Proofs.YtfbnijcmfaeoeaaGreat
