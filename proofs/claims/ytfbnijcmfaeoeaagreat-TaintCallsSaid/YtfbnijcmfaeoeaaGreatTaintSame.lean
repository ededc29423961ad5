/-
  Proved here: the package taint's Same tells whether in two taints the same hangs on the same; nothing that was there is changed. Condition: at most 10,000 numbers a list.
-/
import Derived.Test.YtfbnijcmfaeoeaaGreatTaintLives
namespace Go.Proofs.YtfbnijcmfaeoeaaGreat
open Go.RowKit
attribute [local go_sem ↓] fold_T fold_I

/-- a bool, and draws alone -/
def SameQ (w : World) (b : Bool) (e : Ending) (w' : World) : Prop := e = .returned (.bool b) ∧ ∃ m, w' = w.drewN m
theorem SameQ.mk {w w' : World} {b c : Bool} (h : b = c) (hb : ∃ m, w' = w.drewN m) : SameQ w c (.returned (.bool b)) w' := ⟨by rw [h], hb⟩
theorem drewN_none (w : World) : ∃ m, w = w.drewN m := ⟨0, by cases w; rfl⟩
theorem drewN_more {w w1 w2 : World} (h1 : ∃ m, w1 = w.drewN m) (h2 : ∃ m, w2 = w1.drewN m) : ∃ m, w2 = w.drewN m := by
  obtain ⟨m, rfl⟩ := h1
  obtain ⟨n, rfl⟩ := h2
  exact ⟨m + n, World.drewN_drewN ..⟩
theorem drewN_below {w w1 : World} (h : ∃ m, w1 = w.drewN m) : Below w.heap.size w w1 := by
  obtain ⟨m, rfl⟩ := h
  exact below_drewW (Below.refl _ _) m
theorem equal_any (va vb : Value) (a b : List Int) (w : World) (ha : ReadsI w va a) (hb : ReadsI w vb b) (hn : a.length ≤ 100000) : Calls Tryz.prog 31 #[va, vb] w fun e w' => SameQ w (decide (a = b)) e w' := by
  by_cases hl : a.length = b.length
  · by_cases h0 : a.length = 0
    · obtain ⟨a1, c1, rfl⟩ := ha.len
      obtain ⟨a2, c2, rfl⟩ := hb.len
      have ea : a = [] := List.length_eq_zero_iff.1 h0
      have eb : b = [] := List.length_eq_zero_iff.1 (by omega)
      subst ea eb
      refine (Tryz.slices_Equal_int_empty a1 a2 c1 0 c2 w (by omega)).mono ?_
      rintro e w' ⟨rfl, rfl⟩
      exact ⟨rfl, drewN_none _⟩
    · rcases ha with ⟨⟨_, _, rfl, _⟩, rfl⟩ | ⟨b1, o1, c1, rfl, _, _, g1, g2⟩
      · exact absurd rfl h0
      · rcases hb with ⟨⟨_, _, rfl, _⟩, rfl⟩ | ⟨b2, o2, c2, rfl, _, _, g3, g4⟩
        · exact absurd hl h0
        · refine (Tryz.slices_Equal_int b1 o1 a.length c1 b2 o2 b.length c2 a b w (Nat.le_refl _) (Nat.le_refl _) (by omega) (by omega) g2 g4).mono ?_
          rintro e w' ⟨rfl, q, rfl⟩
          refine SameQ.mk ?_ ⟨q, rfl⟩
          rw [List.take_length, List.take_length, Bool.eq_iff_iff]
          simp
  · obtain ⟨a1, c1, rfl⟩ := ha.len
    obtain ⟨a2, c2, rfl⟩ := hb.len
    refine (Tryz.slices_Equal_int_lens a1 a2 a.length c1 b.length c2 w hl).mono ?_
    rintro e w' ⟨rfl, rfl⟩
    exact SameQ.mk (decide_eq_false (fun h => hl (by rw [h]))).symm (drewN_none _)
theorem equal_b (va vb : Value) (a b : List Int) (r : Bool) (hr : Hid (decide (a = b) = r)) (w : World) (ha : ReadsI w va a) (hb : ReadsI w vb b) (hn : a.length ≤ 100000) : Calls Tryz.prog 31 #[va, vb] w fun e w' => SameQ w r e w' := by
  rw [← hr.out]; exact equal_any va vb a b w ha hb hn
def rowsB (l l2 : Tl) : Bool := (List.range 32).all fun k => decide (l.x k = l2.x k)
theorem rowsB_no (l l2 : Tl) (k : Nat) (hk : k < 32) (h : decide (l.x k = l2.x k) = false) : rowsB l l2 = false := by
  unfold rowsB
  rw [List.all_eq_false]
  exact ⟨k, List.mem_range.2 hk, by rw [h]; decide⟩
theorem rowsB_yes (l l2 : Tl) (h : ∀ k, k < 32 → decide (l.x k = l2.x k) = true) : rowsB l l2 = true := by
  unfold rowsB
  rw [List.all_eq_true]
  exact fun k hk => h k (List.mem_range.1 hk)
set_option maxRecDepth 100000 in
set_option maxHeartbeats 2000000 in
theorem equalFunc_any (t t2 : Ta) (l l2 : Tl) (n1 n2 : Nat) (W : World) (h1 : TAt 25 t n1 W) (h2 : TAt 25 t2 n2 W) (r1 : TReads W t l) (r2 : TReads W t2 l2) (hs : l.short) :
    Calls Tryz.prog 30 #[.slice (some ⟨n1, 0, none⟩) 32 32, .slice (some ⟨n2, 0, none⟩) 32 32, .func (.func 31) #[] #[]] W fun e w' => SameQ W (rowsB l l2) e w' := by
  have H1 := Lib.hid h1
  have H2 := Lib.hid h2
  have HE := Lib.hid (fun (k : Nat) (hk : k < 32) (w0 : World) (b : Below W.heap.size W w0) (r : Bool) (hr : Hid (decide (l.x k = l2.x k) = r)) => equal_b (t.v k) (t2.v k) (l.x k) (l2.x k) r hr w0 ((r1.x k hk).below b) ((r2.x k hk).below b) (by have := hs.x k hk; omega))
  clear h1 h2 r1 r2 hs
  go_enter Tryz.func30, Tryz.ntmps30
  go_wp2
  go_loopw [17] (fun i wr => ∃ k : Nat, k ≤ 32 ∧ i = .int .i64 k ∧ Hid (∀ j, j < k → decide (l.x j = l2.x j) = true) ∧ ∃ m, wr = W.drewN m) (fun i _ => 32 - (intOf i).toNat)
  case atStart => exact ⟨0, Nat.zero_le _, rfl, Lib.hid (fun j hj => absurd hj (by omega)), drewN_none _⟩
  case round =>
    obtain ⟨k, hk, rfl, HT, hbel⟩ := hrel
    have HQ := Lib.hid hbel
    have HL := Lib.hid (drewN_below hbel)
    clear hbel
    by_cases hlt : k < 32
    · have hc1 := (H1.out.below HL.out H1.out.lt).cx k hlt
      have hc2 := (H2.out.below HL.out H2.out.lt).cx k hlt
      obtain ⟨r, hr⟩ : ∃ r, Hid (decide (l.x k = l2.x k) = r) := ⟨_, Lib.hid rfl⟩
      cases r with
      | false =>
        go_wp2_with (go_at_call 31; (with_reducible refine (HE.out k hlt _ HL.out _ hr).mono ?_); rintro e w1 ⟨rfl, hb⟩; have HL1 := Lib.hid (drewN_more HQ.out hb); clear hb)
        go_ret
        exact SameQ.mk (rowsB_no l l2 k hlt hr.out).symm HL1.out
      | true =>
        go_wp2_with (go_at_call 31; (with_reducible refine (HE.out k hlt _ HL.out _ hr).mono ?_); rintro e w1 ⟨rfl, hb⟩; have HL1 := Lib.hid (drewN_more HQ.out hb); clear hb)
        go_roundw
        case rel => exact ⟨k + 1, by omega, by go_num, Lib.hid (fun j hj => (Nat.lt_succ_iff_lt_or_eq.1 hj).elim (HT.out j) (fun h => h ▸ hr.out)), HL1.out⟩
        case measure => simp [intOf]; omega
    · obtain rfl : k = 32 := by omega
      go_wp2
      go_ret
      exact SameQ.mk (rowsB_yes l l2 HT.out).symm HQ.out
theorem TAt.drewN {T : TypeId} {t : Ta} {n : Nat} {w : World} (H : TAt T t n w) (m : Nat) : TAt T t n (w.drewN m) := H
theorem TAt.drew {T : TypeId} {t : Ta} {n : Nat} {w : World} (H : TAt T t n w) : TAt T t n w.drew := H
def sameB (l l2 : Tl) : Bool := rowsB l l2 && decide (l.way = l2.way)
theorem equalFunc_b (t t2 : Ta) (l l2 : Tl) (n1 n2 : Nat) (r : Bool) (hr : Hid (rowsB l l2 = r)) (W : World) (h1 : TAt 25 t n1 W) (h2 : TAt 25 t2 n2 W) (r1 : TReads W t l) (r2 : TReads W t2 l2) (hs : l.short) :
    Calls Tryz.prog 30 #[.slice (some ⟨n1, 0, none⟩) 32 32, .slice (some ⟨n2, 0, none⟩) 32 32, .func (.func 31) #[] #[]] W fun e w' => SameQ W r e w' := by
  rw [← hr.out]; exact equalFunc_any t t2 l l2 n1 n2 W h1 h2 r1 r2 hs
set_option maxRecDepth 100000 in
set_option maxHeartbeats 4000000 in
theorem Same_any (t t2 : Ta) (l l2 : Tl) (w : World) (h : TReads w t l) (h2 : TReads w t2 l2) (hs : l.short) : Calls Tryz.prog 13 #[t.V, t2.V] w fun e w' => SameOk w (sameB l l2) e w' := by
  have D1 := (TAt.new 25 t w).alloc (.cells (tC t2) 25)
  have D2 := TAt.new 25 t2 (w.alloc (.cells (tC t) 25))
  have BB : Below w.heap.size w ((w.alloc (.cells (tC t) 25)).alloc (.cells (tC t2) 25)) := ((Below.refl _ _).alloc (Nat.le_refl _) _).alloc (by simp) _
  simp only [World.size_alloc] at D2
  obtain ⟨r1, hr1⟩ : ∃ r, Hid (rowsB l l2 = r) := ⟨_, Lib.hid rfl⟩
  obtain ⟨r2, hr2⟩ : ∃ r, Hid (decide (l.way = l2.way) = r) := ⟨_, Lib.hid rfl⟩
  unfold sameB
  rw [hr1.out, hr2.out]
  have HF := Lib.hid (fun (w0 : World) (b : Below w.heap.size w w0) (d1 : TAt 25 t w.heap.size w0) (d2 : TAt 25 t2 (w.heap.size + 1) w0) => equalFunc_b t t2 l l2 _ _ r1 hr1 w0 d1 d2 (h.below b) (h2.below b) hs)
  have HE := Lib.hid (fun (w0 : World) (b : Below w.heap.size w w0) => equal_b t.way t2.way l.way l2.way r2 hr2 w0 (h.w.below b) (h2.w.below b) (by have := hs.w; omega))
  clear h h2 hs
  go_enter Tryz.func13, Tryz.ntmps13
  go_upto_region 1 with fail
  obtain ⟨W, HW⟩ : ∃ W, Hid ((w.alloc (.cells (tC t) 25)).alloc (.cells (tC t2) 25) = W) := ⟨_, Lib.hid rfl⟩
  rw [HW.out] at D1 D2 BB ⊢
  have H1 := Lib.hid D1
  have H2 := Lib.hid D2
  have HB := Lib.hid BB
  clear D1 D2 BB
  have cw := H1.out.cw
  have cw2 := H2.out.cw
  have hs1 : ∀ m, Below w.heap.size w (W.drewN m) := fun m => below_drewW HB.out m
  have HFq := Lib.hid (fun m => HF.out (W.drewN m) (hs1 m) (TAt.drewN H1.out m) (TAt.drewN H2.out m))
  have HEq := Lib.hid (fun m => HE.out (W.drewN m) (hs1 m))
  clear hs1
  cases r1 <;> cases r2
  all_goals
    go_quiet ((first
      | (go_at_call 30; exact Calls.quiet_of (HFq.out _))
      | (go_at_call 31; exact Calls.quiet_of (HEq.out _))))
    have HZ := Lib.hid (below_drewW HB.out nq)
    go_wp2
    go_ret
    exact ⟨rfl, HZ.out⟩
end Go.Proofs.YtfbnijcmfaeoeaaGreat
