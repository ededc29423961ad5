/-
  Proved here: cand.Same tells whether two candidates are the same, as the kit's Cand does; nothing that was there is changed. Condition: light candidates, numbers of 64 bits.
-/
import Derived.Test.YtokhnjcbcpmmjaaGreatCcEvent
import Derived.Test.YtokhnjcbcpmmjaaGreatKitSameCand
import Derived.Test.YtokhnjcbcpmmjaaGreatCdSame
import Derived.Test.YtokhnjcbcpmmjaaGreatCdNumber2
namespace Go.Proofs.YtokhnjcbcpmmjaaGreat
set_option linter.unusedVariables false
set_option linter.unusedSimpArgs false
open Go.RowKit
attribute [local go_sem ↓] fold_E fold_SE
attribute [local irreducible] wpStill

theorem equalD_lens (a1 a2 : Option Addr) (n m c d : Nat) (hnm : n ≠ m) (w : World) : Calls Tryz.prog 47 #[.slice a1 n c, .slice a2 m d] w fun e w' => SameOk w false e w' := by
  have h1 : (((n : Nat) : Int) != ((m : Nat) : Int)) = true := by simp; omega
  go_enter Tryz.func47, Tryz.ntmps47
  go_wp2
  go_ret
  exact ⟨rfl, Below.refl _ _⟩
theorem equalD_none (a1 a2 : Option Addr) (c d : Nat) (w : World) : Calls Tryz.prog 47 #[.slice a1 0 c, .slice a2 0 d] w fun e w' => SameOk w true e w' := by
  go_enter Tryz.func47, Tryz.ntmps47
  go_wp2
  refine wp_loop_rounds 1 ?_
  rw [rounds_succ]
  go_wp2
  go_ret
  exact ⟨rfl, Below.refl _ _⟩
set_option maxRecDepth 100000 in
set_option maxHeartbeats 4000000 in
theorem equalD_some (a b : List (Int × Int)) (n b1 o1 c1 b2 o2 c2 : Nat) (w : World) (ha : a.length = n) (hb : b.length = n) (hn : n ≤ 1000) (hl1 : b1 < w.heap.size) (hl2 : b2 < w.heap.size) (h1 : CellsIn w b1 o1 a) (h2 : CellsIn w b2 o2 b) :
    Calls Tryz.prog 47 #[.slice (some ⟨b1, o1, none⟩) n c1, .slice (some ⟨b2, o2, none⟩) n c2] w fun e w' => SameOk w (decide (a = b)) e w' := by
  have H1 := Lib.hid h1
  have H2 := Lib.hid h2
  have HA := Lib.hid ha
  have HB := Lib.hid hb
  have hgt : Tryz.prog.eqGuardType Tryz.prog.depth 43 = false := by kernel_rfl
  clear h1 h2 ha hb
  go_enter Tryz.func47, Tryz.ntmps47
  go_wp2
  go_loopw [13] (fun i wr => ∃ k : Nat, k ≤ n ∧ i = .int .i64 k ∧ Hid (a.take k = b.take k) ∧ Below w.heap.size w wr) (fun i _ => n - (intOf i).toNat)
  case atStart => exact ⟨0, Nat.zero_le _, rfl, Lib.hid (by simp), Below.refl _ _⟩
  case round =>
    obtain ⟨k, hk, rfl, HT, hbel⟩ := hrel
    have HL := Lib.hid hbel
    clear hbel
    by_cases hlt : k < n
    · have p0 := (HL.out.cell (p := ⟨b1, o1 + k * 2, none⟩) hl1).trans (H1.out k (by rw [HA.out]; exact hlt)).1
      have p1 := (HL.out.cell (p := ⟨b1, o1 + k * 2 + 1, none⟩) hl1).trans (H1.out k (by rw [HA.out]; exact hlt)).2
      have q0 := (HL.out.cell (p := ⟨b2, o2 + k * 2, none⟩) hl2).trans (H2.out k (by rw [HB.out]; exact hlt)).1
      have q1 := (HL.out.cell (p := ⟨b2, o2 + k * 2 + 1, none⟩) hl2).trans (H2.out k (by rw [HB.out]; exact hlt)).2
      have HM := Lib.hid (takeC_more a b k (by rw [HA.out]; exact hlt) (by rw [HB.out]; exact hlt) HT.out)
      obtain ⟨x1, hx1⟩ : ∃ x, Hid (fA a k = x) := ⟨_, Lib.hid rfl⟩
      obtain ⟨y1, hy1⟩ : ∃ x, Hid (fV a k = x) := ⟨_, Lib.hid rfl⟩
      obtain ⟨x2, hx2⟩ : ∃ x, Hid (fA b k = x) := ⟨_, Lib.hid rfl⟩
      obtain ⟨y2, hy2⟩ : ∃ x, Hid (fV b k = x) := ⟨_, Lib.hid rfl⟩
      rw [hx1.out] at p0 HM
      rw [hy1.out] at p1 HM
      rw [hx2.out] at q0 HM
      rw [hy2.out] at q1 HM
      have hne := neqC_run x1 y1 x2 y2
      obtain ⟨r, hr⟩ : ∃ r, Hid (sameP x1 y1 x2 y2 = r) := ⟨_, Lib.hid rfl⟩
      rw [hr.out] at hne HM
      have hk0 : (0 : Int) ≤ (k : Int) := by omega
      have hkn : (k : Int) < (n : Int) := by omega
      cases r with
      | true =>
        have HY := Lib.hid (HM.out.2 rfl)
        go_upto_region 6 with fail
        refine wp_region_still_tail 8 (by kernel_rfl) (by kernel_rfl) ?_
        simp only [List.take_succ_cons, List.take_zero, List.drop_succ_cons, List.drop_zero]
        iterate 8 still_step
        refine wpStill_nil ?_
        change wpList _ _ _ _ _ (World.drew _)
        go_wp2
        go_roundw
        case rel => exact ⟨k + 1, by omega, by go_num, HY, HL.out.drew⟩
        case measure => simp [intOf]; omega
      | false =>
        have HN := Lib.hid (takeC_ne a b (k + 1) (fun e => by cases HM.out.1 e))
        go_upto_region 6 with fail
        refine wp_region_still_tail 8 (by kernel_rfl) (by kernel_rfl) ?_
        simp only [List.take_succ_cons, List.take_zero, List.drop_succ_cons, List.drop_zero]
        iterate 8 still_step
        refine wpStill_nil ?_
        change wpList _ _ _ _ _ (World.drew _)
        go_wp2
        go_ret
        exact SameOk.mk (decide_eq_false HN.out).symm HL.out.drew
    · have HK : Hid (k = n) := Lib.hid (by omega)
      go_wp2
      go_ret
      refine SameOk.mk ?_ HL.out
      have e := HT.out
      rw [HK.out, List.take_of_length_le (by rw [HA.out]; exact Nat.le_refl _), List.take_of_length_le (by rw [HB.out]; exact Nat.le_refl _)] at e
      exact (decide_eq_true e).symm
theorem equalD_any (va vb : Value) (a b : List (Int × Int)) (w : World) (ha : ReadsF w va a) (hb : ReadsF w vb b) (hn : a.length ≤ 1000) : Calls Tryz.prog 47 #[va, vb] w fun e w' => SameOk w (decide (a = b)) e w' := by
  by_cases hl : a.length = b.length
  · rcases ha with ⟨⟨a1, c1, rfl, _⟩, rfl⟩ | ⟨b1, o1, c1, rfl, _, _, h3, h4⟩
    · obtain ⟨a2, c2, rfl⟩ := hb.len
      have hb0 : b = [] := List.length_eq_zero_iff.1 (by rw [← hl]; rfl)
      subst hb0
      exact equalD_none a1 a2 c1 c2 w
    · rcases hb with ⟨⟨a2, c2, rfl, _⟩, rfl⟩ | ⟨b2, o2, c2, rfl, _, _, k3, k4⟩
      · have ha0 : a = [] := List.length_eq_zero_iff.1 (by rw [hl]; rfl)
        subst ha0
        exact equalD_none _ a2 c1 c2 w
      · rw [← hl]
        exact equalD_some a b a.length b1 o1 c1 b2 o2 c2 w rfl hl.symm hn h3 k3 h4 k4
  · obtain ⟨a1, c1, rfl⟩ := ha.len
    obtain ⟨a2, c2, rfl⟩ := hb.len
    rw [decide_eq_false (fun e => hl (by rw [e]))]
    exact equalD_lens a1 a2 a.length b.length c1 c2 hl w
theorem equalD_b (va vb : Value) (a b : List (Int × Int)) (r : Bool) (hr : decide (a = b) = r) (w : World) (ha : ReadsF w va a) (hb : ReadsF w vb b) (hn : a.length ≤ 1000) : Calls Tryz.prog 47 #[va, vb] w fun e w' => SameOk w r e w' := by
  rw [← hr]; exact equalD_any va vb a b w ha hb hn
/-! ### rows -/
theorem rowD_lens (a1 a2 : Option Addr) (n m c d : Nat) (hnm : n ≠ m) (w : World) : Calls Tryz.prog 69 #[.slice a1 n c, .slice a2 m d, .func (.func 70) #[] #[]] w fun e w' => SameOk w false e w' := by
  have h1 : (((n : Nat) : Int) != ((m : Nat) : Int)) = true := by simp; omega
  go_enter Tryz.func69, Tryz.ntmps69
  go_wp2
  go_ret
  exact ⟨rfl, Below.refl _ _⟩
theorem rowD_none (a1 a2 : Option Addr) (c d : Nat) (w : World) : Calls Tryz.prog 69 #[.slice a1 0 c, .slice a2 0 d, .func (.func 70) #[] #[]] w fun e w' => SameOk w true e w' := by
  go_enter Tryz.func69, Tryz.ntmps69
  go_wp2
  refine wp_loop_rounds 1 ?_
  rw [rounds_succ]
  go_wp2
  go_ret
  exact ⟨rfl, Below.refl _ _⟩
set_option maxRecDepth 100000 in
set_option maxHeartbeats 8000000 in
theorem rowD_some (n b1 o1 c1 b2 o2 c2 : Nat) (ev1 ev2 : Nat → Ev) (el1 el2 : Nat → El) (w : World) (hn : n ≤ 1000) (h1 : Evs n b1 o1 ev1 el1 w) (h2 : Evs n b2 o2 ev2 el2 w) (f1 : ∀ k, k < n → NumFits (ev1 k)) (f2 : ∀ k, k < n → NumFits (ev2 k)) :
    Calls Tryz.prog 69 #[.slice (some ⟨b1, o1, none⟩) n c1, .slice (some ⟨b2, o2, none⟩) n c2, .func (.func 70) #[] #[]] w fun e w' => SameOk w (rowQ n n ev1 ev2 el1 el2) e w' := by
  have H1 := Lib.hid h1
  have H2 := Lib.hid h2
  have F1 := Lib.hid f1
  have F2 := Lib.hid f2
  have HY := Lib.hid (fun h => rowQ_yes (n := n) (ev1 := ev1) (ev2 := ev2) (el1 := el1) (el2 := el2) h)
  have HX := Lib.hid (fun k hk h => rowQ_at (n := n) (k := k) (ev1 := ev1) (ev2 := ev2) (el1 := el1) (el2 := el2) hk h)
  obtain ⟨rb, hrb⟩ : ∃ b, rowQ n n ev1 ev2 el1 el2 = b := ⟨_, rfl⟩
  rw [hrb] at HY HX ⊢
  have hnn : ((n : Int) != (n : Int)) = false := by simp
  clear h1 h2 f1 f2 hrb
  go_enter Tryz.func69, Tryz.ntmps69
  go_wp2
  go_loopw [17] (fun i wr => ∃ k : Nat, k ≤ n ∧ i = .int .i64 k ∧ Hid (∀ j, j < k → evB (ev1 j) (ev2 j) (el1 j) (el2 j) = true) ∧ Hid (Below w.heap.size w wr)) (fun i _ => n - (intOf i).toNat)
  case atStart => exact ⟨0, Nat.zero_le _, rfl, Lib.hid (fun j h => by omega), Lib.hid (Below.refl _ _)⟩
  case round =>
    obtain ⟨k, hk, rfl, HA, HL⟩ := hrel
    by_cases hlt : k < n
    · have G1 := Lib.hid (H1.out.below HL.out)
      have G2 := Lib.hid (H2.out.below HL.out)
      have cl := (G1.out.at_ k hlt).load
      obtain ⟨e, he⟩ : ∃ e, Hid (ev1 k = e) := ⟨_, Lib.hid rfl⟩
      obtain ⟨f, hf⟩ : ∃ f, Hid (ev2 k = f) := ⟨_, Lib.hid rfl⟩
      rw [he.out] at cl
      have hfl : Hid e.flat := Lib.hid (by rw [← he.out]; exact (G1.out.reads k hlt).flat)
      have hfl2 : Hid f.flat := Lib.hid (by rw [← hf.out]; exact (G2.out.reads k hlt).flat)
      have HR1 := Lib.hid (show EReads wr e (el1 k) from by rw [← he.out]; exact G1.out.reads k hlt)
      have HR2 := Lib.hid (show EReads wr f (el2 k) from by rw [← hf.out]; exact G2.out.reads k hlt)
      obtain ⟨r, hr⟩ : ∃ r, Hid (evB (ev1 k) (ev2 k) (el1 k) (el2 k) = r) := ⟨_, Lib.hid rfl⟩
      have KS := Lib.hid (fun (w0 : World) (x1 : EReads w0 e (el1 k)) (x2 : EReads w0 f (el2 k)) => (show Calls Tryz.prog 70 #[e.V, f.V] w0 fun e' w' => SameOk w0 r e' w' from by
        rw [← hr.out, he.out, hf.out]
        exact sameE_any e f (el1 k) (el2 k) w0 x1 x2 (H1.out.len k hlt) (by rw [← he.out]; exact F1.out k hlt) (by rw [← hf.out]; exact F2.out k hlt)))
      go_upto_region 6 with (refine store_ev (EvAt.new zeroEv wr) e hfl.out rfl (.tmp 8) (.tmp 21) rfl rfl rfl ?_; intro w1 D1 ho1 hb1 hz1; have K1 := Lib.hid D1; have B1 := Lib.hid ((box_below wr (.cells #[.int .i64 0, .int .i64 0, .int .i64 0, .int .u64 0, .int .u64 0, .int .u64 0, .bool false, .bool false, .int .i64 0, .int .i64 0, .int .i64 0, .slice none 0 0, .slice none 0 0, .slice none 0 0] 60)).trans hb1); clear D1 ho1 hb1 hz1 cl; have HG1 := Lib.hid (G2.out.below B1.out); have cl := (HG1.out.at_ k hlt).load; rw [hf.out] at cl)
      go_upto_region 7 with (refine store_ev (EvAt.new zeroEv w1) f hfl2.out rfl (.tmp 9) (.tmp 25) rfl rfl rfl ?_; intro w2 D2 ho2 hb2 hz2; have K2 := Lib.hid D2; have B2 := Lib.hid ((box_below w1 (.cells #[.int .i64 0, .int .i64 0, .int .i64 0, .int .u64 0, .int .u64 0, .int .u64 0, .bool false, .bool false, .int .i64 0, .int .i64 0, .int .i64 0, .slice none 0 0, .slice none 0 0, .slice none 0 0] 60)).trans hb2); clear D2 ho2 hb2 hz2 cl)
      have l1 := run_LoadE (K1.out.on B2.out)
      have l2 := run_LoadE K2.out
      have B12 := Lib.hid (B1.out.trans (B2.out.mono B1.out.size))
      have X1 := Lib.hid (HR1.out.below B12.out)
      have X2 := Lib.hid (HR2.out.below B12.out)
      cases r with
      | true =>
        have HA2 : Hid (∀ j, j < k + 1 → evB (ev1 j) (ev2 j) (el1 j) (el2 j) = true) := Lib.hid (fun j hj => by
          by_cases e : j = k
          · rw [e]; exact hr.out
          · exact HA.out j (by omega))
        go_wp2_with (go_at_call 70; (with_reducible refine (KS.out w2 X1.out X2.out).mono ?_); rintro e' w3 ⟨rfl, hb⟩; have L3 := Lib.hid (HL.out.trans ((B12.out.trans (hb.mono B12.out.size)).mono HL.out.size)); clear hb)
        go_roundw
        case rel => exact ⟨k + 1, by omega, by go_num, HA2, L3⟩
        case measure => simp [intOf]; omega
      | false =>
        have HN := Lib.hid (HX.out k hlt hr.out)
        go_wp2_with (go_at_call 70; (with_reducible refine (KS.out w2 X1.out X2.out).mono ?_); rintro e' w3 ⟨rfl, hb⟩; have L3 := Lib.hid (HL.out.trans ((B12.out.trans (hb.mono B12.out.size)).mono HL.out.size)); clear hb)
        go_ret
        exact ⟨by rw [HN.out]; rfl, L3.out⟩
    · obtain rfl : k = n := by omega
      have HN := Lib.hid (HY.out HA.out)
      go_wp2
      go_ret
      exact ⟨by rw [HN.out]; rfl, HL.out⟩
theorem rowD_any (v1 v2 : Value) (n m : Nat) (ev1 ev2 : Nat → Ev) (el1 el2 : Nat → El) (w : World) (hn : n ≤ 60) (h1 : RowV w v1 n ev1 el1) (h2 : RowV w v2 m ev2 el2) (s1 : ∀ k, k < n → small (el1 k)) (s2 : ∀ k, k < m → small (el2 k)) (f1 : ∀ k, k < n → NumFits (ev1 k)) (f2 : ∀ k, k < m → NumFits (ev2 k)) :
    Calls Tryz.prog 69 #[v1, v2, .func (.func 70) #[] #[]] w fun e w' => SameOk w (rowQ n m ev1 ev2 el1 el2) e w' := by
  obtain ⟨a1, c1, rfl, _, h1⟩ := h1
  obtain ⟨a2, c2, rfl, _, h2⟩ := h2
  by_cases hnm : n = m
  · subst hnm
    by_cases hp : 0 < n
    · rcases h1 with h | ⟨b1, o1, rfl, h1⟩
      · omega
      rcases h2 with h | ⟨b2, o2, rfl, h2⟩
      · omega
      exact rowD_some n b1 o1 c1 b2 o2 c2 ev1 ev2 el1 el2 w (by omega) (h1.evs (fun k hk => (s1 k hk).n)) (h2.evs (fun k hk => (s2 k hk).n)) f1 f2
    · obtain rfl : n = 0 := by omega
      rw [rowQ_yes (fun k hk => by omega)]
      exact rowD_none a1 a2 c1 c2 w
  · rw [rowQ_no hnm]
    exact rowD_lens a1 a2 n m c1 c2 hnm w
set_option maxRecDepth 100000 in
theorem sameRow_any (v1 v2 : Value) (n m : Nat) (ev1 ev2 : Nat → Ev) (el1 el2 : Nat → El) (w : World) (hn : n ≤ 60) (h1 : RowV w v1 n ev1 el1) (h2 : RowV w v2 m ev2 el2) (s1 : ∀ k, k < n → small (el1 k)) (s2 : ∀ k, k < m → small (el2 k)) (f1 : ∀ k, k < n → NumFits (ev1 k)) (f2 : ∀ k, k < m → NumFits (ev2 k)) (r : Bool) (hr : rowQ n m ev1 ev2 el1 el2 = r) :
    Calls Tryz.prog 49 #[v1, v2] w fun e w' => SameOk w r e w' := by
  have K := Lib.hid (rowD_any v1 v2 n m ev1 ev2 el1 el2 w hn h1 h2 s1 s2 f1 f2)
  rw [hr] at K
  clear h1 h2 s1 s2 f1 f2 hr
  go_enter Tryz.func49, Tryz.ntmps49
  go_wp2_with (go_at_call 69; (with_reducible refine (K.out).mono ?_); rintro e' w2 ⟨rfl, hb⟩; have L := Lib.hid hb; clear hb)
  go_ret
  exact ⟨rfl, L.out⟩
/-! ### harts -/
def hrB (d c : Cd) : Bool := decide (d.nh = c.nh) && (List.range d.nh).all (fun h => rowQ (d.len h) (c.len h) (d.ev h) (c.ev h) (d.el h) (c.el h))
theorem hrB_no {d c : Cd} (h : d.nh ≠ c.nh) : hrB d c = false := by unfold hrB; rw [decide_eq_false h]; rfl
theorem hrB_at {d c : Cd} {k : Nat} (hk : k < d.nh) (h : rowQ (d.len k) (c.len k) (d.ev k) (c.ev k) (d.el k) (c.el k) = false) : hrB d c = false := by
  unfold hrB
  have e : (List.range d.nh).all (fun h => rowQ (d.len h) (c.len h) (d.ev h) (c.ev h) (d.el h) (c.el h)) = false := by
    rw [List.all_eq_false]
    exact ⟨k, List.mem_range.2 hk, by rw [h]; simp⟩
  rw [e, Bool.and_false]
theorem hrB_yes {d c : Cd} (hn : d.nh = c.nh) (h : ∀ k, k < d.nh → rowQ (d.len k) (c.len k) (d.ev k) (c.ev k) (d.el k) (c.el k) = true) : hrB d c = true := by
  unfold hrB
  have e : (List.range d.nh).all (fun h => rowQ (d.len h) (c.len h) (d.ev h) (c.ev h) (d.el h) (c.el h)) = true := by
    rw [List.all_eq_true]
    exact fun k hk => h k (List.mem_range.1 hk)
  rw [e, decide_eq_true hn]; rfl
theorem candB_is (d c : Cd) : candB d c = (hrB d c && (decide (d.fs = c.fs) && (decide (d.fr = c.fr) && decide (d.od = c.od)))) := rfl
theorem hartsD_lens (a1 a2 : Option Addr) (n m c d : Nat) (hnm : n ≠ m) (w : World) : Calls Tryz.prog 48 #[.slice a1 n c, .slice a2 m d, .func (.func 49) #[] #[]] w fun e w' => SameOk w false e w' := by
  have h1 : (((n : Nat) : Int) != ((m : Nat) : Int)) = true := by simp; omega
  go_enter Tryz.func48, Tryz.ntmps48
  go_wp2
  go_ret
  exact ⟨rfl, Below.refl _ _⟩
set_option maxRecDepth 100000 in
set_option maxHeartbeats 8000000 in
theorem hartsD_some (d c : Cd) (a1 a2 : Option Addr) (c1 c2 : Nat) (w : World) (hL : Lt d) (hM : Lt c) (hn : d.nh = c.nh) (h1 : HsAt d d.nh a1 w) (h2 : HsAt c c.nh a2 w) (f1 : ∀ h, h < d.nh → ∀ k, k < d.len h → NumFits (d.ev h k)) (f2 : ∀ h, h < c.nh → ∀ k, k < c.len h → NumFits (c.ev h k)) :
    Calls Tryz.prog 48 #[.slice a1 d.nh c1, .slice a2 c.nh c2, .func (.func 49) #[] #[]] w fun e w' => SameOk w (hrB d c) e w' := by
  have HV := Lib.hid h1
  have HU := Lib.hid h2
  have HL := Lib.hid hL
  have HM := Lib.hid hM
  have F1 := Lib.hid f1
  have F2 := Lib.hid f2
  have hk9 := hL.nh
  have HY := Lib.hid (fun h => hrB_yes (d := d) (c := c) hn h)
  have HX := Lib.hid (fun k hk h => hrB_at (d := d) (c := c) (k := k) hk h)
  obtain ⟨rb, hrb⟩ : ∃ b, hrB d c = b := ⟨_, rfl⟩
  rw [hrb] at HY HX ⊢
  rw [← hn] at HU F2 ⊢
  obtain ⟨n, hnn⟩ : ∃ n, Hid (d.nh = n) := ⟨_, Lib.hid rfl⟩
  have hcn : Hid (c.nh = n) := Lib.hid (by rw [← hn, hnn.out])
  rw [hnn.out] at HV HU hk9 F1 F2 HY HX ⊢
  have hdn : ((n : Int) != (n : Int)) = false := by simp
  clear h1 h2 hL hM f1 f2 hrb hn
  go_enter Tryz.func48, Tryz.ntmps48
  go_wp2
  go_loopw [17] (fun vi wr => ∃ (j : Nat), j ≤ n ∧ vi = .int .i64 j ∧ Hid (∀ k, k < j → rowQ (d.len k) (c.len k) (d.ev k) (c.ev k) (d.el k) (c.el k) = true) ∧ Hid (Below w.heap.size w wr)) (fun vi _ => n - (intOf vi).toNat)
  case atStart => exact ⟨0, Nat.zero_le _, rfl, Lib.hid (fun k h => by omega), Lib.hid (Below.refl _ _)⟩
  case round =>
    obtain ⟨j, hj, rfl, HA, HB⟩ := hrel
    by_cases hlt : j < n
    · obtain ⟨b, off, a3, c3, rfl, hc, _, hrow⟩ := (HV.out.below HB.out).row j hlt
      obtain ⟨b', off', a4, c4, rfl, hc', _, hrow'⟩ := (HU.out.below HB.out).row j hlt
      obtain ⟨r, hr⟩ : ∃ r, Hid (rowQ (d.len j) (c.len j) (d.ev j) (c.ev j) (d.el j) (c.el j) = r) := ⟨_, Lib.hid rfl⟩
      have KR := Lib.hid (sameRow_any _ _ _ _ _ _ _ _ wr (HL.out.small j (by rw [hnn.out]; exact hlt)).1 hrow hrow' (HL.out.small j (by rw [hnn.out]; exact hlt)).2 (HM.out.small j (by rw [hcn.out]; exact hlt)).2 (F1.out j hlt) (F2.out j hlt) r hr.out)
      clear hrow hrow'
      have hj0 : (0 : Int) ≤ (j : Int) := by omega
      have hjn : (j : Int) < (n : Int) := by omega
      cases r with
      | true =>
        have HA2 : Hid (∀ k, k < j + 1 → rowQ (d.len k) (c.len k) (d.ev k) (c.ev k) (d.el k) (c.el k) = true) := Lib.hid (fun k hk => by
          by_cases e : k = j
          · rw [e]; exact hr.out
          · exact HA.out k (by omega))
        go_wp2_with (go_at_call 49; (with_reducible refine (KR.out).mono ?_); rintro e' w2 ⟨rfl, hb⟩; have L2 := Lib.hid (HB.out.trans (hb.mono HB.out.size)); clear hb)
        go_roundw
        case rel => exact ⟨j + 1, by omega, by go_num, HA2, L2⟩
        case measure => simp [intOf]; omega
      | false =>
        have HN := Lib.hid (HX.out j hlt hr.out)
        go_wp2_with (go_at_call 49; (with_reducible refine (KR.out).mono ?_); rintro e' w2 ⟨rfl, hb⟩; have L2 := Lib.hid (HB.out.trans (hb.mono HB.out.size)); clear hb)
        go_ret
        exact ⟨by rw [HN.out]; rfl, L2.out⟩
    · obtain rfl : j = n := by omega
      have HN := Lib.hid (HY.out HA.out)
      go_wp2
      go_ret
      exact ⟨by rw [HN.out]; rfl, HB.out⟩
theorem hartsD_b (d c : Cd) (a1 a2 : Option Addr) (c1 c2 : Nat) (r : Bool) (hr : hrB d c = r) (w : World) (hL : Lt d) (hM : Lt c) (h1 : HsAt d d.nh a1 w) (h2 : HsAt c c.nh a2 w) (f1 : ∀ h, h < d.nh → ∀ k, k < d.len h → NumFits (d.ev h k)) (f2 : ∀ h, h < c.nh → ∀ k, k < c.len h → NumFits (c.ev h k)) :
    Calls Tryz.prog 48 #[.slice a1 d.nh c1, .slice a2 c.nh c2, .func (.func 49) #[] #[]] w fun e w' => SameOk w r e w' := by
  subst hr
  by_cases hn : d.nh = c.nh
  · exact hartsD_some d c a1 a2 c1 c2 w hL hM hn h1 h2 f1 f2
  · rw [hrB_no hn]
    exact hartsD_lens a1 a2 d.nh c.nh c1 c2 hn w
set_option maxRecDepth 100000 in
set_option maxHeartbeats 8000000 in
theorem SameC_any (d : Cd) (q' : Cv) (c : Cd) (q : Cv) (w : World) (hL : Lt d) (hM : Lt c) (h0 : CAt d q' w) (h1 : CAt c q w) (f1 : ∀ h, h < d.nh → ∀ k, k < d.len h → NumFits (d.ev h k)) (f2 : ∀ h, h < c.nh → ∀ k, k < c.len h → NumFits (c.ev h k)) :
    Calls Tryz.prog 22 #[cdV d q', cdV c q] w fun e w' => SameOk w (candB d c) e w' := by
  have S0 := Lib.hid (Cbx.start h0 h1)
  have HR := Lib.hid (candB_is d c)
  obtain ⟨rb, hrb⟩ : ∃ b, candB d c = b := ⟨_, rfl⟩
  obtain ⟨rF, hrF⟩ : ∃ b, Hid (decide (d.fs = c.fs) = b) := ⟨_, Lib.hid rfl⟩
  obtain ⟨rH, hrH⟩ : ∃ b, Hid (hrB d c = b) := ⟨_, Lib.hid rfl⟩
  obtain ⟨rR, hrR⟩ : ∃ b, Hid (decide (d.fr = c.fr) = b) := ⟨_, Lib.hid rfl⟩
  obtain ⟨rO, hrO⟩ : ∃ b, Hid (decide (d.od = c.od) = b) := ⟨_, Lib.hid rfl⟩
  rw [hrb, hrF.out, hrH.out, hrR.out, hrO.out] at HR
  rw [hrb]
  have KF := Lib.hid (fun w0 (x0 : CAt d q' w0) (x1 : CAt c q w0) => equalD_b _ _ d.fs c.fs rF hrF.out w0 x0.first x1.first (by have := hL.fs; omega))
  have KH := Lib.hid (fun w0 (x0 : CAt d q' w0) (x1 : CAt c q w0) => hartsD_b d c q'.aH q.aH q'.cH q.cH rH hrH.out w0 hL hM x0.harts x1.harts f1 f2)
  have KR := Lib.hid (fun w0 (x0 : CAt d q' w0) (x1 : CAt c q w0) => equal_b _ _ d.fr c.fr rR hrR.out w0 x0.from_ x1.from_ (by have := hL.fr; omega))
  have KO := Lib.hid (fun w0 (x0 : CAt d q' w0) (x1 : CAt c q w0) => equal_b _ _ d.od c.od rO hrO.out w0 x0.order x1.order (by have := hL.od; omega))
  clear h0 h1 hL hM f1 f2 hrb hrF hrH hrR hrO
  obtain ⟨x0, x1, x2, x3, y0, y1, y2, y3⟩ := S0.out.facts
  go_enter Tryz.func22, Tryz.ntmps22
  cases rF with
  | false =>
    go_wp2_with (go_at_call 47; (with_reducible refine (KF.out _ S0.out.at0 S0.out.at1).mono ?_); rintro e' w1 ⟨rfl, hb⟩; have S1 := Lib.hid (S0.out.on hb); clear hb x0 x1 x2 x3 y0 y1 y2 y3; obtain ⟨x0, x1, x2, x3, y0, y1, y2, y3⟩ := S1.out.facts)
    go_ret
    exact ⟨by rw [HR.out]; simp, S1.out.below⟩
  | true =>
    cases rH with
    | false =>
      go_wp2_with (first | (go_at_call 47; (with_reducible refine (KF.out _ S0.out.at0 S0.out.at1).mono ?_); rintro e' w1 ⟨rfl, hb⟩; have S1 := Lib.hid (S0.out.on hb); clear hb x0 x1 x2 x3 y0 y1 y2 y3; obtain ⟨x0, x1, x2, x3, y0, y1, y2, y3⟩ := S1.out.facts) | (go_at_call 48; (with_reducible refine (KH.out _ S1.out.at0 S1.out.at1).mono ?_); rintro e' w2 ⟨rfl, hb⟩; have S2 := Lib.hid (S1.out.on hb); clear hb x0 x1 x2 x3 y0 y1 y2 y3; obtain ⟨x0, x1, x2, x3, y0, y1, y2, y3⟩ := S2.out.facts))
      go_ret
      exact ⟨by rw [HR.out]; simp, S2.out.below⟩
    | true =>
      cases rR with
      | false =>
        go_wp2_with (first | (go_at_call 47; (with_reducible refine (KF.out _ S0.out.at0 S0.out.at1).mono ?_); rintro e' w1 ⟨rfl, hb⟩; have S1 := Lib.hid (S0.out.on hb); clear hb x0 x1 x2 x3 y0 y1 y2 y3; obtain ⟨x0, x1, x2, x3, y0, y1, y2, y3⟩ := S1.out.facts) | (go_at_call 48; (with_reducible refine (KH.out _ S1.out.at0 S1.out.at1).mono ?_); rintro e' w2 ⟨rfl, hb⟩; have S2 := Lib.hid (S1.out.on hb); clear hb x0 x1 x2 x3 y0 y1 y2 y3; obtain ⟨x0, x1, x2, x3, y0, y1, y2, y3⟩ := S2.out.facts) | (go_at_call 50; (with_reducible refine (KR.out _ S2.out.at0 S2.out.at1).mono ?_); rintro e' w3 ⟨rfl, hb⟩; have S3 := Lib.hid (S2.out.on hb); clear hb x0 x1 x2 x3 y0 y1 y2 y3; obtain ⟨x0, x1, x2, x3, y0, y1, y2, y3⟩ := S3.out.facts))
        go_ret
        exact ⟨by rw [HR.out]; simp, S3.out.below⟩
      | true =>
        go_wp2_with (first | (go_at_call 47; (with_reducible refine (KF.out _ S0.out.at0 S0.out.at1).mono ?_); rintro e' w1 ⟨rfl, hb⟩; have S1 := Lib.hid (S0.out.on hb); clear hb x0 x1 x2 x3 y0 y1 y2 y3; obtain ⟨x0, x1, x2, x3, y0, y1, y2, y3⟩ := S1.out.facts) | (go_at_call 48; (with_reducible refine (KH.out _ S1.out.at0 S1.out.at1).mono ?_); rintro e' w2 ⟨rfl, hb⟩; have S2 := Lib.hid (S1.out.on hb); clear hb x0 x1 x2 x3 y0 y1 y2 y3; obtain ⟨x0, x1, x2, x3, y0, y1, y2, y3⟩ := S2.out.facts) | (go_at_call 50; (with_reducible refine (KR.out _ S2.out.at0 S2.out.at1).mono ?_); rintro e' w3 ⟨rfl, hb⟩; have S3 := Lib.hid (S2.out.on hb); clear hb x0 x1 x2 x3 y0 y1 y2 y3; obtain ⟨x0, x1, x2, x3, y0, y1, y2, y3⟩ := S3.out.facts) | (go_at_call 50; (with_reducible refine (KO.out _ S3.out.at0 S3.out.at1).mono ?_); rintro e' w4 ⟨rfl, hb⟩; have S4 := Lib.hid (S3.out.on hb); clear hb x0 x1 x2 x3 y0 y1 y2 y3; obtain ⟨x0, x1, x2, x3, y0, y1, y2, y3⟩ := S4.out.facts))
        go_ret
        exact ⟨by rw [HR.out]; simp, S4.out.below⟩
end Go.Proofs.YtokhnjcbcpmmjaaGreat
