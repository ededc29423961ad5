/-
  Proved here: slices.Equal at cells, slices.EqualFunc at events and at rows, cand.Same tell true of a candidate and itself; cand.Same tells false of two whose First has not the same length; nothing that was there is changed. Condition: a light candidate.
-/
import Derived.Test.YtcebcmmbokajcaaCdSame
import Derived.Test.YtcebcmmbokajcaaCdLook
namespace Go.Proofs.Ytcebcmmbokajcaa
set_option linter.unusedVariables false
set_option linter.unusedSimpArgs false
open Go.RowKit
attribute [local go_sem ↓] fold_E fold_SE
attribute [local irreducible] wpStill

theorem sameP_self (x y : Int) : sameP x y x y = true := by unfold sameP; simp
theorem equalC_lens (a1 a2 : Option Addr) (n m c d : Nat) (hnm : n ≠ m) (w : World) : Calls Try.prog 39 #[.slice a1 n c, .slice a2 m d] w fun e w' => SameOk w false e w' := by
  have h1 : (((n : Nat) : Int) != ((m : Nat) : Int)) = true := by simp; omega
  go_enter Try.func39, Try.ntmps39
  go_wp2
  go_ret
  exact ⟨rfl, Below.refl _ _⟩
set_option maxRecDepth 100000 in
set_option maxHeartbeats 4000000 in
theorem equalC_some (a : List (Int × Int)) (n b1 o1 c1 : Nat) (w : World) (ha : a.length = n) (hn : n ≤ 1000) (hl1 : b1 < w.heap.size) (h1 : CellsIn w b1 o1 a) :
    Calls Try.prog 39 #[.slice (some ⟨b1, o1, none⟩) n c1, .slice (some ⟨b1, o1, none⟩) n c1] w fun e w' => SameOk w true e w' := by
  have H1 := Lib.hid h1
  have HA := Lib.hid ha
  have hgt : Try.prog.eqGuardType Try.prog.depth 33 = false := by kernel_rfl
  have hnn : ((n : Int) != (n : Int)) = false := by simp
  clear h1 ha
  go_enter Try.func39, Try.ntmps39
  go_wp2
  go_loopw [13] (fun i wr => ∃ k : Nat, k ≤ n ∧ i = .int .i64 k ∧ Below w.heap.size w wr) (fun i _ => n - (intOf i).toNat)
  case atStart => exact ⟨0, Nat.zero_le _, rfl, Below.refl _ _⟩
  case round =>
    obtain ⟨k, hk, rfl, hbel⟩ := hrel
    have HL := Lib.hid hbel
    clear hbel
    by_cases hlt : k < n
    · have p0 := (HL.out.cell (p := ⟨b1, o1 + k * 2, none⟩) hl1).trans (H1.out k (by rw [HA.out]; exact hlt)).1
      have p1 := (HL.out.cell (p := ⟨b1, o1 + k * 2 + 1, none⟩) hl1).trans (H1.out k (by rw [HA.out]; exact hlt)).2
      obtain ⟨x1, hx1⟩ : ∃ x, Hid (fA a k = x) := ⟨_, Lib.hid rfl⟩
      obtain ⟨y1, hy1⟩ : ∃ x, Hid (fV a k = x) := ⟨_, Lib.hid rfl⟩
      rw [hx1.out] at p0
      rw [hy1.out] at p1
      have hne := neqC_run x1 y1 x1 y1
      rw [sameP_self] at hne
      have hk0 : (0 : Int) ≤ (k : Int) := by omega
      have hkn : (k : Int) < (n : Int) := by omega
      go_upto_region 6 with fail
      refine wp_region_still_tail 8 (by kernel_rfl) (by kernel_rfl) ?_
      simp only [List.take_succ_cons, List.take_zero, List.drop_succ_cons, List.drop_zero]
      iterate 8 still_step
      refine wpStill_nil ?_
      change wpList _ _ _ _ _ (World.drew _)
      go_wp2
      go_roundw
      case rel => exact ⟨k + 1, by omega, by go_num, HL.out.drew⟩
      case measure => simp [intOf]; omega
    · have HK : Hid (k = n) := Lib.hid (by omega)
      go_wp2
      go_ret
      exact ⟨rfl, HL.out⟩
theorem equalC_none (a1 : Option Addr) (c : Nat) (w : World) : Calls Try.prog 39 #[.slice a1 0 c, .slice a1 0 c] w fun e w' => SameOk w true e w' := by
  go_enter Try.func39, Try.ntmps39
  go_wp2
  refine wp_loop_rounds 1 ?_
  rw [rounds_succ]
  go_wp2
  go_ret
  exact ⟨rfl, Below.refl _ _⟩
theorem equalC_self (v : Value) (a : List (Int × Int)) (w : World) (h : ReadsF w v a) (hn : a.length ≤ 1000) : Calls Try.prog 39 #[v, v] w fun e w' => SameOk w true e w' := by
  rcases h with ⟨⟨a1, c1, rfl, _⟩, rfl⟩ | ⟨b1, o1, c1, rfl, _, _, h3, h4⟩
  · exact equalC_none a1 c1 w
  · exact equalC_some a a.length b1 o1 c1 w rfl hn h3 h4
/-! ### rows -/
theorem rowEq_none (a1 : Option Addr) (c : Nat) (w : World) : Calls Try.prog 66 #[.slice a1 0 c, .slice a1 0 c, .func (.func 67) #[] #[]] w fun e w' => SameOk w true e w' := by
  go_enter Try.func66, Try.ntmps66
  go_wp2
  refine wp_loop_rounds 1 ?_
  rw [rounds_succ]
  go_wp2
  go_ret
  exact ⟨rfl, Below.refl _ _⟩
def ZE : Obj := .cells #[.int .i64 0, .int .i64 0, .int .i64 0, .int .u64 0, .int .u64 0, .int .u64 0, .bool false, .bool false, .int .i64 0, .int .i64 0, .int .i64 0, .slice none 0 0, .slice none 0 0, .slice none 0 0] 50
set_option maxRecDepth 100000 in
set_option maxHeartbeats 8000000 in
theorem rowEq_some (n b off c : Nat) (ev : Nat → Ev) (el : Nat → El) (w : World) (hn : n ≤ 1000) (h : Evs n b off ev el w) :
    Calls Try.prog 66 #[.slice (some ⟨b, off, none⟩) n c, .slice (some ⟨b, off, none⟩) n c, .func (.func 67) #[] #[]] w fun e w' => SameOk w true e w' := by
  have HV := Lib.hid h
  have hnn : ((n : Int) != (n : Int)) = false := by simp
  clear h
  go_enter Try.func66, Try.ntmps66
  go_wp2
  go_loopw [17] (fun i wr => ∃ k : Nat, k ≤ n ∧ i = .int .i64 k ∧ Hid (Below w.heap.size w wr)) (fun i _ => n - (intOf i).toNat)
  case atStart => exact ⟨0, Nat.zero_le _, rfl, Lib.hid (Below.refl _ _)⟩
  case round =>
    obtain ⟨k, hk, rfl, HL⟩ := hrel
    by_cases hlt : k < n
    · have HE := Lib.hid (HV.out.below HL.out)
      have cl := (HE.out.at_ k hlt).load
      obtain ⟨e, he⟩ : ∃ e, Hid (ev k = e) := ⟨_, Lib.hid rfl⟩
      rw [he.out] at cl
      have hfl : Hid e.flat := Lib.hid (by rw [← he.out]; exact (HE.out.reads k hlt).flat)
      have HR := Lib.hid (show EReads wr e (el k) from by rw [← he.out]; exact HE.out.reads k hlt)
      have HEN := Lib.hid (HE.out.len k hlt)
      go_upto_region 6 with (refine store_ev (EvAt.new zeroEv wr) e hfl.out rfl (.tmp 8) (.tmp 21) rfl rfl rfl ?_; intro w1 D1 ho1 hb1 hz1; have K1 := Lib.hid D1; have B1 := Lib.hid ((box_below wr (.cells #[.int .i64 0, .int .i64 0, .int .i64 0, .int .u64 0, .int .u64 0, .int .u64 0, .bool false, .bool false, .int .i64 0, .int .i64 0, .int .i64 0, .slice none 0 0, .slice none 0 0, .slice none 0 0] 50)).trans hb1); clear D1 ho1 hb1 hz1 cl; have HE1 := Lib.hid (HE.out.below B1.out); have cl := (HE1.out.at_ k hlt).load; rw [he.out] at cl)
      go_upto_region 7 with (refine store_ev (EvAt.new zeroEv w1) e hfl.out rfl (.tmp 9) (.tmp 25) rfl rfl rfl ?_; intro w2 D2 ho2 hb2 hz2; have K2 := Lib.hid D2; have B2 := Lib.hid ((box_below w1 (.cells #[.int .i64 0, .int .i64 0, .int .i64 0, .int .u64 0, .int .u64 0, .int .u64 0, .bool false, .bool false, .int .i64 0, .int .i64 0, .int .i64 0, .slice none 0 0, .slice none 0 0, .slice none 0 0] 50)).trans hb2); clear D2 ho2 hb2 hz2 cl)
      have l1 := run_LoadE (K1.out.on B2.out)
      have l2 := run_LoadE K2.out
      have B12 := Lib.hid (B1.out.trans (B2.out.mono B1.out.size))
      have HR2 := Lib.hid (HR.out.below B12.out)
      go_wp2_with (go_at_call 67; (with_reducible refine (sameE_self e (el k) w2 HR2.out HEN.out).mono ?_); rintro e' w3 ⟨rfl, hb⟩; have L3 := Lib.hid (HL.out.trans ((B12.out.trans (hb.mono B12.out.size)).mono HL.out.size)); clear hb)
      go_roundw
      case rel => exact ⟨k + 1, by omega, by go_num, L3⟩
      case measure => simp [intOf]; omega
    · have HK : Hid (k = n) := Lib.hid (by omega)
      go_wp2
      go_ret
      exact ⟨rfl, HL.out⟩
theorem rowEq_self (v : Value) (n : Nat) (ev : Nat → Ev) (el : Nat → El) (w : World) (h : RowV w v n ev el) (hn : n ≤ 60) (hs : ∀ k, k < n → small (el k)) : Calls Try.prog 66 #[v, v, .func (.func 67) #[] #[]] w fun e w' => SameOk w true e w' := by
  obtain ⟨a, c, rfl, hc, h0 | ⟨b, off, rfl, hr⟩⟩ := h
  · subst h0
    exact rowEq_none a c w
  · exact rowEq_some n b off c ev el w (by omega) ⟨hr.at_, hr.reads, fun k hk => (hs k hk).n, hr.low, hr.lt⟩
set_option maxRecDepth 100000 in
theorem sameRow_self (v : Value) (n : Nat) (ev : Nat → Ev) (el : Nat → El) (w : World) (h : RowV w v n ev el) (hn : n ≤ 60) (hs : ∀ k, k < n → small (el k)) : Calls Try.prog 41 #[v, v] w fun e w' => SameOk w true e w' := by
  have K := Lib.hid (rowEq_self v n ev el w h hn hs)
  clear h hs
  go_enter Try.func41, Try.ntmps41
  go_wp2_with (go_at_call 66; (with_reducible refine (K.out).mono ?_); rintro e' w2 ⟨rfl, hb⟩; have L := Lib.hid hb; clear hb)
  go_ret
  exact ⟨rfl, L.out⟩
set_option maxRecDepth 100000 in
set_option maxHeartbeats 8000000 in
theorem hartsEq_self (c : Cd) (a : Option Addr) (cp : Nat) (w : World) (hL : Lt c) (h : HsAt c c.nh a w) : Calls Try.prog 40 #[.slice a c.nh cp, .slice a c.nh cp, .func (.func 41) #[] #[]] w fun e w' => SameOk w true e w' := by
  have HV := Lib.hid h
  have HL := Lib.hid hL
  have hk9 := hL.nh
  obtain ⟨n, hn⟩ : ∃ n, Hid (c.nh = n) := ⟨_, Lib.hid rfl⟩
  rw [hn.out] at HV hk9 ⊢
  have hnn : ((n : Int) != (n : Int)) = false := by simp
  clear h hL
  go_enter Try.func40, Try.ntmps40
  go_wp2
  go_loopw [17] (fun vi wr => ∃ (j : Nat), j ≤ n ∧ vi = .int .i64 j ∧ Hid (Below w.heap.size w wr)) (fun vi _ => n - (intOf vi).toNat)
  case atStart => exact ⟨0, Nat.zero_le _, rfl, Lib.hid (Below.refl _ _)⟩
  case round =>
    obtain ⟨j, hj, rfl, HB⟩ := hrel
    by_cases hlt : j < n
    · obtain ⟨b, off, a2, c2, rfl, hc, _, hrow⟩ := (HV.out.below HB.out).row j hlt
      have KR := Lib.hid (sameRow_self _ _ _ _ wr hrow (HL.out.small j (by rw [hn.out]; exact hlt)).1 (HL.out.small j (by rw [hn.out]; exact hlt)).2)
      clear hrow
      have hj0 : (0 : Int) ≤ (j : Int) := by omega
      have hjn : (j : Int) < (n : Int) := by omega
      go_wp2_with (go_at_call 41; (with_reducible refine (KR.out).mono ?_); rintro e' w2 ⟨rfl, hb⟩; have L2 := Lib.hid (HB.out.trans (hb.mono HB.out.size)); clear hb)
      go_roundw
      case rel => exact ⟨j + 1, by omega, by go_num, L2⟩
      case measure => simp [intOf]; omega
    · obtain rfl : j = n := by omega
      go_wp2
      go_ret
      exact ⟨rfl, HB.out⟩
/-- two candidates' boxes -/
structure Two (c d : Cd) (q p : Cv) (w W : World) : Prop where
  a : CdAt c q w.heap.size W
  b : CdAt d p (w.heap.size + 1) W
  below : Below w.heap.size w W
theorem Two.on {c d : Cd} {q p : Cv} {w W W2 : World} (h : Two c d q p w W) (hb : Below W.heap.size W W2) : Two c d q p w W2 := ⟨h.a.on hb, h.b.on hb, h.below.trans (hb.mono h.below.size)⟩
theorem Two.start (c d : Cd) (q p : Cv) (w : World) : Two c d q p w ((w.alloc (.cells #[.slice q.aF c.fs.length q.cF, .slice q.aH c.nh q.cH, .slice q.aR c.fr.length q.cR, .slice q.aO c.od.length q.cO] 26)).alloc (.cells #[.slice p.aF d.fs.length p.cF, .slice p.aH d.nh p.cH, .slice p.aR d.fr.length p.cR, .slice p.aO d.od.length p.cO] 26)) := by
  have h1 := (CdAt.new c q w).on (box_below _ (.cells #[.slice p.aF d.fs.length p.cF, .slice p.aH d.nh p.cH, .slice p.aR d.fr.length p.cR, .slice p.aO d.od.length p.cO] 26))
  have h2 := CdAt.new d p (w.alloc (.cells #[.slice q.aF c.fs.length q.cF, .slice q.aH c.nh q.cH, .slice q.aR c.fr.length q.cR, .slice q.aO c.od.length q.cO] 26))
  rw [World.size_alloc] at h2
  exact ⟨h1, h2, (box_below _ _).trans ((box_below _ _).mono (by simp))⟩
set_option maxRecDepth 100000 in
set_option maxHeartbeats 8000000 in
theorem SameC_self (c : Cd) (q : Cv) (w : World) (hL : Lt c) (h : CAt c q w) : Calls Try.prog 16 #[cdV c q, cdV c q] w fun e w' => SameOk w true e w' := by
  have S0 := Lib.hid (Two.start c c q q w)
  have HC := Lib.hid h
  have hfs : c.fs.length ≤ 1000 := by have := hL.fs; omega
  have hfr : c.fr.length ≤ 100000 := by have := hL.fr; omega
  have hod : c.od.length ≤ 100000 := by have := hL.od; omega
  have HL := Lib.hid hL
  clear h hL
  obtain ⟨u0, u1, u2, u3⟩ := S0.out.a.facts
  obtain ⟨v0, v1, v2, v3⟩ := S0.out.b.facts
  go_enter Try.func16, Try.ntmps16
  go_wp2_with (first
    | (go_at_call 39; (with_reducible refine (equalC_self _ c.fs _ (HC.out.below S0.out.below).first hfs).mono ?_); rintro e' w1 ⟨rfl, hb⟩; have S1 := Lib.hid (S0.out.on hb); clear hb u0 u1 u2 u3 v0 v1 v2 v3; obtain ⟨u0, u1, u2, u3⟩ := S1.out.a.facts; obtain ⟨v0, v1, v2, v3⟩ := S1.out.b.facts)
    | (go_at_call 40; (with_reducible refine (hartsEq_self c _ _ _ HL.out (HC.out.below S1.out.below).harts).mono ?_); rintro e' w2 ⟨rfl, hb⟩; have S2 := Lib.hid (S1.out.on hb); clear hb u0 u1 u2 u3 v0 v1 v2 v3; obtain ⟨u0, u1, u2, u3⟩ := S2.out.a.facts; obtain ⟨v0, v1, v2, v3⟩ := S2.out.b.facts)
    | (go_at_call 42; (with_reducible refine (equal_yes _ c.fr _ (HC.out.below S2.out.below).from_ hfr).mono ?_); rintro e' w3 ⟨rfl, hb⟩; have S3 := Lib.hid (S2.out.on hb); clear hb u0 u1 u2 u3 v0 v1 v2 v3; obtain ⟨u0, u1, u2, u3⟩ := S3.out.a.facts; obtain ⟨v0, v1, v2, v3⟩ := S3.out.b.facts)
    | (go_at_call 42; (with_reducible refine (equal_yes _ c.od _ (HC.out.below S3.out.below).order hod).mono ?_); rintro e' w4 ⟨rfl, hb⟩; have S4 := Lib.hid (S3.out.on hb); clear hb u0 u1 u2 u3 v0 v1 v2 v3))
  go_ret
  exact ⟨rfl, S4.out.below⟩
set_option maxRecDepth 100000 in
set_option maxHeartbeats 8000000 in
theorem SameC_lens (c d : Cd) (q p : Cv) (w : World) (hl : c.fs.length ≠ d.fs.length) : Calls Try.prog 16 #[cdV c q, cdV d p] w fun e w' => SameOk w false e w' := by
  have S0 := Lib.hid (Two.start c d q p w)
  have K := Lib.hid (fun w0 => equalC_lens q.aF p.aF c.fs.length d.fs.length q.cF p.cF hl w0)
  clear hl
  obtain ⟨u0, u1, u2, u3⟩ := S0.out.a.facts
  obtain ⟨v0, v1, v2, v3⟩ := S0.out.b.facts
  go_enter Try.func16, Try.ntmps16
  go_wp2_with (go_at_call 39; (with_reducible refine (K.out _).mono ?_); rintro e' w1 ⟨rfl, hb⟩; have S1 := Lib.hid (S0.out.on hb); clear hb u0 u1 u2 u3 v0 v1 v2 v3)
  go_ret
  exact ⟨rfl, S1.out.below⟩
end Go.Proofs.Ytcebcmmbokajcaa
