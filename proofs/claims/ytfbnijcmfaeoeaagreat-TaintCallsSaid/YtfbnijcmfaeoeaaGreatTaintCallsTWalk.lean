/-
  Proved here: the law TaintCalls answers true of any taints, instruction, lists; nothing that was there is changed. No condition.
-/
import Derived.Test.YtfbnijcmfaeoeaaGreatTaintScriptBase
import Derived.Test.YtfbnijcmfaeoeaaGreatTaintSame
import Derived.Deep.RegionHeld3
import Derived.Deep.CutBlock
import Derived.Deep.DeepCutAuto
namespace Go.Proofs.YtfbnijcmfaeoeaaGreat
set_option linter.unusedVariables false
open Go.RowKit
attribute [local go_sem ↓] fold_T fold_I fold_ST fold_SD fold_LD

/-- the law's boxes, and its lists -/
structure Tri (t o : Ta) (lt lo : Tl) (i : Ins) (va vb : Value) (al bl : List Int) (w W : World) : Prop where
  b0 : TAt 25 t w.heap.size W
  b1 : TAt 25 o (w.heap.size + 1) W
  b2 : InsAt i (w.heap.size + 1 + 1) W
  r0 : TReads W t lt
  r1 : TReads W o lo
  ra : ReadsI W va al
  rb : ReadsI W vb bl
  low : Below w.heap.size w W
theorem Tri.on {t o : Ta} {lt lo : Tl} {i : Ins} {va vb : Value} {al bl : List Int} {w W W2 : World} (h : Tri t o lt lo i va vb al bl w W) (hb : Below W.heap.size W W2) : Tri t o lt lo i va vb al bl w W2 :=
  ⟨h.b0.below hb h.b0.lt, h.b1.below hb h.b1.lt, h.b2.below hb (Array.getElem?_eq_some_iff.1 h.b2).1, h.r0.below hb, h.r1.below hb, h.ra.below hb, h.rb.below hb, Below.tr h.low hb⟩
theorem Tri.start (t o : Ta) (lt lo : Tl) (i : Ins) (va vb : Value) (al bl : List Int) (w : World) (h : TReads w t lt) (h2 : TReads w o lo) (ha : ReadsI w va al) (hb : ReadsI w vb bl) :
    Tri t o lt lo i va vb al bl w (((w.alloc (.cells (tC t) 25)).alloc (.cells (tC o) 25)).alloc (.cells (insCells i) 27)) := by
  have D0 := TAt.new 25 t w
  have D1 := TAt.new 25 o (w.alloc (.cells (tC t) 25))
  have D2 := ins_new i ((w.alloc (.cells (tC t) 25)).alloc (.cells (tC o) 25))
  simp only [World.size_alloc] at D0 D1 D2
  have hb3 : Below w.heap.size w (((w.alloc (.cells (tC t) 25)).alloc (.cells (tC o) 25)).alloc (.cells (insCells i) 27)) := Below.al (Below.al (Below.al (Below.refl _ _) _) _) _
  exact ⟨(D0.alloc _).alloc _, D1.alloc _, D2, h.below hb3, h2.below hb3, ha.below hb3, hb.below hb3, hb3⟩
theorem Tri.two {t o : Ta} {lt lo : Tl} {i : Ins} {va vb : Value} {al bl : List Int} {w V W : World} (h : Tri t o lt lo i va vb al bl w V) (hb : Below V.heap.size V W) :
    (LoadT (.pointer (some ⟨w.heap.size, 0, none⟩))).run Tryz.prog W = .ok t.V W ∧ (LoadI (.pointer (some ⟨w.heap.size + 1 + 1, 0, none⟩))).run Tryz.prog W = .ok i.V W :=
  ⟨run_LoadT (h.on hb).b0, run_LoadI (h.on hb).b2⟩
/-- all that is compared -/
structure All7 (t o : Ta) (lt lo : Tl) (i : Ins) (va vb : Value) (al bl : List Int) (V0 : World) (l2 : Tl) (AL DL YL : List Int) (g h : Nat) (tx : Ta) (ta td ty : Value) (g2 : Nat) (ox : Ta) (oa od oy : Value) (w W : World) : Prop where
  tri : Tri t o lt lo i va vb al bl w W
  x : Bx V0 l2 AL DL YL g h tx ta td ty W
  y : Got 0 g2 ox l2 oa od oy AL DL YL W
theorem All7.on {t o : Ta} {lt lo : Tl} {i : Ins} {va vb : Value} {al bl : List Int} {V0 : World} {l2 : Tl} {AL DL YL : List Int} {g h : Nat} {tx : Ta} {ta td ty : Value} {g2 : Nat} {ox : Ta} {oa od oy : Value} {w W W2 : World} (H : All7 t o lt lo i va vb al bl V0 l2 AL DL YL g h tx ta td ty g2 ox oa od oy w W) (hb : Below W.heap.size W W2) : All7 t o lt lo i va vb al bl V0 l2 AL DL YL g h tx ta td ty g2 ox oa od oy w W2 := ⟨H.tri.on hb, H.x.on hb, H.y.on hb⟩
theorem All7.drew {t o : Ta} {lt lo : Tl} {i : Ins} {va vb : Value} {al bl : List Int} {V0 : World} {l2 : Tl} {AL DL YL : List Int} {g h : Nat} {tx : Ta} {ta td ty : Value} {g2 : Nat} {ox : Ta} {oa od oy : Value} {w W : World} (H : All7 t o lt lo i va vb al bl V0 l2 AL DL YL g h tx ta td ty g2 ox oa od oy w W) : All7 t o lt lo i va vb al bl V0 l2 AL DL YL g h tx ta td ty g2 ox oa od oy w W.drew := H.on (Below.refl _ _).drew
theorem All7.six {t o : Ta} {lt lo : Tl} {i : Ins} {va vb : Value} {al bl : List Int} {V0 : World} {l2 : Tl} {AL DL YL : List Int} {g h : Nat} {tx : Ta} {ta td ty : Value} {g2 : Nat} {ox : Ta} {oa od oy : Value} {w W : World} (H : All7 t o lt lo i va vb al bl V0 l2 AL DL YL g h tx ta td ty g2 ox oa od oy w W) : (LoadT (.pointer (some ⟨w.heap.size, 0, none⟩))).run Tryz.prog W = .ok t.V W ∧ (LoadT (.pointer (some ⟨w.heap.size + 1, 0, none⟩))).run Tryz.prog W = .ok o.V W ∧ (LoadT (.pointer (some ⟨g, 0, none⟩))).run Tryz.prog W = .ok tx.V W ∧ (LoadT (.pointer (some ⟨g2, 0, none⟩))).run Tryz.prog W = .ok ox.V W ∧ (LoadD (.pointer (some ⟨h, 0, none⟩))).run Tryz.prog W = .ok (.agg #[ta, td, ty]) W ∧ (LoadD (.pointer (some ⟨g2 + 1, 0, none⟩))).run Tryz.prog W = .ok (.agg #[oa, od, oy]) W :=
  ⟨run_LoadT H.tri.b0, run_LoadT H.tri.b1, run_LoadT H.x.x, run_LoadT H.y.box, run_LoadD H.x.d, run_LoadD H.y.deps⟩
structure Step2 (l : Tl) (i : Ins) (ev : Int) (l2 : Tl) (al dl yl : List Int) (err : Int) : Prop where
  prog : ∀ (t : Ta) (W : World), TReads W t l → Calls Tryz.prog 6 #[t.V, i.V, .int .i64 ev] W fun e w' => StepOk W l2 al dl yl err e w'
  doc : ∀ (t : Ta) (W : World), TReads W t l → Calls Tryz.prog 8 #[t.V, i.V, .int .i64 ev] W fun e w' => StepOk W l2 al dl yl err e w'
  short : l2.short
  lens : al.length ≤ 10000 ∧ dl.length ≤ 10000 ∧ yl.length ≤ 10000
theorem step_two (l : Tl) (i : Ins) (ev : Int) (hl : lightB l = true) (him : FitIns i) : ∃ (l2 : Tl) (al dl yl : List Int) (err : Int), Step2 l i ev l2 al dl yl err := by
  have hs := light_short hl
  cases hk : stepOkB l i ev
  · refine ⟨zeroTl, [], [], [], 2, ⟨fun t W h => step_bad t l i ev W h hs (Lib.hid hk), fun t W h => ?_, zero_short, by simp, by simp, by simp⟩⟩
    have := rStep_any t l i ev W h hs him
    unfold stepRow at this
    rw [hk] at this; exact this
  · obtain ⟨h1, h2, h3⟩ := step_may hk
    have hrd : 0 ≤ i.rd ∧ i.rd < 32 := by have := (may_of i h2).rd; omega
    have hd := deps_small l i hl
    refine ⟨behindL l i ev, addrL l i, dataL l i, l.way, 0, ⟨fun t W h => step_ok t l i ev W h hs (Lib.hid hk), fun t W h => ?_, behind_short l i ev hrd hl, by omega, by omega, hs.2⟩⟩
    have := rStep_any t l i ev W h hs him
    unfold stepRow at this
    rw [hk] at this; exact this
set_option maxRecDepth 100000 in
set_option maxHeartbeats 4000000 in
theorem calls_no1 (t o : Ta) (lt lo : Tl) (i : Ins) (event : Int) (a1 a2 : Option Addr) (c1 c2 : Nat) (al bl : List Int) (w : World) (h : TReads w t lt) (h2 : TReads w o lo) (ha : ReadsI w (.slice a1 al.length c1) al) (hb : ReadsI w (.slice a2 bl.length c2) bl) (hl : lightB lt = false) : Calls Tryz.prog 3 #[t.V, o.V, i.V, .int .i64 event, .slice a1 al.length c1, .slice a2 bl.length c2] w fun e w' => SameOk w true e w' := by
  have S0 := Lib.hid (Tri.start t o lt lo i _ _ al bl w h h2 ha hb)
  have KL := Lib.hid (fun w0 => light_is t lt false hl w w0 h)
  clear h h2 ha hb
  go_enter Tryz.func3, Tryz.ntmps3
  go_upto_region 1 with fail
  obtain ⟨W, HW⟩ : ∃ W, Hid (((w.alloc (.cells (tC t) 25)).alloc (.cells (tC o) 25)).alloc (.cells (insCells i) 27) = W) := ⟨_, Lib.hid rfl⟩
  rw [HW.out] at S0 ⊢
  clear HW
  go_upto_region 3 with (go_at_call 4; (with_reducible refine (lives_any _).mono ?_); rintro e w1 ⟨rfl, hb⟩; have S1 := Lib.hid (S0.out.on hb); clear hb)
  have cl := run_LoadT S1.out.b0
  have cl2 := run_LoadT S1.out.b1
  go_wp2_with (go_at_call 5; (with_reducible refine (KL.out _).mono ?_); rintro e w2 ⟨rfl, hb⟩; have S2 := Lib.hid (S1.out.on hb); clear hb cl cl2; have cl := run_LoadT S2.out.b0; have cl2 := run_LoadT S2.out.b1)
  go_ret
  exact ⟨rfl, S2.out.low⟩
set_option maxRecDepth 100000 in
set_option maxHeartbeats 4000000 in
theorem calls_no2 (t o : Ta) (lt lo : Tl) (i : Ins) (event : Int) (a1 a2 : Option Addr) (c1 c2 : Nat) (al bl : List Int) (w : World) (h : TReads w t lt) (h2 : TReads w o lo) (ha : ReadsI w (.slice a1 al.length c1) al) (hb : ReadsI w (.slice a2 bl.length c2) bl) (hl : lightB lt = true) (hl2 : lightB lo = false) : Calls Tryz.prog 3 #[t.V, o.V, i.V, .int .i64 event, .slice a1 al.length c1, .slice a2 bl.length c2] w fun e w' => SameOk w true e w' := by
  have S0 := Lib.hid (Tri.start t o lt lo i _ _ al bl w h h2 ha hb)
  have KL := Lib.hid (fun w0 => light_is t lt true hl w w0 h)
  have KL2 := Lib.hid (fun w0 => light_is o lo false hl2 w w0 h2)
  clear h h2 ha hb
  go_enter Tryz.func3, Tryz.ntmps3
  go_upto_region 1 with fail
  obtain ⟨W, HW⟩ : ∃ W, Hid (((w.alloc (.cells (tC t) 25)).alloc (.cells (tC o) 25)).alloc (.cells (insCells i) 27) = W) := ⟨_, Lib.hid rfl⟩
  rw [HW.out] at S0 ⊢
  clear HW
  go_upto_region 3 with (go_at_call 4; (with_reducible refine (lives_any _).mono ?_); rintro e w1 ⟨rfl, hb⟩; have S1 := Lib.hid (S0.out.on hb); clear hb)
  have cl := run_LoadT S1.out.b0
  have cl2 := run_LoadT S1.out.b1
  go_wp2_with (first | (go_at_call 5; (with_reducible refine (KL.out _).mono ?_); rintro e w2 ⟨rfl, hb⟩; have S2 := Lib.hid (S1.out.on hb); clear hb cl cl2; have cl := run_LoadT S2.out.b0; have cl2 := run_LoadT S2.out.b1) | (go_at_call 5; (with_reducible refine (KL2.out _).mono ?_); rintro e w3 ⟨rfl, hb⟩; have S3 := Lib.hid (S2.out.on hb); clear hb cl cl2))
  go_ret
  exact ⟨rfl, S3.out.low⟩
set_option maxRecDepth 100000 in
set_option maxHeartbeats 4000000 in
theorem calls_no3 (t o : Ta) (lt lo : Tl) (i : Ins) (event : Int) (a1 a2 : Option Addr) (c1 c2 : Nat) (al bl : List Int) (w : World) (h : TReads w t lt) (h2 : TReads w o lo) (ha : ReadsI w (.slice a1 al.length c1) al) (hb : ReadsI w (.slice a2 bl.length c2) bl) (hl : lightB lt = true) (hl2 : lightB lo = true) (hn : 60 < al.length) : Calls Tryz.prog 3 #[t.V, o.V, i.V, .int .i64 event, .slice a1 al.length c1, .slice a2 bl.length c2] w fun e w' => SameOk w true e w' := by
  have S0 := Lib.hid (Tri.start t o lt lo i _ _ al bl w h h2 ha hb)
  have KL := Lib.hid (fun w0 => light_is t lt true hl w w0 h)
  have KL2 := Lib.hid (fun w0 => light_is o lo true hl2 w w0 h2)
  have dal : decide (60 < al.length) = true := by simp; omega
  have eal : decide ((60 : Int) < (al.length : Int)) = true := by simp; omega
  clear hn
  clear h h2 ha hb
  go_enter Tryz.func3, Tryz.ntmps3
  go_upto_region 1 with fail
  obtain ⟨W, HW⟩ : ∃ W, Hid (((w.alloc (.cells (tC t) 25)).alloc (.cells (tC o) 25)).alloc (.cells (insCells i) 27) = W) := ⟨_, Lib.hid rfl⟩
  rw [HW.out] at S0 ⊢
  clear HW
  go_upto_region 3 with (go_at_call 4; (with_reducible refine (lives_any _).mono ?_); rintro e w1 ⟨rfl, hb⟩; have S1 := Lib.hid (S0.out.on hb); clear hb)
  have cl := run_LoadT S1.out.b0
  have cl2 := run_LoadT S1.out.b1
  go_wp2_with (first | (go_at_call 5; (with_reducible refine (KL.out _).mono ?_); rintro e w2 ⟨rfl, hb⟩; have S2 := Lib.hid (S1.out.on hb); clear hb cl cl2; have cl := run_LoadT S2.out.b0; have cl2 := run_LoadT S2.out.b1) | (go_at_call 5; (with_reducible refine (KL2.out _).mono ?_); rintro e w3 ⟨rfl, hb⟩; have S3 := Lib.hid (S2.out.on hb); clear hb cl cl2))
  go_ret
  exact ⟨rfl, S3.out.low⟩
set_option maxRecDepth 100000 in
set_option maxHeartbeats 4000000 in
theorem calls_no4 (t o : Ta) (lt lo : Tl) (i : Ins) (event : Int) (a1 a2 : Option Addr) (c1 c2 : Nat) (al bl : List Int) (w : World) (h : TReads w t lt) (h2 : TReads w o lo) (ha : ReadsI w (.slice a1 al.length c1) al) (hb : ReadsI w (.slice a2 bl.length c2) bl) (hl : lightB lt = true) (hl2 : lightB lo = true) (hn : al.length ≤ 60) (hn2 : 60 < bl.length) : Calls Tryz.prog 3 #[t.V, o.V, i.V, .int .i64 event, .slice a1 al.length c1, .slice a2 bl.length c2] w fun e w' => SameOk w true e w' := by
  have S0 := Lib.hid (Tri.start t o lt lo i _ _ al bl w h h2 ha hb)
  have KL := Lib.hid (fun w0 => light_is t lt true hl w w0 h)
  have KL2 := Lib.hid (fun w0 => light_is o lo true hl2 w w0 h2)
  have dal : decide (60 < al.length) = false := by simp; omega
  have eal : decide ((60 : Int) < (al.length : Int)) = false := by simp; omega
  have dbl : decide (60 < bl.length) = true := by simp; omega
  have ebl : decide ((60 : Int) < (bl.length : Int)) = true := by simp; omega
  clear hn hn2
  clear h h2 ha hb
  go_enter Tryz.func3, Tryz.ntmps3
  go_upto_region 1 with fail
  obtain ⟨W, HW⟩ : ∃ W, Hid (((w.alloc (.cells (tC t) 25)).alloc (.cells (tC o) 25)).alloc (.cells (insCells i) 27) = W) := ⟨_, Lib.hid rfl⟩
  rw [HW.out] at S0 ⊢
  clear HW
  go_upto_region 3 with (go_at_call 4; (with_reducible refine (lives_any _).mono ?_); rintro e w1 ⟨rfl, hb⟩; have S1 := Lib.hid (S0.out.on hb); clear hb)
  have cl := run_LoadT S1.out.b0
  have cl2 := run_LoadT S1.out.b1
  go_wp2_with (first | (go_at_call 5; (with_reducible refine (KL.out _).mono ?_); rintro e w2 ⟨rfl, hb⟩; have S2 := Lib.hid (S1.out.on hb); clear hb cl cl2; have cl := run_LoadT S2.out.b0; have cl2 := run_LoadT S2.out.b1) | (go_at_call 5; (with_reducible refine (KL2.out _).mono ?_); rintro e w3 ⟨rfl, hb⟩; have S3 := Lib.hid (S2.out.on hb); clear hb cl cl2))
  go_ret
  exact ⟨rfl, S3.out.low⟩
set_option maxRecDepth 100000 in
set_option maxHeartbeats 32000000 in
theorem calls_go (t o : Ta) (lt lo : Tl) (i : Ins) (event : Int) (a1 a2 : Option Addr) (c1 c2 : Nat) (al bl : List Int) (w : World) (h : TReads w t lt) (h2 : TReads w o lo) (ha : ReadsI w (.slice a1 al.length c1) al) (hb : ReadsI w (.slice a2 bl.length c2) bl) (hl : lightB lt = true) (hl2 : lightB lo = true) (hn : al.length ≤ 60) (hn2 : bl.length ≤ 60) (him : FitIns i) : Calls Tryz.prog 3 #[t.V, o.V, i.V, .int .i64 event, .slice a1 al.length c1, .slice a2 bl.length c2] w fun e w' => SameOk w true e w' := by
  have S0 := Lib.hid (Tri.start t o lt lo i _ _ al bl w h h2 ha hb)
  have KL := Lib.hid (fun w0 => light_is t lt true hl w w0 h)
  have KL2 := Lib.hid (fun w0 => light_is o lo true hl2 w w0 h2)
  have dal : decide (60 < al.length) = false := by simp; omega
  have eal : decide ((60 : Int) < (al.length : Int)) = false := by simp; omega
  have dbl : decide (60 < bl.length) = false := by simp; omega
  have ebl : decide ((60 : Int) < (bl.length : Int)) = false := by simp; omega
  have HST := Lib.hid (light_short hl)
  have HSO := Lib.hid (light_short hl2)
  obtain ⟨l2, AL, DL, YL, err, hSI⟩ := step_two lt i event hl him
  have SI := Lib.hid hSI
  have HNA := Lib.hid hn
  have HNB := Lib.hid hn2
  clear hl hl2 hn hn2 him hSI
  clear h h2 ha hb
  go_enter Tryz.func3, Tryz.ntmps3
  go_upto_region 1 with fail
  obtain ⟨W, HW⟩ : ∃ W, Hid (((w.alloc (.cells (tC t) 25)).alloc (.cells (tC o) 25)).alloc (.cells (insCells i) 27) = W) := ⟨_, Lib.hid rfl⟩
  rw [HW.out] at S0 ⊢
  clear HW
  go_upto_region 3 with (go_at_call 4; (with_reducible refine (lives_any _).mono ?_); rintro e w1 ⟨rfl, hb⟩; have S1 := Lib.hid (S0.out.on hb); clear hb)
  have cl := run_LoadT S1.out.b0
  have cl2 := run_LoadT S1.out.b1
  go_upto_region 5 with (first | (go_at_call 5; (with_reducible refine (KL.out _).mono ?_); rintro e w2 ⟨rfl, hb⟩; have S2 := Lib.hid (S1.out.on hb); clear hb cl cl2; have cl := run_LoadT S2.out.b0; have cl2 := run_LoadT S2.out.b1) | (go_at_call 5; (with_reducible refine (KL2.out _).mono ?_); rintro e w3 ⟨rfl, hb⟩; have S3 := Lib.hid (S2.out.on hb); clear hb cl cl2))
  clear S0 S1 S2 KL KL2
  obtain ⟨V0, hV0⟩ : ∃ V0, V0 = w3 := ⟨_, rfl⟩
  subst hV0
  have zV : w.heap.size + 1 + 1 < V0.heap.size := (Array.getElem?_eq_some_iff.1 S3.out.b2).1
  have KO : Hid (∀ W, Below V0.heap.size V0 W → Calls Tryz.prog 7 #[t.V] W fun e w' => TaintOk W lt e w') := Lib.hid (fun W hB => ownTaint_any t lt W (S3.out.r0.below hB) HST.out)
  have KS : Hid (∀ W t2, TReads W t2 lt → Calls Tryz.prog 6 #[t2.V, i.V, .int .i64 event] W fun e w' => StepOk W l2 AL DL YL err e w') := Lib.hid (fun W t2 h => SI.out.prog t2 W h)
  go_cut [13, 14, 15] (fun u v e W => ∃ p1 q1 tx ta td ty, u = .pointer (some ⟨p1, 0, none⟩) ∧ v = .pointer (some ⟨q1, 0, none⟩) ∧ e = .int .i64 err ∧ Hid (Bx V0 l2 AL DL YL p1 q1 tx ta td ty W))
  case first =>
    go_region_held3 (fun w' => (LoadT (.pointer (some ⟨w.heap.size, 0, none⟩))).run Tryz.prog w' = .ok t.V w' ∧ (LoadI (.pointer (some ⟨w.heap.size + 1 + 1, 0, none⟩))).run Tryz.prog w' = .ok i.V w')
      ((refine S3.out.two ?_; (repeat first | exact B4.out | exact B3.out | exact Below.refl _ _ | with_reducible refine Below.al ?_ _ | with_reducible refine Below.dr ?_ | with_reducible refine Below.ro ?_ (by first | omega | (simp; omega) | simp))))
      ((first
        | (go_at_call 7; (with_reducible refine (KO.out _ ?_).mono ?_); (repeat first | exact B4.out | exact B3.out | exact Below.refl _ _ | with_reducible refine Below.al ?_ _ | with_reducible refine Below.dr ?_ | with_reducible refine Below.ro ?_ (by first | omega | (simp; omega) | simp)); rintro e w5 ⟨tz, rfl, ht, hb⟩; have B3 := Lib.hid (Below.tr (w := V0) (by (repeat first | exact B4.out | exact B3.out | exact Below.refl _ _ | with_reducible refine Below.al ?_ _ | with_reducible refine Below.dr ?_ | with_reducible refine Below.ro ?_ (by first | omega | (simp; omega) | simp))) hb); have T3 := Lib.hid ht.reads; have C3 := Lib.hid hb; have z3 := hb.size; have z6 := B3.out.size; (try simp at z3); clear ht hb)
        | (go_at_call 6; (with_reducible refine (KS.out _ tz ?_).mono ?_); (repeat first | exact T3.out | with_reducible refine TReads.alloc ?_ _); rintro e w4 ⟨tx, ta, td, ty, rfl, ht, hd, hb⟩; have B4 := Lib.hid (Below.tr (w := V0) (by (repeat first | exact B4.out | exact B3.out | exact Below.refl _ _ | with_reducible refine Below.al ?_ _ | with_reducible refine Below.dr ?_ | with_reducible refine Below.ro ?_ (by first | omega | (simp; omega) | simp))) hb); have T4 := Lib.hid ht; have D4 := Lib.hid hd; have C4 := Lib.hid hb; have z4 := hb.size; have z5 := B4.out.size; (try simp at z4); clear ht hd hb)
        | (rw [run_StoreT (t0 := zeroTa) (t := tx) ?hX T4.out.reads.flat]; case hX => (repeat first | exact TAt.z _ _ (by simp) | with_reducible refine TAt.alloc ?_ _ | with_reducible refine TAt.dr ?_ | with_reducible refine TAt.row ?_ (by first | omega | (simp; omega) | simp) | refine TAt.below ?_ C4.out (by first | omega | (simp; omega) | simp) | refine TAt.below ?_ C3.out (by first | omega | (simp; omega) | simp)))
        | (rw [run_StoreD (x0 := .slice none 0 0) (x1 := .slice none 0 0) (x2 := .slice none 0 0) (y0 := ta) (y1 := td) (y2 := ty) ?hY D4.out.1.one D4.out.2.1.one D4.out.2.2.one]; case hY => (repeat first | exact DAt.z _ _ (by simp) | with_reducible refine DAt.alloc ?_ _ | with_reducible refine DAt.dr ?_ | with_reducible refine DAt.row ?_ (by first | omega | (simp; omega) | simp) | refine DAt.below ?_ C4.out (by first | omega | (simp; omega) | simp) | refine DAt.below ?_ C3.out (by first | omega | (simp; omega) | simp)))))
    all_goals
      go_wp2_with fail
      go_meet
      refine ⟨_, _, _, _, _, _, rfl, rfl, rfl, Lib.hid (Bx.of (w4 := w4) (by (repeat first | exact B4.out | exact B3.out | exact Below.refl _ _ | with_reducible refine Below.al ?_ _ | with_reducible refine Below.dr ?_ | with_reducible refine Below.ro ?_ (by first | omega | (simp; omega) | simp))) (by (repeat first | (with_reducible refine TAt.rowIn (t0 := zeroTa) ?_; (repeat first | exact TAt.z _ _ (by simp) | with_reducible refine TAt.alloc ?_ _ | with_reducible refine TAt.dr ?_ | with_reducible refine TAt.row ?_ (by first | omega | (simp; omega) | simp) | refine TAt.below ?_ C4.out (by first | omega | (simp; omega) | simp) | refine TAt.below ?_ C3.out (by first | omega | (simp; omega) | simp)); done) | with_reducible refine TAt.row ?_ (by first | omega | (simp; omega) | simp))) (by (repeat first | (with_reducible refine DAt.rowIn (a0 := .slice none 0 0) (d0 := .slice none 0 0) (y0 := .slice none 0 0) ?_; (repeat first | exact DAt.z _ _ (by simp) | with_reducible refine DAt.alloc ?_ _ | with_reducible refine DAt.dr ?_ | with_reducible refine DAt.row ?_ (by first | omega | (simp; omega) | simp) | refine DAt.below ?_ C4.out (by first | omega | (simp; omega) | simp) | refine DAt.below ?_ C3.out (by first | omega | (simp; omega) | simp)); done) | with_reducible refine DAt.row ?_ (by first | omega | (simp; omega) | simp))) T4.out D4.out (by first | omega | (simp; omega) | simp) (by (intro j hj1 hj2; (try simp at hj1); (repeat first | rfl | rw [setRow_other _ _ _ _ (by first | omega | (simp; omega) | simp)] | rw [Below.heap_alloc _ _ _ (by first | omega | (simp; omega) | simp)]))) (by first | omega | (simp; omega) | simp) (by first | omega | (simp; omega) | simp))⟩
  case rest =>
  obtain ⟨g, h, tx, ta, td, ty, rfl, rfl, rfl, X1⟩ := hcut
  clear KO KS
  have S4 := Lib.hid (S3.out.on X1.out.bel)
  have cl := run_LoadT S4.out.b0
  have ci := run_LoadI S4.out.b2
  have KS2 : Hid (∀ W t2, TReads W t2 lt → Calls Tryz.prog 8 #[t2.V, i.V, .int .i64 event] W fun e w' => StepOk W l2 AL DL YL err e w') := Lib.hid (fun W t2 h => SI.out.doc t2 W h)
  go_upto_region 7 with (first
    | (go_at_call 8; (with_reducible refine (KS2.out _ t S4.out.r0).mono ?_); rintro e x1 ⟨ox, oa, od, oy, rfl, ht, hd, hb⟩; have S5 := Lib.hid (S4.out.on hb); have X5 := Lib.hid (X1.out.on hb); have T14 := Lib.hid ht; have E14 := Lib.hid hd; clear ht hd hb cl ci)
    | (refine store_ta ((zero_at x1).alloc _) _ (T14.out.reads.flat) rfl (.tmp 16) (.tmp 53) rfl rfl rfl ?_; intro x2 D3 ho3 hb3 hz3; clear hz3; have P3 := Lib.hid D3; have Q3 := Lib.hid hb3; have R3 := Lib.hid ((ho3 _ (by omega)).trans (d_new x1 _)); clear D3 ho3 hb3)
    | (refine store_d R3.out rfl (.tmp 17) (.tmp 54) rfl _ _ _ E14.out.1.one E14.out.2.1.one E14.out.2.2.one rfl rfl ?_; intro x3 D4 ho4 hb4 hz4; clear ho4 hz4; have hgo := got_of (B := 0) T14.out E14.out (Nat.zero_le _) P3.out Q3.out D4 hb4; have Y6 := Lib.hid hgo.1; have S6 := Lib.hid (S5.out.on hgo.2); have X6 := Lib.hid (X5.out.on hgo.2); clear hgo D4 hb4))
  have A0 := Lib.hid (All7.mk S6.out X6.out Y6.out)
  have HSH := Lib.hid SI.out.short
  have HLE := Lib.hid SI.out.lens
  clear KS2 SI S3 S4 S5 S6 X1 X5 X6 Y6 T14 E14 P3 Q3 R3
  obtain ⟨g2, hg2⟩ : ∃ g2, Hid (x1.heap.size = g2) := ⟨_, Lib.hid rfl⟩
  rw [hg2.out] at A0 ⊢
  clear hg2 zV
  obtain ⟨ck, hck⟩ : ∃ ck, errI lt.ok = ck := ⟨_, rfl⟩
  obtain ⟨sb, hsb⟩ : ∃ sb, sameB lt lo = sb := ⟨_, rfl⟩
  obtain ⟨ra, hra⟩ : ∃ ra, rises al = ra := ⟨_, rfl⟩
  have K11 : Hid (∀ W, TReads W t lt → Calls Tryz.prog 11 #[t.V] W fun e w' => e = .returned (.int .i64 ck) ∧ Below W.heap.size W w') := Lib.hid (fun W h => by
    have := tCheck_b t lt _ rfl W h HST.out
    rw [hck] at this; exact this)
  have K12 : Hid (∀ W, TReads W t lt → Calls Tryz.prog 12 #[t.V] W fun e w' => e = .returned (.int .i64 ck) ∧ Below W.heap.size W w') := Lib.hid (fun W h => by
    have := rTCheck_b t lt _ rfl W h HST.out
    rw [hck] at this; exact this)
  have K13 : Hid (∀ W, TReads W t lt → TReads W o lo → Calls Tryz.prog 13 #[t.V, o.V] W fun e w' => SameOk W sb e w') := Lib.hid (fun W h h2 => by
    have := Same_any t o lt lo W h h2 HST.out
    rw [hsb] at this; exact this)
  have K9 : Hid (∀ W, TReads W t lt → TReads W o lo → Calls Tryz.prog 9 #[t.V, o.V] W fun e w' => SameOk W sb e w') := Lib.hid (fun W h h2 => by
    have := kTaint_any t o lt lo W h h2 HST.out
    have e : likeB lt lo = sb := hsb
    rw [e] at this; exact this)
  have K14 : Hid (∀ W, ReadsI W (.slice a1 al.length c1) al → Calls Tryz.prog 14 #[.slice a1 al.length c1] W fun e w' => e = .returned (.bool ra) ∧ W = w') := Lib.hid (fun W h => by
    have := rising_any _ al W h (by have := HNA.out; omega)
    rw [hra] at this; exact this)
  have K15 : Hid (∀ W, ReadsI W (.slice a1 al.length c1) al → Calls Tryz.prog 15 #[.slice a1 al.length c1] W fun e w' => R06Ok ra W e w') := Lib.hid (fun W h => rRising_b _ al ra hra W h (by have := HNA.out; omega))
  have KA : Hid (∀ W, ReadsI W (.slice a1 al.length c1) al → Calls Tryz.prog 18 #[.slice a1 al.length c1] W fun e w' => Merged W al e w') := Lib.hid (fun W h => own_any _ al W h (by have := HNA.out; omega))
  have KB : Hid (∀ W, ReadsI W (.slice a2 bl.length c2) bl → Calls Tryz.prog 18 #[.slice a2 bl.length c2] W fun e w' => Merged W bl e w') := Lib.hid (fun W h => own_any _ bl W h (by have := HNB.out; omega))
  obtain ⟨jl, hjl⟩ : ∃ jl, joinL al bl = jl := ⟨_, rfl⟩
  have K17 : Hid (∀ W va vb, ReadsI W va al → ReadsI W vb bl → Calls Tryz.prog 17 #[va, vb] W fun e w' => Merged W jl e w') := Lib.hid (fun W va vb h h2 => by
    have := Join_any va vb al bl W h h2 (by have := HNA.out; have := HNB.out; omega)
    rw [hjl] at this; exact this)
  have K19 : Hid (∀ W va vb, ReadsI W va al → ReadsI W vb bl → Calls Tryz.prog 19 #[va, vb] W fun e w' => Merged W jl e w') := Lib.hid (fun W va vb h h2 => by
    have := rJoin_any va vb al bl W h h2 (by have := HNA.out; have := HNB.out; omega)
    rw [hjl] at this; exact this)
  have HJL : Hid (jl.length ≤ 100000) := Lib.hid (by
    rw [← hjl]
    unfold joinL
    split
    · have := mergeL_length al bl; have := HNA.out; have := HNB.out; omega
    · simp)
  clear hck hsb hra hjl HST HSO HNA HNB
  (try simp only [List.append_eq, List.cons_append, List.nil_append])
  go_region_held3 (fun w' => (LoadT (.pointer (some ⟨w.heap.size, 0, none⟩))).run Tryz.prog w' = .ok t.V w' ∧ (LoadT (.pointer (some ⟨w.heap.size + 1, 0, none⟩))).run Tryz.prog w' = .ok o.V w' ∧ (LoadT (.pointer (some ⟨g, 0, none⟩))).run Tryz.prog w' = .ok tx.V w' ∧ (LoadT (.pointer (some ⟨g2, 0, none⟩))).run Tryz.prog w' = .ok ox.V w' ∧ (LoadD (.pointer (some ⟨h, 0, none⟩))).run Tryz.prog w' = .ok (.agg #[ta, td, ty]) w' ∧ (LoadD (.pointer (some ⟨g2 + 1, 0, none⟩))).run Tryz.prog w' = .ok (.agg #[oa, od, oy]) w')
    (first | with_reducible exact All7.six A13.out | with_reducible exact All7.six A12.out | with_reducible exact All7.six A11.out | with_reducible exact All7.six A10.out | with_reducible exact All7.six A9.out | with_reducible exact All7.six A8.out | with_reducible exact All7.six A6.out | with_reducible exact All7.six A5.out | with_reducible exact All7.six A4.out | with_reducible exact All7.six A3.out | with_reducible exact All7.six A2.out | with_reducible exact All7.six A1.out | with_reducible exact All7.six A0.out.drew)
    ((first
      | (go_at_call 9; (with_reducible refine (kTaint_yes tx ox l2 l2 _ (Lib.hid rfl) A0.out.drew.x.rx A0.out.drew.y.reads HSH.out).mono ?_); rintro e y1 ⟨rfl, hb⟩; have A1 := Lib.hid (A0.out.drew.on hb); clear hb)
      | (go_at_call 10; (with_reducible refine (deps_yes _ _ _ _ _ _ AL DL YL AL DL YL _ (Lib.hid rfl) (Lib.hid rfl) (Lib.hid rfl) A1.out.x.ra A1.out.x.rd A1.out.x.ry A1.out.y.ra A1.out.y.rd A1.out.y.ry (by have := HLE.out; omega) (by have := HLE.out; omega) (by have := HLE.out; omega)).mono ?_); rintro e y2 ⟨rfl, hb⟩; have A2 := Lib.hid (A1.out.on hb); clear hb)
      | (go_at_call 11; (with_reducible refine (K11.out _ A2.out.tri.r0).mono ?_); rintro e y3 ⟨rfl, hb⟩; have A3 := Lib.hid (A2.out.on hb); clear hb)
      | (go_at_call 12; (with_reducible refine (K12.out _ A3.out.tri.r0).mono ?_); rintro e y4 ⟨rfl, hb⟩; have A4 := Lib.hid (A3.out.on hb); clear hb)
      | (go_at_call 13; (with_reducible refine (K13.out _ A4.out.tri.r0 A4.out.tri.r1).mono ?_); rintro e y5 ⟨rfl, hb⟩; have A5 := Lib.hid (A4.out.on hb); clear hb)
      | (go_at_call 9; (with_reducible refine (K9.out _ A5.out.tri.r0 A5.out.tri.r1).mono ?_); rintro e y6 ⟨rfl, hb⟩; have A6 := Lib.hid (A5.out.on hb); clear hb)
      | (go_at_call 14; (with_reducible refine (K14.out _ A6.out.tri.ra).mono ?_); rintro e y7 ⟨rfl, rfl⟩)
      | (go_at_call 15; (with_reducible refine (K15.out _ A6.out.tri.ra).mono ?_); rintro e y8 ⟨rfl, hb⟩; have A8 := Lib.hid (A6.out.on hb); clear hb)
      | (go_at_call 18; (with_reducible refine (KA.out _ A8.out.tri.ra).mono ?_); rintro e y9 ⟨v9, rfl, hv, hb⟩; have A9 := Lib.hid (A8.out.on hb); have V9 := Lib.hid hv.1; clear hb hv)
      | (go_at_call 18; (with_reducible refine (KB.out _ A9.out.tri.rb).mono ?_); rintro e y10 ⟨v10, rfl, hv, hb⟩; have A10 := Lib.hid (A9.out.on hb); have V9b := Lib.hid (V9.out.below hb); have V10 := Lib.hid hv.1; clear hb hv)
      | (go_at_call 17; (with_reducible refine (K17.out _ _ _ V9b.out V10.out).mono ?_); rintro e y11 ⟨v11, rfl, hv, hb⟩; have A11 := Lib.hid (A10.out.on hb); have V11 := Lib.hid hv.1; clear hb hv)
      | (go_at_call 19; (with_reducible refine (K19.out _ _ _ A11.out.tri.ra A11.out.tri.rb).mono ?_); rintro e y12 ⟨v12, rfl, hv, hb⟩; have A12 := Lib.hid (A11.out.on hb); have V12 := Lib.hid hv.1; have V11b := Lib.hid (V11.out.below hb); clear hb hv)
      | (go_at_call 16; (with_reducible refine (same_yes _ _ jl jl _ (Lib.hid rfl) V11b.out V12.out HJL.out).mono ?_); rintro e y13 ⟨rfl, hb⟩; have A13 := Lib.hid (A12.out.on hb); clear hb)))
  all_goals
    go_wp2_with fail
    go_ret
    exact ⟨rfl, A13.out.tri.low⟩
theorem calls_any (t o : Ta) (lt lo : Tl) (i : Ins) (event : Int) (va vb : Value) (al bl : List Int) (w : World) (h : TReads w t lt) (h2 : TReads w o lo) (ha : ReadsI w va al) (hb : ReadsI w vb bl) (him : FitIns i) : Calls Tryz.prog 3 #[t.V, o.V, i.V, .int .i64 event, va, vb] w fun e w' => SameOk w true e w' := by
  obtain ⟨a1, c1, rfl⟩ := ha.len
  obtain ⟨a2, c2, rfl⟩ := hb.len
  cases hl : lightB lt
  · exact calls_no1 t o lt lo i event a1 a2 c1 c2 al bl w h h2 ha hb hl
  cases hl2 : lightB lo
  · exact calls_no2 t o lt lo i event a1 a2 c1 c2 al bl w h h2 ha hb hl hl2
  by_cases hn : 60 < al.length
  · exact calls_no3 t o lt lo i event a1 a2 c1 c2 al bl w h h2 ha hb hl hl2 hn
  by_cases hn2 : 60 < bl.length
  · exact calls_no4 t o lt lo i event a1 a2 c1 c2 al bl w h h2 ha hb hl hl2 (by omega) hn2
  exact calls_go t o lt lo i event a1 a2 c1 c2 al bl w h h2 ha hb hl hl2 (by omega) (by omega) him
end Go.Proofs.YtfbnijcmfaeoeaaGreat
