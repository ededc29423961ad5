/-
  Proved here: the law's lives answers true; nothing that was there is changed. No condition.
-/
import Derived.Test.YtfbnijcmfaeoeaaGreatTaintDeps
namespace Go.Proofs.YtfbnijcmfaeoeaaGreat
open Go.RowKit
attribute [local go_sem ↓] fold_T fold_I

theorem d_new (w : World) (o : Obj) : DAt (.slice none 0 0) (.slice none 0 0) (.slice none 0 0) (w.heap.size + 1) ((w.alloc o).alloc (.cells #[.slice none 0 0, .slice none 0 0, .slice none 0 0] 31)) := by
  have := DAt.new (.slice none 0 0) (.slice none 0 0) (.slice none 0 0) (w.alloc o)
  simp only [World.size_alloc] at this
  exact this
def i1 : Ins := ⟨35, 7, 5, 6, 0, false, false, 0, 0⟩
def i2 : Ins := ⟨21, 0, 5, 6, 0, false, false, 0, 0⟩
def i3 : Ins := ⟨5, 0, 5, 0, 8, false, false, 0, 0⟩
theorem ok1 : Hid (stepOkB startL i1 (-1) = true) := Lib.hid (by decide +kernel)
theorem ok2 : Hid (stepOkB startL i2 9 = true) := Lib.hid (by decide +kernel)
theorem ok3 : Hid (stepOkB startL i3 (-1) = true) := Lib.hid (by decide +kernel)
theorem step1 (t : Ta) (w : World) (h : TReads w t startL) : Calls Tryz.prog 6 #[t.V, .agg #[.int .i64 35, .int .i64 7, .int .i64 5, .int .i64 6, .int .i64 0, .bool false, .bool false, .int .i64 0, .int .i64 0], .int .i64 (-1)] w fun e w' => StepOk w (behindL startL i1 (-1)) (addrL startL i1) (dataL startL i1) startL.way 0 e w' :=
  step_ok t startL i1 (-1) w h start_short ok1
theorem step2 (t : Ta) (w : World) (h : TReads w t startL) : Calls Tryz.prog 6 #[t.V, .agg #[.int .i64 21, .int .i64 0, .int .i64 5, .int .i64 6, .int .i64 0, .bool false, .bool false, .int .i64 0, .int .i64 0], .int .i64 (9)] w fun e w' => StepOk w (behindL startL i2 (9)) (addrL startL i2) (dataL startL i2) startL.way 0 e w' :=
  step_ok t startL i2 (9) w h start_short ok2
theorem step3 (t : Ta) (w : World) (h : TReads w t startL) : Calls Tryz.prog 6 #[t.V, .agg #[.int .i64 5, .int .i64 0, .int .i64 5, .int .i64 0, .int .i64 8, .bool false, .bool false, .int .i64 0, .int .i64 0], .int .i64 (-1)] w fun e w' => StepOk w (behindL startL i3 (-1)) (addrL startL i3) (dataL startL i3) startL.way 0 e w' :=
  step_ok t startL i3 (-1) w h start_short ok3
theorem reads1 : readsL i1 = [5, 6] := by
  unfold readsL
  rw [if_neg (by decide), regsL_is]
  decide +kernel
theorem x1 : Hid ((behindL startL i1 (-1)).x 7 = [3, 4]) := Lib.hid (by
  unfold behindL writtenL
  rw [reads1]
  decide +kernel)
theorem x3 : Hid ((behindL startL i3 (-1)).way = [3]) := Lib.hid (by decide +kernel)
theorem y1 : Hid (addrL startL i1 = []) := Lib.hid (by decide +kernel)
theorem y2 : Hid (dataL startL i1 = []) := Lib.hid (by decide +kernel)
theorem y3 : Hid (startL.way = []) := Lib.hid (by decide +kernel)
theorem z1 : Hid (addrL startL i2 = [3]) := Lib.hid (by decide +kernel)
theorem z2 : Hid (dataL startL i2 = [4]) := Lib.hid (by decide +kernel)
theorem z3 : Hid (startL.way = []) := Lib.hid (by decide +kernel)
set_option maxRecDepth 100000 in
set_option maxHeartbeats 4000000 in
theorem lives_any (w : World) : Calls Tryz.prog 4 #[] w fun e w' => SameOk w true e w' := by
  have B0 := Lib.hid (Below.refl w.heap.size w)
  go_enter Tryz.func4, Tryz.ntmps4
  go_upto_region 2 with (first
    | (go_at_call 20; (with_reducible refine (start_any _).mono ?_); rintro e k11 ⟨k1t, rfl, ht, hb⟩; have k1T := Lib.hid ht.reads; have Bk11 := Lib.hid (B0.out.trans (hb.mono B0.out.size));  clear ht hb)
    | (go_at_call 6; (with_reducible refine (step1 k1t _ k1T.out).mono ?_); rintro e k12 ⟨k1u, k1a, k1d, k1y, rfl, ht, hd, hb⟩; have k1U := Lib.hid ht; have k1D := Lib.hid hd; have Bk12 := Lib.hid (Bk11.out.trans (hb.mono Bk11.out.size));  clear ht hd hb)
    | (refine store_ta ((zero_at k12).alloc _) _ (k1U.out.reads.flat) rfl (.tmp 1) (.tmp 14) rfl rfl rfl ?_; intro k13 D3 ho3 hb3 hz3; clear hz3; have k1E := Lib.hid D3; have k1F := Lib.hid hb3; have k1G := Lib.hid ((ho3 _ (by omega)).trans (d_new k12 _)); clear D3 ho3 hb3)
    | (refine store_d k1G.out rfl (.tmp 2) (.tmp 15) rfl _ _ _ k1D.out.1.one k1D.out.2.1.one k1D.out.2.2.one rfl rfl ?_; intro k14 D4 ho4 hb4 hz4; clear ho4 hz4; have hg := got_of k1U.out k1D.out Bk12.out.size k1E.out k1F.out D4 hb4; have k1H := Lib.hid hg.1; have Bk14 := Lib.hid (Bk12.out.trans (hg.2.mono Bk12.out.size));  clear hg D4 hb4))
  go_upto_region 3 with (first
    | (go_at_call 20; (with_reducible refine (start_any _).mono ?_); rintro e k21 ⟨k2t, rfl, ht, hb⟩; have k2T := Lib.hid ht.reads; have Bk21 := Lib.hid (Bk14.out.trans (hb.mono Bk14.out.size)); have k1Hk21 := Lib.hid (k1H.out.on hb); clear ht hb)
    | (go_at_call 6; (with_reducible refine (step2 k2t _ k2T.out).mono ?_); rintro e k22 ⟨k2u, k2a, k2d, k2y, rfl, ht, hd, hb⟩; have k2U := Lib.hid ht; have k2D := Lib.hid hd; have Bk22 := Lib.hid (Bk21.out.trans (hb.mono Bk21.out.size)); have k1Hk22 := Lib.hid (k1Hk21.out.on hb); clear ht hd hb)
    | (refine store_ta ((zero_at k22).alloc _) _ (k2U.out.reads.flat) rfl (.tmp 4) (.tmp 21) rfl rfl rfl ?_; intro k23 D3 ho3 hb3 hz3; clear hz3; have k2E := Lib.hid D3; have k2F := Lib.hid hb3; have k2G := Lib.hid ((ho3 _ (by omega)).trans (d_new k22 _)); clear D3 ho3 hb3)
    | (refine store_d k2G.out rfl (.tmp 5) (.tmp 22) rfl _ _ _ k2D.out.1.one k2D.out.2.1.one k2D.out.2.2.one rfl rfl ?_; intro k24 D4 ho4 hb4 hz4; clear ho4 hz4; have hg := got_of k2U.out k2D.out Bk22.out.size k2E.out k2F.out D4 hb4; have k2H := Lib.hid hg.1; have Bk24 := Lib.hid (Bk22.out.trans (hg.2.mono Bk22.out.size)); have k1Hk24 := Lib.hid (k1Hk22.out.on hg.2); clear hg D4 hb4))
  go_upto_region 4 with (first
    | (go_at_call 20; (with_reducible refine (start_any _).mono ?_); rintro e k31 ⟨k3t, rfl, ht, hb⟩; have k3T := Lib.hid ht.reads; have Bk31 := Lib.hid (Bk24.out.trans (hb.mono Bk24.out.size)); have k1Hk24k31 := Lib.hid (k1Hk24.out.on hb); have k2Hk31 := Lib.hid (k2H.out.on hb); clear ht hb)
    | (go_at_call 6; (with_reducible refine (step3 k3t _ k3T.out).mono ?_); rintro e k32 ⟨k3u, k3a, k3d, k3y, rfl, ht, hd, hb⟩; have k3U := Lib.hid ht; have k3D := Lib.hid hd; have Bk32 := Lib.hid (Bk31.out.trans (hb.mono Bk31.out.size)); have k1Hk24k32 := Lib.hid (k1Hk24k31.out.on hb); have k2Hk32 := Lib.hid (k2Hk31.out.on hb); clear ht hd hb)
    | (refine store_ta ((zero_at k32).alloc _) _ (k3U.out.reads.flat) rfl (.tmp 7) (.tmp 28) rfl rfl rfl ?_; intro k33 D3 ho3 hb3 hz3; clear hz3; have k3E := Lib.hid D3; have k3F := Lib.hid hb3; have k3G := Lib.hid ((ho3 _ (by omega)).trans (d_new k32 _)); clear D3 ho3 hb3)
    | (refine store_d k3G.out rfl (.tmp 8) (.tmp 29) rfl _ _ _ k3D.out.1.one k3D.out.2.1.one k3D.out.2.2.one rfl rfl ?_; intro k34 D4 ho4 hb4 hz4; clear ho4 hz4; have hg := got_of k3U.out k3D.out Bk32.out.size k3E.out k3F.out D4 hb4; have k3H := Lib.hid hg.1; have Bk34 := Lib.hid (Bk32.out.trans (hg.2.mono Bk32.out.size)); have k1Hk24k34 := Lib.hid (k1Hk24k32.out.on hg.2); have k2Hk34 := Lib.hid (k2Hk32.out.on hg.2); clear hg D4 hb4))
  have A0 := k1Hk24k34
  have A1 := k2Hk34
  have A2 := k3H
  have M0 := Bk34
  obtain ⟨l1, f1⟩ := And.intro A0.out.box.lt (A0.out.box.cx 7 (by omega)); obtain ⟨l2, d10, d11, d12, _, _, _⟩ := A0.out.deps.facts; obtain ⟨l3, d20, d21, d22, _, _, _⟩ := A1.out.deps.facts; obtain ⟨l4, f3⟩ := And.intro A2.out.box.lt A2.out.box.cw
  go_wp2_with (first
    | (go_at_call 16; (with_reducible refine (same_yes _ _ _ [3, 4] _ x1 ((A0.out.reads.x 7 (by omega)).alloc _) (reads_two _ _ _) (by rw [x1.out]; simp)).mono ?_); rintro e m1 ⟨rfl, hb⟩; have hb1 := (box_below k34 _).trans (hb.mono (box_below k34 _).size); have P0 := Lib.hid (A0.out.on hb1); have P1 := Lib.hid (A1.out.on hb1); have P2 := Lib.hid (A2.out.on hb1); have M1 := Lib.hid (M0.out.trans (hb1.mono M0.out.size)); clear l1 f1 l2 d10 d11 d12 l3 d20 d21 d22 l4 f3 hb hb1 A0 A1 A2; obtain ⟨l1, f1⟩ := And.intro P0.out.box.lt (P0.out.box.cx 7 (by omega)); obtain ⟨l2, d10, d11, d12, _, _, _⟩ := P0.out.deps.facts; obtain ⟨l3, d20, d21, d22, _, _, _⟩ := P1.out.deps.facts; obtain ⟨l4, f3⟩ := And.intro P2.out.box.lt P2.out.box.cw)
    | (go_at_call 10; (with_reducible refine (deps_yes _ _ _ _ _ _ _ _ _ [] [] [] _ y1 y2 y3 P0.out.ra P0.out.rd P0.out.ry (ReadsI.nil _) (ReadsI.nil _) (ReadsI.nil _) (by rw [y1.out]; simp) (by rw [y2.out]; simp) (by rw [y3.out]; simp)).mono ?_); rintro e m2 ⟨rfl, hb⟩; have Q0 := Lib.hid (P0.out.on hb); have Q1 := Lib.hid (P1.out.on hb); have Q2 := Lib.hid (P2.out.on hb); have M2 := Lib.hid (M1.out.trans (hb.mono M1.out.size)); clear l1 f1 l2 d10 d11 d12 l3 d20 d21 d22 l4 f3 hb P0 P1 P2; obtain ⟨l1, f1⟩ := And.intro Q0.out.box.lt (Q0.out.box.cx 7 (by omega)); obtain ⟨l2, d10, d11, d12, _, _, _⟩ := Q0.out.deps.facts; obtain ⟨l3, d20, d21, d22, _, _, _⟩ := Q1.out.deps.facts; obtain ⟨l4, f3⟩ := And.intro Q2.out.box.lt Q2.out.box.cw)
    | (go_at_call 10; (with_reducible refine (deps_yes _ _ _ _ _ _ _ _ _ [3] [4] [] _ z1 z2 z3 ((Q1.out.ra.alloc _).alloc _) ((Q1.out.rd.alloc _).alloc _) ((Q1.out.ry.alloc _).alloc _) ((reads_one m2 3).alloc _) (reads_one_at _ 4 _ (by simp)) (ReadsI.nil _) (by rw [z1.out]; simp) (by rw [z2.out]; simp) (by rw [z3.out]; simp)).mono ?_); rintro e m3 ⟨rfl, hb⟩; have hb1 := (((Below.refl _ m2).alloc (Nat.le_refl _) _).alloc (by simp) _).trans (hb.mono (by simp; omega)); have S0 := Lib.hid (Q0.out.on hb1); have S1 := Lib.hid (Q1.out.on hb1); have S2 := Lib.hid (Q2.out.on hb1); have M3 := Lib.hid (M2.out.trans (hb1.mono M2.out.size)); clear l1 f1 l2 d10 d11 d12 l3 d20 d21 d22 l4 f3 hb hb1 Q0 Q1 Q2; obtain ⟨l1, f1⟩ := And.intro S0.out.box.lt (S0.out.box.cx 7 (by omega)); obtain ⟨l2, d10, d11, d12, _, _, _⟩ := S0.out.deps.facts; obtain ⟨l3, d20, d21, d22, _, _, _⟩ := S1.out.deps.facts; obtain ⟨l4, f3⟩ := And.intro S2.out.box.lt S2.out.box.cw)
    | (go_at_call 16; (with_reducible refine (same_yes _ _ _ [3] _ x3 (S2.out.reads.w.alloc _) (reads_one _ _) (by rw [x3.out]; simp)).mono ?_); rintro e m4 ⟨rfl, hb⟩; have hb1 := (box_below m3 _).trans (hb.mono (box_below m3 _).size); have M4 := Lib.hid (M3.out.trans (hb1.mono M3.out.size)); clear l1 f1 l2 d10 d11 d12 l3 d20 d21 d22 l4 f3 hb hb1))
  go_ret
  exact ⟨rfl, M4.out⟩
end Go.Proofs.YtfbnijcmfaeoeaaGreat
