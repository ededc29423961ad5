/-
  Proved here: the law TaintNames answers true; nothing that was there is changed. No condition.
-/
import Derived.Test.YtmdaleokhekdeaaTaintSame
namespace Go.Proofs.Ytmdaleokhekdeaa
open Go.RowKit
attribute [local go_sem ↓] fold_T fold_I

def i4 : Ins := ⟨14, 5, 6, 0, 0, false, false, 0, 0⟩
def i5 : Ins := ⟨69, 5, 6, 6, 0, false, false, 0, 0⟩
def i6 : Ins := ⟨4, 6, 5, 0, 0, false, false, 0, 0⟩
def i7 : Ins := ⟨35, 0, 0, 0, 0, false, false, 0, 0⟩
theorem ok4 : Hid (stepOkB startL i4 8 = true) := Lib.hid (by decide +kernel)
theorem ok5 : Hid (stepOkB startL i5 (-1) = true) := Lib.hid (by decide +kernel)
theorem ok6 : Hid (stepOkB startL i6 (-1) = true) := Lib.hid (by decide +kernel)
theorem ok7 : Hid (stepOkB startL i7 (-2) = false) := Lib.hid (by decide +kernel)
theorem n4 : Hid ((behindL startL i4 8).x 5 = [8]) := Lib.hid (by decide +kernel)
theorem n5 : Hid ((behindL startL i5 (-1)).x 5 = []) := Lib.hid (by decide +kernel)
theorem n6 : Hid ((behindL startL i6 (-1)).x 6 = []) := Lib.hid (by decide +kernel)
theorem n6w : Hid ((behindL startL i6 (-1)).way = [3]) := Lib.hid (by decide +kernel)
def badL : Tl := zeroTl.put 0 [1]
theorem bad_no : badL.ok = false := by decide +kernel
theorem bad_short : badL.short := short_of _ (by decide +kernel) (by decide +kernel)
theorem start_ok : startL.ok = true := by decide +kernel
theorem start_same : sameB startL startL = true := by decide +kernel
theorem Same_yes (t t2 : Ta) (w : World) (h : TReads w t startL) (h2 : TReads w t2 startL) : Calls Try.prog 16 #[t.V, t2.V] w fun e w' => SameOk w true e w' := by
  have := Same_any t t2 startL startL w h h2 start_short
  rw [start_same] at this
  exact this
theorem join_of (va vb : Value) (a b c : List Int) (w : World) (hc : Hid (joinL a b = c)) (ha : ReadsI w va a) (hb : ReadsI w vb b) (hlen : a.length + b.length ≤ 100000) : Calls Try.prog 14 #[va, vb] w fun e w' => Merged w c e w' := by
  rw [← hc.out]; exact Join_any va vb a b w ha hb hlen
theorem j1 : Hid (joinL [1, 3] [2, 3] = [1, 2, 3]) := Lib.hid (by decide +kernel)
theorem j2 : Hid (joinL [2, 1] [3] = []) := Lib.hid (by decide +kernel)
theorem rising_of (v : Value) (zs : List Int) (r : Bool) (hr : Hid (rises zs = r)) (w : World) (h : ReadsI w v zs) (hlen : zs.length ≤ 100000) : Calls Try.prog 15 #[v] w fun e w' => e = .returned (.bool r) ∧ w = w' := by
  rw [← hr.out]; exact rising_any v zs w h hlen
theorem r1 : Hid (rises [] = true) := Lib.hid rfl
theorem r2 : Hid (rises [-1] = false) := Lib.hid (by decide +kernel)
theorem reads_two_at (w : World) (a b : Int) (g : Nat) (hg : w.heap.size = g) : ReadsI (w.alloc (.cells #[.int .i64 a, .int .i64 b] 3)) (.slice (some ⟨g, 0, none⟩) 2 2) [a, b] := by
  subst hg; exact reads_two w a b
theorem reads_three (w : World) (a b c : Int) : ReadsI (w.alloc (.cells #[.int .i64 a, .int .i64 b, .int .i64 c] 3)) (.slice (some ⟨w.heap.size, 0, none⟩) 3 3) [a, b, c] := by
  refine .inr ⟨w.heap.size, 0, 3, rfl, by simp, by omega, by simp, fun j hj => ?_⟩
  rcases j with _ | _ | _ | j
  · simp [atI]
  · simp [atI]
  · simp [atI]
  · simp at hj; omega
theorem len_none {w : World} {v : Value} {zs : List Int} (h : ReadsI w v zs) (hz : Hid (zs = [])) : ∃ a c, Hid (v = .slice a 0 c) := by
  obtain ⟨a, c, e⟩ := h.len
  rw [hz.out] at e
  exact ⟨a, c, Lib.hid e⟩
theorem bad_made (w w2 W : World) (g : Nat) (D : TAt 25 zeroTa g w2) (hb : Below w.heap.size w w2) (hg : w.heap.size ≤ g) (hW : W = (w2.setCell ⟨g, 0, none⟩ (.slice (some ⟨w2.heap.size, 0, none⟩) 1 1)).alloc (.cells #[.int .i64 1] 3)) :
    TAt 25 (zeroTa.put 0 (.slice (some ⟨w2.heap.size, 0, none⟩) 1 1)) g W ∧ TReads W (zeroTa.put 0 (.slice (some ⟨w2.heap.size, 0, none⟩) 1 1)) badL ∧ Below w.heap.size w W := by
  have hsz : (w2.setCell ⟨g, 0, none⟩ (.slice (some ⟨w2.heap.size, 0, none⟩) 1 1)).heap.size = w2.heap.size := by simp [World.setCell]
  have hr := reads_one_at (w2.setCell ⟨g, 0, none⟩ (.slice (some ⟨w2.heap.size, 0, none⟩) 1 1)) 1 w2.heap.size hsz
  have B2 := hb.setCell (p := ⟨g, 0, none⟩) (by show w.heap.size ≤ g; omega) (.slice (some ⟨w2.heap.size, 0, none⟩) 1 1)
  refine ⟨by rw [hW]; exact (D.setX 0 (by omega) _).alloc _, ⟨fun k hk => ?_, ReadsI.nil _⟩, by rw [hW]; exact B2.alloc (by rw [hsz]; exact hb.size) _⟩
  unfold badL
  rw [Ta.put_v _ 0 _ (by omega), Tl.put_x _ 0 _ (by omega)]
  by_cases h0 : k = 0
  · rw [if_pos h0, if_pos h0, hW]; exact hr
  · rw [if_neg h0, if_neg h0, zeroTa_v k hk, zeroTl_x]; exact ReadsI.nil _
theorem step4 (t : Ta) (w : World) (h : TReads w t startL) : Calls Try.prog 8 #[t.V, .agg #[.int .i64 14, .int .i64 5, .int .i64 6, .int .i64 0, .int .i64 0, .bool false, .bool false, .int .i64 0, .int .i64 0], .int .i64 (8)] w fun e w' => StepOk w (behindL startL i4 (8)) (addrL startL i4) (dataL startL i4) startL.way 0 e w' :=
  step_ok t startL i4 (8) w h start_short ok4
theorem step5 (t : Ta) (w : World) (h : TReads w t startL) : Calls Try.prog 8 #[t.V, .agg #[.int .i64 69, .int .i64 5, .int .i64 6, .int .i64 6, .int .i64 0, .bool false, .bool false, .int .i64 0, .int .i64 0], .int .i64 (-1)] w fun e w' => StepOk w (behindL startL i5 (-1)) (addrL startL i5) (dataL startL i5) startL.way 0 e w' :=
  step_ok t startL i5 (-1) w h start_short ok5
theorem step6 (t : Ta) (w : World) (h : TReads w t startL) : Calls Try.prog 8 #[t.V, .agg #[.int .i64 4, .int .i64 6, .int .i64 5, .int .i64 0, .int .i64 0, .bool false, .bool false, .int .i64 0, .int .i64 0], .int .i64 (-1)] w fun e w' => StepOk w (behindL startL i6 (-1)) (addrL startL i6) (dataL startL i6) startL.way 0 e w' :=
  step_ok t startL i6 (-1) w h start_short ok6
theorem step7 (t : Ta) (w : World) (h : TReads w t startL) : Calls Try.prog 8 #[t.V, .agg #[.int .i64 35, .int .i64 0, .int .i64 0, .int .i64 0, .int .i64 0, .bool false, .bool false, .int .i64 0, .int .i64 0], .int .i64 (-2)] w fun e w' => StepOk w zeroTl [] [] [] 2 e w' :=
  step_bad t startL i7 (-2) w h start_short ok7
set_option maxRecDepth 100000 in
set_option maxHeartbeats 8000000 in
theorem names_any (w : World) : Calls Try.prog 3 #[] w fun e w' => SameOk w true e w' := by
  have B0 := Lib.hid (Below.refl w.heap.size w)
  go_enter Try.func3, Try.ntmps3
  go_upto_region 2 with (first
    | (go_at_call 9; (with_reducible refine (start_any _).mono ?_); rintro e k11 ⟨k1t, rfl, ht, hb⟩; have k1T := Lib.hid ht.reads; have Bk11 := Lib.hid (B0.out.trans (hb.mono B0.out.size));  clear ht hb)
    | (go_at_call 8; (with_reducible refine (step4 k1t _ k1T.out).mono ?_); rintro e k12 ⟨k1u, k1a, k1d, k1y, rfl, ht, hd, hb⟩; have k1U := Lib.hid ht; have k1D := Lib.hid hd; have Bk12 := Lib.hid (Bk11.out.trans (hb.mono Bk11.out.size));  clear ht hd hb)
    | (refine store_ta ((zero_at k12).alloc _) _ (k1U.out.reads.flat) rfl (.tmp 1) (.tmp 18) rfl rfl rfl ?_; intro k13 D3 ho3 hb3 hz3; clear hz3; have k1E := Lib.hid D3; have k1F := Lib.hid hb3; have k1G := Lib.hid ((ho3 _ (by omega)).trans (d_new k12 _)); clear D3 ho3 hb3)
    | (refine store_d k1G.out rfl (.tmp 2) (.tmp 19) rfl _ _ _ k1D.out.1.one k1D.out.2.1.one k1D.out.2.2.one rfl rfl ?_; intro k14 D4 ho4 hb4 hz4; clear ho4 hz4; have hg := got_of k1U.out k1D.out Bk12.out.size k1E.out k1F.out D4 hb4; have k1H := Lib.hid hg.1; have Bk14 := Lib.hid (Bk12.out.trans (hg.2.mono Bk12.out.size));  clear hg D4 hb4))
  go_upto_region 3 with (first
    | (go_at_call 9; (with_reducible refine (start_any _).mono ?_); rintro e k21 ⟨k2t, rfl, ht, hb⟩; have k2T := Lib.hid ht.reads; have Bk21 := Lib.hid (Bk14.out.trans (hb.mono Bk14.out.size)); have k1Hk21 := Lib.hid (k1H.out.on hb); clear ht hb)
    | (go_at_call 8; (with_reducible refine (step5 k2t _ k2T.out).mono ?_); rintro e k22 ⟨k2u, k2a, k2d, k2y, rfl, ht, hd, hb⟩; have k2U := Lib.hid ht; have k2D := Lib.hid hd; have Bk22 := Lib.hid (Bk21.out.trans (hb.mono Bk21.out.size)); have k1Hk22 := Lib.hid (k1Hk21.out.on hb); clear ht hd hb)
    | (refine store_ta ((zero_at k22).alloc _) _ (k2U.out.reads.flat) rfl (.tmp 4) (.tmp 25) rfl rfl rfl ?_; intro k23 D3 ho3 hb3 hz3; clear hz3; have k2E := Lib.hid D3; have k2F := Lib.hid hb3; have k2G := Lib.hid ((ho3 _ (by omega)).trans (d_new k22 _)); clear D3 ho3 hb3)
    | (refine store_d k2G.out rfl (.tmp 5) (.tmp 26) rfl _ _ _ k2D.out.1.one k2D.out.2.1.one k2D.out.2.2.one rfl rfl ?_; intro k24 D4 ho4 hb4 hz4; clear ho4 hz4; have hg := got_of k2U.out k2D.out Bk22.out.size k2E.out k2F.out D4 hb4; have k2H := Lib.hid hg.1; have Bk24 := Lib.hid (Bk22.out.trans (hg.2.mono Bk22.out.size)); have k1Hk24 := Lib.hid (k1Hk22.out.on hg.2); clear hg D4 hb4))
  go_upto_region 4 with (first
    | (go_at_call 9; (with_reducible refine (start_any _).mono ?_); rintro e k31 ⟨k3t, rfl, ht, hb⟩; have k3T := Lib.hid ht.reads; have Bk31 := Lib.hid (Bk24.out.trans (hb.mono Bk24.out.size)); have k1Hk24k31 := Lib.hid (k1Hk24.out.on hb); have k2Hk31 := Lib.hid (k2H.out.on hb); clear ht hb)
    | (go_at_call 8; (with_reducible refine (step6 k3t _ k3T.out).mono ?_); rintro e k32 ⟨k3u, k3a, k3d, k3y, rfl, ht, hd, hb⟩; have k3U := Lib.hid ht; have k3D := Lib.hid hd; have Bk32 := Lib.hid (Bk31.out.trans (hb.mono Bk31.out.size)); have k1Hk24k32 := Lib.hid (k1Hk24k31.out.on hb); have k2Hk32 := Lib.hid (k2Hk31.out.on hb); clear ht hd hb)
    | (refine store_ta ((zero_at k32).alloc _) _ (k3U.out.reads.flat) rfl (.tmp 7) (.tmp 32) rfl rfl rfl ?_; intro k33 D3 ho3 hb3 hz3; clear hz3; have k3E := Lib.hid D3; have k3F := Lib.hid hb3; have k3G := Lib.hid ((ho3 _ (by omega)).trans (d_new k32 _)); clear D3 ho3 hb3)
    | (refine store_d k3G.out rfl (.tmp 8) (.tmp 33) rfl _ _ _ k3D.out.1.one k3D.out.2.1.one k3D.out.2.2.one rfl rfl ?_; intro k34 D4 ho4 hb4 hz4; clear ho4 hz4; have hg := got_of k3U.out k3D.out Bk32.out.size k3E.out k3F.out D4 hb4; have k3H := Lib.hid hg.1; have Bk34 := Lib.hid (Bk32.out.trans (hg.2.mono Bk32.out.size)); have k1Hk24k34 := Lib.hid (k1Hk24k32.out.on hg.2); have k2Hk34 := Lib.hid (k2Hk32.out.on hg.2); clear hg D4 hb4))
  go_upto_region 5 with (first
    | (go_at_call 9; (with_reducible refine (start_any _).mono ?_); rintro e k41 ⟨k4t, rfl, ht, hb⟩; have k4T := Lib.hid ht.reads; have Bk41 := Lib.hid (Bk34.out.trans (hb.mono Bk34.out.size)); have k1Hk24k34k41 := Lib.hid (k1Hk24k34.out.on hb); have k2Hk34k41 := Lib.hid (k2Hk34.out.on hb); have k3Hk41 := Lib.hid (k3H.out.on hb); clear ht hb)
    | (go_at_call 8; (with_reducible refine (step7 k4t _ k4T.out).mono ?_); rintro e k42 ⟨k4u, k4a, k4d, k4y, rfl, ht, hd, hb⟩; have k4U := Lib.hid ht; have k4D := Lib.hid hd; have Bk42 := Lib.hid (Bk41.out.trans (hb.mono Bk41.out.size)); have k1Hk24k34k42 := Lib.hid (k1Hk24k34k41.out.on hb); have k2Hk34k42 := Lib.hid (k2Hk34k41.out.on hb); have k3Hk42 := Lib.hid (k3Hk41.out.on hb); clear ht hd hb)
    | (refine store_ta ((zero_at k42).alloc _) _ (k4U.out.reads.flat) rfl (.tmp 10) (.tmp 39) rfl rfl rfl ?_; intro k43 D3 ho3 hb3 hz3; clear hz3; have k4E := Lib.hid D3; have k4F := Lib.hid hb3; have k4G := Lib.hid ((ho3 _ (by omega)).trans (d_new k42 _)); clear D3 ho3 hb3)
    | (refine store_d k4G.out rfl (.tmp 11) (.tmp 40) rfl _ _ _ k4D.out.1.one k4D.out.2.1.one k4D.out.2.2.one rfl rfl ?_; intro k44 D4 ho4 hb4 hz4; clear ho4 hz4; have hg := got_of k4U.out k4D.out Bk42.out.size k4E.out k4F.out D4 hb4; have k4H := Lib.hid hg.1; have Bk44 := Lib.hid (Bk42.out.trans (hg.2.mono Bk42.out.size)); have k1Hk24k34k44 := Lib.hid (k1Hk24k34k42.out.on hg.2); have k2Hk34k44 := Lib.hid (k2Hk34k42.out.on hg.2); have k3Hk44 := Lib.hid (k3Hk42.out.on hg.2); clear hg D4 hb4))
  have A0 := k1Hk24k34k44
  have C0 := k2Hk34k44
  have E0 := k3Hk44
  clear k1H k1Hk21 k1Hk22 k1Hk24 k1Hk24k31 k1Hk24k32 k1Hk24k34 k2H k2Hk31 k2Hk32 k2Hk34 k3H k1Hk24k34k41 k1Hk24k34k42 k1Hk24k34k44 k2Hk34k41 k2Hk34k42 k2Hk34k44 k3Hk41 k3Hk42 k3Hk44 k4H
  clear k1T k1U k1D k1E k1F k1G Bk11 Bk12 Bk14 k2T k2U k2D k2E k2F k2G Bk21 Bk22 Bk24 k3T k3U k3D k3E k3F k3G Bk31 Bk32 Bk34 k4T k4U k4D k4E k4F k4G Bk41 Bk42
  go_upto_region 6 with (first
    | (go_at_call 10; (with_reducible refine (New_any _).mono ?_); rintro e q1 ⟨rfl, hb⟩; have A1 := Lib.hid (A0.out.on hb); have C1 := Lib.hid (C0.out.on hb); have E1 := Lib.hid (E0.out.on hb); have M1 := Lib.hid (Bk44.out.trans (hb.mono Bk44.out.size)); clear hb)
    | (refine store_ta (zero_at q1) zeroTa zeroFlat rfl (.tmp 13) (.tmp 42) rfl rfl rfl ?_; intro q2 D2 ho2 hb2 hz2; have hb := (box_below q1 _).trans hb2; have HD := Lib.hid D2; have HBq := Lib.hid hb; clear ho2 hz2 D2 hb2 hb))
  have d0 := HD.out.cx 0 (by omega)
  have z0 := HD.out.frozen 0
  have hlt2 : q1.heap.size < q2.heap.size := HD.out.lt
  go_upto_region 7 with fail
  obtain ⟨W0, HW0⟩ : ∃ W0, Hid (W0 = (q2.setCell ⟨q1.heap.size, 0, none⟩ (.slice (some ⟨q2.heap.size, 0, none⟩) 1 1)).alloc (.cells #[.int .i64 1] 3)) := ⟨_, Lib.hid rfl⟩
  obtain ⟨bx, br, bb⟩ := bad_made q1 q2 W0 q1.heap.size HD.out HBq.out (Nat.le_refl _) HW0.out
  rw [← HW0.out]
  have X2 := Lib.hid bx
  have Y2 := Lib.hid br
  have A2 := Lib.hid (A1.out.on bb)
  have C2 := Lib.hid (C1.out.on bb)
  have E2 := Lib.hid (E1.out.on bb)
  have M2 := Lib.hid (M1.out.trans (bb.mono M1.out.size))
  obtain ⟨a5, c5, e5⟩ := len_none (C2.out.reads.x 5 (by omega)) n5
  obtain ⟨a6, c6, e6⟩ := len_none (E2.out.reads.x 6 (by omega)) n6
  clear bx br bb d0 z0 hlt2 HD HBq A1 C1 E1 M1 A0 C0 E0 B0 Bk44
  simp only [List.append_eq, List.cons_append, List.nil_append]
  go_wp2_with (first
    | (go_at_call 11; (with_reducible refine (lives_any _).mono ?_); rintro e w3 ⟨rfl, hb⟩; have A3 := Lib.hid (A2.out.on hb); have C3 := Lib.hid (C2.out.on hb); have E3 := Lib.hid (E2.out.on hb); have X3 := Lib.hid (X2.out.below hb X2.out.lt); have Y3 := Lib.hid (Y2.out.below hb); have M3 := Lib.hid (M2.out.trans (hb.mono M2.out.size)); clear hb A2 C2 E2 X2 Y2 M2; have la := A3.out.box.lt; have fa := A3.out.box.cx 5 (by omega); have lc := C3.out.box.lt; have fc := C3.out.box.cx 5 (by omega); rw [e5.out] at fc; have le := E3.out.box.lt; have fe := E3.out.box.cx 6 (by omega); rw [e6.out] at fe; have few := E3.out.box.cw; have lx := X3.out.lt; have cl := run_LoadT X3.out)
    | (go_at_call 12; (with_reducible refine (same_yes _ _ _ [8] _ n4 ((A3.out.reads.x 5 (by omega)).alloc _) (reads_one w3 _) (by rw [n4.out]; simp)).mono ?_); rintro e w4 ⟨rfl, hb⟩; have hb1 := (box_below w3 _).trans (hb.mono (box_below w3 _).size); have A4 := Lib.hid (A3.out.on hb1); have C4 := Lib.hid (C3.out.on hb1); have E4 := Lib.hid (E3.out.on hb1); have X4 := Lib.hid (X3.out.below hb1 X3.out.lt); have Y4 := Lib.hid (Y3.out.below hb1); have M4 := Lib.hid (M3.out.trans (hb1.mono M3.out.size)); clear la fa lc fc le fe few lx cl hb hb1 A3 C3 E3 X3 Y3 M3; have la := A4.out.box.lt; have fa := A4.out.box.cx 5 (by omega); have lc := C4.out.box.lt; have fc := C4.out.box.cx 5 (by omega); rw [e5.out] at fc; have le := E4.out.box.lt; have fe := E4.out.box.cx 6 (by omega); rw [e6.out] at fe; have few := E4.out.box.cw; have lx := X4.out.lt; have cl := run_LoadT X4.out)
    | (go_at_call 12; (with_reducible refine (same_yes _ _ _ [3] _ n6w (E4.out.reads.w.alloc _) (reads_one w4 _) (by rw [n6w.out]; simp)).mono ?_); rintro e w5 ⟨rfl, hb⟩; have hb1 := (box_below w4 _).trans (hb.mono (box_below w4 _).size); have A5 := Lib.hid (A4.out.on hb1); have C5 := Lib.hid (C4.out.on hb1); have E5 := Lib.hid (E4.out.on hb1); have X5 := Lib.hid (X4.out.below hb1 X4.out.lt); have Y5 := Lib.hid (Y4.out.below hb1); have M5 := Lib.hid (M4.out.trans (hb1.mono M4.out.size)); clear la fa lc fc le fe few lx cl hb hb1 A4 C4 E4 X4 Y4 M4; have cl := run_LoadT X5.out)
    | (go_at_call 13; (with_reducible refine (tCheck_b _ badL false bad_no w5 Y5.out bad_short).mono ?_); rintro e w6 ⟨rfl, hb⟩; have M6 := Lib.hid (M5.out.trans (hb.mono M5.out.size)); clear hb cl A5 C5 E5 X5 Y5 M5)
    | (go_at_call 9; (with_reducible refine (start_any w6).mono ?_); rintro e w7 ⟨t7, rfl, ht, hb⟩; have T7 := Lib.hid ht.reads; have M7 := Lib.hid (M6.out.trans (hb.mono M6.out.size)); clear hb ht M6)
    | (go_at_call 13; (with_reducible refine (tCheck_b _ startL true start_ok w7 T7.out start_short).mono ?_); rintro e w8 ⟨rfl, hb⟩; have M8 := Lib.hid (M7.out.trans (hb.mono M7.out.size)); clear hb M7 T7)
    | (go_at_call 14; (with_reducible refine (join_of _ _ [1, 3] [2, 3] _ _ j1 ((reads_two w8 1 3).alloc _) (reads_two_at _ 2 3 _ (by simp)) (by simp)).mono ?_); rintro e w9 ⟨v9, rfl, hv, hb⟩; have hb1 := (((Below.refl _ w8).alloc (Nat.le_refl _) _).alloc (by simp) _).trans (hb.mono (by simp; omega)); have V9 := Lib.hid hv.1; have M9 := Lib.hid (M8.out.trans (hb1.mono M8.out.size)); clear hb hb1 hv M8)
    | (go_at_call 12; (with_reducible refine (same_yes _ _ _ [1, 2, 3] _ (Lib.hid rfl) (V9.out.alloc _) (reads_three w9 _ _ _) (by simp)).mono ?_); rintro e w10 ⟨rfl, hb⟩; have hb1 := (box_below w9 _).trans (hb.mono (box_below w9 _).size); have M10 := Lib.hid (M9.out.trans (hb1.mono M9.out.size)); clear hb hb1 V9 M9)
    | (go_at_call 14; (with_reducible refine (join_of _ _ [2, 1] [3] _ _ j2 ((reads_two w10 2 1).alloc _) (reads_one_at _ 3 _ (by simp)) (by simp)).mono ?_); rintro e w11 ⟨v11, rfl, hv, hb⟩; have hb1 := (((Below.refl _ w10).alloc (Nat.le_refl _) _).alloc (by simp) _).trans (hb.mono (by simp; omega)); obtain ⟨a11, c11, rfl⟩ := hv.1.len; have M11 := Lib.hid (M10.out.trans (hb1.mono M10.out.size)); clear hb hb1 hv M10)
    | (go_at_call 15; (with_reducible refine (rising_of _ [] true r1 w11 (ReadsI.nil _) (by simp)).mono ?_); rintro e w12 ⟨rfl, rfl⟩)
    | (go_at_call 15; (with_reducible refine (rising_of _ [-1] false r2 _ (reads_one w11 _) (by simp)).mono ?_); rintro e w12 ⟨rfl, rfl⟩; have M12 := Lib.hid (M11.out.trans ((box_below w11 (.cells #[.int .i64 (-1)] 3)).mono M11.out.size)); clear M11)
    | (go_at_call 9; (with_reducible refine (start_any _).mono ?_); rintro e w13 ⟨t13, rfl, ht, hb⟩; have T13 := Lib.hid ht.reads; have M13a := Lib.hid (M12.out.trans (hb.mono M12.out.size)); clear hb ht M12)
    | (go_at_call 9; (with_reducible refine (start_any w13).mono ?_); rintro e w14 ⟨t14, rfl, ht, hb⟩; have T14 := Lib.hid ht.reads; have T13b := Lib.hid (T13.out.below hb); have M14 := Lib.hid (M13a.out.trans (hb.mono M13a.out.size)); clear hb ht M13a T13)
    | (go_at_call 16; (with_reducible refine (Same_yes _ _ w14 T13b.out T14.out).mono ?_); rintro e w15 ⟨rfl, hb⟩; have M13 := Lib.hid (M14.out.trans (hb.mono M14.out.size)); clear hb M14))
  go_ret
  exact ⟨rfl, M13.out⟩
end Go.Proofs.Ytmdaleokhekdeaa
