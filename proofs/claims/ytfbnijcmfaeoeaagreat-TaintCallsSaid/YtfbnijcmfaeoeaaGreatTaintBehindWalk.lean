/-
  Proved here: the package taint's behind answers the taint behind an instruction, all of it in new lists; nothing that was there is changed. Condition: the instruction may be; at most 10,000 numbers a list.
-/
import Derived.Test.YtfbnijcmfaeoeaaGreatTaintBehind
namespace Go.Proofs.YtfbnijcmfaeoeaaGreat
open Go.RowKit
attribute [local go_sem ↓] fold_T fold_I

theorem zero_tC : (#[.slice none 0 0, .slice none 0 0, .slice none 0 0, .slice none 0 0, .slice none 0 0, .slice none 0 0, .slice none 0 0, .slice none 0 0, .slice none 0 0, .slice none 0 0, .slice none 0 0, .slice none 0 0, .slice none 0 0, .slice none 0 0, .slice none 0 0, .slice none 0 0, .slice none 0 0, .slice none 0 0, .slice none 0 0, .slice none 0 0, .slice none 0 0, .slice none 0 0, .slice none 0 0, .slice none 0 0, .slice none 0 0, .slice none 0 0, .slice none 0 0, .slice none 0 0, .slice none 0 0, .slice none 0 0, .slice none 0 0, .slice none 0 0, .slice none 0 0] : Array Value) = tC zeroTa := by rfl
theorem way_tC (v : Value) : (#[.slice none 0 0, .slice none 0 0, .slice none 0 0, .slice none 0 0, .slice none 0 0, .slice none 0 0, .slice none 0 0, .slice none 0 0, .slice none 0 0, .slice none 0 0, .slice none 0 0, .slice none 0 0, .slice none 0 0, .slice none 0 0, .slice none 0 0, .slice none 0 0, .slice none 0 0, .slice none 0 0, .slice none 0 0, .slice none 0 0, .slice none 0 0, .slice none 0 0, .slice none 0 0, .slice none 0 0, .slice none 0 0, .slice none 0 0, .slice none 0 0, .slice none 0 0, .slice none 0 0, .slice none 0 0, .slice none 0 0, .slice none 0 0, v] : Array Value) = tC (zeroTa.atWay v) := by rfl
theorem zero_at (w : World) : TAt 25 zeroTa w.heap.size (w.alloc (.cells #[.slice none 0 0, .slice none 0 0, .slice none 0 0, .slice none 0 0, .slice none 0 0, .slice none 0 0, .slice none 0 0, .slice none 0 0, .slice none 0 0, .slice none 0 0, .slice none 0 0, .slice none 0 0, .slice none 0 0, .slice none 0 0, .slice none 0 0, .slice none 0 0, .slice none 0 0, .slice none 0 0, .slice none 0 0, .slice none 0 0, .slice none 0 0, .slice none 0 0, .slice none 0 0, .slice none 0 0, .slice none 0 0, .slice none 0 0, .slice none 0 0, .slice none 0 0, .slice none 0 0, .slice none 0 0, .slice none 0 0, .slice none 0 0, .slice none 0 0] 25)) := by
  rw [zero_tC]; exact TAt.new _ _ _
theorem flat_way (v : Value) (h : v.oneCell' = true) : (zeroTa.atWay v).flat := by
  unfold Ta.flat
  rw [← way_tC]
  have e : (Value.slice none 0 0).oneCell' = true := rfl
  simp [e, h]
theorem Writes_ok (i : Ins) (hok : i.ok = true) (w : World) : Calls Tryz.prog 43 #[i.V] w fun e w' => e = .returned (.int .i64 i.rd) ∧ Below w.heap.size w w' := by
  have := Writes_any i w
  unfold writesI at this
  rw [hok] at this
  exact this
set_option maxRecDepth 100000 in
set_option maxHeartbeats 4000000 in
theorem behind_none (t : Ta) (l : Tl) (i : Ins) (event : Int) (w : World) (h : TReads w t l) (hs : l.short) (hok : i.ok = true) (hrd : i.rd = 0) :
    Calls Tryz.prog 22 #[t.V, i.V, .int .i64 event] w fun e w' => TaintOk w (l.atWay (wayL l i)) e w' := by
  have B0 := Lib.hid ((Both.start t l i w h).alloc (.cells (tC zeroTa) 25))
  have D0 := TAt.new 25 zeroTa ((w.alloc (.cells (tC t) 25)).alloc (.cells (insCells i) 27))
  have hz0 : (((w.alloc (.cells (tC t) 25)).alloc (.cells (insCells i) 27)).alloc (.cells (tC zeroTa) 25)).heap.size = w.heap.size + 3 := by simp
  simp only [World.size_alloc] at D0
  have hm := may_of i hok
  have h1 : 0 ≤ i.rs1 ∧ i.rs1 < 32 := by have := hm.rs1; omega
  have h2 : 0 ≤ i.rs2 ∧ i.rs2 < 32 := by have := hm.rs2; omega
  clear hm
  have HWY := Lib.hid (fun (w0 : World) (b : Both t l i w w0) => way_any t l i w0 b.reads hs h1 h2)
  have HFR := Lib.hid (fun (k : Nat) (hk : k < 32) (w0 : World) (b : Both t l i w w0) => fresh_any (t.v k) (l.x k) w0 (b.reads.x k hk) (by have := hs.x k hk; omega))
  have HWR := Lib.hid (fun (w0 : World) => Writes_ok i hok w0)
  have HRD0 := Lib.hid hrd
  clear hrd
  clear h hs hok h1 h2
  go_enter Tryz.func22, Tryz.ntmps22
  go_upto_region 1 with fail
  rw [zero_tC]
  obtain ⟨W, HW⟩ : ∃ W, Hid (((w.alloc (.cells (tC t) 25)).alloc (.cells (insCells i) 27)).alloc (.cells (tC zeroTa) 25) = W) := ⟨_, Lib.hid rfl⟩
  rw [HW.out] at B0 D0 hz0 ⊢
  have R0 : Hid (TAt 25 zeroTa (w.heap.size + 2) W) := Lib.hid D0
  clear D0
  have cl := B0.out.load
  have ci := B0.out.loadI
  go_wp2_with (first
    | (go_at_call 41; (with_reducible refine (HWY.out _ B0.out).mono ?_); rintro e w1 ⟨v1, rfl, hw1, hb1⟩; obtain ⟨a1, e1, rfl⟩ := hw1.1.len; have ho1 := Lib.hid hw1.one; have N1 := Lib.hid hw1.1.lt; have V1 := Lib.hid (hw1.mono (Nat.le_of_eq hz0.symm)); have B1 := Lib.hid (B0.out.on hb1); have R1 := Lib.hid (R0.out.below hb1 R0.out.lt); have hz1 := hb1.size; rw [hz0] at hz1; clear hw1 hb1 cl ci)
    | (refine store_ta (zero_at w1) (zeroTa.atWay (.slice a1 (wayL l i).length e1)) (flat_way _ ho1.out) rfl (.tmp 7) (.tmp 14) rfl rfl (congrArg Value.agg (way_tC _)) ?_; intro w2 D2 _ hb2 _; have HH2 := made_start B1.out R1.out hz1 V1.out N1.out D2 hb2; have H2 := Lib.hid HH2.1; have F2 := Lib.hid HH2.2; clear HH2 D2 hb2)
    | (refine load_tx H2.out.both.at0 rfl (.tmp 15) rfl rfl ?_))
  go_loopw [17] (fun vi wr => ∃ (k : Nat) (t2 : Ta), k ≤ 32 ∧ vi = .int .i64 k ∧ Making t l i w w1.heap.size t2 wr ∧ Filled l (wayL l i) (w.heap.size + 3) w1.heap.size k t2 wr) (fun vi _ => 32 - (intOf vi).toNat)
  case atStart => exact ⟨0, _, Nat.zero_le _, rfl, H2.out, F2.out⟩
  case round =>
    obtain ⟨k, t2, hk, rfl, hmk, hfl⟩ := hrel
    have HK := Lib.hid hmk
    have FK := Lib.hid hfl
    clear hmk hfl H2 F2
    by_cases hlt : k < 32
    · have hi := index_tx t k hlt
      go_wp2_with (go_at_call 42; (with_reducible refine (HFR.out k hlt _ HK.out.both).mono ?_); rintro e w4 ⟨v4, rfl, hw4, hb4⟩; obtain ⟨a4, e4, rfl⟩ := hw4.1.len; have A4 := Lib.hid (hw4.mono (show w1.heap.size + 1 ≤ _ from Nat.succ_le_of_lt HK.out.box.lt)); have H4 := Lib.hid (HK.out.on hb4); have F4 := Lib.hid (FK.out.on hb4); clear hw4 hb4; have d0 := H4.out.box.cx k hlt; have z0 := H4.out.box.frozen k)
      have H5 := Lib.hid (H4.out.put k hlt (.slice a4 (l.x k).length e4))
      have F5 := Lib.hid (F4.out.put hlt (.slice a4 (l.x k).length e4) A4.out)
      go_roundw
      case rel => exact ⟨k + 1, _, by omega, by go_num, H5.out, F5.out⟩
      case measure => simp [intOf]; omega
    · obtain rfl : k = 32 := by omega
      have cl := HK.out.both.load
      have ci := HK.out.both.loadI
      go_wp2_with (first
        | (go_at_call 43; (with_reducible refine (HWR.out _).mono ?_); rw [HRD0.out]; rintro e w6 ⟨rfl, hb6⟩; have H6 := Lib.hid (HK.out.on hb6); have F6 := Lib.hid (FK.out.on hb6); clear hb6 cl ci; have cl := H6.out.both.load; have ci := H6.out.both.loadI)
        | (refine load_ta H6.out.box rfl (.tmp 7) rfl rfl ?_)
        | (refine store_ta H6.out.res _ ((F6.out.whole (by have := H6.out.far; omega)).reads.flat) rfl (.tmp 6) (.tmp 38) rfl rfl rfl ?_; intro w9 D9 ho9 hb9 hz9))
      refine bodyPost_ret (ta_end rfl rfl D9) rfl ?_
      exact made_done H6.out (F6.out.whole (by have := H6.out.far; omega)) ho9 hb9 hz9
set_option maxRecDepth 100000 in
set_option maxHeartbeats 4000000 in
theorem behind_some (t : Ta) (l : Tl) (i : Ins) (event : Int) (w : World) (h : TReads w t l) (hs : l.short) (hok : i.ok = true) (rd : Nat) (hrd : i.rd = rd) (h0 : rd ≠ 0) (h32 : rd < 32) :
    Calls Tryz.prog 22 #[t.V, i.V, .int .i64 event] w fun e w' => TaintOk w ((l.put rd (writtenL l i event)).atWay (wayL l i)) e w' := by
  have B0 := Lib.hid ((Both.start t l i w h).alloc (.cells (tC zeroTa) 25))
  have D0 := TAt.new 25 zeroTa ((w.alloc (.cells (tC t) 25)).alloc (.cells (insCells i) 27))
  have hz0 : (((w.alloc (.cells (tC t) 25)).alloc (.cells (insCells i) 27)).alloc (.cells (tC zeroTa) 25)).heap.size = w.heap.size + 3 := by simp
  simp only [World.size_alloc] at D0
  have hm := may_of i hok
  have h1 : 0 ≤ i.rs1 ∧ i.rs1 < 32 := by have := hm.rs1; omega
  have h2 : 0 ≤ i.rs2 ∧ i.rs2 < 32 := by have := hm.rs2; omega
  clear hm
  have HWY := Lib.hid (fun (w0 : World) (b : Both t l i w w0) => way_any t l i w0 b.reads hs h1 h2)
  have HFR := Lib.hid (fun (k : Nat) (hk : k < 32) (w0 : World) (b : Both t l i w w0) => fresh_any (t.v k) (l.x k) w0 (b.reads.x k hk) (by have := hs.x k hk; omega))
  have HWR := Lib.hid (fun (w0 : World) => Writes_ok i hok w0)
  have HWT := Lib.hid (fun (w0 : World) (b : Both t l i w w0) => written_any t l i event w0 b.reads hs hok)
  obtain ⟨zl, hzl⟩ : ∃ zl, Hid (writtenL l i event = zl) := ⟨_, Lib.hid rfl⟩
  rw [hzl.out] at HWT ⊢
  have HRD0 := Lib.hid hrd
  have hrd0 : ((rd : Int) != 0) = true := by simpa using h0
  clear hrd h0
  clear h hs hok h1 h2
  go_enter Tryz.func22, Tryz.ntmps22
  go_upto_region 1 with fail
  rw [zero_tC]
  obtain ⟨W, HW⟩ : ∃ W, Hid (((w.alloc (.cells (tC t) 25)).alloc (.cells (insCells i) 27)).alloc (.cells (tC zeroTa) 25) = W) := ⟨_, Lib.hid rfl⟩
  rw [HW.out] at B0 D0 hz0 ⊢
  have R0 : Hid (TAt 25 zeroTa (w.heap.size + 2) W) := Lib.hid D0
  clear D0
  have cl := B0.out.load
  have ci := B0.out.loadI
  go_wp2_with (first
    | (go_at_call 41; (with_reducible refine (HWY.out _ B0.out).mono ?_); rintro e w1 ⟨v1, rfl, hw1, hb1⟩; obtain ⟨a1, e1, rfl⟩ := hw1.1.len; have ho1 := Lib.hid hw1.one; have N1 := Lib.hid hw1.1.lt; have V1 := Lib.hid (hw1.mono (Nat.le_of_eq hz0.symm)); have B1 := Lib.hid (B0.out.on hb1); have R1 := Lib.hid (R0.out.below hb1 R0.out.lt); have hz1 := hb1.size; rw [hz0] at hz1; clear hw1 hb1 cl ci)
    | (refine store_ta (zero_at w1) (zeroTa.atWay (.slice a1 (wayL l i).length e1)) (flat_way _ ho1.out) rfl (.tmp 7) (.tmp 14) rfl rfl (congrArg Value.agg (way_tC _)) ?_; intro w2 D2 _ hb2 _; have HH2 := made_start B1.out R1.out hz1 V1.out N1.out D2 hb2; have H2 := Lib.hid HH2.1; have F2 := Lib.hid HH2.2; clear HH2 D2 hb2)
    | (refine load_tx H2.out.both.at0 rfl (.tmp 15) rfl rfl ?_))
  go_loopw [17] (fun vi wr => ∃ (k : Nat) (t2 : Ta), k ≤ 32 ∧ vi = .int .i64 k ∧ Making t l i w w1.heap.size t2 wr ∧ Filled l (wayL l i) (w.heap.size + 3) w1.heap.size k t2 wr) (fun vi _ => 32 - (intOf vi).toNat)
  case atStart => exact ⟨0, _, Nat.zero_le _, rfl, H2.out, F2.out⟩
  case round =>
    obtain ⟨k, t2, hk, rfl, hmk, hfl⟩ := hrel
    have HK := Lib.hid hmk
    have FK := Lib.hid hfl
    clear hmk hfl H2 F2
    by_cases hlt : k < 32
    · have hi := index_tx t k hlt
      go_wp2_with (go_at_call 42; (with_reducible refine (HFR.out k hlt _ HK.out.both).mono ?_); rintro e w4 ⟨v4, rfl, hw4, hb4⟩; obtain ⟨a4, e4, rfl⟩ := hw4.1.len; have A4 := Lib.hid (hw4.mono (show w1.heap.size + 1 ≤ _ from Nat.succ_le_of_lt HK.out.box.lt)); have H4 := Lib.hid (HK.out.on hb4); have F4 := Lib.hid (FK.out.on hb4); clear hw4 hb4; have d0 := H4.out.box.cx k hlt; have z0 := H4.out.box.frozen k)
      have H5 := Lib.hid (H4.out.put k hlt (.slice a4 (l.x k).length e4))
      have F5 := Lib.hid (F4.out.put hlt (.slice a4 (l.x k).length e4) A4.out)
      go_roundw
      case rel => exact ⟨k + 1, _, by omega, by go_num, H5.out, F5.out⟩
      case measure => simp [intOf]; omega
    · obtain rfl : k = 32 := by omega
      have cl := HK.out.both.load
      have ci := HK.out.both.loadI
      go_wp2_with (first
        | (go_at_call 43; (with_reducible refine (HWR.out _).mono ?_); rw [HRD0.out]; rintro e w6 ⟨rfl, hb6⟩; have H6 := Lib.hid (HK.out.on hb6); have F6 := Lib.hid (FK.out.on hb6); clear hb6 cl ci; have cl := H6.out.both.load; have ci := H6.out.both.loadI)
        | (go_at_call 44; (with_reducible refine (HWT.out _ H6.out.both).mono ?_); rintro e w7 ⟨v7, rfl, hw7, hb7⟩; obtain ⟨a7, e7, rfl⟩ := hw7.1.len; have A7 := Lib.hid (hw7.mono (show w1.heap.size + 1 ≤ _ from Nat.succ_le_of_lt H6.out.box.lt)); have H7 := Lib.hid (H6.out.on hb7); have F7 := Lib.hid (F6.out.on hb7); clear hw7 hb7 cl ci; have d0 := H7.out.box.cx rd h32; have z0 := H7.out.box.frozen rd; have H8 := Lib.hid (H7.out.put rd h32 (.slice a7 zl.length e7)); have F8 := Lib.hid (F7.out.turn rd h32 (.slice a7 zl.length e7) zl A7.out))
        | (refine load_ta H8.out.box rfl (.tmp 7) rfl rfl ?_)
        | (refine store_ta H8.out.res _ ((F8.out.whole (by have := H8.out.far; omega)).reads.flat) rfl (.tmp 6) (.tmp 38) rfl rfl rfl ?_; intro w9 D9 ho9 hb9 hz9))
      refine bodyPost_ret (ta_end rfl rfl D9) rfl ?_
      exact made_done H8.out (F8.out.whole (by have := H8.out.far; omega)) ho9 hb9 hz9
theorem behind_any (t : Ta) (l : Tl) (i : Ins) (event : Int) (w : World) (h : TReads w t l) (hs : l.short) (hok : i.ok = true) :
    Calls Tryz.prog 22 #[t.V, i.V, .int .i64 event] w fun e w' => TaintOk w (behindL l i event) e w' := by
  have hm := (may_of i hok).rd
  unfold behindL
  by_cases hrd : i.rd = 0
  · rw [if_pos hrd]; exact behind_none t l i event w h hs hok hrd
  · rw [if_neg hrd]
    exact behind_some t l i event w h hs hok i.rd.toNat (by omega) (by omega) (by omega)
end Go.Proofs.YtfbnijcmfaeoeaaGreat
