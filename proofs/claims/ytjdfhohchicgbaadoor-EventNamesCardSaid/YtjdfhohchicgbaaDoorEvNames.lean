/-
  Proved here: the law EventNames answers true; nothing that was there is changed. Condition: the tables of strconv and math/bits as the library lays them.
-/
import Derived.Test.YtjdfhohchicgbaaDoorEvNamesWords
namespace Go.Proofs.YtjdfhohchicgbaaDoor
open Go.RowKit
attribute [local go_sem ↓] fold_E fold_SE

theorem Nm.f {a d y : Value} {g g5 g6 : Nat} {w W : World} (h : Nm a d y g g5 g6 w W) : (LoadE (.pointer (some ⟨g, 0, none⟩))).run Tryd.prog W = .ok (amoE a d y).V W ∧ (LoadE (.pointer (some ⟨g5, 0, none⟩))).run Tryd.prog W = .ok (.agg #[.int .i64 0, .int .i64 0, .int .i64 3, .int .u64 8, .int .u64 0, .int .u64 0, .bool false, .bool false, .int .i64 0, .int .i64 0, .int .i64 0, .slice none 0 0, .slice none 0 0, .slice none 0 0]) W ∧ (LoadE (.pointer (some ⟨g6, 0, none⟩))).run Tryd.prog W = .ok (.agg #[.int .i64 0, .int .i64 1, .int .i64 4, .int .u64 8, .int .u64 0, .int .u64 0, .bool false, .bool false, .int .i64 0, .int .i64 0, .int .i64 0, .slice none 0 0, .slice none 0 0, .slice none 0 0]) W ∧ W.cell? ⟨g, 4, none⟩ = some (.int .u64 5) ∧ W.cell? ⟨g, 5, none⟩ = some (.int .u64 7) ∧ W.cell? ⟨g, 6, none⟩ = some (.bool true) := by
  obtain ⟨_, _, _, _, _, c4, c5, c6, _⟩ := h.own.facts
  exact ⟨run_LoadE h.own, run_LoadE h.lr, run_LoadE h.sc, c4, c5, c6⟩
set_option maxRecDepth 100000 in
set_option maxHeartbeats 8000000 in
theorem names_any (w : World) (hT : TabB w) : Calls Tryd.prog 3 #[] w fun e w' => SameOk w true e w' := by
  have HT := Lib.hid hT
  clear hT
  go_enter Tryd.func3, Tryd.ntmps3
  go_upto_region 2 with (first
    | (go_at_call 6; (with_reducible refine (of_amo _ _ (reads_one w 1)).mono ?_); rintro e' w1 ⟨ea, ed, ey, rfl, hd, hb⟩; obtain ⟨b1, c1, rfl⟩ := hd.1.1.len; obtain ⟨b2, c2, rfl⟩ := hd.2.1.1.len; obtain ⟨b3, c3, rfl⟩ := hd.2.2.1.len; have B1 := Lib.hid ((box_below w _).trans (hb.mono (by simp))); have D1 := Lib.hid hd; clear hd hb)
    | (refine store_ev (EvAt.new zeroEv w1) (amoE (.slice b1 0 c1) (.slice b2 1 c2) (.slice b3 0 c3)) ⟨rfl, rfl, rfl⟩ rfl (.tmp 1) (.tmp 12) rfl rfl rfl ?_; intro w2 D2 ho2 hb2 hz2; have S2 : Hid (N1 (.slice b1 0 c1) (.slice b2 1 c2) (.slice b3 0 c3) w1.heap.size w w2) := Lib.hid ⟨D2, EReads.below (w := w1) ⟨D1.out.1.1, D1.out.2.1.1, D1.out.2.2.1⟩ ((box_below w1 _).trans hb2), B1.out.trans (((box_below w1 _).trans hb2).mono B1.out.size)⟩; clear D2 ho2 hb2 hz2 B1 D1))
  have S2' := S2
  clear S2
  go_upto_region 3 with (first
    | (go_at_call 6; (with_reducible refine (of_out _).mono ?_); rintro e' w3 ⟨rfl, hb⟩; have S3 := Lib.hid (S2'.out.on hb); clear hb)
    | (refine store_ev (EvAt.new zeroEv w3) zeroEv zeroEv_flat rfl (.tmp 3) (.tmp 18) rfl rfl rfl ?_; intro w4 D4 ho4 hb4 hz4; have S4 := Lib.hid (S3.out.on ((box_below w3 _).trans hb4)); clear D4 ho4 hb4 hz4))
  have L0 := EvAt.alloc (EvAt.new zeroEv w4) (.cells #[.int .i64 0, .int .i64 0, .int .i64 0, .int .u64 0, .int .u64 0, .int .u64 0, .bool false, .bool false, .int .i64 0, .int .i64 0, .int .i64 0, .slice none 0 0, .slice none 0 0, .slice none 0 0] 27)
  have L1 := EvAt.new_at zeroEv (w4.alloc (.cells #[.int .i64 0, .int .i64 0, .int .i64 0, .int .u64 0, .int .u64 0, .int .u64 0, .bool false, .bool false, .int .i64 0, .int .i64 0, .int .i64 0, .slice none 0 0, .slice none 0 0, .slice none 0 0] 27)) (w4.heap.size + 1) (by simp)
  go_upto_region 4 with (first
    | (refine store_ev L0 lrE ⟨rfl, rfl, rfl⟩ rfl (.tmp 5) (.tmp 20) rfl rfl rfl ?_; intro w5 D5 ho5 hb5 hz5)
    | (refine store_ev (show EvAt zeroEv (w4.heap.size + 1) w5 from (ho5 _ (by omega)).trans L1) scE ⟨rfl, rfl, rfl⟩ rfl (.tmp 6) (.tmp 21) rfl rfl rfl ?_; intro w6 D6 ho6 hb6 hz6))
  have hb45 : Below w4.heap.size w4 w6 := ((two_below w4 _ _).trans (hb5.trans (hb6.mono (by omega))))
  have hsz : w4.heap.size + 1 < w5.heap.size := by rw [hz5]; simp
  obtain ⟨g, hg⟩ : ∃ g, w1.heap.size = g := ⟨_, rfl⟩
  rw [hg] at S4
  have S5 : Hid (Nm (.slice b1 0 c1) (.slice b2 1 c2) (.slice b3 0 c3) g w4.heap.size (w4.heap.size + 1) w w6) := Lib.hid ⟨S4.out.own.on hb45, S4.out.reads.below hb45, show EvAt lrE w4.heap.size w6 from (ho6 _ (by omega)).trans D5, D6, S4.out.below.trans (hb45.mono S4.out.below.size)⟩
  obtain ⟨g5, hg5⟩ : ∃ g5, w4.heap.size = g5 := ⟨_, rfl⟩
  rw [hg5] at S5 ⊢
  rw [hg]
  clear hb45 hsz L0 L1 D5 ho5 hb5 hz5 D6 ho6 hb6 hz6 S4 S3 S2' hg hg5
  obtain ⟨u0, u1, u2, u3, u4, u5⟩ := S5.out.f
  simp only [List.append_eq, List.cons_append, List.nil_append]
  go_wp2_with (first
    | (go_at_call 7; (with_reducible refine (lives_any _ (HT.out.on S5.out.below)).mono ?_); rintro e' v6 ⟨rfl, hb⟩; have S6 := Lib.hid (S5.out.on hb); clear hb; clear u0 u1 u2 u3 u4 u5; obtain ⟨u0, u1, u2, u3, u4, u5⟩ := S6.out.f)
    | (go_at_call 8; (with_reducible refine (Reads_b (amoE _ _ _) true (by show hasB (fieldsOf 5) 16 = true; decide) _).mono ?_); rintro e' v7 ⟨rfl, hb⟩; have S7 := Lib.hid (S6.out.on hb); clear hb; clear u0 u1 u2 u3 u4 u5; obtain ⟨u0, u1, u2, u3, u4, u5⟩ := S7.out.f)
    | (go_at_call 9; (with_reducible refine (Writes_b (amoE _ _ _) true (by show hasB (fieldsOf 5) 32 = true; decide) _).mono ?_); rintro e' v8 ⟨rfl, hb⟩; have S8 := Lib.hid (S7.out.on hb); clear hb; clear u0 u1 u2 u3 u4 u5; obtain ⟨u0, u1, u2, u3, u4, u5⟩ := S8.out.f)
    | (go_at_call 10; (with_reducible refine (Memory_b (amoE _ _ _) true (by show hasB (fieldsOf 5) 8 = true; decide) _).mono ?_); rintro e' v9 ⟨rfl, hb⟩; have S9 := Lib.hid (S8.out.on hb); clear hb; clear u0 u1 u2 u3 u4 u5; obtain ⟨u0, u1, u2, u3, u4, u5⟩ := S9.out.f)
    | (go_at_call 11; (with_reducible refine (text_amo _ _ _ _ (HT.out.on S9.out.below) S9.out.reads).mono ?_); rintro e' v10 ⟨rfl, hb⟩; have S10 := Lib.hid (S9.out.on hb); clear hb; clear u0 u1 u2 u3 u4 u5; obtain ⟨u0, u1, u2, u3, u4, u5⟩ := S10.out.f)
    | (go_at_call 12; (with_reducible refine (lr_sc v10).mono ?_); rintro e' v11 ⟨rfl, hb⟩; have S11 := Lib.hid ((S10.out.boxed _).on hb); clear hb; clear u0 u1 u2 u3 u4 u5; obtain ⟨u0, u1, u2, u3, u4, u5⟩ := S11.out.f)
    | (go_at_call 12; (with_reducible refine (sc_row v11).mono ?_); rintro e' v12 ⟨rfl, hb⟩; have S12 := Lib.hid ((S11.out.boxed _).on hb); clear hb; clear u0 u1 u2 u3 u4 u5; obtain ⟨u0, u1, u2, u3, u4, u5⟩ := S12.out.f)
    | (go_at_call 12; (with_reducible refine (lr_row v12).mono ?_); rintro e' v13 ⟨rfl, hb⟩; have S13 := Lib.hid ((S12.out.boxed _).on hb); clear hb; clear u0 u1 u2 u3 u4 u5; obtain ⟨u0, u1, u2, u3, u4, u5⟩ := S13.out.f)
    | (go_at_call 13; (with_reducible refine (check_no1 _).mono ?_); rintro e' v14 ⟨rfl, hb⟩; have S14 := Lib.hid (S13.out.on hb); clear hb; clear u0 u1 u2 u3 u4 u5; obtain ⟨u0, u1, u2, u3, u4, u5⟩ := S14.out.f)
    | (go_at_call 13; (with_reducible refine (check_no2 _).mono ?_); rintro e' v15 ⟨rfl, hb⟩; have S15 := Lib.hid (S14.out.on hb); clear hb; clear u0 u1 u2 u3 u4 u5; obtain ⟨u0, u1, u2, u3, u4, u5⟩ := S15.out.f)
    | (go_at_call 13; (with_reducible refine (check_no3 _).mono ?_); rintro e' v16 ⟨rfl, hb⟩; have S16 := Lib.hid (S15.out.on hb); clear hb; clear u0 u1 u2 u3 u4 u5; obtain ⟨u0, u1, u2, u3, u4, u5⟩ := S16.out.f)
    | (go_at_call 11; (with_reducible refine (text_zero _).mono ?_); rintro e' v17 ⟨rfl, hb⟩; have S17 := Lib.hid (S16.out.on hb); clear hb; clear u0 u1 u2 u3 u4 u5; obtain ⟨u0, u1, u2, u3, u4, u5⟩ := S17.out.f)
    | (go_at_call 10; (with_reducible refine (memory_fence _).mono ?_); rintro e' v18 ⟨rfl, hb⟩; have S18 := Lib.hid (S17.out.on hb); clear hb; clear u0 u1 u2 u3 u4 u5; obtain ⟨u0, u1, u2, u3, u4, u5⟩ := S18.out.f)
    | (go_at_call 14; (with_reducible refine (sameE_self (amoE _ _ _) amoL _ S18.out.reads amoL_n).mono ?_); rintro e' v19 ⟨rfl, hb⟩; have S19 := Lib.hid (S18.out.on hb); clear hb; clear u0 u1 u2 u3 u4 u5; obtain ⟨u0, u1, u2, u3, u4, u5⟩ := S19.out.f))
  go_ret
  exact ⟨rfl, S19.out.below⟩
end Go.Proofs.YtjdfhohchicgbaaDoor
