/-
  Proved here: event's made of the asks that read, write, or do both. Condition: numbers of 64 bits.
-/
import Derived.Test.YtjdfhohchicgbaaDoorEvMade
namespace Go.Proofs.YtjdfhohchicgbaaDoor
open Go.RowKit
attribute [local go_sem ↓] fold_E fold_SE
set_option maxRecDepth 100000 in
set_option maxHeartbeats 4000000 in
theorem made_2 (q : Aq) (found : Int) (w : World) (hq : q.kind = 2) :
    Calls Tryd.prog 24 #[q.V, .int .u64 found] w fun e' w' => MadeIs w ⟨0, 0, 2, q.addr, 0, q.val, q.aq, q.rl, 0, 0, 0, .slice none 0 0, .slice none 0 0, .slice none 0 0⟩ 0 e' w' := by
  have M0 := Lib.hid (Mk.start q w)
  obtain ⟨W, hW⟩ : ∃ W, Hid ((w.alloc (.cells #[.int .i64 q.kind, .int .u64 q.addr, .int .u64 q.val, .int .i64 q.op, .bool q.aq, .bool q.rl, .int .i64 q.pred, .int .i64 q.succ] 32)).alloc (.cells #[.int .i64 0, .int .i64 0, .int .i64 0, .int .u64 0, .int .u64 0, .int .u64 0, .bool false, .bool false, .int .i64 0, .int .i64 0, .int .i64 0, .slice none 0 0, .slice none 0 0, .slice none 0 0] 27) = W) := ⟨_, Lib.hid rfl⟩
  rw [hW.out] at M0
  have HQ := Lib.hid hq
  clear hq
  go_enter Tryd.func24, Tryd.ntmps24
  go_upto_region 1 with fail
  rw [hW.out]
  go_upto_region 2 with (go_at_call 41; (with_reducible refine (asked_any _).mono ?_); rintro e' w1 ⟨rfl, hb⟩; have M1 := Lib.hid ((M0.out.on hb).on (box_below w1 (.cells askedV 72))); clear hb)
  obtain ⟨hlt, f0, f1, f2, f3, f4, f5, f6, f7⟩ := M1.out.ask.facts
  rw [HQ.out] at f0
  go_upto_region 5 with (first
    | (go_at_call 33; (with_reducible refine (within_b _ _ true (by decide) _).mono ?_); rintro e' w2 ⟨rfl, rfl⟩)
    | (refine store_ev (EvAt.new_at zeroEv _ (w1.heap.size + 1) (by simp)) (kindEv 2) (kindEv_flat 2) rfl (.tmp 7) (.tmp 26) rfl rfl rfl ?_; intro w3 D3 ho3 hb3 hz3; have P3 : Hid (Mo q (kindEv 2) (w1.heap.size + 1) w w3) := Lib.hid ⟨(M1.out.on (box_below _ _)).under hb3 (by have := M1.out.lt; simpa using this), D3, by have := M1.out.lt; simpa using this⟩; clear D3 ho3 hb3 hz3 hlt f0 f1 f2 f3 f4 f5 f6 f7))
  have cl := run_LoadE P3.out.own
  go_upto_region 8 with (go_at_call 10; (with_reducible refine (Memory_b _ true (by decide) _).mono ?_); rintro e' w4 ⟨rfl, hb⟩; have P4 := Lib.hid (P3.out.on hb); clear hb cl)
  obtain ⟨hlt, f0, f1, f2, f3, f4, f5, f6, f7⟩ := P4.out.boxes.ask.facts
  obtain ⟨glt, g0, g1, g2, g3, g4, g5, g6, g7, g8, g9, g10, _⟩ := P4.out.own.facts
  have z3 := P4.out.own.free 3
  have z6 := P4.out.own.free 6
  have z7 := P4.out.own.free 7
  go_region
  obtain ⟨V, hV⟩ : ∃ V, Hid ((((w4.setCell ⟨w1.heap.size + 1, 3, none⟩ (.int .u64 q.addr)).setCell ⟨w1.heap.size + 1, 6, none⟩ (.bool q.aq)).setCell ⟨w1.heap.size + 1, 7, none⟩ (.bool q.rl)).drew = V) := ⟨_, Lib.hid rfl⟩
  have P5 : Hid (Mo q ⟨0, 0, 2, q.addr, 0, 0, q.aq, q.rl, 0, 0, 0, .slice none 0 0, .slice none 0 0, .slice none 0 0⟩ (w1.heap.size + 1) w V) := Lib.hid (by
    rw [← hV.out]
    have Q1 : Mo q ⟨0, 0, 2, q.addr, 0, 0, false, false, 0, 0, 0, .slice none 0 0, .slice none 0 0, .slice none 0 0⟩ (w1.heap.size + 1) w (w4.setCell ⟨w1.heap.size + 1, 3, none⟩ (.int .u64 q.addr)) := P4.out.set (P4.out.own.setc 3 (.int .u64 q.addr))
    have Q2 : Mo q ⟨0, 0, 2, q.addr, 0, 0, q.aq, false, 0, 0, 0, .slice none 0 0, .slice none 0 0, .slice none 0 0⟩ (w1.heap.size + 1) w ((w4.setCell ⟨w1.heap.size + 1, 3, none⟩ (.int .u64 q.addr)).setCell ⟨w1.heap.size + 1, 6, none⟩ (.bool q.aq)) := Q1.set (Q1.own.setc 6 (.bool q.aq))
    have Q3 : Mo q ⟨0, 0, 2, q.addr, 0, 0, q.aq, q.rl, 0, 0, 0, .slice none 0 0, .slice none 0 0, .slice none 0 0⟩ (w1.heap.size + 1) w (((w4.setCell ⟨w1.heap.size + 1, 3, none⟩ (.int .u64 q.addr)).setCell ⟨w1.heap.size + 1, 6, none⟩ (.bool q.aq)).setCell ⟨w1.heap.size + 1, 7, none⟩ (.bool q.rl)) := Q2.set (Q2.own.setc 7 (.bool q.rl))
    exact Q3.on (Below.refl _ _).drew)
  rw [hV.out]
  clear hlt f0 f1 f2 f3 f4 f5 f6 f7 glt g0 g1 g2 g3 g4 g5 g6 g7 g8 g9 g10 z3 z6 z7
  have cl := run_LoadE P5.out.own
  go_upto_region 11 with (go_at_call 8; (with_reducible refine (Reads_b _ false (by show hasB (fieldsOf 2) 16 = false; decide) _).mono ?_); rintro e' w6 ⟨rfl, hb⟩; have P6 := Lib.hid (P5.out.on hb); clear hb cl; have cl := run_LoadE P6.out.own)
  go_upto_region 13 with (go_at_call 9; (with_reducible refine (Writes_b _ true (by show hasB (fieldsOf 2) 32 = true; decide) _).mono ?_); rintro e' w8 ⟨rfl, hb⟩; have P8 := Lib.hid (P6.out.on hb); clear hb cl; obtain ⟨glt, g0, g1, g2, g3, g4, g5, g6, g7, g8, g9, g10, _⟩ := P8.out.own.facts; have z5 := P8.out.own.free 5; obtain ⟨hlt, f0, f1, f2, f3, f4, f5, f6, f7⟩ := P8.out.boxes.ask.facts)
  obtain ⟨V3, hV3⟩ : ∃ V3, Hid (w8.setCell ⟨w1.heap.size + 1, 5, none⟩ (.int .u64 q.val) = V3) := ⟨_, Lib.hid rfl⟩
  have P9 : Hid (Mo q ⟨0, 0, 2, q.addr, 0, q.val, q.aq, q.rl, 0, 0, 0, .slice none 0 0, .slice none 0 0, .slice none 0 0⟩ (w1.heap.size + 1) w V3) := Lib.hid (by rw [← hV3.out]; exact P8.out.set (P8.out.own.setc 5 (.int .u64 q.val)))
  rw [hV3.out]
  clear glt g0 g1 g2 g3 g4 g5 g6 g7 g8 g9 g10 z5 hlt f0 f1 f2 f3 f4 f5 f6 f7
  obtain ⟨glt, g0, g1, g2, g3, g4, g5, g6, g7, g8, g9, g10, _⟩ := P9.out.own.facts
  have cl := run_LoadE P9.out.own
  go_wp2_with (refine store_ev P9.out.boxes.out ⟨0, 0, 2, q.addr, 0, q.val, q.aq, q.rl, 0, 0, 0, .slice none 0 0, .slice none 0 0, .slice none 0 0⟩ ⟨rfl, rfl, rfl⟩ rfl (.tmp 4) (.tmp 58) rfl rfl rfl ?_; intro w9 D6 ho6 hb6 hz6)
  refine bodyPost_ret (made_end rfl rfl rfl D6) rfl ⟨rfl, P9.out.boxes.below.trans (hb6.mono (by omega))⟩
set_option maxRecDepth 100000 in
set_option maxHeartbeats 4000000 in
theorem made_3 (q : Aq) (found : Int) (w : World) (hq : q.kind = 3) :
    Calls Tryd.prog 24 #[q.V, .int .u64 found] w fun e' w' => MadeIs w ⟨0, 0, 3, q.addr, found, 0, q.aq, q.rl, 0, 0, 0, .slice none 0 0, .slice none 0 0, .slice none 0 0⟩ 0 e' w' := by
  have M0 := Lib.hid (Mk.start q w)
  obtain ⟨W, hW⟩ : ∃ W, Hid ((w.alloc (.cells #[.int .i64 q.kind, .int .u64 q.addr, .int .u64 q.val, .int .i64 q.op, .bool q.aq, .bool q.rl, .int .i64 q.pred, .int .i64 q.succ] 32)).alloc (.cells #[.int .i64 0, .int .i64 0, .int .i64 0, .int .u64 0, .int .u64 0, .int .u64 0, .bool false, .bool false, .int .i64 0, .int .i64 0, .int .i64 0, .slice none 0 0, .slice none 0 0, .slice none 0 0] 27) = W) := ⟨_, Lib.hid rfl⟩
  rw [hW.out] at M0
  have HQ := Lib.hid hq
  clear hq
  go_enter Tryd.func24, Tryd.ntmps24
  go_upto_region 1 with fail
  rw [hW.out]
  go_upto_region 2 with (go_at_call 41; (with_reducible refine (asked_any _).mono ?_); rintro e' w1 ⟨rfl, hb⟩; have M1 := Lib.hid ((M0.out.on hb).on (box_below w1 (.cells askedV 72))); clear hb)
  obtain ⟨hlt, f0, f1, f2, f3, f4, f5, f6, f7⟩ := M1.out.ask.facts
  rw [HQ.out] at f0
  go_upto_region 5 with (first
    | (go_at_call 33; (with_reducible refine (within_b _ _ true (by decide) _).mono ?_); rintro e' w2 ⟨rfl, rfl⟩)
    | (refine store_ev (EvAt.new_at zeroEv _ (w1.heap.size + 1) (by simp)) (kindEv 3) (kindEv_flat 3) rfl (.tmp 7) (.tmp 26) rfl rfl rfl ?_; intro w3 D3 ho3 hb3 hz3; have P3 : Hid (Mo q (kindEv 3) (w1.heap.size + 1) w w3) := Lib.hid ⟨(M1.out.on (box_below _ _)).under hb3 (by have := M1.out.lt; simpa using this), D3, by have := M1.out.lt; simpa using this⟩; clear D3 ho3 hb3 hz3 hlt f0 f1 f2 f3 f4 f5 f6 f7))
  have cl := run_LoadE P3.out.own
  go_upto_region 8 with (go_at_call 10; (with_reducible refine (Memory_b _ true (by decide) _).mono ?_); rintro e' w4 ⟨rfl, hb⟩; have P4 := Lib.hid (P3.out.on hb); clear hb cl)
  obtain ⟨hlt, f0, f1, f2, f3, f4, f5, f6, f7⟩ := P4.out.boxes.ask.facts
  obtain ⟨glt, g0, g1, g2, g3, g4, g5, g6, g7, g8, g9, g10, _⟩ := P4.out.own.facts
  have z3 := P4.out.own.free 3
  have z6 := P4.out.own.free 6
  have z7 := P4.out.own.free 7
  go_region
  obtain ⟨V, hV⟩ : ∃ V, Hid ((((w4.setCell ⟨w1.heap.size + 1, 3, none⟩ (.int .u64 q.addr)).setCell ⟨w1.heap.size + 1, 6, none⟩ (.bool q.aq)).setCell ⟨w1.heap.size + 1, 7, none⟩ (.bool q.rl)).drew = V) := ⟨_, Lib.hid rfl⟩
  have P5 : Hid (Mo q ⟨0, 0, 3, q.addr, 0, 0, q.aq, q.rl, 0, 0, 0, .slice none 0 0, .slice none 0 0, .slice none 0 0⟩ (w1.heap.size + 1) w V) := Lib.hid (by
    rw [← hV.out]
    have Q1 : Mo q ⟨0, 0, 3, q.addr, 0, 0, false, false, 0, 0, 0, .slice none 0 0, .slice none 0 0, .slice none 0 0⟩ (w1.heap.size + 1) w (w4.setCell ⟨w1.heap.size + 1, 3, none⟩ (.int .u64 q.addr)) := P4.out.set (P4.out.own.setc 3 (.int .u64 q.addr))
    have Q2 : Mo q ⟨0, 0, 3, q.addr, 0, 0, q.aq, false, 0, 0, 0, .slice none 0 0, .slice none 0 0, .slice none 0 0⟩ (w1.heap.size + 1) w ((w4.setCell ⟨w1.heap.size + 1, 3, none⟩ (.int .u64 q.addr)).setCell ⟨w1.heap.size + 1, 6, none⟩ (.bool q.aq)) := Q1.set (Q1.own.setc 6 (.bool q.aq))
    have Q3 : Mo q ⟨0, 0, 3, q.addr, 0, 0, q.aq, q.rl, 0, 0, 0, .slice none 0 0, .slice none 0 0, .slice none 0 0⟩ (w1.heap.size + 1) w (((w4.setCell ⟨w1.heap.size + 1, 3, none⟩ (.int .u64 q.addr)).setCell ⟨w1.heap.size + 1, 6, none⟩ (.bool q.aq)).setCell ⟨w1.heap.size + 1, 7, none⟩ (.bool q.rl)) := Q2.set (Q2.own.setc 7 (.bool q.rl))
    exact Q3.on (Below.refl _ _).drew)
  rw [hV.out]
  clear hlt f0 f1 f2 f3 f4 f5 f6 f7 glt g0 g1 g2 g3 g4 g5 g6 g7 g8 g9 g10 z3 z6 z7
  have cl := run_LoadE P5.out.own
  go_upto_region 11 with (go_at_call 8; (with_reducible refine (Reads_b _ true (by show hasB (fieldsOf 3) 16 = true; decide) _).mono ?_); rintro e' w6 ⟨rfl, hb⟩; have P6 := Lib.hid (P5.out.on hb); clear hb cl; obtain ⟨glt, g0, g1, g2, g3, g4, g5, g6, g7, g8, g9, g10, _⟩ := P6.out.own.facts; have z4 := P6.out.own.free 4)
  obtain ⟨V2, hV2⟩ : ∃ V2, Hid (w6.setCell ⟨w1.heap.size + 1, 4, none⟩ (.int .u64 found) = V2) := ⟨_, Lib.hid rfl⟩
  have P7 : Hid (Mo q ⟨0, 0, 3, q.addr, found, 0, q.aq, q.rl, 0, 0, 0, .slice none 0 0, .slice none 0 0, .slice none 0 0⟩ (w1.heap.size + 1) w V2) := Lib.hid (by rw [← hV2.out]; exact P6.out.set (P6.out.own.setc 4 (.int .u64 found)))
  rw [hV2.out]
  clear glt g0 g1 g2 g3 g4 g5 g6 g7 g8 g9 g10 z4
  have cl := run_LoadE P7.out.own
  go_upto_region 14 with (go_at_call 9; (with_reducible refine (Writes_b _ false (by show hasB (fieldsOf 3) 32 = false; decide) _).mono ?_); rintro e' w8 ⟨rfl, hb⟩; have P8 := Lib.hid (P7.out.on hb); clear hb cl; obtain ⟨glt, g0, g1, g2, g3, g4, g5, g6, g7, g8, g9, g10, _⟩ := P8.out.own.facts; have z5 := P8.out.own.free 5; obtain ⟨hlt, f0, f1, f2, f3, f4, f5, f6, f7⟩ := P8.out.boxes.ask.facts)
  clear glt g0 g1 g2 g3 g4 g5 g6 g7 g8 g9 g10 z5 hlt f0 f1 f2 f3 f4 f5 f6 f7
  have cl := run_LoadE P8.out.own
  go_wp2_with (refine store_ev P8.out.boxes.out ⟨0, 0, 3, q.addr, found, 0, q.aq, q.rl, 0, 0, 0, .slice none 0 0, .slice none 0 0, .slice none 0 0⟩ ⟨rfl, rfl, rfl⟩ rfl (.tmp 4) (.tmp 58) rfl rfl rfl ?_; intro w9 D6 ho6 hb6 hz6)
  refine bodyPost_ret (made_end rfl rfl rfl D6) rfl ⟨rfl, P8.out.boxes.below.trans (hb6.mono (by omega))⟩
set_option maxRecDepth 100000 in
set_option maxHeartbeats 4000000 in
theorem made_4 (q : Aq) (found : Int) (w : World) (hq : q.kind = 4) :
    Calls Tryd.prog 24 #[q.V, .int .u64 found] w fun e' w' => MadeIs w ⟨0, 0, 4, q.addr, 0, q.val, q.aq, q.rl, 0, 0, 0, .slice none 0 0, .slice none 0 0, .slice none 0 0⟩ 0 e' w' := by
  have M0 := Lib.hid (Mk.start q w)
  obtain ⟨W, hW⟩ : ∃ W, Hid ((w.alloc (.cells #[.int .i64 q.kind, .int .u64 q.addr, .int .u64 q.val, .int .i64 q.op, .bool q.aq, .bool q.rl, .int .i64 q.pred, .int .i64 q.succ] 32)).alloc (.cells #[.int .i64 0, .int .i64 0, .int .i64 0, .int .u64 0, .int .u64 0, .int .u64 0, .bool false, .bool false, .int .i64 0, .int .i64 0, .int .i64 0, .slice none 0 0, .slice none 0 0, .slice none 0 0] 27) = W) := ⟨_, Lib.hid rfl⟩
  rw [hW.out] at M0
  have HQ := Lib.hid hq
  clear hq
  go_enter Tryd.func24, Tryd.ntmps24
  go_upto_region 1 with fail
  rw [hW.out]
  go_upto_region 2 with (go_at_call 41; (with_reducible refine (asked_any _).mono ?_); rintro e' w1 ⟨rfl, hb⟩; have M1 := Lib.hid ((M0.out.on hb).on (box_below w1 (.cells askedV 72))); clear hb)
  obtain ⟨hlt, f0, f1, f2, f3, f4, f5, f6, f7⟩ := M1.out.ask.facts
  rw [HQ.out] at f0
  go_upto_region 5 with (first
    | (go_at_call 33; (with_reducible refine (within_b _ _ true (by decide) _).mono ?_); rintro e' w2 ⟨rfl, rfl⟩)
    | (refine store_ev (EvAt.new_at zeroEv _ (w1.heap.size + 1) (by simp)) (kindEv 4) (kindEv_flat 4) rfl (.tmp 7) (.tmp 26) rfl rfl rfl ?_; intro w3 D3 ho3 hb3 hz3; have P3 : Hid (Mo q (kindEv 4) (w1.heap.size + 1) w w3) := Lib.hid ⟨(M1.out.on (box_below _ _)).under hb3 (by have := M1.out.lt; simpa using this), D3, by have := M1.out.lt; simpa using this⟩; clear D3 ho3 hb3 hz3 hlt f0 f1 f2 f3 f4 f5 f6 f7))
  have cl := run_LoadE P3.out.own
  go_upto_region 8 with (go_at_call 10; (with_reducible refine (Memory_b _ true (by decide) _).mono ?_); rintro e' w4 ⟨rfl, hb⟩; have P4 := Lib.hid (P3.out.on hb); clear hb cl)
  obtain ⟨hlt, f0, f1, f2, f3, f4, f5, f6, f7⟩ := P4.out.boxes.ask.facts
  obtain ⟨glt, g0, g1, g2, g3, g4, g5, g6, g7, g8, g9, g10, _⟩ := P4.out.own.facts
  have z3 := P4.out.own.free 3
  have z6 := P4.out.own.free 6
  have z7 := P4.out.own.free 7
  go_region
  obtain ⟨V, hV⟩ : ∃ V, Hid ((((w4.setCell ⟨w1.heap.size + 1, 3, none⟩ (.int .u64 q.addr)).setCell ⟨w1.heap.size + 1, 6, none⟩ (.bool q.aq)).setCell ⟨w1.heap.size + 1, 7, none⟩ (.bool q.rl)).drew = V) := ⟨_, Lib.hid rfl⟩
  have P5 : Hid (Mo q ⟨0, 0, 4, q.addr, 0, 0, q.aq, q.rl, 0, 0, 0, .slice none 0 0, .slice none 0 0, .slice none 0 0⟩ (w1.heap.size + 1) w V) := Lib.hid (by
    rw [← hV.out]
    have Q1 : Mo q ⟨0, 0, 4, q.addr, 0, 0, false, false, 0, 0, 0, .slice none 0 0, .slice none 0 0, .slice none 0 0⟩ (w1.heap.size + 1) w (w4.setCell ⟨w1.heap.size + 1, 3, none⟩ (.int .u64 q.addr)) := P4.out.set (P4.out.own.setc 3 (.int .u64 q.addr))
    have Q2 : Mo q ⟨0, 0, 4, q.addr, 0, 0, q.aq, false, 0, 0, 0, .slice none 0 0, .slice none 0 0, .slice none 0 0⟩ (w1.heap.size + 1) w ((w4.setCell ⟨w1.heap.size + 1, 3, none⟩ (.int .u64 q.addr)).setCell ⟨w1.heap.size + 1, 6, none⟩ (.bool q.aq)) := Q1.set (Q1.own.setc 6 (.bool q.aq))
    have Q3 : Mo q ⟨0, 0, 4, q.addr, 0, 0, q.aq, q.rl, 0, 0, 0, .slice none 0 0, .slice none 0 0, .slice none 0 0⟩ (w1.heap.size + 1) w (((w4.setCell ⟨w1.heap.size + 1, 3, none⟩ (.int .u64 q.addr)).setCell ⟨w1.heap.size + 1, 6, none⟩ (.bool q.aq)).setCell ⟨w1.heap.size + 1, 7, none⟩ (.bool q.rl)) := Q2.set (Q2.own.setc 7 (.bool q.rl))
    exact Q3.on (Below.refl _ _).drew)
  rw [hV.out]
  clear hlt f0 f1 f2 f3 f4 f5 f6 f7 glt g0 g1 g2 g3 g4 g5 g6 g7 g8 g9 g10 z3 z6 z7
  have cl := run_LoadE P5.out.own
  go_upto_region 11 with (go_at_call 8; (with_reducible refine (Reads_b _ false (by show hasB (fieldsOf 4) 16 = false; decide) _).mono ?_); rintro e' w6 ⟨rfl, hb⟩; have P6 := Lib.hid (P5.out.on hb); clear hb cl; have cl := run_LoadE P6.out.own)
  go_upto_region 13 with (go_at_call 9; (with_reducible refine (Writes_b _ true (by show hasB (fieldsOf 4) 32 = true; decide) _).mono ?_); rintro e' w8 ⟨rfl, hb⟩; have P8 := Lib.hid (P6.out.on hb); clear hb cl; obtain ⟨glt, g0, g1, g2, g3, g4, g5, g6, g7, g8, g9, g10, _⟩ := P8.out.own.facts; have z5 := P8.out.own.free 5; obtain ⟨hlt, f0, f1, f2, f3, f4, f5, f6, f7⟩ := P8.out.boxes.ask.facts)
  obtain ⟨V3, hV3⟩ : ∃ V3, Hid (w8.setCell ⟨w1.heap.size + 1, 5, none⟩ (.int .u64 q.val) = V3) := ⟨_, Lib.hid rfl⟩
  have P9 : Hid (Mo q ⟨0, 0, 4, q.addr, 0, q.val, q.aq, q.rl, 0, 0, 0, .slice none 0 0, .slice none 0 0, .slice none 0 0⟩ (w1.heap.size + 1) w V3) := Lib.hid (by rw [← hV3.out]; exact P8.out.set (P8.out.own.setc 5 (.int .u64 q.val)))
  rw [hV3.out]
  clear glt g0 g1 g2 g3 g4 g5 g6 g7 g8 g9 g10 z5 hlt f0 f1 f2 f3 f4 f5 f6 f7
  obtain ⟨glt, g0, g1, g2, g3, g4, g5, g6, g7, g8, g9, g10, _⟩ := P9.out.own.facts
  have cl := run_LoadE P9.out.own
  go_wp2_with (refine store_ev P9.out.boxes.out ⟨0, 0, 4, q.addr, 0, q.val, q.aq, q.rl, 0, 0, 0, .slice none 0 0, .slice none 0 0, .slice none 0 0⟩ ⟨rfl, rfl, rfl⟩ rfl (.tmp 4) (.tmp 58) rfl rfl rfl ?_; intro w9 D6 ho6 hb6 hz6)
  refine bodyPost_ret (made_end rfl rfl rfl D6) rfl ⟨rfl, P9.out.boxes.below.trans (hb6.mono (by omega))⟩
set_option maxRecDepth 100000 in
set_option maxHeartbeats 4000000 in
theorem made_5 (q : Aq) (found : Int) (w : World) (hq : q.kind = 5) (hok : q.ok) (hf : 0 ≤ found ∧ found < 18446744073709551616) :
    Calls Tryd.prog 24 #[q.V, .int .u64 found] w fun e' w' => MadeIs w ⟨0, 0, 5, q.addr, found, amI q.op found q.val, q.aq, q.rl, 0, 0, 0, .slice none 0 0, .slice none 0 0, .slice none 0 0⟩ (amE q.op) e' w' := by
  have HA := Lib.hid (fun w0 => amo_any q.op found q.val hf.1 hf.2 hok.2.2.1 hok.2.2.2 w0)
  clear hok hf
  have M0 := Lib.hid (Mk.start q w)
  obtain ⟨W, hW⟩ : ∃ W, Hid ((w.alloc (.cells #[.int .i64 q.kind, .int .u64 q.addr, .int .u64 q.val, .int .i64 q.op, .bool q.aq, .bool q.rl, .int .i64 q.pred, .int .i64 q.succ] 32)).alloc (.cells #[.int .i64 0, .int .i64 0, .int .i64 0, .int .u64 0, .int .u64 0, .int .u64 0, .bool false, .bool false, .int .i64 0, .int .i64 0, .int .i64 0, .slice none 0 0, .slice none 0 0, .slice none 0 0] 27) = W) := ⟨_, Lib.hid rfl⟩
  rw [hW.out] at M0
  have HQ := Lib.hid hq
  clear hq
  go_enter Tryd.func24, Tryd.ntmps24
  go_upto_region 1 with fail
  rw [hW.out]
  go_upto_region 2 with (go_at_call 41; (with_reducible refine (asked_any _).mono ?_); rintro e' w1 ⟨rfl, hb⟩; have M1 := Lib.hid ((M0.out.on hb).on (box_below w1 (.cells askedV 72))); clear hb)
  obtain ⟨hlt, f0, f1, f2, f3, f4, f5, f6, f7⟩ := M1.out.ask.facts
  rw [HQ.out] at f0
  go_upto_region 5 with (first
    | (go_at_call 33; (with_reducible refine (within_b _ _ true (by decide) _).mono ?_); rintro e' w2 ⟨rfl, rfl⟩)
    | (refine store_ev (EvAt.new_at zeroEv _ (w1.heap.size + 1) (by simp)) (kindEv 5) (kindEv_flat 5) rfl (.tmp 7) (.tmp 26) rfl rfl rfl ?_; intro w3 D3 ho3 hb3 hz3; have P3 : Hid (Mo q (kindEv 5) (w1.heap.size + 1) w w3) := Lib.hid ⟨(M1.out.on (box_below _ _)).under hb3 (by have := M1.out.lt; simpa using this), D3, by have := M1.out.lt; simpa using this⟩; clear D3 ho3 hb3 hz3 hlt f0 f1 f2 f3 f4 f5 f6 f7))
  have cl := run_LoadE P3.out.own
  go_upto_region 8 with (go_at_call 10; (with_reducible refine (Memory_b _ true (by decide) _).mono ?_); rintro e' w4 ⟨rfl, hb⟩; have P4 := Lib.hid (P3.out.on hb); clear hb cl)
  obtain ⟨hlt, f0, f1, f2, f3, f4, f5, f6, f7⟩ := P4.out.boxes.ask.facts
  obtain ⟨glt, g0, g1, g2, g3, g4, g5, g6, g7, g8, g9, g10, _⟩ := P4.out.own.facts
  have z3 := P4.out.own.free 3
  have z6 := P4.out.own.free 6
  have z7 := P4.out.own.free 7
  go_region
  obtain ⟨V, hV⟩ : ∃ V, Hid ((((w4.setCell ⟨w1.heap.size + 1, 3, none⟩ (.int .u64 q.addr)).setCell ⟨w1.heap.size + 1, 6, none⟩ (.bool q.aq)).setCell ⟨w1.heap.size + 1, 7, none⟩ (.bool q.rl)).drew = V) := ⟨_, Lib.hid rfl⟩
  have P5 : Hid (Mo q ⟨0, 0, 5, q.addr, 0, 0, q.aq, q.rl, 0, 0, 0, .slice none 0 0, .slice none 0 0, .slice none 0 0⟩ (w1.heap.size + 1) w V) := Lib.hid (by
    rw [← hV.out]
    have Q1 : Mo q ⟨0, 0, 5, q.addr, 0, 0, false, false, 0, 0, 0, .slice none 0 0, .slice none 0 0, .slice none 0 0⟩ (w1.heap.size + 1) w (w4.setCell ⟨w1.heap.size + 1, 3, none⟩ (.int .u64 q.addr)) := P4.out.set (P4.out.own.setc 3 (.int .u64 q.addr))
    have Q2 : Mo q ⟨0, 0, 5, q.addr, 0, 0, q.aq, false, 0, 0, 0, .slice none 0 0, .slice none 0 0, .slice none 0 0⟩ (w1.heap.size + 1) w ((w4.setCell ⟨w1.heap.size + 1, 3, none⟩ (.int .u64 q.addr)).setCell ⟨w1.heap.size + 1, 6, none⟩ (.bool q.aq)) := Q1.set (Q1.own.setc 6 (.bool q.aq))
    have Q3 : Mo q ⟨0, 0, 5, q.addr, 0, 0, q.aq, q.rl, 0, 0, 0, .slice none 0 0, .slice none 0 0, .slice none 0 0⟩ (w1.heap.size + 1) w (((w4.setCell ⟨w1.heap.size + 1, 3, none⟩ (.int .u64 q.addr)).setCell ⟨w1.heap.size + 1, 6, none⟩ (.bool q.aq)).setCell ⟨w1.heap.size + 1, 7, none⟩ (.bool q.rl)) := Q2.set (Q2.own.setc 7 (.bool q.rl))
    exact Q3.on (Below.refl _ _).drew)
  rw [hV.out]
  clear hlt f0 f1 f2 f3 f4 f5 f6 f7 glt g0 g1 g2 g3 g4 g5 g6 g7 g8 g9 g10 z3 z6 z7
  have cl := run_LoadE P5.out.own
  go_upto_region 11 with (go_at_call 8; (with_reducible refine (Reads_b _ true (by show hasB (fieldsOf 5) 16 = true; decide) _).mono ?_); rintro e' w6 ⟨rfl, hb⟩; have P6 := Lib.hid (P5.out.on hb); clear hb cl; obtain ⟨glt, g0, g1, g2, g3, g4, g5, g6, g7, g8, g9, g10, _⟩ := P6.out.own.facts; have z4 := P6.out.own.free 4)
  obtain ⟨V2, hV2⟩ : ∃ V2, Hid (w6.setCell ⟨w1.heap.size + 1, 4, none⟩ (.int .u64 found) = V2) := ⟨_, Lib.hid rfl⟩
  have P7 : Hid (Mo q ⟨0, 0, 5, q.addr, found, 0, q.aq, q.rl, 0, 0, 0, .slice none 0 0, .slice none 0 0, .slice none 0 0⟩ (w1.heap.size + 1) w V2) := Lib.hid (by rw [← hV2.out]; exact P6.out.set (P6.out.own.setc 4 (.int .u64 found)))
  rw [hV2.out]
  clear glt g0 g1 g2 g3 g4 g5 g6 g7 g8 g9 g10 z4
  have cl := run_LoadE P7.out.own
  go_upto_region 13 with (go_at_call 9; (with_reducible refine (Writes_b _ true (by show hasB (fieldsOf 5) 32 = true; decide) _).mono ?_); rintro e' w8 ⟨rfl, hb⟩; have P8 := Lib.hid (P7.out.on hb); clear hb cl; obtain ⟨glt, g0, g1, g2, g3, g4, g5, g6, g7, g8, g9, g10, _⟩ := P8.out.own.facts; have z5 := P8.out.own.free 5; obtain ⟨hlt, f0, f1, f2, f3, f4, f5, f6, f7⟩ := P8.out.boxes.ask.facts)
  obtain ⟨V3, hV3⟩ : ∃ V3, Hid (w8.setCell ⟨w1.heap.size + 1, 5, none⟩ (.int .u64 q.val) = V3) := ⟨_, Lib.hid rfl⟩
  have P9 : Hid (Mo q ⟨0, 0, 5, q.addr, found, q.val, q.aq, q.rl, 0, 0, 0, .slice none 0 0, .slice none 0 0, .slice none 0 0⟩ (w1.heap.size + 1) w V3) := Lib.hid (by rw [← hV3.out]; exact P8.out.set (P8.out.own.setc 5 (.int .u64 q.val)))
  rw [hV3.out]
  clear glt g0 g1 g2 g3 g4 g5 g6 g7 g8 g9 g10 z5 hlt f0 f1 f2 f3 f4 f5 f6 f7
  obtain ⟨glt, g0, g1, g2, g3, g4, g5, g6, g7, g8, g9, g10, _⟩ := P9.out.own.facts
  obtain ⟨hlt, f0, f1, f2, f3, f4, f5, f6, f7⟩ := P9.out.boxes.ask.facts
  go_upto_region 17 with (go_at_call 42; (with_reducible refine (HA.out _).mono ?_); rintro e' w10 ⟨rfl, hb⟩; have P10 := Lib.hid (P9.out.on hb); clear hb hlt f0 f1 f2 f3 f4 f5 f6 f7 glt g0 g1 g2 g3 g4 g5 g6 g7 g8 g9 g10; obtain ⟨glt, g0, g1, g2, g3, g4, g5, g6, g7, g8, g9, g10, _⟩ := P10.out.own.facts; have z5 := P10.out.own.free 5)
  obtain ⟨V4, hV4⟩ : ∃ V4, Hid (w10.setCell ⟨w1.heap.size + 1, 5, none⟩ (.int .u64 (amI q.op found q.val)) = V4) := ⟨_, Lib.hid rfl⟩
  have P11 : Hid (Mo q ⟨0, 0, 5, q.addr, found, (amI q.op found q.val), q.aq, q.rl, 0, 0, 0, .slice none 0 0, .slice none 0 0, .slice none 0 0⟩ (w1.heap.size + 1) w V4) := Lib.hid (by rw [← hV4.out]; exact P10.out.set (P10.out.own.setc 5 (.int .u64 (amI q.op found q.val))))
  rw [hV4.out]
  clear glt g0 g1 g2 g3 g4 g5 g6 g7 g8 g9 g10 z5
  have cl := run_LoadE P11.out.own
  go_wp2_with (refine store_ev P11.out.boxes.out ⟨0, 0, 5, q.addr, found, (amI q.op found q.val), q.aq, q.rl, 0, 0, 0, .slice none 0 0, .slice none 0 0, .slice none 0 0⟩ ⟨rfl, rfl, rfl⟩ rfl (.tmp 4) (.tmp 69) rfl rfl rfl ?_; intro w9 D6 ho6 hb6 hz6)
  refine bodyPost_ret (made_end rfl rfl rfl D6) rfl ⟨rfl, P11.out.boxes.below.trans (hb6.mono (by omega))⟩
end Go.Proofs.YtjdfhohchicgbaaDoor
