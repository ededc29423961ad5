/-
  Proved here: each field's own function carries its field into the carrier's word or out of it; nothing else that was there is changed. No condition.
-/
import Derived.Test.YtbchecnidiiddaaGreatDoorCodeFields
namespace Go.Proofs.YtbchecnidiiddaaGreatDoor
set_option linter.unusedVariables false
open Go.RowKit

theorem cast7 : (7 : Int) = ((7 : Nat) : Int) := rfl
theorem cast15 : (15 : Int) = ((15 : Nat) : Int) := rfl
theorem cast20 : (20 : Int) = ((20 : Nat) : Int) := rfl
theorem cast24 : (24 : Int) = ((24 : Nat) : Int) := rfl
theorem cast25 : (25 : Int) = ((25 : Nat) : Int) := rfl
theorem cast26 : (26 : Int) = ((26 : Nat) : Int) := rfl
theorem cast12 : (12 : Int) = ((12 : Nat) : Int) := rfl
theorem cast13 : (13 : Int) = ((13 : Nat) : Int) := rfl
theorem cast21 : (21 : Int) = ((21 : Nat) : Int) := rfl
theorem InsAt.rd {i : Ins} {n : Nat} {w : World} (h : InsAt i n w) (x : Int) : InsAt { i with rd := x } n (w.setCell ⟨n, 1, none⟩ (.int .i64 x)) := heap_set _ h
theorem InsAt.rs1 {i : Ins} {n : Nat} {w : World} (h : InsAt i n w) (x : Int) : InsAt { i with rs1 := x } n (w.setCell ⟨n, 2, none⟩ (.int .i64 x)) := heap_set _ h
theorem InsAt.rs2 {i : Ins} {n : Nat} {w : World} (h : InsAt i n w) (x : Int) : InsAt { i with rs2 := x } n (w.setCell ⟨n, 3, none⟩ (.int .i64 x)) := heap_set _ h
theorem InsAt.imm {i : Ins} {n : Nat} {w : World} (h : InsAt i n w) (x : Int) : InsAt { i with imm := x } n (w.setCell ⟨n, 4, none⟩ (.int .i64 x)) := heap_set _ h
theorem InsAt.aq {i : Ins} {n : Nat} {w : World} (h : InsAt i n w) (b : Bool) : InsAt { i with aq := b } n (w.setCell ⟨n, 5, none⟩ (.bool b)) := heap_set _ h
theorem InsAt.rl {i : Ins} {n : Nat} {w : World} (h : InsAt i n w) (b : Bool) : InsAt { i with rl := b } n (w.setCell ⟨n, 6, none⟩ (.bool b)) := heap_set _ h
theorem InsAt.pred {i : Ins} {n : Nat} {w : World} (h : InsAt i n w) (x : Int) : InsAt { i with pred := x } n (w.setCell ⟨n, 7, none⟩ (.int .i64 x)) := heap_set _ h
theorem InsAt.succ {i : Ins} {n : Nat} {w : World} (h : InsAt i n w) (x : Int) : InsAt { i with succ := x } n (w.setCell ⟨n, 8, none⟩ (.int .i64 x)) := heap_set _ h
theorem InsAt.oth2 {i : Ins} {n r q : Nat} {w w' : World} (h : InsAt i n w) (ho : Oth2 r q w w') (hn : n ≠ r) (hq : n ≠ q) : InsAt i n w' := (ho.2.2.2.2 n h.facts.1 hn hq).trans h
def FieldOk (c n : Nat) (b : BitVec 64) (i : Ins) (k : Nat) (o : Bool) (w : World) (e : Ending) (w' : World) : Prop :=
  e = .returned (.tuple #[]) ∧ CarAt c (nb o b (valK k i) (spansK k)) o w' ∧ InsAt (setK k i (nv o b (valK k i) (spansK k))) n w' ∧ Oth2 c n w w'
/-- a field's call, then its store -/
theorem field_end {c n k j : Nat} {b b' : BitVec 64} {i i' : Ins} {o : Bool} {w w1 : World} {v : Value} (hcn : n ≠ c) (hb : b' = nb o b (valK k i) (spansK k)) (hi' : InsAt i' n (w1.setCell ⟨n, j, none⟩ v)) (hi : i' = setK k i (nv o b (valK k i) (spansK k))) (hC : CarAt c b' o w1) (hO : Oth c w w1) :
    FieldOk c n b i k o w (.returned (.tuple #[])) (w1.setCell ⟨n, j, none⟩ v) := by
  subst hb hi
  exact ⟨rfl, hC.oth (Oth.setCell n j w1 v) (fun e => hcn e.symm), hi', (hO.two n).trans ((Oth.setCell n j w1 v).two' c)⟩
set_option maxRecDepth 100000 in
set_option maxHeartbeats 1000000 in
theorem rd_any (c n : Nat) (b : BitVec 64) (i : Ins) (o : Bool) (w : World) (hcn : n ≠ c) (hc : CarAt c b o w) (hi : InsAt i n w) :
    Calls Tryz.prog 49 #[.pointer (some ⟨c, 0, none⟩), .pointer (some ⟨n, 0, none⟩)] w fun e w' => FieldOk c n b i 0 o w e w' := by
  obtain ⟨hz, c0, c1, c2, c3, c4, c5, c6, c7, c8⟩ := hi.facts
  have HC := Lib.hid hc
  have HI := Lib.hid hi
  have HCN := Lib.hid hcn
  clear hc hi hcn
  go_enter Tryz.func49, Tryz.ntmps49
  go_wp2_with (go_at_call 84; (with_reducible refine (register_any c 7 7 b _ o _ cast7 (by omega) HC.out).mono ?_); rintro e w1 ⟨rfl, hC, hO⟩; have HC1 := Lib.hid hC; have HO1 := Lib.hid hO; have HI1 := Lib.hid (HI.out.oth hO HCN.out); clear hC hO hz c0 c1 c2 c3 c4 c5 c6 c7 c8; obtain ⟨hz, c0, c1, c2, c3, c4, c5, c6, c7, c8⟩ := HI1.out.facts; have hf := loose_of HI1.out 1)
  go_end0
  exact field_end HCN.out rfl (HI1.out.rd _) rfl HC1.out HO1.out
set_option maxRecDepth 100000 in
set_option maxHeartbeats 1000000 in
theorem rs1_any (c n : Nat) (b : BitVec 64) (i : Ins) (o : Bool) (w : World) (hcn : n ≠ c) (hc : CarAt c b o w) (hi : InsAt i n w) :
    Calls Tryz.prog 52 #[.pointer (some ⟨c, 0, none⟩), .pointer (some ⟨n, 0, none⟩)] w fun e w' => FieldOk c n b i 1 o w e w' := by
  obtain ⟨hz, c0, c1, c2, c3, c4, c5, c6, c7, c8⟩ := hi.facts
  have HC := Lib.hid hc
  have HI := Lib.hid hi
  have HCN := Lib.hid hcn
  clear hc hi hcn
  go_enter Tryz.func52, Tryz.ntmps52
  go_wp2_with (go_at_call 84; (with_reducible refine (register_any c 15 15 b _ o _ cast15 (by omega) HC.out).mono ?_); rintro e w1 ⟨rfl, hC, hO⟩; have HC1 := Lib.hid hC; have HO1 := Lib.hid hO; have HI1 := Lib.hid (HI.out.oth hO HCN.out); clear hC hO hz c0 c1 c2 c3 c4 c5 c6 c7 c8; obtain ⟨hz, c0, c1, c2, c3, c4, c5, c6, c7, c8⟩ := HI1.out.facts; have hf := loose_of HI1.out 2)
  go_end0
  exact field_end HCN.out rfl (HI1.out.rs1 _) rfl HC1.out HO1.out
set_option maxRecDepth 100000 in
set_option maxHeartbeats 1000000 in
theorem rs2_any (c n : Nat) (b : BitVec 64) (i : Ins) (o : Bool) (w : World) (hcn : n ≠ c) (hc : CarAt c b o w) (hi : InsAt i n w) :
    Calls Tryz.prog 54 #[.pointer (some ⟨c, 0, none⟩), .pointer (some ⟨n, 0, none⟩)] w fun e w' => FieldOk c n b i 2 o w e w' := by
  obtain ⟨hz, c0, c1, c2, c3, c4, c5, c6, c7, c8⟩ := hi.facts
  have HC := Lib.hid hc
  have HI := Lib.hid hi
  have HCN := Lib.hid hcn
  clear hc hi hcn
  go_enter Tryz.func54, Tryz.ntmps54
  go_wp2_with (go_at_call 84; (with_reducible refine (register_any c 20 20 b _ o _ cast20 (by omega) HC.out).mono ?_); rintro e w1 ⟨rfl, hC, hO⟩; have HC1 := Lib.hid hC; have HO1 := Lib.hid hO; have HI1 := Lib.hid (HI.out.oth hO HCN.out); clear hC hO hz c0 c1 c2 c3 c4 c5 c6 c7 c8; obtain ⟨hz, c0, c1, c2, c3, c4, c5, c6, c7, c8⟩ := HI1.out.facts; have hf := loose_of HI1.out 3)
  go_end0
  exact field_end HCN.out rfl (HI1.out.rs2 _) rfl HC1.out HO1.out
set_option maxRecDepth 100000 in
set_option maxHeartbeats 1000000 in
theorem pred_any (c n : Nat) (b : BitVec 64) (i : Ins) (o : Bool) (w : World) (hcn : n ≠ c) (hc : CarAt c b o w) (hi : InsAt i n w) :
    Calls Tryz.prog 58 #[.pointer (some ⟨c, 0, none⟩), .pointer (some ⟨n, 0, none⟩)] w fun e w' => FieldOk c n b i 9 o w e w' := by
  obtain ⟨hz, c0, c1, c2, c3, c4, c5, c6, c7, c8⟩ := hi.facts
  have HC := Lib.hid hc
  have HI := Lib.hid hi
  have HCN := Lib.hid hcn
  clear hc hi hcn
  go_enter Tryz.func58, Tryz.ntmps58
  go_wp2_with (go_at_call 87; (with_reducible refine (between_any c 24 24 b _ o _ cast24 (by omega) HC.out).mono ?_); rintro e w1 ⟨rfl, hC, hO⟩; have HC1 := Lib.hid hC; have HO1 := Lib.hid hO; have HI1 := Lib.hid (HI.out.oth hO HCN.out); clear hC hO hz c0 c1 c2 c3 c4 c5 c6 c7 c8; obtain ⟨hz, c0, c1, c2, c3, c4, c5, c6, c7, c8⟩ := HI1.out.facts; have hf := loose_of HI1.out 7)
  go_end0
  exact field_end HCN.out rfl (HI1.out.pred _) rfl HC1.out HO1.out
set_option maxRecDepth 100000 in
set_option maxHeartbeats 1000000 in
theorem succ_any (c n : Nat) (b : BitVec 64) (i : Ins) (o : Bool) (w : World) (hcn : n ≠ c) (hc : CarAt c b o w) (hi : InsAt i n w) :
    Calls Tryz.prog 59 #[.pointer (some ⟨c, 0, none⟩), .pointer (some ⟨n, 0, none⟩)] w fun e w' => FieldOk c n b i 10 o w e w' := by
  obtain ⟨hz, c0, c1, c2, c3, c4, c5, c6, c7, c8⟩ := hi.facts
  have HC := Lib.hid hc
  have HI := Lib.hid hi
  have HCN := Lib.hid hcn
  clear hc hi hcn
  go_enter Tryz.func59, Tryz.ntmps59
  go_wp2_with (go_at_call 87; (with_reducible refine (between_any c 20 20 b _ o _ cast20 (by omega) HC.out).mono ?_); rintro e w1 ⟨rfl, hC, hO⟩; have HC1 := Lib.hid hC; have HO1 := Lib.hid hO; have HI1 := Lib.hid (HI.out.oth hO HCN.out); clear hC hO hz c0 c1 c2 c3 c4 c5 c6 c7 c8; obtain ⟨hz, c0, c1, c2, c3, c4, c5, c6, c7, c8⟩ := HI1.out.facts; have hf := loose_of HI1.out 8)
  go_end0
  exact field_end HCN.out rfl (HI1.out.succ _) rfl HC1.out HO1.out
set_option maxRecDepth 100000 in
set_option maxHeartbeats 1000000 in
theorem aq_any (c n : Nat) (b : BitVec 64) (i : Ins) (o : Bool) (w : World) (hcn : n ≠ c) (hc : CarAt c b o w) (hi : InsAt i n w) :
    Calls Tryz.prog 60 #[.pointer (some ⟨c, 0, none⟩), .pointer (some ⟨n, 0, none⟩)] w fun e w' => FieldOk c n b i 11 o w e w' := by
  obtain ⟨hz, c0, c1, c2, c3, c4, c5, c6, c7, c8⟩ := hi.facts
  have HC := Lib.hid hc
  have HI := Lib.hid hi
  have HCN := Lib.hid hcn
  clear hc hi hcn
  go_enter Tryz.func60, Tryz.ntmps60
  go_wp2_with (go_at_call 88; (with_reducible refine (mark_any c 26 26 b _ o _ cast26 (by omega) HC.out).mono ?_); rintro e w1 ⟨rfl, hC, hO⟩; have HC1 := Lib.hid hC; have HO1 := Lib.hid hO; have HI1 := Lib.hid (HI.out.oth hO HCN.out); clear hC hO hz c0 c1 c2 c3 c4 c5 c6 c7 c8; obtain ⟨hz, c0, c1, c2, c3, c4, c5, c6, c7, c8⟩ := HI1.out.facts; have hf := loose_of HI1.out 5)
  go_end0
  exact field_end HCN.out rfl (HI1.out.aq _) rfl HC1.out HO1.out
set_option maxRecDepth 100000 in
set_option maxHeartbeats 1000000 in
theorem rl_any (c n : Nat) (b : BitVec 64) (i : Ins) (o : Bool) (w : World) (hcn : n ≠ c) (hc : CarAt c b o w) (hi : InsAt i n w) :
    Calls Tryz.prog 61 #[.pointer (some ⟨c, 0, none⟩), .pointer (some ⟨n, 0, none⟩)] w fun e w' => FieldOk c n b i 12 o w e w' := by
  obtain ⟨hz, c0, c1, c2, c3, c4, c5, c6, c7, c8⟩ := hi.facts
  have HC := Lib.hid hc
  have HI := Lib.hid hi
  have HCN := Lib.hid hcn
  clear hc hi hcn
  go_enter Tryz.func61, Tryz.ntmps61
  go_wp2_with (go_at_call 88; (with_reducible refine (mark_any c 25 25 b _ o _ cast25 (by omega) HC.out).mono ?_); rintro e w1 ⟨rfl, hC, hO⟩; have HC1 := Lib.hid hC; have HO1 := Lib.hid hO; have HI1 := Lib.hid (HI.out.oth hO HCN.out); clear hC hO hz c0 c1 c2 c3 c4 c5 c6 c7 c8; obtain ⟨hz, c0, c1, c2, c3, c4, c5, c6, c7, c8⟩ := HI1.out.facts; have hf := loose_of HI1.out 6)
  go_end0
  exact field_end HCN.out rfl (HI1.out.rl _) rfl HC1.out HO1.out
set_option maxRecDepth 100000 in
set_option maxHeartbeats 1000000 in
theorem immI_any (c n : Nat) (b : BitVec 64) (i : Ins) (o : Bool) (w : World) (hcn : n ≠ c) (hc : CarAt c b o w) (hi : InsAt i n w) :
    Calls Tryz.prog 53 #[.pointer (some ⟨c, 0, none⟩), .pointer (some ⟨n, 0, none⟩)] w fun e w' => FieldOk c n b i 3 o w e w' := by
  obtain ⟨hz, c0, c1, c2, c3, c4, c5, c6, c7, c8⟩ := hi.facts
  have hzc := hc.facts.1
  have HS : Hid (SpansAt w.heap.size [(20, 12, 0)] (w.alloc (.cells #[.int .i64 20, .int .i64 12, .int .i64 0] 131))) := Lib.hid (spans_new [(20, 12, 0)] w 131)
  have HB := Lib.hid ((Below.refl w.heap.size w).alloc (Nat.le_refl _) (.cells #[.int .i64 20, .int .i64 12, .int .i64 0] 131))
  have HW : Hid (Within [(20, 12, 0)]) := Lib.hid ⟨by decide, by decide⟩
  have HLN : Hid (1 = List.length ([(20, 12, 0)] : List Sp)) := Lib.hid rfl
  have HC := Lib.hid (hc.below HB.out hzc)
  have HI := Lib.hid (hi.below HB.out hz)
  have HCN := Lib.hid hcn
  have hd0 : w.heap.size ≠ c := by omega
  have HD := Lib.hid hd0
  clear hc hi hcn hd0
  go_enter Tryz.func53, Tryz.ntmps53
  go_wp2_with (go_at_call 85; (with_reducible refine (signed_any c _ _ _ 12 12 b _ o [(20, 12, 0)] _ cast12 (by omega) HLN.out HW.out HC.out HS.out HD.out).mono ?_); rintro e w1 ⟨rfl, hC, hO⟩; have HC1 := Lib.hid hC; have HO1 := Lib.hid ((Oth.of HB.out).trans hO); have HI1 := Lib.hid (HI.out.oth hO HCN.out); clear hC hO hz c0 c1 c2 c3 c4 c5 c6 c7 c8; obtain ⟨hz, c0, c1, c2, c3, c4, c5, c6, c7, c8⟩ := HI1.out.facts; have hf := loose_of HI1.out 4)
  go_end0
  exact field_end HCN.out rfl (HI1.out.imm _) rfl HC1.out HO1.out
set_option maxRecDepth 100000 in
set_option maxHeartbeats 1000000 in
theorem immStore_any (c n : Nat) (b : BitVec 64) (i : Ins) (o : Bool) (w : World) (hcn : n ≠ c) (hc : CarAt c b o w) (hi : InsAt i n w) :
    Calls Tryz.prog 55 #[.pointer (some ⟨c, 0, none⟩), .pointer (some ⟨n, 0, none⟩)] w fun e w' => FieldOk c n b i 4 o w e w' := by
  obtain ⟨hz, c0, c1, c2, c3, c4, c5, c6, c7, c8⟩ := hi.facts
  have hzc := hc.facts.1
  have HS : Hid (SpansAt w.heap.size [(25, 7, 5), (7, 5, 0)] (w.alloc (.cells #[.int .i64 25, .int .i64 7, .int .i64 5, .int .i64 7, .int .i64 5, .int .i64 0] 131))) := Lib.hid (spans_new [(25, 7, 5), (7, 5, 0)] w 131)
  have HB := Lib.hid ((Below.refl w.heap.size w).alloc (Nat.le_refl _) (.cells #[.int .i64 25, .int .i64 7, .int .i64 5, .int .i64 7, .int .i64 5, .int .i64 0] 131))
  have HW : Hid (Within [(25, 7, 5), (7, 5, 0)]) := Lib.hid ⟨by decide, by decide⟩
  have HLN : Hid (2 = List.length ([(25, 7, 5), (7, 5, 0)] : List Sp)) := Lib.hid rfl
  have HC := Lib.hid (hc.below HB.out hzc)
  have HI := Lib.hid (hi.below HB.out hz)
  have HCN := Lib.hid hcn
  have hd0 : w.heap.size ≠ c := by omega
  have HD := Lib.hid hd0
  clear hc hi hcn hd0
  go_enter Tryz.func55, Tryz.ntmps55
  go_wp2_with (go_at_call 85; (with_reducible refine (signed_any c _ _ _ 12 12 b _ o [(25, 7, 5), (7, 5, 0)] _ cast12 (by omega) HLN.out HW.out HC.out HS.out HD.out).mono ?_); rintro e w1 ⟨rfl, hC, hO⟩; have HC1 := Lib.hid hC; have HO1 := Lib.hid ((Oth.of HB.out).trans hO); have HI1 := Lib.hid (HI.out.oth hO HCN.out); clear hC hO hz c0 c1 c2 c3 c4 c5 c6 c7 c8; obtain ⟨hz, c0, c1, c2, c3, c4, c5, c6, c7, c8⟩ := HI1.out.facts; have hf := loose_of HI1.out 4)
  go_end0
  exact field_end HCN.out rfl (HI1.out.imm _) rfl HC1.out HO1.out
set_option maxRecDepth 100000 in
set_option maxHeartbeats 1000000 in
theorem immU_any (c n : Nat) (b : BitVec 64) (i : Ins) (o : Bool) (w : World) (hcn : n ≠ c) (hc : CarAt c b o w) (hi : InsAt i n w) :
    Calls Tryz.prog 50 #[.pointer (some ⟨c, 0, none⟩), .pointer (some ⟨n, 0, none⟩)] w fun e w' => FieldOk c n b i 5 o w e w' := by
  obtain ⟨hz, c0, c1, c2, c3, c4, c5, c6, c7, c8⟩ := hi.facts
  have hzc := hc.facts.1
  have HS : Hid (SpansAt w.heap.size [(12, 20, 0)] (w.alloc (.cells #[.int .i64 12, .int .i64 20, .int .i64 0] 131))) := Lib.hid (spans_new [(12, 20, 0)] w 131)
  have HB := Lib.hid ((Below.refl w.heap.size w).alloc (Nat.le_refl _) (.cells #[.int .i64 12, .int .i64 20, .int .i64 0] 131))
  have HW : Hid (Within [(12, 20, 0)]) := Lib.hid ⟨by decide, by decide⟩
  have HLN : Hid (1 = List.length ([(12, 20, 0)] : List Sp)) := Lib.hid rfl
  have HC := Lib.hid (hc.below HB.out hzc)
  have HI := Lib.hid (hi.below HB.out hz)
  have HCN := Lib.hid hcn
  have hd0 : w.heap.size ≠ c := by omega
  have HD := Lib.hid hd0
  clear hc hi hcn hd0
  go_enter Tryz.func50, Tryz.ntmps50
  go_wp2_with (go_at_call 85; (with_reducible refine (signed_any c _ _ _ 20 20 b _ o [(12, 20, 0)] _ cast20 (by omega) HLN.out HW.out HC.out HS.out HD.out).mono ?_); rintro e w1 ⟨rfl, hC, hO⟩; have HC1 := Lib.hid hC; have HO1 := Lib.hid ((Oth.of HB.out).trans hO); have HI1 := Lib.hid (HI.out.oth hO HCN.out); clear hC hO hz c0 c1 c2 c3 c4 c5 c6 c7 c8; obtain ⟨hz, c0, c1, c2, c3, c4, c5, c6, c7, c8⟩ := HI1.out.facts; have hf := loose_of HI1.out 4)
  go_end0
  exact field_end HCN.out rfl (HI1.out.imm _) rfl HC1.out HO1.out
set_option maxRecDepth 100000 in
set_option maxHeartbeats 1000000 in
theorem immB_any (c n : Nat) (b : BitVec 64) (i : Ins) (o : Bool) (w : World) (hcn : n ≠ c) (hc : CarAt c b o w) (hi : InsAt i n w) :
    Calls Tryz.prog 56 #[.pointer (some ⟨c, 0, none⟩), .pointer (some ⟨n, 0, none⟩)] w fun e w' => FieldOk c n b i 6 o w e w' := by
  obtain ⟨hz, c0, c1, c2, c3, c4, c5, c6, c7, c8⟩ := hi.facts
  have hzc := hc.facts.1
  have HS : Hid (SpansAt w.heap.size [(31, 1, 12), (25, 6, 5), (8, 4, 1), (7, 1, 11)] (w.alloc (.cells #[.int .i64 31, .int .i64 1, .int .i64 12, .int .i64 25, .int .i64 6, .int .i64 5, .int .i64 8, .int .i64 4, .int .i64 1, .int .i64 7, .int .i64 1, .int .i64 11] 131))) := Lib.hid (spans_new [(31, 1, 12), (25, 6, 5), (8, 4, 1), (7, 1, 11)] w 131)
  have HB := Lib.hid ((Below.refl w.heap.size w).alloc (Nat.le_refl _) (.cells #[.int .i64 31, .int .i64 1, .int .i64 12, .int .i64 25, .int .i64 6, .int .i64 5, .int .i64 8, .int .i64 4, .int .i64 1, .int .i64 7, .int .i64 1, .int .i64 11] 131))
  have HW : Hid (Within [(31, 1, 12), (25, 6, 5), (8, 4, 1), (7, 1, 11)]) := Lib.hid ⟨by decide, by decide⟩
  have HLN : Hid (4 = List.length ([(31, 1, 12), (25, 6, 5), (8, 4, 1), (7, 1, 11)] : List Sp)) := Lib.hid rfl
  have HC := Lib.hid (hc.below HB.out hzc)
  have HI := Lib.hid (hi.below HB.out hz)
  have HCN := Lib.hid hcn
  have hd0 : w.heap.size ≠ c := by omega
  have HD := Lib.hid hd0
  clear hc hi hcn hd0
  go_enter Tryz.func56, Tryz.ntmps56
  go_wp2_with (go_at_call 85; (with_reducible refine (signed_any c _ _ _ 13 13 b _ o [(31, 1, 12), (25, 6, 5), (8, 4, 1), (7, 1, 11)] _ cast13 (by omega) HLN.out HW.out HC.out HS.out HD.out).mono ?_); rintro e w1 ⟨rfl, hC, hO⟩; have HC1 := Lib.hid hC; have HO1 := Lib.hid ((Oth.of HB.out).trans hO); have HI1 := Lib.hid (HI.out.oth hO HCN.out); clear hC hO hz c0 c1 c2 c3 c4 c5 c6 c7 c8; obtain ⟨hz, c0, c1, c2, c3, c4, c5, c6, c7, c8⟩ := HI1.out.facts; have hf := loose_of HI1.out 4)
  go_end0
  exact field_end HCN.out rfl (HI1.out.imm _) rfl HC1.out HO1.out
set_option maxRecDepth 100000 in
set_option maxHeartbeats 1000000 in
theorem immJ_any (c n : Nat) (b : BitVec 64) (i : Ins) (o : Bool) (w : World) (hcn : n ≠ c) (hc : CarAt c b o w) (hi : InsAt i n w) :
    Calls Tryz.prog 51 #[.pointer (some ⟨c, 0, none⟩), .pointer (some ⟨n, 0, none⟩)] w fun e w' => FieldOk c n b i 7 o w e w' := by
  obtain ⟨hz, c0, c1, c2, c3, c4, c5, c6, c7, c8⟩ := hi.facts
  have hzc := hc.facts.1
  have HS : Hid (SpansAt w.heap.size [(31, 1, 20), (21, 10, 1), (20, 1, 11), (12, 8, 12)] (w.alloc (.cells #[.int .i64 31, .int .i64 1, .int .i64 20, .int .i64 21, .int .i64 10, .int .i64 1, .int .i64 20, .int .i64 1, .int .i64 11, .int .i64 12, .int .i64 8, .int .i64 12] 131))) := Lib.hid (spans_new [(31, 1, 20), (21, 10, 1), (20, 1, 11), (12, 8, 12)] w 131)
  have HB := Lib.hid ((Below.refl w.heap.size w).alloc (Nat.le_refl _) (.cells #[.int .i64 31, .int .i64 1, .int .i64 20, .int .i64 21, .int .i64 10, .int .i64 1, .int .i64 20, .int .i64 1, .int .i64 11, .int .i64 12, .int .i64 8, .int .i64 12] 131))
  have HW : Hid (Within [(31, 1, 20), (21, 10, 1), (20, 1, 11), (12, 8, 12)]) := Lib.hid ⟨by decide, by decide⟩
  have HLN : Hid (4 = List.length ([(31, 1, 20), (21, 10, 1), (20, 1, 11), (12, 8, 12)] : List Sp)) := Lib.hid rfl
  have HC := Lib.hid (hc.below HB.out hzc)
  have HI := Lib.hid (hi.below HB.out hz)
  have HCN := Lib.hid hcn
  have hd0 : w.heap.size ≠ c := by omega
  have HD := Lib.hid hd0
  clear hc hi hcn hd0
  go_enter Tryz.func51, Tryz.ntmps51
  go_wp2_with (go_at_call 85; (with_reducible refine (signed_any c _ _ _ 21 21 b _ o [(31, 1, 20), (21, 10, 1), (20, 1, 11), (12, 8, 12)] _ cast21 (by omega) HLN.out HW.out HC.out HS.out HD.out).mono ?_); rintro e w1 ⟨rfl, hC, hO⟩; have HC1 := Lib.hid hC; have HO1 := Lib.hid ((Oth.of HB.out).trans hO); have HI1 := Lib.hid (HI.out.oth hO HCN.out); clear hC hO hz c0 c1 c2 c3 c4 c5 c6 c7 c8; obtain ⟨hz, c0, c1, c2, c3, c4, c5, c6, c7, c8⟩ := HI1.out.facts; have hf := loose_of HI1.out 4)
  go_end0
  exact field_end HCN.out rfl (HI1.out.imm _) rfl HC1.out HO1.out
set_option maxRecDepth 100000 in
set_option maxHeartbeats 1000000 in
theorem immShift_any (c n : Nat) (b : BitVec 64) (i : Ins) (o : Bool) (w : World) (hcn : n ≠ c) (hc : CarAt c b o w) (hi : InsAt i n w) :
    Calls Tryz.prog 57 #[.pointer (some ⟨c, 0, none⟩), .pointer (some ⟨n, 0, none⟩)] w fun e w' => FieldOk c n b i 8 o w e w' := by
  obtain ⟨hz, c0, c1, c2, c3, c4, c5, c6, c7, c8⟩ := hi.facts
  have hzc := hc.facts.1
  have HS : Hid (SpansAt w.heap.size [(20, 6, 0)] (w.alloc (.cells #[.int .i64 20, .int .i64 6, .int .i64 0] 131))) := Lib.hid (spans_new [(20, 6, 0)] w 131)
  have HB := Lib.hid ((Below.refl w.heap.size w).alloc (Nat.le_refl _) (.cells #[.int .i64 20, .int .i64 6, .int .i64 0] 131))
  have HW : Hid (Within [(20, 6, 0)]) := Lib.hid ⟨by decide, by decide⟩
  have HLN : Hid (1 = List.length ([(20, 6, 0)] : List Sp)) := Lib.hid rfl
  have HC := Lib.hid (hc.below HB.out hzc)
  have HI := Lib.hid (hi.below HB.out hz)
  have HCN := Lib.hid hcn
  have hd0 : w.heap.size ≠ c := by omega
  have HD := Lib.hid hd0
  clear hc hi hcn hd0
  have hx : IntKind.u64.wrap i.imm = U (B i.imm) := wrapU _
  go_enter Tryz.func57, Tryz.ntmps57
  go_wp2_with (go_at_call 86; (with_reducible refine (number_any _ _ _ _ _ _ _ _ _ HLN.out HW.out HC.out HS.out HD.out).mono ?_); rintro e w1 ⟨rfl, hC, hO⟩; have HC1 := Lib.hid hC; have HO1 := Lib.hid ((Oth.of HB.out).trans hO); have HI1 := Lib.hid (HI.out.oth hO HCN.out); clear hC hO hz c0 c1 c2 c3 c4 c5 c6 c7 c8; obtain ⟨hz, c0, c1, c2, c3, c4, c5, c6, c7, c8⟩ := HI1.out.facts; have hf := loose_of HI1.out 4)
  go_end0
  exact field_end HCN.out rfl (HI1.out.imm _) (by simp only [setK]; rw [wrapS_U]; rfl) HC1.out HO1.out
end Go.Proofs.YtbchecnidiiddaaGreatDoor
