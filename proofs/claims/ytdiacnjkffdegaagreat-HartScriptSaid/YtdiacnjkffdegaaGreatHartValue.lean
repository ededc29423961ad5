/-
  Proved here: what the package hart's value, takes, landed, next come to. Condition: the registers are 0 to 31.
-/
import Derived.Test.YtdiacnjkffdegaaGreatHartAsk
namespace Go.Proofs.YtdiacnjkffdegaaGreat
open Go.RowKit
def doB (op : Int) (a b : BitVec 64) : BitVec 64 := BitVec.ofInt 64 (doX op a b)
theorem doX_U (op : Int) (a b : BitVec 64) : doX op a b = U (doB op a b) := by
  have e : ∃ c : BitVec 64, doX op a b = U c := by
    rcases do_at op a b with ⟨_, h, _⟩ | ⟨k, _, _, _, _, h, _⟩ | ⟨_, _, h, _⟩
    · exact ⟨_, h⟩
    · exact ⟨_, h⟩
    · exact ⟨0, h.trans (by decide +kernel)⟩
  obtain ⟨c, hc⟩ := e
  unfold doB
  rw [hc, ofInt_U]
set_option maxRecDepth 100000 in
theorem reckon_any (op : Int) (a b : BitVec 64) (w : World) : Calls Tryz.prog 51 #[.int .i64 op, .int .u64 (U a), .int .u64 (U b)] w fun e w' => e = .returned (.int .u64 (U (doB op a b))) ∧ Below w.heap.size w w' := by
  have HD := Lib.hid (fun w => (show Calls Tryz.prog 70 #[.int .i64 op, .int .u64 (U a), .int .u64 (U b)] w fun e w' => e = .returned (.tuple #[.int .u64 (U (doB op a b)), .int .i64 (doE op)]) ∧ Below w.heap.size w w' from doX_U op a b ▸ pDo_any op a b w))
  go_enter Tryz.func51, Tryz.ntmps51
  go_wp2_with (first | (go_at_call 70; (with_reducible refine (HD.out _).mono ?_); rintro e w1 ⟨rfl, hb⟩; have HB := Lib.hid hb; clear hb))
  go_ret
  exact ⟨rfl, HB.out⟩
theorem lost_any (b : Bool) (w : World) : Calls Tryz.prog 52 #[.bool b] w fun e w' => e = .returned (.int .u64 (U (if b then 0 else 1))) ∧ w = w' := by
  cases b
  all_goals
    go_enter Tryz.func52, Tryz.ntmps52
    go_wp2
    go_ret
    exact ⟨congrArg (fun n => Ending.returned (.int .u64 n)) (by decide +kernel), rfl⟩
def valH (h : Ha) (op : Int) (a b : Nat) (v found : BitVec 64) (won : Bool) : BitVec 64 :=
  if op = 3 ∨ op = 4 then h.pc + 4 else if op = 2 then h.pc + doB 1 0 v else if op = 69 then (if won then 0 else 1) else
  if formOf op = 4 ∨ formOf op = 11 ∨ formOf op = 12 then found else if formOf op = 1 ∨ formOf op = 3 ∨ formOf op = 7 then doB op (h.x a) v else if formOf op = 8 then doB op (h.x a) (h.x b) else 0
theorem four_U : (4 : Int) = U 4 := by decide +kernel
set_option maxHeartbeats 2000000 in
set_option maxRecDepth 100000 in
theorem value_3 (op : Int) (d a b : Nat) (ha : a < 32) (hb' : b < 32) (v : BitVec 64) (aq rl : Bool) (p q : Int) (found : BitVec 64) (won : Bool) (n : Nat) (h : Ha) (w : World) (H : HAt 48 h n w) (ho : op = 3) :
    Calls Tryz.prog 29 #[.pointer (some ⟨n, 0, none⟩), insV op d a b (S v) aq rl p q, .int .u64 (U found), .bool won] w fun e w' => e = .returned (.int .u64 (U (h.pc + 4))) ∧ Below w.heap.size w w' := by
  have hn := H.lt
  have hp := H.c0
  have ca := H.cx a ha
  have cb := H.cx b hb'
  have t1 := wrapU_S v
  have t2 : IntKind.u64.wrap (U h.pc + 4) = U (h.pc + 4) := by rw [four_U]; exact add_U _ _
  have t3 := add_U h.pc (doB 1 0 v)
  have ia := index_x n a ha
  have ib := index_x n b hb'
  have HN := Lib.hid (And.intro H hn)
  have HB0 := Lib.hid (Below.refl w.heap.size w)
  subst ho
  go_enter Tryz.func29, Tryz.ntmps29
  go_wp2_with fail
  go_ret
  exact ⟨rfl, by (repeat first | with_reducible exact HB0.out | with_reducible refine Below.drew ?_ | with_reducible refine Below.alloc ?_ (by first | omega | (simp; omega) | simp) _ | with_reducible refine Below.setCell ?_ (by first | omega | (simp; omega) | simp) _)⟩
set_option maxHeartbeats 2000000 in
set_option maxRecDepth 100000 in
theorem value_4 (op : Int) (d a b : Nat) (ha : a < 32) (hb' : b < 32) (v : BitVec 64) (aq rl : Bool) (p q : Int) (found : BitVec 64) (won : Bool) (n : Nat) (h : Ha) (w : World) (H : HAt 48 h n w) (ho : op = 4) :
    Calls Tryz.prog 29 #[.pointer (some ⟨n, 0, none⟩), insV op d a b (S v) aq rl p q, .int .u64 (U found), .bool won] w fun e w' => e = .returned (.int .u64 (U (h.pc + 4))) ∧ Below w.heap.size w w' := by
  have hn := H.lt
  have hp := H.c0
  have ca := H.cx a ha
  have cb := H.cx b hb'
  have t1 := wrapU_S v
  have t2 : IntKind.u64.wrap (U h.pc + 4) = U (h.pc + 4) := by rw [four_U]; exact add_U _ _
  have t3 := add_U h.pc (doB 1 0 v)
  have ia := index_x n a ha
  have ib := index_x n b hb'
  have HN := Lib.hid (And.intro H hn)
  have HB0 := Lib.hid (Below.refl w.heap.size w)
  subst ho
  go_enter Tryz.func29, Tryz.ntmps29
  go_wp2_with fail
  go_ret
  exact ⟨rfl, by (repeat first | with_reducible exact HB0.out | with_reducible refine Below.drew ?_ | with_reducible refine Below.alloc ?_ (by first | omega | (simp; omega) | simp) _ | with_reducible refine Below.setCell ?_ (by first | omega | (simp; omega) | simp) _)⟩
set_option maxHeartbeats 2000000 in
set_option maxRecDepth 100000 in
theorem value_2 (op : Int) (d a b : Nat) (ha : a < 32) (hb' : b < 32) (v : BitVec 64) (aq rl : Bool) (p q : Int) (found : BitVec 64) (won : Bool) (n : Nat) (h : Ha) (w : World) (H : HAt 48 h n w) (ho : op = 2) :
    Calls Tryz.prog 29 #[.pointer (some ⟨n, 0, none⟩), insV op d a b (S v) aq rl p q, .int .u64 (U found), .bool won] w fun e w' => e = .returned (.int .u64 (U (h.pc + doB 1 0 v))) ∧ Below w.heap.size w w' := by
  have hn := H.lt
  have hp := H.c0
  have ca := H.cx a ha
  have cb := H.cx b hb'
  have t1 := wrapU_S v
  have t2 : IntKind.u64.wrap (U h.pc + 4) = U (h.pc + 4) := by rw [four_U]; exact add_U _ _
  have t3 := add_U h.pc (doB 1 0 v)
  have ia := index_x n a ha
  have ib := index_x n b hb'
  have HN := Lib.hid (And.intro H hn)
  have HB0 := Lib.hid (Below.refl w.heap.size w)
  have HR := Lib.hid (fun w => (show Calls Tryz.prog 51 #[.int .i64 1, .int .u64 0, .int .u64 (U v)] w fun e w' => e = .returned (.int .u64 (U (doB 1 0 v))) ∧ Below w.heap.size w w' from reckon_any 1 0 v w))
  subst ho
  go_enter Tryz.func29, Tryz.ntmps29
  go_wp2_with fail
  go_region_held3 (fun w' => w'.cell? ⟨n, 0, none⟩ = some (.int .u64 (U h.pc))) (first | go_keep | exact hkeep) ((go_at_call 51; (with_reducible refine (HR.out _).mono ?_); rintro e w2 ⟨rfl, hb⟩; obtain ⟨hc2, hf2⟩ := bcell hb; have hkeep : w2.cell? ⟨n, 0, none⟩ = some (.int .u64 (U h.pc)) := (by rw [hc2 _ _ (by simp; omega)]; go_simp); have HB := Lib.hid hb; clear hb))
  all_goals
    go_wp2_with fail
    go_ret
    refine ⟨rfl, ?_⟩
    have hz := HB.out.size
    simp at hz
    exact ((((Below.refl w.heap.size w).alloc (Nat.le_refl _) _).drew).trans (HB.out.mono (by simp)))
set_option maxHeartbeats 2000000 in
set_option maxRecDepth 100000 in
theorem value_69 (op : Int) (d a b : Nat) (ha : a < 32) (hb' : b < 32) (v : BitVec 64) (aq rl : Bool) (p q : Int) (found : BitVec 64) (won : Bool) (n : Nat) (h : Ha) (w : World) (H : HAt 48 h n w) (ho : op = 69) :
    Calls Tryz.prog 29 #[.pointer (some ⟨n, 0, none⟩), insV op d a b (S v) aq rl p q, .int .u64 (U found), .bool won] w fun e w' => e = .returned (.int .u64 (U (if won then 0 else 1))) ∧ Below w.heap.size w w' := by
  have hn := H.lt
  have hp := H.c0
  have ca := H.cx a ha
  have cb := H.cx b hb'
  have t1 := wrapU_S v
  have t2 : IntKind.u64.wrap (U h.pc + 4) = U (h.pc + 4) := by rw [four_U]; exact add_U _ _
  have t3 := add_U h.pc (doB 1 0 v)
  have ia := index_x n a ha
  have ib := index_x n b hb'
  have HN := Lib.hid (And.intro H hn)
  have HB0 := Lib.hid (Below.refl w.heap.size w)
  have HL := Lib.hid (lost_any won)
  subst ho
  go_enter Tryz.func29, Tryz.ntmps29
  go_wp2_with (first | (go_at_call 52; (with_reducible refine (HL.out _).mono ?_); rintro e w2 ⟨rfl, rfl⟩))
  all_goals
    go_ret
    exact ⟨rfl, by (repeat first | with_reducible exact HB0.out | with_reducible refine Below.drew ?_ | with_reducible refine Below.alloc ?_ (by first | omega | (simp; omega) | simp) _ | with_reducible refine Below.setCell ?_ (by first | omega | (simp; omega) | simp) _)⟩
set_option maxHeartbeats 2000000 in
set_option maxRecDepth 100000 in
theorem value_f4 (op : Int) (d a b : Nat) (ha : a < 32) (hb' : b < 32) (v : BitVec 64) (aq rl : Bool) (p q : Int) (found : BitVec 64) (won : Bool) (n : Nat) (h : Ha) (w : World) (H : HAt 48 h n w) (n1 : (op == 3) = false) (n2 : (op == 4) = false) (n3 : (op == 2) = false) (n4 : (op == 69) = false) (hf : Hid (formOf op = 4)) :
    Calls Tryz.prog 29 #[.pointer (some ⟨n, 0, none⟩), insV op d a b (S v) aq rl p q, .int .u64 (U found), .bool won] w fun e w' => e = .returned (.int .u64 (U (found))) ∧ Below w.heap.size w w' := by
  have hn := H.lt
  have hp := H.c0
  have ca := H.cx a ha
  have cb := H.cx b hb'
  have t1 := wrapU_S v
  have t2 : IntKind.u64.wrap (U h.pc + 4) = U (h.pc + 4) := by rw [four_U]; exact add_U _ _
  have t3 := add_U h.pc (doB 1 0 v)
  have ia := index_x n a ha
  have ib := index_x n b hb'
  have HN := Lib.hid (And.intro H hn)
  have HB0 := Lib.hid (Below.refl w.heap.size w)
  go_enter Tryz.func29, Tryz.ntmps29
  go_wp2_with (first | (go_at_call 41; (with_reducible refine (Form_is op _ hf _).mono ?_); rintro e w1 ⟨rfl, hb⟩; obtain ⟨hc1, hf1⟩ := bcell hb; have hz1 : w.heap.size < w1.heap.size := (by have := hb.size; simp at this; omega); have hn1 : n < w1.heap.size := (by have := HN.out.2; omega); have HB := Lib.hid hb; clear hb))
  go_ret
  exact ⟨rfl, ((Below.refl w.heap.size w).alloc (Nat.le_refl _) _).trans (HB.out.mono (by simp))⟩
set_option maxHeartbeats 2000000 in
set_option maxRecDepth 100000 in
theorem value_f11 (op : Int) (d a b : Nat) (ha : a < 32) (hb' : b < 32) (v : BitVec 64) (aq rl : Bool) (p q : Int) (found : BitVec 64) (won : Bool) (n : Nat) (h : Ha) (w : World) (H : HAt 48 h n w) (n1 : (op == 3) = false) (n2 : (op == 4) = false) (n3 : (op == 2) = false) (n4 : (op == 69) = false) (hf : Hid (formOf op = 11)) :
    Calls Tryz.prog 29 #[.pointer (some ⟨n, 0, none⟩), insV op d a b (S v) aq rl p q, .int .u64 (U found), .bool won] w fun e w' => e = .returned (.int .u64 (U (found))) ∧ Below w.heap.size w w' := by
  have hn := H.lt
  have hp := H.c0
  have ca := H.cx a ha
  have cb := H.cx b hb'
  have t1 := wrapU_S v
  have t2 : IntKind.u64.wrap (U h.pc + 4) = U (h.pc + 4) := by rw [four_U]; exact add_U _ _
  have t3 := add_U h.pc (doB 1 0 v)
  have ia := index_x n a ha
  have ib := index_x n b hb'
  have HN := Lib.hid (And.intro H hn)
  have HB0 := Lib.hid (Below.refl w.heap.size w)
  go_enter Tryz.func29, Tryz.ntmps29
  go_wp2_with (first | (go_at_call 41; (with_reducible refine (Form_is op _ hf _).mono ?_); rintro e w1 ⟨rfl, hb⟩; obtain ⟨hc1, hf1⟩ := bcell hb; have hz1 : w.heap.size < w1.heap.size := (by have := hb.size; simp at this; omega); have hn1 : n < w1.heap.size := (by have := HN.out.2; omega); have HB := Lib.hid hb; clear hb))
  go_ret
  exact ⟨rfl, ((Below.refl w.heap.size w).alloc (Nat.le_refl _) _).trans (HB.out.mono (by simp))⟩
set_option maxHeartbeats 2000000 in
set_option maxRecDepth 100000 in
theorem value_f12 (op : Int) (d a b : Nat) (ha : a < 32) (hb' : b < 32) (v : BitVec 64) (aq rl : Bool) (p q : Int) (found : BitVec 64) (won : Bool) (n : Nat) (h : Ha) (w : World) (H : HAt 48 h n w) (n1 : (op == 3) = false) (n2 : (op == 4) = false) (n3 : (op == 2) = false) (n4 : (op == 69) = false) (hf : Hid (formOf op = 12)) :
    Calls Tryz.prog 29 #[.pointer (some ⟨n, 0, none⟩), insV op d a b (S v) aq rl p q, .int .u64 (U found), .bool won] w fun e w' => e = .returned (.int .u64 (U (found))) ∧ Below w.heap.size w w' := by
  have hn := H.lt
  have hp := H.c0
  have ca := H.cx a ha
  have cb := H.cx b hb'
  have t1 := wrapU_S v
  have t2 : IntKind.u64.wrap (U h.pc + 4) = U (h.pc + 4) := by rw [four_U]; exact add_U _ _
  have t3 := add_U h.pc (doB 1 0 v)
  have ia := index_x n a ha
  have ib := index_x n b hb'
  have HN := Lib.hid (And.intro H hn)
  have HB0 := Lib.hid (Below.refl w.heap.size w)
  go_enter Tryz.func29, Tryz.ntmps29
  go_wp2_with (first | (go_at_call 41; (with_reducible refine (Form_is op _ hf _).mono ?_); rintro e w1 ⟨rfl, hb⟩; obtain ⟨hc1, hf1⟩ := bcell hb; have hz1 : w.heap.size < w1.heap.size := (by have := hb.size; simp at this; omega); have hn1 : n < w1.heap.size := (by have := HN.out.2; omega); have HB := Lib.hid hb; clear hb))
  go_ret
  exact ⟨rfl, ((Below.refl w.heap.size w).alloc (Nat.le_refl _) _).trans (HB.out.mono (by simp))⟩
set_option maxHeartbeats 2000000 in
set_option maxRecDepth 100000 in
theorem value_f1 (op : Int) (d a b : Nat) (ha : a < 32) (hb' : b < 32) (v : BitVec 64) (aq rl : Bool) (p q : Int) (found : BitVec 64) (won : Bool) (n : Nat) (h : Ha) (w : World) (H : HAt 48 h n w) (n1 : (op == 3) = false) (n2 : (op == 4) = false) (n3 : (op == 2) = false) (n4 : (op == 69) = false) (hf : Hid (formOf op = 1)) :
    Calls Tryz.prog 29 #[.pointer (some ⟨n, 0, none⟩), insV op d a b (S v) aq rl p q, .int .u64 (U found), .bool won] w fun e w' => e = .returned (.int .u64 (U (doB op (h.x a) v))) ∧ Below w.heap.size w w' := by
  have hn := H.lt
  have hp := H.c0
  have ca := H.cx a ha
  have cb := H.cx b hb'
  have t1 := wrapU_S v
  have t2 : IntKind.u64.wrap (U h.pc + 4) = U (h.pc + 4) := by rw [four_U]; exact add_U _ _
  have t3 := add_U h.pc (doB 1 0 v)
  have ia := index_x n a ha
  have ib := index_x n b hb'
  have HN := Lib.hid (And.intro H hn)
  have HB0 := Lib.hid (Below.refl w.heap.size w)
  have HR := Lib.hid (fun w => (show Calls Tryz.prog 51 #[.int .i64 op, .int .u64 (U (h.x a)), .int .u64 (U v)] w fun e w' => e = .returned (.int .u64 (U (doB op (h.x a) v))) ∧ Below w.heap.size w w' from reckon_any op (h.x a) v w))
  go_enter Tryz.func29, Tryz.ntmps29
  go_wp2_with (first | (go_at_call 41; (with_reducible refine (Form_is op _ hf _).mono ?_); rintro e w1 ⟨rfl, hb⟩; obtain ⟨hc1, hf1⟩ := bcell hb; have hz1 : w.heap.size < w1.heap.size := (by have := hb.size; simp at this; omega); have hn1 : n < w1.heap.size := (by have := HN.out.2; omega); have HB := Lib.hid hb; clear hb))
  have c0 : w1.cell? ⟨w.heap.size, 0, none⟩ = some (.int .i64 op) := by go_simp
  have c2 : w1.cell? ⟨w.heap.size, 2, none⟩ = some (.int .i64 (a : Int)) := by go_simp
  have c3 : w1.cell? ⟨w.heap.size, 3, none⟩ = some (.int .i64 (b : Int)) := by go_simp
  have H1 : HAt 48 h n w1 := (HN.out.1.alloc _).below HB.out (by have := HN.out.2; simp; omega)
  have ca1 := H1.cx a ha
  have cb1 := H1.cx b hb'
  go_region_held3 (fun w' => w'.cell? ⟨w.heap.size, 0, none⟩ = some (.int .i64 op) ∧ w'.cell? ⟨w.heap.size, 2, none⟩ = some (.int .i64 (a : Int)) ∧ w'.cell? ⟨w.heap.size, 3, none⟩ = some (.int .i64 (b : Int)) ∧ w'.cell? ⟨n, 1 + a, none⟩ = some (.int .u64 (U (h.x a))) ∧ w'.cell? ⟨n, 1 + b, none⟩ = some (.int .u64 (U (h.x b)))) (exact ⟨c0, c2, c3, ca1, cb1⟩) ((go_at_call 51; (with_reducible refine (HR.out _).mono ?_); rintro e w2 ⟨rfl, hb⟩; obtain ⟨hc2, hf2⟩ := bcell hb; have c0 : w2.cell? ⟨w.heap.size, 0, none⟩ = some (.int .i64 op) := (by rw [hc2 _ _ hz1]; exact c0); have c2 : w2.cell? ⟨w.heap.size, 2, none⟩ = some (.int .i64 (a : Int)) := (by rw [hc2 _ _ hz1]; exact c2); have c3 : w2.cell? ⟨w.heap.size, 3, none⟩ = some (.int .i64 (b : Int)) := (by rw [hc2 _ _ hz1]; exact c3); have ca1 : w2.cell? ⟨n, 1 + a, none⟩ = some (.int .u64 (U (h.x a))) := (by rw [hc2 _ _ hn1]; exact ca1); have cb1 : w2.cell? ⟨n, 1 + b, none⟩ = some (.int .u64 (U (h.x b))) := (by rw [hc2 _ _ hn1]; exact cb1); have HB2 := Lib.hid hb; clear hb))
  all_goals
    go_wp2_with fail
    go_ret
    refine ⟨rfl, ?_⟩
    exact ((((Below.refl w.heap.size w).alloc (Nat.le_refl _) _).trans (HB.out.mono (by simp))).drew).trans (HB2.out.mono (Nat.le_of_lt hz1))
set_option maxHeartbeats 2000000 in
set_option maxRecDepth 100000 in
theorem value_f3 (op : Int) (d a b : Nat) (ha : a < 32) (hb' : b < 32) (v : BitVec 64) (aq rl : Bool) (p q : Int) (found : BitVec 64) (won : Bool) (n : Nat) (h : Ha) (w : World) (H : HAt 48 h n w) (n1 : (op == 3) = false) (n2 : (op == 4) = false) (n3 : (op == 2) = false) (n4 : (op == 69) = false) (hf : Hid (formOf op = 3)) :
    Calls Tryz.prog 29 #[.pointer (some ⟨n, 0, none⟩), insV op d a b (S v) aq rl p q, .int .u64 (U found), .bool won] w fun e w' => e = .returned (.int .u64 (U (doB op (h.x a) v))) ∧ Below w.heap.size w w' := by
  have hn := H.lt
  have hp := H.c0
  have ca := H.cx a ha
  have cb := H.cx b hb'
  have t1 := wrapU_S v
  have t2 : IntKind.u64.wrap (U h.pc + 4) = U (h.pc + 4) := by rw [four_U]; exact add_U _ _
  have t3 := add_U h.pc (doB 1 0 v)
  have ia := index_x n a ha
  have ib := index_x n b hb'
  have HN := Lib.hid (And.intro H hn)
  have HB0 := Lib.hid (Below.refl w.heap.size w)
  have HR := Lib.hid (fun w => (show Calls Tryz.prog 51 #[.int .i64 op, .int .u64 (U (h.x a)), .int .u64 (U v)] w fun e w' => e = .returned (.int .u64 (U (doB op (h.x a) v))) ∧ Below w.heap.size w w' from reckon_any op (h.x a) v w))
  go_enter Tryz.func29, Tryz.ntmps29
  go_wp2_with (first | (go_at_call 41; (with_reducible refine (Form_is op _ hf _).mono ?_); rintro e w1 ⟨rfl, hb⟩; obtain ⟨hc1, hf1⟩ := bcell hb; have hz1 : w.heap.size < w1.heap.size := (by have := hb.size; simp at this; omega); have hn1 : n < w1.heap.size := (by have := HN.out.2; omega); have HB := Lib.hid hb; clear hb))
  have c0 : w1.cell? ⟨w.heap.size, 0, none⟩ = some (.int .i64 op) := by go_simp
  have c2 : w1.cell? ⟨w.heap.size, 2, none⟩ = some (.int .i64 (a : Int)) := by go_simp
  have c3 : w1.cell? ⟨w.heap.size, 3, none⟩ = some (.int .i64 (b : Int)) := by go_simp
  have H1 : HAt 48 h n w1 := (HN.out.1.alloc _).below HB.out (by have := HN.out.2; simp; omega)
  have ca1 := H1.cx a ha
  have cb1 := H1.cx b hb'
  go_region_held3 (fun w' => w'.cell? ⟨w.heap.size, 0, none⟩ = some (.int .i64 op) ∧ w'.cell? ⟨w.heap.size, 2, none⟩ = some (.int .i64 (a : Int)) ∧ w'.cell? ⟨w.heap.size, 3, none⟩ = some (.int .i64 (b : Int)) ∧ w'.cell? ⟨n, 1 + a, none⟩ = some (.int .u64 (U (h.x a))) ∧ w'.cell? ⟨n, 1 + b, none⟩ = some (.int .u64 (U (h.x b)))) (exact ⟨c0, c2, c3, ca1, cb1⟩) ((go_at_call 51; (with_reducible refine (HR.out _).mono ?_); rintro e w2 ⟨rfl, hb⟩; obtain ⟨hc2, hf2⟩ := bcell hb; have c0 : w2.cell? ⟨w.heap.size, 0, none⟩ = some (.int .i64 op) := (by rw [hc2 _ _ hz1]; exact c0); have c2 : w2.cell? ⟨w.heap.size, 2, none⟩ = some (.int .i64 (a : Int)) := (by rw [hc2 _ _ hz1]; exact c2); have c3 : w2.cell? ⟨w.heap.size, 3, none⟩ = some (.int .i64 (b : Int)) := (by rw [hc2 _ _ hz1]; exact c3); have ca1 : w2.cell? ⟨n, 1 + a, none⟩ = some (.int .u64 (U (h.x a))) := (by rw [hc2 _ _ hn1]; exact ca1); have cb1 : w2.cell? ⟨n, 1 + b, none⟩ = some (.int .u64 (U (h.x b))) := (by rw [hc2 _ _ hn1]; exact cb1); have HB2 := Lib.hid hb; clear hb))
  all_goals
    go_wp2_with fail
    go_ret
    refine ⟨rfl, ?_⟩
    exact ((((Below.refl w.heap.size w).alloc (Nat.le_refl _) _).trans (HB.out.mono (by simp))).drew).trans (HB2.out.mono (Nat.le_of_lt hz1))
set_option maxHeartbeats 2000000 in
set_option maxRecDepth 100000 in
theorem value_f7 (op : Int) (d a b : Nat) (ha : a < 32) (hb' : b < 32) (v : BitVec 64) (aq rl : Bool) (p q : Int) (found : BitVec 64) (won : Bool) (n : Nat) (h : Ha) (w : World) (H : HAt 48 h n w) (n1 : (op == 3) = false) (n2 : (op == 4) = false) (n3 : (op == 2) = false) (n4 : (op == 69) = false) (hf : Hid (formOf op = 7)) :
    Calls Tryz.prog 29 #[.pointer (some ⟨n, 0, none⟩), insV op d a b (S v) aq rl p q, .int .u64 (U found), .bool won] w fun e w' => e = .returned (.int .u64 (U (doB op (h.x a) v))) ∧ Below w.heap.size w w' := by
  have hn := H.lt
  have hp := H.c0
  have ca := H.cx a ha
  have cb := H.cx b hb'
  have t1 := wrapU_S v
  have t2 : IntKind.u64.wrap (U h.pc + 4) = U (h.pc + 4) := by rw [four_U]; exact add_U _ _
  have t3 := add_U h.pc (doB 1 0 v)
  have ia := index_x n a ha
  have ib := index_x n b hb'
  have HN := Lib.hid (And.intro H hn)
  have HB0 := Lib.hid (Below.refl w.heap.size w)
  have HR := Lib.hid (fun w => (show Calls Tryz.prog 51 #[.int .i64 op, .int .u64 (U (h.x a)), .int .u64 (U v)] w fun e w' => e = .returned (.int .u64 (U (doB op (h.x a) v))) ∧ Below w.heap.size w w' from reckon_any op (h.x a) v w))
  go_enter Tryz.func29, Tryz.ntmps29
  go_wp2_with (first | (go_at_call 41; (with_reducible refine (Form_is op _ hf _).mono ?_); rintro e w1 ⟨rfl, hb⟩; obtain ⟨hc1, hf1⟩ := bcell hb; have hz1 : w.heap.size < w1.heap.size := (by have := hb.size; simp at this; omega); have hn1 : n < w1.heap.size := (by have := HN.out.2; omega); have HB := Lib.hid hb; clear hb))
  have c0 : w1.cell? ⟨w.heap.size, 0, none⟩ = some (.int .i64 op) := by go_simp
  have c2 : w1.cell? ⟨w.heap.size, 2, none⟩ = some (.int .i64 (a : Int)) := by go_simp
  have c3 : w1.cell? ⟨w.heap.size, 3, none⟩ = some (.int .i64 (b : Int)) := by go_simp
  have H1 : HAt 48 h n w1 := (HN.out.1.alloc _).below HB.out (by have := HN.out.2; simp; omega)
  have ca1 := H1.cx a ha
  have cb1 := H1.cx b hb'
  go_region_held3 (fun w' => w'.cell? ⟨w.heap.size, 0, none⟩ = some (.int .i64 op) ∧ w'.cell? ⟨w.heap.size, 2, none⟩ = some (.int .i64 (a : Int)) ∧ w'.cell? ⟨w.heap.size, 3, none⟩ = some (.int .i64 (b : Int)) ∧ w'.cell? ⟨n, 1 + a, none⟩ = some (.int .u64 (U (h.x a))) ∧ w'.cell? ⟨n, 1 + b, none⟩ = some (.int .u64 (U (h.x b)))) (exact ⟨c0, c2, c3, ca1, cb1⟩) ((go_at_call 51; (with_reducible refine (HR.out _).mono ?_); rintro e w2 ⟨rfl, hb⟩; obtain ⟨hc2, hf2⟩ := bcell hb; have c0 : w2.cell? ⟨w.heap.size, 0, none⟩ = some (.int .i64 op) := (by rw [hc2 _ _ hz1]; exact c0); have c2 : w2.cell? ⟨w.heap.size, 2, none⟩ = some (.int .i64 (a : Int)) := (by rw [hc2 _ _ hz1]; exact c2); have c3 : w2.cell? ⟨w.heap.size, 3, none⟩ = some (.int .i64 (b : Int)) := (by rw [hc2 _ _ hz1]; exact c3); have ca1 : w2.cell? ⟨n, 1 + a, none⟩ = some (.int .u64 (U (h.x a))) := (by rw [hc2 _ _ hn1]; exact ca1); have cb1 : w2.cell? ⟨n, 1 + b, none⟩ = some (.int .u64 (U (h.x b))) := (by rw [hc2 _ _ hn1]; exact cb1); have HB2 := Lib.hid hb; clear hb))
  all_goals
    go_wp2_with fail
    go_ret
    refine ⟨rfl, ?_⟩
    exact ((((Below.refl w.heap.size w).alloc (Nat.le_refl _) _).trans (HB.out.mono (by simp))).drew).trans (HB2.out.mono (Nat.le_of_lt hz1))
set_option maxHeartbeats 2000000 in
set_option maxRecDepth 100000 in
theorem value_f8 (op : Int) (d a b : Nat) (ha : a < 32) (hb' : b < 32) (v : BitVec 64) (aq rl : Bool) (p q : Int) (found : BitVec 64) (won : Bool) (n : Nat) (h : Ha) (w : World) (H : HAt 48 h n w) (n1 : (op == 3) = false) (n2 : (op == 4) = false) (n3 : (op == 2) = false) (n4 : (op == 69) = false) (hf : Hid (formOf op = 8)) :
    Calls Tryz.prog 29 #[.pointer (some ⟨n, 0, none⟩), insV op d a b (S v) aq rl p q, .int .u64 (U found), .bool won] w fun e w' => e = .returned (.int .u64 (U (doB op (h.x a) (h.x b)))) ∧ Below w.heap.size w w' := by
  have hn := H.lt
  have hp := H.c0
  have ca := H.cx a ha
  have cb := H.cx b hb'
  have t1 := wrapU_S v
  have t2 : IntKind.u64.wrap (U h.pc + 4) = U (h.pc + 4) := by rw [four_U]; exact add_U _ _
  have t3 := add_U h.pc (doB 1 0 v)
  have ia := index_x n a ha
  have ib := index_x n b hb'
  have HN := Lib.hid (And.intro H hn)
  have HB0 := Lib.hid (Below.refl w.heap.size w)
  have HR := Lib.hid (fun w => (show Calls Tryz.prog 51 #[.int .i64 op, .int .u64 (U (h.x a)), .int .u64 (U (h.x b))] w fun e w' => e = .returned (.int .u64 (U (doB op (h.x a) (h.x b)))) ∧ Below w.heap.size w w' from reckon_any op (h.x a) (h.x b) w))
  go_enter Tryz.func29, Tryz.ntmps29
  go_wp2_with (first | (go_at_call 41; (with_reducible refine (Form_is op _ hf _).mono ?_); rintro e w1 ⟨rfl, hb⟩; obtain ⟨hc1, hf1⟩ := bcell hb; have hz1 : w.heap.size < w1.heap.size := (by have := hb.size; simp at this; omega); have hn1 : n < w1.heap.size := (by have := HN.out.2; omega); have HB := Lib.hid hb; clear hb))
  have c0 : w1.cell? ⟨w.heap.size, 0, none⟩ = some (.int .i64 op) := by go_simp
  have c2 : w1.cell? ⟨w.heap.size, 2, none⟩ = some (.int .i64 (a : Int)) := by go_simp
  have c3 : w1.cell? ⟨w.heap.size, 3, none⟩ = some (.int .i64 (b : Int)) := by go_simp
  have H1 : HAt 48 h n w1 := (HN.out.1.alloc _).below HB.out (by have := HN.out.2; simp; omega)
  have ca1 := H1.cx a ha
  have cb1 := H1.cx b hb'
  go_region_held3 (fun w' => w'.cell? ⟨w.heap.size, 0, none⟩ = some (.int .i64 op) ∧ w'.cell? ⟨w.heap.size, 2, none⟩ = some (.int .i64 (a : Int)) ∧ w'.cell? ⟨w.heap.size, 3, none⟩ = some (.int .i64 (b : Int)) ∧ w'.cell? ⟨n, 1 + a, none⟩ = some (.int .u64 (U (h.x a))) ∧ w'.cell? ⟨n, 1 + b, none⟩ = some (.int .u64 (U (h.x b)))) (exact ⟨c0, c2, c3, ca1, cb1⟩) ((go_at_call 51; (with_reducible refine (HR.out _).mono ?_); rintro e w2 ⟨rfl, hb⟩; obtain ⟨hc2, hf2⟩ := bcell hb; have c0 : w2.cell? ⟨w.heap.size, 0, none⟩ = some (.int .i64 op) := (by rw [hc2 _ _ hz1]; exact c0); have c2 : w2.cell? ⟨w.heap.size, 2, none⟩ = some (.int .i64 (a : Int)) := (by rw [hc2 _ _ hz1]; exact c2); have c3 : w2.cell? ⟨w.heap.size, 3, none⟩ = some (.int .i64 (b : Int)) := (by rw [hc2 _ _ hz1]; exact c3); have ca1 : w2.cell? ⟨n, 1 + a, none⟩ = some (.int .u64 (U (h.x a))) := (by rw [hc2 _ _ hn1]; exact ca1); have cb1 : w2.cell? ⟨n, 1 + b, none⟩ = some (.int .u64 (U (h.x b))) := (by rw [hc2 _ _ hn1]; exact cb1); have HB2 := Lib.hid hb; clear hb))
  all_goals
    go_wp2_with fail
    go_ret
    refine ⟨rfl, ?_⟩
    exact ((((Below.refl w.heap.size w).alloc (Nat.le_refl _) _).trans (HB.out.mono (by simp))).drew).trans (HB2.out.mono (Nat.le_of_lt hz1))
set_option maxHeartbeats 2000000 in
set_option maxRecDepth 100000 in
theorem value_o (op : Int) (d a b : Nat) (ha : a < 32) (hb' : b < 32) (v : BitVec 64) (aq rl : Bool) (p q : Int) (found : BitVec 64) (won : Bool) (n : Nat) (h : Ha) (w : World) (H : HAt 48 h n w) (n1 : (op == 3) = false) (n2 : (op == 4) = false) (n3 : (op == 2) = false) (n4 : (op == 69) = false) (f : Int) (hf : Hid (formOf op = f)) (m1 : (f == 4) = false) (m2 : (f == 11) = false) (m3 : (f == 12) = false) (m4 : (f == 1) = false) (m5 : (f == 3) = false) (m6 : (f == 7) = false) (m7 : (f == 8) = false) :
    Calls Tryz.prog 29 #[.pointer (some ⟨n, 0, none⟩), insV op d a b (S v) aq rl p q, .int .u64 (U found), .bool won] w fun e w' => e = .returned (.int .u64 (U (0))) ∧ Below w.heap.size w w' := by
  have hn := H.lt
  have hp := H.c0
  have ca := H.cx a ha
  have cb := H.cx b hb'
  have t1 := wrapU_S v
  have t2 : IntKind.u64.wrap (U h.pc + 4) = U (h.pc + 4) := by rw [four_U]; exact add_U _ _
  have t3 := add_U h.pc (doB 1 0 v)
  have ia := index_x n a ha
  have ib := index_x n b hb'
  have HN := Lib.hid (And.intro H hn)
  have HB0 := Lib.hid (Below.refl w.heap.size w)
  go_enter Tryz.func29, Tryz.ntmps29
  go_wp2_with (first | (go_at_call 41; (with_reducible refine (Form_is op _ hf _).mono ?_); rintro e w1 ⟨rfl, hb⟩; obtain ⟨hc1, hf1⟩ := bcell hb; have hz1 : w.heap.size < w1.heap.size := (by have := hb.size; simp at this; omega); have hn1 : n < w1.heap.size := (by have := HN.out.2; omega); have HB := Lib.hid hb; clear hb))
  go_ret
  exact ⟨congrArg (fun n => Ending.returned (.int .u64 n)) (by decide +kernel), ((Below.refl w.heap.size w).alloc (Nat.le_refl _) _).trans (HB.out.mono (by simp))⟩
end Go.Proofs.YtdiacnjkffdegaaGreat
