/-
  Proved here: what the package hart's value, takes, landed, next come to. Condition: the registers are 0 to 31.
-/
import Derived.Test.YtdiacnjkffdegaaGreatHartValue
namespace Go.Proofs.YtdiacnjkffdegaaGreat
set_option linter.unusedSimpArgs false
set_option linter.unusedVariables false
open Go.RowKit
theorem value_any (op : Int) (d a b : Nat) (ha : a < 32) (hb : b < 32) (v : BitVec 64) (aq rl : Bool) (p q : Int) (found : BitVec 64) (won : Bool) (n : Nat) (h : Ha) (w : World) (H : HAt 48 h n w) :
    Calls Tryz.prog 29 #[.pointer (some ⟨n, 0, none⟩), insV op d a b (S v) aq rl p q, .int .u64 (U found), .bool won] w fun e w' => e = .returned (.int .u64 (U (valH h op a b v found won))) ∧ Below w.heap.size w w' := by
  unfold valH
  by_cases h3 : op = 3
  · rw [if_pos (Or.inl h3)]; exact value_3 op d a b ha hb v aq rl p q found won n h w H h3
  by_cases h4 : op = 4
  · rw [if_pos (Or.inr h4)]; exact value_4 op d a b ha hb v aq rl p q found won n h w H h4
  rw [if_neg (by omega)]
  by_cases h2 : op = 2
  · rw [if_pos h2]; exact value_2 op d a b ha hb v aq rl p q found won n h w H h2
  rw [if_neg h2]
  by_cases h69 : op = 69
  · rw [if_pos h69]; exact value_69 op d a b ha hb v aq rl p q found won n h w H h69
  rw [if_neg h69]
  have n1 : (op == 3) = false := by simpa using h3
  have n2 : (op == 4) = false := by simpa using h4
  have n3 : (op == 2) = false := by simpa using h2
  have n4 : (op == 69) = false := by simpa using h69
  by_cases f4 : formOf op = 4
  · rw [if_pos (Or.inl f4)]; exact value_f4 op d a b ha hb v aq rl p q found won n h w H n1 n2 n3 n4 (Lib.hid f4)
  by_cases f11 : formOf op = 11
  · rw [if_pos (Or.inr (Or.inl f11))]; exact value_f11 op d a b ha hb v aq rl p q found won n h w H n1 n2 n3 n4 (Lib.hid f11)
  by_cases f12 : formOf op = 12
  · rw [if_pos (Or.inr (Or.inr f12))]; exact value_f12 op d a b ha hb v aq rl p q found won n h w H n1 n2 n3 n4 (Lib.hid f12)
  rw [if_neg (by omega)]
  by_cases f1 : formOf op = 1
  · rw [if_pos (Or.inl f1)]; exact value_f1 op d a b ha hb v aq rl p q found won n h w H n1 n2 n3 n4 (Lib.hid f1)
  by_cases f3 : formOf op = 3
  · rw [if_pos (Or.inr (Or.inl f3))]; exact value_f3 op d a b ha hb v aq rl p q found won n h w H n1 n2 n3 n4 (Lib.hid f3)
  by_cases f7 : formOf op = 7
  · rw [if_pos (Or.inr (Or.inr f7))]; exact value_f7 op d a b ha hb v aq rl p q found won n h w H n1 n2 n3 n4 (Lib.hid f7)
  rw [if_neg (by omega)]
  by_cases f8 : formOf op = 8
  · rw [if_pos f8]; exact value_f8 op d a b ha hb v aq rl p q found won n h w H n1 n2 n3 n4 (Lib.hid f8)
  rw [if_neg f8]
  exact value_o op d a b ha hb v aq rl p q found won n h w H n1 n2 n3 n4 _ (Lib.hid rfl) (by simpa using f4) (by simpa using f11) (by simpa using f12) (by simpa using f1) (by simpa using f3) (by simpa using f7) (by simpa using f8)
def evenV (b : BitVec 64) : BitVec 64 := b &&& ~~~1
abbrev al4 (b : BitVec 64) : Bool := (U b).tmod 4 == 0
theorem landed_ok (b : BitVec 64) (hb : ((U b).tmod 4 == 0) = true) (w : World) : Calls Tryz.prog 53 #[.int .u64 (U b)] w fun e w' => e = .returned (.int .u64 (U b)) ∧ w = w' := by
  go_enter Tryz.func53, Tryz.ntmps53
  go_wp2
  go_ret
  exact ⟨rfl, rfl⟩
theorem landed_no (b : BitVec 64) (hb : ((U b).tmod 4 == 0) = false) (w : World) : Calls Tryz.prog 53 #[.int .u64 (U b)] w fun e w' => e = .panicked (endV 6 0) ∧ w = w' := by
  go_enter Tryz.func53, Tryz.ntmps53
  go_wp2
  refine ⟨rfl, rfl, ?_⟩
  rfl
set_option maxRecDepth 100000 in
theorem takes_any (op : Int) (d a b : Nat) (ha : a < 32) (hb' : b < 32) (v : BitVec 64) (aq rl : Bool) (p q : Int) (n : Nat) (h : Ha) (w : World) (H : HAt 48 h n w) :
    Calls Tryz.prog 54 #[.pointer (some ⟨n, 0, none⟩), insV op d a b (S v) aq rl p q] w fun e w' => e = .returned (.bool (tkX op (h.x a) (h.x b))) ∧ Below w.heap.size w w' := by
  have HT := Lib.hid (fun w => pTakes_any op (h.x a) (h.x b) w)
  have HK := Lib.hid (show tkE op = 0 ∨ (tkE op ≠ 0 ∧ tkX op (h.x a) (h.x b) = false) by
    unfold tkE tkX
    by_cases c : 5 ≤ op ∧ op ≤ 10
    · left; rw [if_pos c]
    · right; rw [if_neg c, if_neg c]; exact ⟨by decide, rfl⟩)
  have hn := H.lt
  have ca := H.cx a ha
  have cb := H.cx b hb'
  have ia := index_x n a ha
  have ib := index_x n b hb'
  have HN := Lib.hid (And.intro H hn)
  obtain ⟨W, hW⟩ : ∃ W, w.alloc (.cells #[.int .i64 op, .int .i64 (d : Int), .int .i64 (a : Int), .int .i64 (b : Int), .int .i64 (S v), .bool aq, .bool rl, .int .i64 p, .int .i64 q] 34) = W := ⟨_, rfl⟩
  have HW := Lib.hid hW
  clear hW
  have c0 : W.cell? ⟨w.heap.size, 0, none⟩ = some (.int .i64 op) := by rw [← HW.out]; go_simp
  have c2 : W.cell? ⟨w.heap.size, 2, none⟩ = some (.int .i64 (a : Int)) := by rw [← HW.out]; go_simp
  have c3 : W.cell? ⟨w.heap.size, 3, none⟩ = some (.int .i64 (b : Int)) := by rw [← HW.out]; go_simp
  have H1 : HAt 48 h n W := by rw [← HW.out]; exact H.alloc _
  have ca1 := H1.cx a ha
  have cb1 := H1.cx b hb'
  have hz1 : w.heap.size < W.heap.size := by rw [← HW.out]; simp
  have hn1 : n < W.heap.size := by omega
  have HB0 : Hid (Below w.heap.size w W) := by rw [← HW.out]; exact Lib.hid ((Below.refl _ _).alloc (Nat.le_refl _) _)
  go_enter Tryz.func54, Tryz.ntmps54
  go_wp2_with fail
  rw [HW.out]
  go_region_held3 (fun w' => w'.cell? ⟨w.heap.size, 0, none⟩ = some (.int .i64 op) ∧ w'.cell? ⟨w.heap.size, 2, none⟩ = some (.int .i64 (a : Int)) ∧ w'.cell? ⟨w.heap.size, 3, none⟩ = some (.int .i64 (b : Int)) ∧ w'.cell? ⟨n, 1 + a, none⟩ = some (.int .u64 (U (h.x a))) ∧ w'.cell? ⟨n, 1 + b, none⟩ = some (.int .u64 (U (h.x b)))) (exact ⟨c0, c2, c3, ca1, cb1⟩) ((go_at_call 71; (with_reducible refine (HT.out _).mono ?_); rintro e w2 ⟨rfl, hb⟩; obtain ⟨hc2, hf2⟩ := bcell hb; have c0 : w2.cell? ⟨w.heap.size, 0, none⟩ = some (.int .i64 op) := (by rw [hc2 _ _ hz1]; exact c0); have c2 : w2.cell? ⟨w.heap.size, 2, none⟩ = some (.int .i64 (a : Int)) := (by rw [hc2 _ _ hz1]; exact c2); have c3 : w2.cell? ⟨w.heap.size, 3, none⟩ = some (.int .i64 (b : Int)) := (by rw [hc2 _ _ hz1]; exact c3); have ca1 : w2.cell? ⟨n, 1 + a, none⟩ = some (.int .u64 (U (h.x a))) := (by rw [hc2 _ _ hn1]; exact ca1); have cb1 : w2.cell? ⟨n, 1 + b, none⟩ = some (.int .u64 (U (h.x b))) := (by rw [hc2 _ _ hn1]; exact cb1); have HB2 := Lib.hid hb; clear hb))
  all_goals
    rcases HK.out with hk | ⟨hk, hk2⟩
    · have b1 : (tkE op == 0) = true := by simp [hk]
      clear hk
      cases ht : tkX op (h.x a) (h.x b) <;>
      · go_wp2_with fail
        go_ret
        refine ⟨congrArg (fun b => Ending.returned (.bool b)) (by first | rfl | (simp [*]; done)), (HB0.out.drew).trans (HB2.out.mono (Nat.le_of_lt hz1))⟩
    · have b1 : (tkE op == 0) = false := by simp [hk]
      clear hk
      go_wp2_with fail
      go_ret
      refine ⟨congrArg (fun b => Ending.returned (.bool b)) (by first | rfl | (simp [*]; done)), (HB0.out.drew).trans (HB2.out.mono (Nat.le_of_lt hz1))⟩
set_option maxHeartbeats 2000000 in
set_option maxRecDepth 100000 in
theorem next_4 (op : Int) (d a b : Nat) (ha : a < 32) (hb' : b < 32) (v : BitVec 64) (aq rl : Bool) (p q : Int) (n : Nat) (h : Ha) (w : World) (H : HAt 48 h n w) (ho : op = 4) (hal : al4 (evenV (h.x a + v)) = true) :
    Calls Tryz.prog 30 #[.pointer (some ⟨n, 0, none⟩), insV op d a b (S v) aq rl p q] w fun e w' => e = .returned (.int .u64 (U (evenV (h.x a + v)))) ∧ Below w.heap.size w w' := by
  have hn := H.lt
  have hp := H.c0
  have ca := H.cx a ha
  have t1 := wrapU_S v
  have t2 : IntKind.u64.wrap (U h.pc + 4) = U (h.pc + 4) := by rw [four_U]; exact add_U _ _
  have t3 := add_U h.pc v
  have t4 := add_U (h.x a) v
  have t5 : bits .andNot .u64 (U (h.x a + v)) 1 = U (evenV (h.x a + v)) := by rw [one_U]; exact andNot_U _ _
  have ia := index_x n a ha
  have HN := Lib.hid (And.intro H hn)
  have HL := Lib.hid (fun w => landed_ok (evenV (h.x a + v)) hal w)
  clear hal
  subst ho
  go_enter Tryz.func30, Tryz.ntmps30
  go_wp2_with fail
  go_region_held3 (fun w' => w'.cell? ⟨w.heap.size, 2, none⟩ = some (.int .i64 (a : Int)) ∧ w'.cell? ⟨n, 1 + a, none⟩ = some (.int .u64 (U (h.x a)))) (go_keep) ((go_at_call 53; (with_reducible refine (HL.out _).mono ?_); rintro e w2 ⟨rfl, rfl⟩))
  all_goals (try go_wp2_with fail)
  all_goals
    go_ret
    exact ⟨rfl, ((Below.refl w.heap.size w).alloc (Nat.le_refl _) _).drew⟩
set_option maxHeartbeats 2000000 in
set_option maxRecDepth 100000 in
theorem next_3 (op : Int) (d a b : Nat) (ha : a < 32) (hb' : b < 32) (v : BitVec 64) (aq rl : Bool) (p q : Int) (n : Nat) (h : Ha) (w : World) (H : HAt 48 h n w) (ho : op = 3) (hal : al4 (h.pc + v) = true) :
    Calls Tryz.prog 30 #[.pointer (some ⟨n, 0, none⟩), insV op d a b (S v) aq rl p q] w fun e w' => e = .returned (.int .u64 (U (h.pc + v))) ∧ Below w.heap.size w w' := by
  have hn := H.lt
  have hp := H.c0
  have ca := H.cx a ha
  have t1 := wrapU_S v
  have t2 : IntKind.u64.wrap (U h.pc + 4) = U (h.pc + 4) := by rw [four_U]; exact add_U _ _
  have t3 := add_U h.pc v
  have t4 := add_U (h.x a) v
  have t5 : bits .andNot .u64 (U (h.x a + v)) 1 = U (evenV (h.x a + v)) := by rw [one_U]; exact andNot_U _ _
  have ia := index_x n a ha
  have HN := Lib.hid (And.intro H hn)
  have HL := Lib.hid (fun w => landed_ok (h.pc + v) hal w)
  clear hal
  subst ho
  go_enter Tryz.func30, Tryz.ntmps30
  go_wp2_with (first | (go_at_call 53; (with_reducible refine (HL.out _).mono ?_); rintro e w2 ⟨rfl, rfl⟩))
  go_ret
  exact ⟨rfl, (Below.refl w.heap.size w).alloc (Nat.le_refl _) _⟩
set_option maxHeartbeats 2000000 in
set_option maxRecDepth 100000 in
theorem next_t (op : Int) (d a b : Nat) (ha : a < 32) (hb' : b < 32) (v : BitVec 64) (aq rl : Bool) (p q : Int) (n : Nat) (h : Ha) (w : World) (H : HAt 48 h n w) (n1 : (op == 4) = false) (n2 : (op == 3) = false) (ht : tkX op (h.x a) (h.x b) = true) (hal : al4 (h.pc + v) = true) :
    Calls Tryz.prog 30 #[.pointer (some ⟨n, 0, none⟩), insV op d a b (S v) aq rl p q] w fun e w' => e = .returned (.int .u64 (U (h.pc + v))) ∧ Below w.heap.size w w' := by
  have hn := H.lt
  have hp := H.c0
  have ca := H.cx a ha
  have t1 := wrapU_S v
  have t2 : IntKind.u64.wrap (U h.pc + 4) = U (h.pc + 4) := by rw [four_U]; exact add_U _ _
  have t3 := add_U h.pc v
  have t4 := add_U (h.x a) v
  have t5 : bits .andNot .u64 (U (h.x a + v)) 1 = U (evenV (h.x a + v)) := by rw [one_U]; exact andNot_U _ _
  have ia := index_x n a ha
  have HN := Lib.hid (And.intro H hn)
  have HL := Lib.hid (fun w => landed_ok (h.pc + v) hal w)
  clear hal
  have HT := Lib.hid (fun w H => ht ▸ takes_any op d a b ha hb' v aq rl p q n h w H)
  clear ht
  go_enter Tryz.func30, Tryz.ntmps30
  go_wp2_with (first | (go_at_call 54; (with_reducible refine (HT.out _ (HN.out.1.alloc _)).mono ?_); rintro e w1 ⟨rfl, hb⟩; obtain ⟨hc1, hf1⟩ := bcell hb; have hz1 : w.heap.size < w1.heap.size := (by have := hb.size; simp at this; omega); have HB := Lib.hid hb; clear hb) | (go_at_call 53; (with_reducible refine (HL.out _).mono ?_); rintro e w2 ⟨rfl, rfl⟩))
  go_ret
  exact ⟨rfl, ((Below.refl w.heap.size w).alloc (Nat.le_refl _) _).trans (HB.out.mono (by simp))⟩
set_option maxHeartbeats 2000000 in
set_option maxRecDepth 100000 in
theorem next_4n (op : Int) (d a b : Nat) (ha : a < 32) (hb' : b < 32) (v : BitVec 64) (aq rl : Bool) (p q : Int) (n : Nat) (h : Ha) (w : World) (H : HAt 48 h n w) (ho : op = 4) (hal : al4 (evenV (h.x a + v)) = false) :
    Calls Tryz.prog 30 #[.pointer (some ⟨n, 0, none⟩), insV op d a b (S v) aq rl p q] w fun e w' => e = .panicked (endV 6 0) ∧ Below w.heap.size w w' := by
  have hn := H.lt
  have hp := H.c0
  have ca := H.cx a ha
  have t1 := wrapU_S v
  have t2 : IntKind.u64.wrap (U h.pc + 4) = U (h.pc + 4) := by rw [four_U]; exact add_U _ _
  have t3 := add_U h.pc v
  have t4 := add_U (h.x a) v
  have t5 : bits .andNot .u64 (U (h.x a + v)) 1 = U (evenV (h.x a + v)) := by rw [one_U]; exact andNot_U _ _
  have ia := index_x n a ha
  have HN := Lib.hid (And.intro H hn)
  have HL := Lib.hid (fun w => landed_no (evenV (h.x a + v)) hal w)
  clear hal
  subst ho
  go_enter Tryz.func30, Tryz.ntmps30
  go_wp2_with fail
  refine wp_region_still_tail 10 (by kernel_rfl) (by kernel_rfl) ?_
  simp only [List.take_succ_cons, List.take_zero, List.drop_succ_cons, List.drop_zero]
  have cb2 : (w.alloc (.cells #[.int .i64 4, .int .i64 (d : Int), .int .i64 (a : Int), .int .i64 (b : Int), .int .i64 (S v), .bool aq, .bool rl, .int .i64 p, .int .i64 q] 34)).cell? ⟨w.heap.size, 2, none⟩ = some (.int .i64 (a : Int)) := by go_simp
  have ca2 : (w.alloc (.cells #[.int .i64 4, .int .i64 (d : Int), .int .i64 (a : Int), .int .i64 (b : Int), .int .i64 (S v), .bool aq, .bool rl, .int .i64 p, .int .i64 q] 34)).cell? ⟨n, 1 + a, none⟩ = some (.int .u64 (U (h.x a))) := by go_simp
  refine wpStill_val (.pointer (some ⟨n, 0, none⟩)) (by as_aux_lemma => kernel_rfl) (by as_aux_lemma => kernel_rfl) ?_
  simp only [Act.put, List.setIfInBounds_toArray, List.set_cons_succ, List.set_cons_zero]
  refine wpStill_val (.pointer (some ⟨w.heap.size, 2, none⟩)) (by as_aux_lemma => kernel_rfl) (by as_aux_lemma => kernel_rfl) ?_
  simp only [Act.put, List.setIfInBounds_toArray, List.set_cons_succ, List.set_cons_zero]
  refine wpStill_load 3 (.tmp 14) ⟨w.heap.size, 2, none⟩ (.int .i64 (a : Int)) (by as_aux_lemma => kernel_rfl) rfl (by as_aux_lemma => kernel_rfl) (Tryz.isAgg3 _) cb2 ?_
  simp only [Act.put, List.setIfInBounds_toArray, List.set_cons_succ, List.set_cons_zero]
  refine wpStill_val (.pointer (some ⟨n, 0, none⟩)) (by as_aux_lemma => kernel_rfl) (by as_aux_lemma => kernel_rfl) ?_
  simp only [Act.put, List.setIfInBounds_toArray, List.set_cons_succ, List.set_cons_zero]
  refine wpStill_val (.pointer (some ⟨n, 1, none⟩)) (by as_aux_lemma => kernel_rfl) (by as_aux_lemma => kernel_rfl) ?_
  simp only [Act.put, List.setIfInBounds_toArray, List.set_cons_succ, List.set_cons_zero]
  refine wpStill_val (.pointer (some ⟨n, 1 + a, none⟩)) (by as_aux_lemma => kernel_rfl) (by go_simp) ?_
  simp only [Act.put, List.setIfInBounds_toArray, List.set_cons_succ, List.set_cons_zero]
  refine wpStill_load 22 (.tmp 18) ⟨n, 1 + a, none⟩ (.int .u64 (U (h.x a))) (by as_aux_lemma => kernel_rfl) rfl (by as_aux_lemma => kernel_rfl) (Tryz.isAgg22 _) ca2 ?_
  simp only [Act.put, List.setIfInBounds_toArray, List.set_cons_succ, List.set_cons_zero]
  refine wpStill_val (.int .u64 (U v)) (by as_aux_lemma => kernel_rfl) (by as_aux_lemma => kernel_rfl) ?_
  simp only [Act.put, List.setIfInBounds_toArray, List.set_cons_succ, List.set_cons_zero]
  refine wpStill_val (.int .u64 (U (h.x a + v))) (by as_aux_lemma => kernel_rfl) (by go_simp) ?_
  simp only [Act.put, List.setIfInBounds_toArray, List.set_cons_succ, List.set_cons_zero]
  refine wpStill_val (.int .u64 (U (evenV (h.x a + v)))) (by as_aux_lemma => kernel_rfl) (by go_simp) ?_
  simp only [Act.put, List.setIfInBounds_toArray, List.set_cons_succ, List.set_cons_zero]
  refine wpStill_nil ?_
  change wpList _ _ _ _ _ (World.drew _)
  go_wp2_with (first | (go_at_call 53; (with_reducible refine (HL.out _).mono ?_); rintro e w2 ⟨rfl, rfl⟩))
  refine ⟨rfl, rfl, ?_⟩
  exact ((Below.refl w.heap.size w).alloc (Nat.le_refl _) _).drew
set_option maxHeartbeats 2000000 in
set_option maxRecDepth 100000 in
theorem next_3n (op : Int) (d a b : Nat) (ha : a < 32) (hb' : b < 32) (v : BitVec 64) (aq rl : Bool) (p q : Int) (n : Nat) (h : Ha) (w : World) (H : HAt 48 h n w) (ho : op = 3) (hal : al4 (h.pc + v) = false) :
    Calls Tryz.prog 30 #[.pointer (some ⟨n, 0, none⟩), insV op d a b (S v) aq rl p q] w fun e w' => e = .panicked (endV 6 0) ∧ Below w.heap.size w w' := by
  have hn := H.lt
  have hp := H.c0
  have ca := H.cx a ha
  have t1 := wrapU_S v
  have t2 : IntKind.u64.wrap (U h.pc + 4) = U (h.pc + 4) := by rw [four_U]; exact add_U _ _
  have t3 := add_U h.pc v
  have t4 := add_U (h.x a) v
  have t5 : bits .andNot .u64 (U (h.x a + v)) 1 = U (evenV (h.x a + v)) := by rw [one_U]; exact andNot_U _ _
  have ia := index_x n a ha
  have HN := Lib.hid (And.intro H hn)
  have HL := Lib.hid (fun w => landed_no (h.pc + v) hal w)
  clear hal
  subst ho
  go_enter Tryz.func30, Tryz.ntmps30
  go_wp2_with (first | (go_at_call 53; (with_reducible refine (HL.out _).mono ?_); rintro e w2 ⟨rfl, rfl⟩))
  refine ⟨rfl, rfl, ?_⟩
  exact (Below.refl w.heap.size w).alloc (Nat.le_refl _) _
set_option maxHeartbeats 2000000 in
set_option maxRecDepth 100000 in
theorem next_tn (op : Int) (d a b : Nat) (ha : a < 32) (hb' : b < 32) (v : BitVec 64) (aq rl : Bool) (p q : Int) (n : Nat) (h : Ha) (w : World) (H : HAt 48 h n w) (n1 : (op == 4) = false) (n2 : (op == 3) = false) (ht : tkX op (h.x a) (h.x b) = true) (hal : al4 (h.pc + v) = false) :
    Calls Tryz.prog 30 #[.pointer (some ⟨n, 0, none⟩), insV op d a b (S v) aq rl p q] w fun e w' => e = .panicked (endV 6 0) ∧ Below w.heap.size w w' := by
  have hn := H.lt
  have hp := H.c0
  have ca := H.cx a ha
  have t1 := wrapU_S v
  have t2 : IntKind.u64.wrap (U h.pc + 4) = U (h.pc + 4) := by rw [four_U]; exact add_U _ _
  have t3 := add_U h.pc v
  have t4 := add_U (h.x a) v
  have t5 : bits .andNot .u64 (U (h.x a + v)) 1 = U (evenV (h.x a + v)) := by rw [one_U]; exact andNot_U _ _
  have ia := index_x n a ha
  have HN := Lib.hid (And.intro H hn)
  have HL := Lib.hid (fun w => landed_no (h.pc + v) hal w)
  clear hal
  have HT := Lib.hid (fun w H => ht ▸ takes_any op d a b ha hb' v aq rl p q n h w H)
  clear ht
  go_enter Tryz.func30, Tryz.ntmps30
  go_wp2_with (first | (go_at_call 54; (with_reducible refine (HT.out _ (HN.out.1.alloc _)).mono ?_); rintro e w1 ⟨rfl, hb⟩; obtain ⟨hc1, hf1⟩ := bcell hb; have hz1 : w.heap.size < w1.heap.size := (by have := hb.size; simp at this; omega); have HB := Lib.hid hb; clear hb) | (go_at_call 53; (with_reducible refine (HL.out _).mono ?_); rintro e w2 ⟨rfl, rfl⟩))
  refine ⟨rfl, rfl, ?_⟩
  exact ((Below.refl w.heap.size w).alloc (Nat.le_refl _) _).trans (HB.out.mono (by simp))
set_option maxHeartbeats 2000000 in
set_option maxRecDepth 100000 in
theorem next_f (op : Int) (d a b : Nat) (ha : a < 32) (hb' : b < 32) (v : BitVec 64) (aq rl : Bool) (p q : Int) (n : Nat) (h : Ha) (w : World) (H : HAt 48 h n w) (n1 : (op == 4) = false) (n2 : (op == 3) = false) (ht : tkX op (h.x a) (h.x b) = false) :
    Calls Tryz.prog 30 #[.pointer (some ⟨n, 0, none⟩), insV op d a b (S v) aq rl p q] w fun e w' => e = .returned (.int .u64 (U (h.pc + 4))) ∧ Below w.heap.size w w' := by
  have hn := H.lt
  have hp := H.c0
  have ca := H.cx a ha
  have t1 := wrapU_S v
  have t2 : IntKind.u64.wrap (U h.pc + 4) = U (h.pc + 4) := by rw [four_U]; exact add_U _ _
  have t3 := add_U h.pc v
  have t4 := add_U (h.x a) v
  have t5 : bits .andNot .u64 (U (h.x a + v)) 1 = U (evenV (h.x a + v)) := by rw [one_U]; exact andNot_U _ _
  have ia := index_x n a ha
  have HN := Lib.hid (And.intro H hn)
  have HT := Lib.hid (fun w H => ht ▸ takes_any op d a b ha hb' v aq rl p q n h w H)
  clear ht
  go_enter Tryz.func30, Tryz.ntmps30
  go_wp2_with (first | (go_at_call 54; (with_reducible refine (HT.out _ (HN.out.1.alloc _)).mono ?_); rintro e w1 ⟨rfl, hb⟩; obtain ⟨hc1, hf1⟩ := bcell hb; have hz1 : w.heap.size < w1.heap.size := (by have := hb.size; simp at this; omega); have HB := Lib.hid hb; clear hb))
  go_ret
  exact ⟨rfl, ((Below.refl w.heap.size w).alloc (Nat.le_refl _) _).trans (HB.out.mono (by simp))⟩
/-- where an instruction goes; whether that is a jump -/
def toH (h : Ha) (op : Int) (a b : Nat) (v : BitVec 64) : BitVec 64 := if op = 4 then evenV (h.x a + v) else if op = 3 ∨ tkX op (h.x a) (h.x b) = true then h.pc + v else h.pc + 4
def jumpH (h : Ha) (op : Int) (a b : Nat) : Bool := decide (op = 4 ∨ op = 3) || tkX op (h.x a) (h.x b)
/-- is it a place that is none -/
def fetchH (h : Ha) (op : Int) (a b : Nat) (v : BitVec 64) : Bool := jumpH h op a b && !al4 (toH h op a b v)
theorem next_any (op : Int) (d a b : Nat) (ha : a < 32) (hb : b < 32) (v : BitVec 64) (aq rl : Bool) (p q : Int) (n : Nat) (h : Ha) (w : World) (H : HAt 48 h n w) :
    Calls Tryz.prog 30 #[.pointer (some ⟨n, 0, none⟩), insV op d a b (S v) aq rl p q] w fun e w' => e = (if fetchH h op a b v then .panicked (endV 6 0) else .returned (.int .u64 (U (toH h op a b v)))) ∧ Below w.heap.size w w' := by
  unfold fetchH jumpH toH
  by_cases h4 : op = 4
  · rw [if_pos h4, decide_eq_true (Or.inl h4 : op = 4 ∨ op = 3), Bool.true_or, Bool.true_and]
    cases hal : al4 (evenV (h.x a + v))
    · exact next_4n op d a b ha hb v aq rl p q n h w H h4 hal
    · exact next_4 op d a b ha hb v aq rl p q n h w H h4 hal
  · rw [if_neg h4]
    by_cases h3 : op = 3
    · rw [if_pos (Or.inl h3), decide_eq_true (Or.inr h3 : op = 4 ∨ op = 3), Bool.true_or, Bool.true_and]
      cases hal : al4 (h.pc + v)
      · exact next_3n op d a b ha hb v aq rl p q n h w H h3 hal
      · exact next_3 op d a b ha hb v aq rl p q n h w H h3 hal
    · have n1 : (op == 4) = false := by simpa using h4
      have n2 : (op == 3) = false := by simpa using h3
      rw [decide_eq_false (by omega : ¬ (op = 4 ∨ op = 3)), Bool.false_or]
      cases ht : tkX op (h.x a) (h.x b)
      · rw [Bool.false_and, if_neg (by decide : ¬ (false = true)), if_neg (by simp [h3] : ¬ (op = 3 ∨ false = true))]
        exact next_f op d a b ha hb v aq rl p q n h w H n1 n2 ht
      · rw [if_pos (Or.inr rfl), Bool.true_and]
        cases hal : al4 (h.pc + v)
        · exact next_tn op d a b ha hb v aq rl p q n h w H n1 n2 ht hal
        · exact next_t op d a b ha hb v aq rl p q n h w H n1 n2 ht hal
end Go.Proofs.YtdiacnjkffdegaaGreat
