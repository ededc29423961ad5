/-
  Proved here: the document's own target (layer 5) answers where a branch that is taken, a jump goes; it writes nothing that was there. Conditions: the number is of 64 bits; the registers are of 32.
-/
import Derived.Test.YtdiacnjkffdegaaGreatRef05Parts
import Derived.Test.YtdiacnjkffdegaaGreatHartNext
import Derived.Test.YtdiacnjkffdegaaGreatAluCallsWalk
namespace Go.Proofs.YtdiacnjkffdegaaGreat
set_option linter.unusedSimpArgs false
set_option linter.unusedVariables false
open Go.RowKit
theorem evenV_shift (b : BitVec 64) : evenV b = (b >>> 1) <<< 1 := by
  unfold evenV
  apply BitVec.eq_of_getLsbD_eq
  intro i hi
  rcases i with _ | i
  · simp
  · have M : ∀ j < 64, j ≠ 0 → (~~~(1 : BitVec 64)).getLsbD j = true := by decide +kernel
    rw [BitVec.getLsbD_and, M _ hi (by omega), BitVec.getLsbD_shiftLeft, BitVec.getLsbD_ushiftRight, Bool.and_true, show 1 + (i + 1 - 1) = i + 1 by omega]
    simp [hi]
theorem half2 (b : BitVec 64) : IntKind.u64.wrap (IntKind.u64.wrap ((U b).tdiv 2) * 2) = U (evenV b) := by
  rw [evenV_shift]
  have h1 : (U b).tdiv 2 = ((b.toNat / 2 : Nat) : Int) := by unfold U; rfl
  have hb := b.isLt
  have h2 : ((b >>> 1) <<< 1).toNat = b.toNat / 2 * 2 := by
    rw [BitVec.toNat_shiftLeft, BitVec.toNat_ushiftRight, Nat.shiftRight_eq_div_pow, Nat.shiftLeft_eq]
    omega
  rw [h1]
  unfold U
  rw [h2]
  have h3 : IntKind.u64.wrap ((b.toNat / 2 : Nat) : Int) = ((b.toNat / 2 : Nat) : Int) := by
    unfold IntKind.wrap
    simp [IntKind.signed, IntKind.bits]
    omega
  rw [h3]
  unfold IntKind.wrap
  simp [IntKind.signed, IntKind.bits]
  omega
theorem tk_ops (op : Int) (a b : BitVec 64) : (tkE op = 0 ∧ op ≠ 3 ∧ op ≠ 4) ∨ (tkE op ≠ 0 ∧ tkX op a b = false) := by
  unfold tkE tkX
  by_cases c : 5 ≤ op ∧ op ≤ 10
  · left; rw [if_pos c]; omega
  · right; rw [if_neg c, if_neg c]; exact ⟨by decide, rfl⟩
set_option maxHeartbeats 2000000 in
set_option maxRecDepth 100000 in
theorem target_3 (h : Ha) (op : Int) (d a b : Nat) (ha : a < 32) (hb' : b < 32) (v : BitVec 64) (aq rl : Bool) (p q : Int) (h3 : op = 3) (w : World) : Calls Tryz.prog 20 #[h.V, insV op d a b (S v) aq rl p q] w fun e w' => e = .returned (.tuple #[.int .u64 (U (h.pc + v)), .bool true]) ∧ Below w.heap.size w w' := by
  unfold Ha.V
  have HT := Lib.hid (fun w => rTakes_any op (h.x a) (h.x b) w)
  have b3 : (op == 3) = true := by simp [h3]
  clear h3
  have t1 := wrapU_S v
  have t2 : IntKind.u64.wrap (U h.pc + 4) = U (h.pc + 4) := by rw [four_U]; exact add_U _ _
  have t3 := add_U h.pc v
  have t4 := add_U (h.x a) v
  have t5 := half2 (h.x a + v)
  obtain ⟨W, hW⟩ : ∃ W, (w.alloc (.cells (hC h) 25)).alloc (.cells #[.int .i64 op, .int .i64 (d : Int), .int .i64 (a : Int), .int .i64 (b : Int), .int .i64 (S v), .bool aq, .bool rl, .int .i64 p, .int .i64 q] 34) = W := ⟨_, rfl⟩
  have HW := Lib.hid hW
  clear hW
  have hs : W.heap.size = w.heap.size + 2 := by rw [← HW.out]; simp
  have c0 : W.cell? ⟨w.heap.size + 1, 0, none⟩ = some (.int .i64 op) := by rw [← HW.out]; go_simp
  have c2 : W.cell? ⟨w.heap.size + 1, 2, none⟩ = some (.int .i64 (a : Int)) := by rw [← HW.out]; go_simp
  have c3 : W.cell? ⟨w.heap.size + 1, 3, none⟩ = some (.int .i64 (b : Int)) := by rw [← HW.out]; go_simp
  have c4 : W.cell? ⟨w.heap.size + 1, 4, none⟩ = some (.int .i64 (S v)) := by rw [← HW.out]; go_simp
  have HA : HAt 25 h w.heap.size W := by rw [← HW.out]; exact (HAt.new 25 h w).alloc _
  have cp := HA.c0
  have ca := HA.cx a ha
  have cb := HA.cx b hb'
  clear HA
  have ia := index_x w.heap.size a ha
  have ib := index_x w.heap.size b hb'
  have hz1 : w.heap.size + 1 < W.heap.size := by omega
  have hz0 : w.heap.size < W.heap.size := by omega
  have HB0 : Hid (Below w.heap.size w W) := by rw [← HW.out]; exact Lib.hid (((Below.refl _ _).alloc (Nat.le_refl _) _).alloc (by simp) _)
  have HS := Lib.hid hs
  clear hs
  go_enter Tryz.func20, Tryz.ntmps20
  go_wp2_with fail
  rw [HW.out]
  go_region_held3 (fun w' => w'.cell? ⟨w.heap.size + 1, 0, none⟩ = some (.int .i64 op) ∧ w'.cell? ⟨w.heap.size + 1, 2, none⟩ = some (.int .i64 (a : Int)) ∧ w'.cell? ⟨w.heap.size + 1, 3, none⟩ = some (.int .i64 (b : Int)) ∧ w'.cell? ⟨w.heap.size + 1, 4, none⟩ = some (.int .i64 (S v)) ∧ w'.cell? ⟨w.heap.size, 0, none⟩ = some (.int .u64 (U h.pc)) ∧ w'.cell? ⟨w.heap.size, 1 + a, none⟩ = some (.int .u64 (U (h.x a))) ∧ w'.cell? ⟨w.heap.size, 1 + b, none⟩ = some (.int .u64 (U (h.x b)))) (exact ⟨c0, c2, c3, c4, cp, ca, cb⟩) ((go_at_call 39; (with_reducible refine (HT.out _).mono ?_); rintro e w2 ⟨rfl, hb⟩; obtain ⟨hc2, hf2⟩ := bcell hb; have c0 : w2.cell? ⟨w.heap.size + 1, 0, none⟩ = some (.int .i64 op) := (by rw [hc2 _ _ hz1]; exact c0); have c2 : w2.cell? ⟨w.heap.size + 1, 2, none⟩ = some (.int .i64 (a : Int)) := (by rw [hc2 _ _ hz1]; exact c2); have c3 : w2.cell? ⟨w.heap.size + 1, 3, none⟩ = some (.int .i64 (b : Int)) := (by rw [hc2 _ _ hz1]; exact c3); have c4 : w2.cell? ⟨w.heap.size + 1, 4, none⟩ = some (.int .i64 (S v)) := (by rw [hc2 _ _ hz1]; exact c4); have cp : w2.cell? ⟨w.heap.size, 0, none⟩ = some (.int .u64 (U h.pc)) := (by rw [hc2 _ _ hz0]; exact cp); have ca : w2.cell? ⟨w.heap.size, 1 + a, none⟩ = some (.int .u64 (U (h.x a))) := (by rw [hc2 _ _ hz0]; exact ca); have cb : w2.cell? ⟨w.heap.size, 1 + b, none⟩ = some (.int .u64 (U (h.x b))) := (by rw [hc2 _ _ hz0]; exact cb); have HB2 := Lib.hid hb; clear hb))
  all_goals
    clear HW HS hc2 hf2
    go_wp2_with fail
    go_ret2
    exact ⟨rfl, (HB0.out.drew).trans (HB2.out.mono (Nat.le_of_lt hz0))⟩
set_option maxHeartbeats 2000000 in
set_option maxRecDepth 100000 in
theorem target_t (h : Ha) (op : Int) (d a b : Nat) (ha : a < 32) (hb' : b < 32) (v : BitVec 64) (aq rl : Bool) (p q : Int) (n3 : op ≠ 3) (hE : tkE op = 0) (hT : tkX op (h.x a) (h.x b) = true) (w : World) : Calls Tryz.prog 20 #[h.V, insV op d a b (S v) aq rl p q] w fun e w' => e = .returned (.tuple #[.int .u64 (U (h.pc + v)), .bool true]) ∧ Below w.heap.size w w' := by
  unfold Ha.V
  have HT := Lib.hid (fun w => rTakes_any op (h.x a) (h.x b) w)
  have b3 : (op == 3) = false := by simpa using n3
  clear n3
  have bE : (tkE op == 0) = true := by simp [hE]
  clear hE
  have HT : Hid (∀ w, Calls Tryz.prog 39 #[.int .i64 op, .int .u64 (U (h.x a)), .int .u64 (U (h.x b))] w fun e w' => e = .returned (.tuple #[.bool true, .int .i64 (tkE op)]) ∧ Below w.heap.size w w') := Lib.hid (hT ▸ HT.out)
  clear hT
  have t1 := wrapU_S v
  have t2 : IntKind.u64.wrap (U h.pc + 4) = U (h.pc + 4) := by rw [four_U]; exact add_U _ _
  have t3 := add_U h.pc v
  have t4 := add_U (h.x a) v
  have t5 := half2 (h.x a + v)
  obtain ⟨W, hW⟩ : ∃ W, (w.alloc (.cells (hC h) 25)).alloc (.cells #[.int .i64 op, .int .i64 (d : Int), .int .i64 (a : Int), .int .i64 (b : Int), .int .i64 (S v), .bool aq, .bool rl, .int .i64 p, .int .i64 q] 34) = W := ⟨_, rfl⟩
  have HW := Lib.hid hW
  clear hW
  have hs : W.heap.size = w.heap.size + 2 := by rw [← HW.out]; simp
  have c0 : W.cell? ⟨w.heap.size + 1, 0, none⟩ = some (.int .i64 op) := by rw [← HW.out]; go_simp
  have c2 : W.cell? ⟨w.heap.size + 1, 2, none⟩ = some (.int .i64 (a : Int)) := by rw [← HW.out]; go_simp
  have c3 : W.cell? ⟨w.heap.size + 1, 3, none⟩ = some (.int .i64 (b : Int)) := by rw [← HW.out]; go_simp
  have c4 : W.cell? ⟨w.heap.size + 1, 4, none⟩ = some (.int .i64 (S v)) := by rw [← HW.out]; go_simp
  have HA : HAt 25 h w.heap.size W := by rw [← HW.out]; exact (HAt.new 25 h w).alloc _
  have cp := HA.c0
  have ca := HA.cx a ha
  have cb := HA.cx b hb'
  clear HA
  have ia := index_x w.heap.size a ha
  have ib := index_x w.heap.size b hb'
  have hz1 : w.heap.size + 1 < W.heap.size := by omega
  have hz0 : w.heap.size < W.heap.size := by omega
  have HB0 : Hid (Below w.heap.size w W) := by rw [← HW.out]; exact Lib.hid (((Below.refl _ _).alloc (Nat.le_refl _) _).alloc (by simp) _)
  have HS := Lib.hid hs
  clear hs
  go_enter Tryz.func20, Tryz.ntmps20
  go_wp2_with fail
  rw [HW.out]
  go_region_held3 (fun w' => w'.cell? ⟨w.heap.size + 1, 0, none⟩ = some (.int .i64 op) ∧ w'.cell? ⟨w.heap.size + 1, 2, none⟩ = some (.int .i64 (a : Int)) ∧ w'.cell? ⟨w.heap.size + 1, 3, none⟩ = some (.int .i64 (b : Int)) ∧ w'.cell? ⟨w.heap.size + 1, 4, none⟩ = some (.int .i64 (S v)) ∧ w'.cell? ⟨w.heap.size, 0, none⟩ = some (.int .u64 (U h.pc)) ∧ w'.cell? ⟨w.heap.size, 1 + a, none⟩ = some (.int .u64 (U (h.x a))) ∧ w'.cell? ⟨w.heap.size, 1 + b, none⟩ = some (.int .u64 (U (h.x b)))) (exact ⟨c0, c2, c3, c4, cp, ca, cb⟩) ((go_at_call 39; (with_reducible refine (HT.out _).mono ?_); rintro e w2 ⟨rfl, hb⟩; obtain ⟨hc2, hf2⟩ := bcell hb; have c0 : w2.cell? ⟨w.heap.size + 1, 0, none⟩ = some (.int .i64 op) := (by rw [hc2 _ _ hz1]; exact c0); have c2 : w2.cell? ⟨w.heap.size + 1, 2, none⟩ = some (.int .i64 (a : Int)) := (by rw [hc2 _ _ hz1]; exact c2); have c3 : w2.cell? ⟨w.heap.size + 1, 3, none⟩ = some (.int .i64 (b : Int)) := (by rw [hc2 _ _ hz1]; exact c3); have c4 : w2.cell? ⟨w.heap.size + 1, 4, none⟩ = some (.int .i64 (S v)) := (by rw [hc2 _ _ hz1]; exact c4); have cp : w2.cell? ⟨w.heap.size, 0, none⟩ = some (.int .u64 (U h.pc)) := (by rw [hc2 _ _ hz0]; exact cp); have ca : w2.cell? ⟨w.heap.size, 1 + a, none⟩ = some (.int .u64 (U (h.x a))) := (by rw [hc2 _ _ hz0]; exact ca); have cb : w2.cell? ⟨w.heap.size, 1 + b, none⟩ = some (.int .u64 (U (h.x b))) := (by rw [hc2 _ _ hz0]; exact cb); have HB2 := Lib.hid hb; clear hb))
  all_goals
    clear HW HS hc2 hf2
    go_wp2_with fail
    go_ret2
    exact ⟨rfl, (HB0.out.drew).trans (HB2.out.mono (Nat.le_of_lt hz0))⟩
set_option maxHeartbeats 2000000 in
set_option maxRecDepth 100000 in
theorem target_n (h : Ha) (op : Int) (d a b : Nat) (ha : a < 32) (hb' : b < 32) (v : BitVec 64) (aq rl : Bool) (p q : Int) (n3 : op ≠ 3) (n4 : op ≠ 4) (hE : tkE op = 0) (hT : tkX op (h.x a) (h.x b) = false) (w : World) : Calls Tryz.prog 20 #[h.V, insV op d a b (S v) aq rl p q] w fun e w' => e = .returned (.tuple #[.int .u64 (U (h.pc + 4)), .bool false]) ∧ Below w.heap.size w w' := by
  unfold Ha.V
  have HT := Lib.hid (fun w => rTakes_any op (h.x a) (h.x b) w)
  have b3 : (op == 3) = false := by simpa using n3
  clear n3
  have b4 : (op == 4) = false := by simpa using n4
  clear n4
  have bE : (tkE op == 0) = true := by simp [hE]
  clear hE
  have HT : Hid (∀ w, Calls Tryz.prog 39 #[.int .i64 op, .int .u64 (U (h.x a)), .int .u64 (U (h.x b))] w fun e w' => e = .returned (.tuple #[.bool false, .int .i64 (tkE op)]) ∧ Below w.heap.size w w') := Lib.hid (hT ▸ HT.out)
  clear hT
  have t1 := wrapU_S v
  have t2 : IntKind.u64.wrap (U h.pc + 4) = U (h.pc + 4) := by rw [four_U]; exact add_U _ _
  have t3 := add_U h.pc v
  have t4 := add_U (h.x a) v
  have t5 := half2 (h.x a + v)
  obtain ⟨W, hW⟩ : ∃ W, (w.alloc (.cells (hC h) 25)).alloc (.cells #[.int .i64 op, .int .i64 (d : Int), .int .i64 (a : Int), .int .i64 (b : Int), .int .i64 (S v), .bool aq, .bool rl, .int .i64 p, .int .i64 q] 34) = W := ⟨_, rfl⟩
  have HW := Lib.hid hW
  clear hW
  have hs : W.heap.size = w.heap.size + 2 := by rw [← HW.out]; simp
  have c0 : W.cell? ⟨w.heap.size + 1, 0, none⟩ = some (.int .i64 op) := by rw [← HW.out]; go_simp
  have c2 : W.cell? ⟨w.heap.size + 1, 2, none⟩ = some (.int .i64 (a : Int)) := by rw [← HW.out]; go_simp
  have c3 : W.cell? ⟨w.heap.size + 1, 3, none⟩ = some (.int .i64 (b : Int)) := by rw [← HW.out]; go_simp
  have c4 : W.cell? ⟨w.heap.size + 1, 4, none⟩ = some (.int .i64 (S v)) := by rw [← HW.out]; go_simp
  have HA : HAt 25 h w.heap.size W := by rw [← HW.out]; exact (HAt.new 25 h w).alloc _
  have cp := HA.c0
  have ca := HA.cx a ha
  have cb := HA.cx b hb'
  clear HA
  have ia := index_x w.heap.size a ha
  have ib := index_x w.heap.size b hb'
  have hz1 : w.heap.size + 1 < W.heap.size := by omega
  have hz0 : w.heap.size < W.heap.size := by omega
  have HB0 : Hid (Below w.heap.size w W) := by rw [← HW.out]; exact Lib.hid (((Below.refl _ _).alloc (Nat.le_refl _) _).alloc (by simp) _)
  have HS := Lib.hid hs
  clear hs
  go_enter Tryz.func20, Tryz.ntmps20
  go_wp2_with fail
  rw [HW.out]
  go_region_held3 (fun w' => w'.cell? ⟨w.heap.size + 1, 0, none⟩ = some (.int .i64 op) ∧ w'.cell? ⟨w.heap.size + 1, 2, none⟩ = some (.int .i64 (a : Int)) ∧ w'.cell? ⟨w.heap.size + 1, 3, none⟩ = some (.int .i64 (b : Int)) ∧ w'.cell? ⟨w.heap.size + 1, 4, none⟩ = some (.int .i64 (S v)) ∧ w'.cell? ⟨w.heap.size, 0, none⟩ = some (.int .u64 (U h.pc)) ∧ w'.cell? ⟨w.heap.size, 1 + a, none⟩ = some (.int .u64 (U (h.x a))) ∧ w'.cell? ⟨w.heap.size, 1 + b, none⟩ = some (.int .u64 (U (h.x b)))) (exact ⟨c0, c2, c3, c4, cp, ca, cb⟩) ((go_at_call 39; (with_reducible refine (HT.out _).mono ?_); rintro e w2 ⟨rfl, hb⟩; obtain ⟨hc2, hf2⟩ := bcell hb; have c0 : w2.cell? ⟨w.heap.size + 1, 0, none⟩ = some (.int .i64 op) := (by rw [hc2 _ _ hz1]; exact c0); have c2 : w2.cell? ⟨w.heap.size + 1, 2, none⟩ = some (.int .i64 (a : Int)) := (by rw [hc2 _ _ hz1]; exact c2); have c3 : w2.cell? ⟨w.heap.size + 1, 3, none⟩ = some (.int .i64 (b : Int)) := (by rw [hc2 _ _ hz1]; exact c3); have c4 : w2.cell? ⟨w.heap.size + 1, 4, none⟩ = some (.int .i64 (S v)) := (by rw [hc2 _ _ hz1]; exact c4); have cp : w2.cell? ⟨w.heap.size, 0, none⟩ = some (.int .u64 (U h.pc)) := (by rw [hc2 _ _ hz0]; exact cp); have ca : w2.cell? ⟨w.heap.size, 1 + a, none⟩ = some (.int .u64 (U (h.x a))) := (by rw [hc2 _ _ hz0]; exact ca); have cb : w2.cell? ⟨w.heap.size, 1 + b, none⟩ = some (.int .u64 (U (h.x b))) := (by rw [hc2 _ _ hz0]; exact cb); have HB2 := Lib.hid hb; clear hb))
  all_goals
    clear HW HS hc2 hf2
    go_wp2_with fail
    go_ret2
    exact ⟨rfl, (HB0.out.drew).trans (HB2.out.mono (Nat.le_of_lt hz0))⟩
set_option maxHeartbeats 2000000 in
set_option maxRecDepth 100000 in
theorem target_4 (h : Ha) (op : Int) (d a b : Nat) (ha : a < 32) (hb' : b < 32) (v : BitVec 64) (aq rl : Bool) (p q : Int) (n3 : op ≠ 3) (h4 : op = 4) (hE : tkE op ≠ 0) (w : World) : Calls Tryz.prog 20 #[h.V, insV op d a b (S v) aq rl p q] w fun e w' => e = .returned (.tuple #[.int .u64 (U (evenV (h.x a + v))), .bool true]) ∧ Below w.heap.size w w' := by
  unfold Ha.V
  have HT := Lib.hid (fun w => rTakes_any op (h.x a) (h.x b) w)
  have b3 : (op == 3) = false := by simpa using n3
  clear n3
  have b4 : (op == 4) = true := by simp [h4]
  clear h4
  have bE : (tkE op == 0) = false := by simpa using hE
  clear hE
  have t1 := wrapU_S v
  have t2 : IntKind.u64.wrap (U h.pc + 4) = U (h.pc + 4) := by rw [four_U]; exact add_U _ _
  have t3 := add_U h.pc v
  have t4 := add_U (h.x a) v
  have t5 := half2 (h.x a + v)
  obtain ⟨W, hW⟩ : ∃ W, (w.alloc (.cells (hC h) 25)).alloc (.cells #[.int .i64 op, .int .i64 (d : Int), .int .i64 (a : Int), .int .i64 (b : Int), .int .i64 (S v), .bool aq, .bool rl, .int .i64 p, .int .i64 q] 34) = W := ⟨_, rfl⟩
  have HW := Lib.hid hW
  clear hW
  have hs : W.heap.size = w.heap.size + 2 := by rw [← HW.out]; simp
  have c0 : W.cell? ⟨w.heap.size + 1, 0, none⟩ = some (.int .i64 op) := by rw [← HW.out]; go_simp
  have c2 : W.cell? ⟨w.heap.size + 1, 2, none⟩ = some (.int .i64 (a : Int)) := by rw [← HW.out]; go_simp
  have c3 : W.cell? ⟨w.heap.size + 1, 3, none⟩ = some (.int .i64 (b : Int)) := by rw [← HW.out]; go_simp
  have c4 : W.cell? ⟨w.heap.size + 1, 4, none⟩ = some (.int .i64 (S v)) := by rw [← HW.out]; go_simp
  have HA : HAt 25 h w.heap.size W := by rw [← HW.out]; exact (HAt.new 25 h w).alloc _
  have cp := HA.c0
  have ca := HA.cx a ha
  have cb := HA.cx b hb'
  clear HA
  have ia := index_x w.heap.size a ha
  have ib := index_x w.heap.size b hb'
  have hz1 : w.heap.size + 1 < W.heap.size := by omega
  have hz0 : w.heap.size < W.heap.size := by omega
  have HB0 : Hid (Below w.heap.size w W) := by rw [← HW.out]; exact Lib.hid (((Below.refl _ _).alloc (Nat.le_refl _) _).alloc (by simp) _)
  have HS := Lib.hid hs
  clear hs
  go_enter Tryz.func20, Tryz.ntmps20
  go_wp2_with fail
  rw [HW.out]
  go_region_held3 (fun w' => w'.cell? ⟨w.heap.size + 1, 0, none⟩ = some (.int .i64 op) ∧ w'.cell? ⟨w.heap.size + 1, 2, none⟩ = some (.int .i64 (a : Int)) ∧ w'.cell? ⟨w.heap.size + 1, 3, none⟩ = some (.int .i64 (b : Int)) ∧ w'.cell? ⟨w.heap.size + 1, 4, none⟩ = some (.int .i64 (S v)) ∧ w'.cell? ⟨w.heap.size, 0, none⟩ = some (.int .u64 (U h.pc)) ∧ w'.cell? ⟨w.heap.size, 1 + a, none⟩ = some (.int .u64 (U (h.x a))) ∧ w'.cell? ⟨w.heap.size, 1 + b, none⟩ = some (.int .u64 (U (h.x b)))) (exact ⟨c0, c2, c3, c4, cp, ca, cb⟩) ((go_at_call 39; (with_reducible refine (HT.out _).mono ?_); rintro e w2 ⟨rfl, hb⟩; obtain ⟨hc2, hf2⟩ := bcell hb; have c0 : w2.cell? ⟨w.heap.size + 1, 0, none⟩ = some (.int .i64 op) := (by rw [hc2 _ _ hz1]; exact c0); have c2 : w2.cell? ⟨w.heap.size + 1, 2, none⟩ = some (.int .i64 (a : Int)) := (by rw [hc2 _ _ hz1]; exact c2); have c3 : w2.cell? ⟨w.heap.size + 1, 3, none⟩ = some (.int .i64 (b : Int)) := (by rw [hc2 _ _ hz1]; exact c3); have c4 : w2.cell? ⟨w.heap.size + 1, 4, none⟩ = some (.int .i64 (S v)) := (by rw [hc2 _ _ hz1]; exact c4); have cp : w2.cell? ⟨w.heap.size, 0, none⟩ = some (.int .u64 (U h.pc)) := (by rw [hc2 _ _ hz0]; exact cp); have ca : w2.cell? ⟨w.heap.size, 1 + a, none⟩ = some (.int .u64 (U (h.x a))) := (by rw [hc2 _ _ hz0]; exact ca); have cb : w2.cell? ⟨w.heap.size, 1 + b, none⟩ = some (.int .u64 (U (h.x b))) := (by rw [hc2 _ _ hz0]; exact cb); have HB2 := Lib.hid hb; clear hb))
  all_goals
    clear HW HS hc2 hf2
    go_wp2_with fail
    go_region_held3 (fun w' => w'.cell? ⟨w.heap.size + 1, 2, none⟩ = some (.int .i64 (a : Int)) ∧ w'.cell? ⟨w.heap.size + 1, 4, none⟩ = some (.int .i64 (S v)) ∧ w'.cell? ⟨w.heap.size, 1 + a, none⟩ = some (.int .u64 (U (h.x a)))) (exact ⟨c2, c4, ca⟩) (fail)
    all_goals
      go_wp2_with fail
      go_ret2
      exact ⟨by rw [← t5]; rfl, (HB0.out.drew).trans (HB2.out.drew.mono (Nat.le_of_lt hz0))⟩
set_option maxHeartbeats 2000000 in
set_option maxRecDepth 100000 in
theorem target_o (h : Ha) (op : Int) (d a b : Nat) (ha : a < 32) (hb' : b < 32) (v : BitVec 64) (aq rl : Bool) (p q : Int) (n3 : op ≠ 3) (n4 : op ≠ 4) (hE : tkE op ≠ 0) (w : World) : Calls Tryz.prog 20 #[h.V, insV op d a b (S v) aq rl p q] w fun e w' => e = .returned (.tuple #[.int .u64 (U (h.pc + 4)), .bool false]) ∧ Below w.heap.size w w' := by
  unfold Ha.V
  have HT := Lib.hid (fun w => rTakes_any op (h.x a) (h.x b) w)
  have b3 : (op == 3) = false := by simpa using n3
  clear n3
  have b4 : (op == 4) = false := by simpa using n4
  clear n4
  have bE : (tkE op == 0) = false := by simpa using hE
  clear hE
  have t1 := wrapU_S v
  have t2 : IntKind.u64.wrap (U h.pc + 4) = U (h.pc + 4) := by rw [four_U]; exact add_U _ _
  have t3 := add_U h.pc v
  have t4 := add_U (h.x a) v
  have t5 := half2 (h.x a + v)
  obtain ⟨W, hW⟩ : ∃ W, (w.alloc (.cells (hC h) 25)).alloc (.cells #[.int .i64 op, .int .i64 (d : Int), .int .i64 (a : Int), .int .i64 (b : Int), .int .i64 (S v), .bool aq, .bool rl, .int .i64 p, .int .i64 q] 34) = W := ⟨_, rfl⟩
  have HW := Lib.hid hW
  clear hW
  have hs : W.heap.size = w.heap.size + 2 := by rw [← HW.out]; simp
  have c0 : W.cell? ⟨w.heap.size + 1, 0, none⟩ = some (.int .i64 op) := by rw [← HW.out]; go_simp
  have c2 : W.cell? ⟨w.heap.size + 1, 2, none⟩ = some (.int .i64 (a : Int)) := by rw [← HW.out]; go_simp
  have c3 : W.cell? ⟨w.heap.size + 1, 3, none⟩ = some (.int .i64 (b : Int)) := by rw [← HW.out]; go_simp
  have c4 : W.cell? ⟨w.heap.size + 1, 4, none⟩ = some (.int .i64 (S v)) := by rw [← HW.out]; go_simp
  have HA : HAt 25 h w.heap.size W := by rw [← HW.out]; exact (HAt.new 25 h w).alloc _
  have cp := HA.c0
  have ca := HA.cx a ha
  have cb := HA.cx b hb'
  clear HA
  have ia := index_x w.heap.size a ha
  have ib := index_x w.heap.size b hb'
  have hz1 : w.heap.size + 1 < W.heap.size := by omega
  have hz0 : w.heap.size < W.heap.size := by omega
  have HB0 : Hid (Below w.heap.size w W) := by rw [← HW.out]; exact Lib.hid (((Below.refl _ _).alloc (Nat.le_refl _) _).alloc (by simp) _)
  have HS := Lib.hid hs
  clear hs
  go_enter Tryz.func20, Tryz.ntmps20
  go_wp2_with fail
  rw [HW.out]
  go_region_held3 (fun w' => w'.cell? ⟨w.heap.size + 1, 0, none⟩ = some (.int .i64 op) ∧ w'.cell? ⟨w.heap.size + 1, 2, none⟩ = some (.int .i64 (a : Int)) ∧ w'.cell? ⟨w.heap.size + 1, 3, none⟩ = some (.int .i64 (b : Int)) ∧ w'.cell? ⟨w.heap.size + 1, 4, none⟩ = some (.int .i64 (S v)) ∧ w'.cell? ⟨w.heap.size, 0, none⟩ = some (.int .u64 (U h.pc)) ∧ w'.cell? ⟨w.heap.size, 1 + a, none⟩ = some (.int .u64 (U (h.x a))) ∧ w'.cell? ⟨w.heap.size, 1 + b, none⟩ = some (.int .u64 (U (h.x b)))) (exact ⟨c0, c2, c3, c4, cp, ca, cb⟩) ((go_at_call 39; (with_reducible refine (HT.out _).mono ?_); rintro e w2 ⟨rfl, hb⟩; obtain ⟨hc2, hf2⟩ := bcell hb; have c0 : w2.cell? ⟨w.heap.size + 1, 0, none⟩ = some (.int .i64 op) := (by rw [hc2 _ _ hz1]; exact c0); have c2 : w2.cell? ⟨w.heap.size + 1, 2, none⟩ = some (.int .i64 (a : Int)) := (by rw [hc2 _ _ hz1]; exact c2); have c3 : w2.cell? ⟨w.heap.size + 1, 3, none⟩ = some (.int .i64 (b : Int)) := (by rw [hc2 _ _ hz1]; exact c3); have c4 : w2.cell? ⟨w.heap.size + 1, 4, none⟩ = some (.int .i64 (S v)) := (by rw [hc2 _ _ hz1]; exact c4); have cp : w2.cell? ⟨w.heap.size, 0, none⟩ = some (.int .u64 (U h.pc)) := (by rw [hc2 _ _ hz0]; exact cp); have ca : w2.cell? ⟨w.heap.size, 1 + a, none⟩ = some (.int .u64 (U (h.x a))) := (by rw [hc2 _ _ hz0]; exact ca); have cb : w2.cell? ⟨w.heap.size, 1 + b, none⟩ = some (.int .u64 (U (h.x b))) := (by rw [hc2 _ _ hz0]; exact cb); have HB2 := Lib.hid hb; clear hb))
  all_goals
    clear HW HS hc2 hf2
    go_wp2_with fail
    go_ret2
    exact ⟨rfl, (HB0.out.drew).trans (HB2.out.mono (Nat.le_of_lt hz0))⟩
theorem target5_any (h : Ha) (op : Int) (d a b : Nat) (ha : a < 32) (hb : b < 32) (v : BitVec 64) (aq rl : Bool) (p q : Int) (w : World) : Calls Tryz.prog 20 #[h.V, insV op d a b (S v) aq rl p q] w fun e w' => e = .returned (.tuple #[.int .u64 (U (toH h op a b v)), .bool (jumpH h op a b)]) ∧ Below w.heap.size w w' := by
  unfold toH jumpH
  by_cases h3 : op = 3
  · rw [if_neg (by omega), if_pos (Or.inl h3), decide_eq_true (Or.inr h3 : op = 4 ∨ op = 3), Bool.true_or]
    exact target_3 h op d a b ha hb v aq rl p q h3 w
  rcases tk_ops op (h.x a) (h.x b) with ⟨hE, _, n4⟩ | ⟨hE, hT⟩
  · rw [if_neg n4, decide_eq_false (by omega), Bool.false_or]
    cases hT : tkX op (h.x a) (h.x b) with
    | true => rw [if_pos (Or.inr rfl)]; exact target_t h op d a b ha hb v aq rl p q h3 hE hT w
    | false => rw [if_neg (by simp [h3])]; exact target_n h op d a b ha hb v aq rl p q h3 n4 hE hT w
  · by_cases h4 : op = 4
    · rw [if_pos h4, decide_eq_true (Or.inl h4), Bool.true_or]
      exact target_4 h op d a b ha hb v aq rl p q h3 h4 hE w
    · rw [if_neg h4, decide_eq_false (by omega), Bool.false_or, hT, if_neg (by simp [h3])]
      exact target_o h op d a b ha hb v aq rl p q h3 h4 hE w
end Go.Proofs.YtdiacnjkffdegaaGreat
