/-
  Proved here: the law HartJumps returns true, by cases of what the instruction is. Condition: as said.
-/
import Derived.Test.YtlilbfjicgchkaaGreatHartJumps
import Derived.Deep.QuietTactic
import Derived.BigQuiet
namespace Go.Proofs.YtlilbfjicgchkaaGreat
open Go.RowKit
set_option maxHeartbeats 4000000 in
set_option maxRecDepth 100000 in
theorem jumps_taken (op : Int) (d a b : Nat) (ha : a < 32) (hb' : b < 32) (v : BitVec 64) (aq rl : Bool) (p q : Int) (found : BitVec 64) (won : Bool) (h x : Ha) (w : World)
    (HC : Hid (∀ w, Calls Tryz.prog 7 #[h.V] w fun e w' => e = .returned (.int .i64 0) ∧ Below w.heap.size w w'))
    (HR : Hid (∀ w, Calls Tryz.prog 8 #[insV op d a b (S v) aq rl p q] w fun e w' => e = .returned (.int .i64 0) ∧ Below w.heap.size w w'))
    (HX : Hid (∀ w, Calls Tryz.prog 12 #[h.V, insV op d a b (S v) aq rl p q, .int .u64 (U found), .bool won] w fun e w' => e = .returned (.tuple #[x.V, .int .i64 0]) ∧ Below w.heap.size w w'))
    (he0 : h.e = 0) (n1 : (op == 3) = false) (n2 : (op == 4) = false) (htx : tkX op (h.x a) (h.x b) = true) (hte : tkE op = 0) (hal : ((U (h.pc + v)).tmod 4 == 0) = true) (xe0 : x.e = 0) (xp0 : x.pc = h.pc + v) :
    Calls Tryz.prog 5 #[h.V, insV op d a b (S v) aq rl p q, .int .u64 (U found), .bool won] w fun e w' => e = .returned (.bool true) ∧ Below w.heap.size w w' := by
  have HS0 := Lib.hid (StJ.start h #[.int .i64 op, .int .i64 (d : Int), .int .i64 (a : Int), .int .i64 (b : Int), .int .i64 (S v), .bool aq, .bool rl, .int .i64 p, .int .i64 q] w)
  have t1 := wrapU_S v
  have t2 : IntKind.u64.wrap (U h.pc + 4) = U (h.pc + 4) := by rw [four_U]; exact add_U _ _
  have t3 := add_U h.pc v
  have t4 := add_U (h.x a) v
  have t5 : bits .andNot .u64 (U (h.x a + v)) 1 = U (evenV (h.x a + v)) := by rw [one_U]; exact andNot_U _ _
  have ia := fun n => index_x n a ha
  have ib := fun n => index_x n b hb'
  have HE0 := Lib.hid he0
  clear he0
  have HT := Lib.hid (fun w => (show Calls Tryz.prog 15 #[.int .i64 op, .int .u64 (U (h.x a)), .int .u64 (U (h.x b))] w fun e w' => e = .returned (.tuple #[.bool (tkX op (h.x a) (h.x b)), .int .i64 (tkE op)]) ∧ Below w.heap.size w w' from rTakes_any op (h.x a) (h.x b) w))
  rw [htx, hte] at HT
  clear htx hte
  have XE := Lib.hid (And.intro xe0 xp0)
  clear xe0 xp0
  go_enter Tryz.func5, Tryz.ntmps5
  go_upto_region 9 with (first | (go_at_call 6; (with_reducible refine (lives_any _).mono ?_); rintro e w1 ⟨rfl, hb⟩; have HS1 := Lib.hid (HS0.out.on hb); clear hb) | (refine load_ha row_hart HS1.out.1 rfl _ rfl rfl ?_) | (go_at_call 7; (with_reducible refine (HC.out _).mono ?_); rintro e w2 ⟨rfl, hb⟩; have HS2 := Lib.hid (HS1.out.on hb); clear hb; have hz2 := HS2.out.2.2.2; have hy2 : w.heap.size < w2.heap.size := Nat.lt_of_succ_lt hz2; have c0 := HS2.out.cell 0; have c1 := HS2.out.cell 1; have c2 := HS2.out.cell 2; have c3 := HS2.out.cell 3; have c4 := HS2.out.cell 4; have c5 := HS2.out.cell 5; have c6 := HS2.out.cell 6; have c7 := HS2.out.cell 7; have c8 := HS2.out.cell 8; have hp := HS2.out.1.c0; have he := HS2.out.1.c33; rw [HE0.out] at he; have ca := HS2.out.1.cx a ha; have cb := HS2.out.1.cx b hb'; simp only [List.getElem?_toArray, List.getElem?_cons_zero, List.getElem?_cons_succ] at c0 c1 c2 c3 c4 c5 c6 c7 c8) | (go_at_call 8; (with_reducible refine (HR.out _).mono ?_); rintro e w3 ⟨rfl, hb⟩; have HS3 := Lib.hid (HS2.out.on hb); clear hb; have hz3 := HS3.out.2.2.2; have hy3 : w.heap.size < w3.heap.size := Nat.lt_of_succ_lt hz3; have c0 := HS3.out.cell 0; have c1 := HS3.out.cell 1; have c2 := HS3.out.cell 2; have c3 := HS3.out.cell 3; have c4 := HS3.out.cell 4; have c5 := HS3.out.cell 5; have c6 := HS3.out.cell 6; have c7 := HS3.out.cell 7; have c8 := HS3.out.cell 8; have hp := HS3.out.1.c0; have he := HS3.out.1.c33; rw [HE0.out] at he; have ca := HS3.out.1.cx a ha; have cb := HS3.out.1.cx b hb'; simp only [List.getElem?_toArray, List.getElem?_cons_zero, List.getElem?_cons_succ] at c0 c1 c2 c3 c4 c5 c6 c7 c8) | (refine load_ha row_hart HS3.out.1 rfl _ rfl rfl ?_) | (go_at_call 12; (with_reducible refine (HX.out _).mono ?_); rintro e w4 ⟨rfl, hb⟩; have HS4 := Lib.hid (HS3.out.on hb); clear hb; have hz4 := HS4.out.2.2.2; have hy4 : w.heap.size < w4.heap.size := Nat.lt_of_succ_lt hz4; have c0 := HS4.out.cell 0; have c1 := HS4.out.cell 1; have c2 := HS4.out.cell 2; have c3 := HS4.out.cell 3; have c4 := HS4.out.cell 4; have c5 := HS4.out.cell 5; have c6 := HS4.out.cell 6; have c7 := HS4.out.cell 7; have c8 := HS4.out.cell 8; have hp := HS4.out.1.c0; have he := HS4.out.1.c33; rw [HE0.out] at he; have ca := HS4.out.1.cx a ha; have cb := HS4.out.1.cx b hb'; simp only [List.getElem?_toArray, List.getElem?_cons_zero, List.getElem?_cons_succ] at c0 c1 c2 c3 c4 c5 c6 c7 c8) | (refine store_ha row_hart x (HAt.zero 25 w4) rfl _ _ rfl rfl rfl ?_; intro w5 g3 go3 gb3 gz3; have zx : w5.heap.size = w4.heap.size + 1 := (by simpa using gz3); have HX5 := Lib.hid g3; have HS5 := Lib.hid (HS4.out.on (((Below.refl _ _).alloc (Nat.le_refl _) _).trans gb3)); clear g3 go3 gb3 gz3; have hz5 := HS5.out.2.2.2; have hy5 : w.heap.size < w5.heap.size := Nat.lt_of_succ_lt hz5; have c0 := HS5.out.cell 0; have c1 := HS5.out.cell 1; have c2 := HS5.out.cell 2; have c3 := HS5.out.cell 3; have c4 := HS5.out.cell 4; have c5 := HS5.out.cell 5; have c6 := HS5.out.cell 6; have c7 := HS5.out.cell 7; have c8 := HS5.out.cell 8; have hp := HS5.out.1.c0; have he := HS5.out.1.c33; rw [HE0.out] at he; have ca := HS5.out.1.cx a ha; have cb := HS5.out.1.cx b hb'; simp only [List.getElem?_toArray, List.getElem?_cons_zero, List.getElem?_cons_succ] at c0 c1 c2 c3 c4 c5 c6 c7 c8))
  go_region_held3 (fun w' => w'.cell? ⟨w.heap.size + 1, 0, none⟩ = some (.int .i64 op) ∧ w'.cell? ⟨w.heap.size + 1, 2, none⟩ = some (.int .i64 (a : Int)) ∧ w'.cell? ⟨w.heap.size + 1, 3, none⟩ = some (.int .i64 (b : Int)) ∧ w'.cell? ⟨w.heap.size, 1 + a, none⟩ = some (.int .u64 (U (h.x a))) ∧ w'.cell? ⟨w.heap.size, 1 + b, none⟩ = some (.int .u64 (U (h.x b)))) (exact ⟨c0, c2, c3, ca, cb⟩) ((go_at_call 15; (with_reducible refine (HT.out _).mono ?_); rintro e w6 ⟨rfl, hb⟩; have HS6 := Lib.hid ((StJ.drew HS5.out).on hb); have HX6 := Lib.hid (HAt.below (w := World.drew w5) HX5.out hb (by show w4.heap.size < w5.heap.size; omega)); clear hb; have hz6 := HS6.out.2.2.2; have hy6 : w.heap.size < w6.heap.size := Nat.lt_of_succ_lt hz6; have c0 := HS6.out.cell 0; have c1 := HS6.out.cell 1; have c2 := HS6.out.cell 2; have c3 := HS6.out.cell 3; have c4 := HS6.out.cell 4; have c5 := HS6.out.cell 5; have c6 := HS6.out.cell 6; have c7 := HS6.out.cell 7; have c8 := HS6.out.cell 8; have hp := HS6.out.1.c0; have he := HS6.out.1.c33; rw [HE0.out] at he; have ca := HS6.out.1.cx a ha; have cb := HS6.out.1.cx b hb'; simp only [List.getElem?_toArray, List.getElem?_cons_zero, List.getElem?_cons_succ] at c0 c1 c2 c3 c4 c5 c6 c7 c8; have xp := HX6.out.c0; have xe := HX6.out.c33))
  all_goals
    rw [XE.out.1] at xe
    rw [XE.out.2] at xp
    go_wp2_with fail
  all_goals go_quiet (fail)
  all_goals go_wp2_with fail
  all_goals
    go_ret
    exact ⟨rfl, below_drewN HS6.out.2.2.1 _⟩
set_option maxHeartbeats 4000000 in
set_option maxRecDepth 100000 in
theorem jumps_takenf (op : Int) (d a b : Nat) (ha : a < 32) (hb' : b < 32) (v : BitVec 64) (aq rl : Bool) (p q : Int) (found : BitVec 64) (won : Bool) (h x : Ha) (w : World)
    (HC : Hid (∀ w, Calls Tryz.prog 7 #[h.V] w fun e w' => e = .returned (.int .i64 0) ∧ Below w.heap.size w w'))
    (HR : Hid (∀ w, Calls Tryz.prog 8 #[insV op d a b (S v) aq rl p q] w fun e w' => e = .returned (.int .i64 0) ∧ Below w.heap.size w w'))
    (HX : Hid (∀ w, Calls Tryz.prog 12 #[h.V, insV op d a b (S v) aq rl p q, .int .u64 (U found), .bool won] w fun e w' => e = .returned (.tuple #[x.V, .int .i64 0]) ∧ Below w.heap.size w w'))
    (he0 : h.e = 0) (n1 : (op == 3) = false) (n2 : (op == 4) = false) (htx : tkX op (h.x a) (h.x b) = true) (hte : tkE op = 0) (hal : ((U (h.pc + v)).tmod 4 == 0) = false) (xe0 : x.e = 6) (xp0 : x.pc = h.pc) (xx : x.xs = h.xs) :
    Calls Tryz.prog 5 #[h.V, insV op d a b (S v) aq rl p q, .int .u64 (U found), .bool won] w fun e w' => e = .returned (.bool true) ∧ Below w.heap.size w w' := by
  have HS0 := Lib.hid (StJ.start h #[.int .i64 op, .int .i64 (d : Int), .int .i64 (a : Int), .int .i64 (b : Int), .int .i64 (S v), .bool aq, .bool rl, .int .i64 p, .int .i64 q] w)
  have t1 := wrapU_S v
  have t2 : IntKind.u64.wrap (U h.pc + 4) = U (h.pc + 4) := by rw [four_U]; exact add_U _ _
  have t3 := add_U h.pc v
  have t4 := add_U (h.x a) v
  have t5 : bits .andNot .u64 (U (h.x a + v)) 1 = U (evenV (h.x a + v)) := by rw [one_U]; exact andNot_U _ _
  have ia := fun n => index_x n a ha
  have ib := fun n => index_x n b hb'
  have HE0 := Lib.hid he0
  clear he0
  have HT := Lib.hid (fun w => (show Calls Tryz.prog 15 #[.int .i64 op, .int .u64 (U (h.x a)), .int .u64 (U (h.x b))] w fun e w' => e = .returned (.tuple #[.bool (tkX op (h.x a) (h.x b)), .int .i64 (tkE op)]) ∧ Below w.heap.size w w' from rTakes_any op (h.x a) (h.x b) w))
  rw [htx, hte] at HT
  clear htx hte
  have XX := Lib.hid xx
  have EQ := eq_arr h.xs h.len
  clear xx
  have XE := Lib.hid (And.intro xe0 xp0)
  clear xe0 xp0
  go_enter Tryz.func5, Tryz.ntmps5
  go_upto_region 9 with (first | (go_at_call 6; (with_reducible refine (lives_any _).mono ?_); rintro e w1 ⟨rfl, hb⟩; have HS1 := Lib.hid (HS0.out.on hb); clear hb) | (refine load_ha row_hart HS1.out.1 rfl _ rfl rfl ?_) | (go_at_call 7; (with_reducible refine (HC.out _).mono ?_); rintro e w2 ⟨rfl, hb⟩; have HS2 := Lib.hid (HS1.out.on hb); clear hb; have hz2 := HS2.out.2.2.2; have hy2 : w.heap.size < w2.heap.size := Nat.lt_of_succ_lt hz2; have c0 := HS2.out.cell 0; have c1 := HS2.out.cell 1; have c2 := HS2.out.cell 2; have c3 := HS2.out.cell 3; have c4 := HS2.out.cell 4; have c5 := HS2.out.cell 5; have c6 := HS2.out.cell 6; have c7 := HS2.out.cell 7; have c8 := HS2.out.cell 8; have hp := HS2.out.1.c0; have he := HS2.out.1.c33; rw [HE0.out] at he; have ca := HS2.out.1.cx a ha; have cb := HS2.out.1.cx b hb'; simp only [List.getElem?_toArray, List.getElem?_cons_zero, List.getElem?_cons_succ] at c0 c1 c2 c3 c4 c5 c6 c7 c8) | (go_at_call 8; (with_reducible refine (HR.out _).mono ?_); rintro e w3 ⟨rfl, hb⟩; have HS3 := Lib.hid (HS2.out.on hb); clear hb; have hz3 := HS3.out.2.2.2; have hy3 : w.heap.size < w3.heap.size := Nat.lt_of_succ_lt hz3; have c0 := HS3.out.cell 0; have c1 := HS3.out.cell 1; have c2 := HS3.out.cell 2; have c3 := HS3.out.cell 3; have c4 := HS3.out.cell 4; have c5 := HS3.out.cell 5; have c6 := HS3.out.cell 6; have c7 := HS3.out.cell 7; have c8 := HS3.out.cell 8; have hp := HS3.out.1.c0; have he := HS3.out.1.c33; rw [HE0.out] at he; have ca := HS3.out.1.cx a ha; have cb := HS3.out.1.cx b hb'; simp only [List.getElem?_toArray, List.getElem?_cons_zero, List.getElem?_cons_succ] at c0 c1 c2 c3 c4 c5 c6 c7 c8) | (refine load_ha row_hart HS3.out.1 rfl _ rfl rfl ?_) | (go_at_call 12; (with_reducible refine (HX.out _).mono ?_); rintro e w4 ⟨rfl, hb⟩; have HS4 := Lib.hid (HS3.out.on hb); clear hb; have hz4 := HS4.out.2.2.2; have hy4 : w.heap.size < w4.heap.size := Nat.lt_of_succ_lt hz4; have c0 := HS4.out.cell 0; have c1 := HS4.out.cell 1; have c2 := HS4.out.cell 2; have c3 := HS4.out.cell 3; have c4 := HS4.out.cell 4; have c5 := HS4.out.cell 5; have c6 := HS4.out.cell 6; have c7 := HS4.out.cell 7; have c8 := HS4.out.cell 8; have hp := HS4.out.1.c0; have he := HS4.out.1.c33; rw [HE0.out] at he; have ca := HS4.out.1.cx a ha; have cb := HS4.out.1.cx b hb'; simp only [List.getElem?_toArray, List.getElem?_cons_zero, List.getElem?_cons_succ] at c0 c1 c2 c3 c4 c5 c6 c7 c8) | (refine store_ha row_hart x (HAt.zero 25 w4) rfl _ _ rfl rfl rfl ?_; intro w5 g3 go3 gb3 gz3; have zx : w5.heap.size = w4.heap.size + 1 := (by simpa using gz3); have HX5 := Lib.hid g3; have HS5 := Lib.hid (HS4.out.on (((Below.refl _ _).alloc (Nat.le_refl _) _).trans gb3)); clear g3 go3 gb3 gz3; have hz5 := HS5.out.2.2.2; have hy5 : w.heap.size < w5.heap.size := Nat.lt_of_succ_lt hz5; have c0 := HS5.out.cell 0; have c1 := HS5.out.cell 1; have c2 := HS5.out.cell 2; have c3 := HS5.out.cell 3; have c4 := HS5.out.cell 4; have c5 := HS5.out.cell 5; have c6 := HS5.out.cell 6; have c7 := HS5.out.cell 7; have c8 := HS5.out.cell 8; have hp := HS5.out.1.c0; have he := HS5.out.1.c33; rw [HE0.out] at he; have ca := HS5.out.1.cx a ha; have cb := HS5.out.1.cx b hb'; simp only [List.getElem?_toArray, List.getElem?_cons_zero, List.getElem?_cons_succ] at c0 c1 c2 c3 c4 c5 c6 c7 c8))
  go_region_held3 (fun w' => w'.cell? ⟨w.heap.size + 1, 0, none⟩ = some (.int .i64 op) ∧ w'.cell? ⟨w.heap.size + 1, 2, none⟩ = some (.int .i64 (a : Int)) ∧ w'.cell? ⟨w.heap.size + 1, 3, none⟩ = some (.int .i64 (b : Int)) ∧ w'.cell? ⟨w.heap.size, 1 + a, none⟩ = some (.int .u64 (U (h.x a))) ∧ w'.cell? ⟨w.heap.size, 1 + b, none⟩ = some (.int .u64 (U (h.x b)))) (exact ⟨c0, c2, c3, ca, cb⟩) ((go_at_call 15; (with_reducible refine (HT.out _).mono ?_); rintro e w6 ⟨rfl, hb⟩; have HS6 := Lib.hid ((StJ.drew HS5.out).on hb); have HX6 := Lib.hid (HAt.below (w := World.drew w5) HX5.out hb (by show w4.heap.size < w5.heap.size; omega)); clear hb; have hz6 := HS6.out.2.2.2; have hy6 : w.heap.size < w6.heap.size := Nat.lt_of_succ_lt hz6; have c0 := HS6.out.cell 0; have c1 := HS6.out.cell 1; have c2 := HS6.out.cell 2; have c3 := HS6.out.cell 3; have c4 := HS6.out.cell 4; have c5 := HS6.out.cell 5; have c6 := HS6.out.cell 6; have c7 := HS6.out.cell 7; have c8 := HS6.out.cell 8; have hp := HS6.out.1.c0; have he := HS6.out.1.c33; rw [HE0.out] at he; have ca := HS6.out.1.cx a ha; have cb := HS6.out.1.cx b hb'; simp only [List.getElem?_toArray, List.getElem?_cons_zero, List.getElem?_cons_succ] at c0 c1 c2 c3 c4 c5 c6 c7 c8; have xp := HX6.out.c0; have xe := HX6.out.c33))
  all_goals
    rw [XE.out.1] at xe
    rw [XE.out.2] at xp
    go_wp2_with (first | (refine load_arr HX6.out (by kernel_rfl) _ rfl rfl ?_; rw [XX.out]) | (refine load_arr HS6.out.1 (by kernel_rfl) _ rfl rfl ?_))
  all_goals
    go_ret
    exact ⟨rfl, HS6.out.2.2.1⟩
set_option maxHeartbeats 4000000 in
set_option maxRecDepth 100000 in
theorem jumps_jalf (op : Int) (d a b : Nat) (ha : a < 32) (hb' : b < 32) (v : BitVec 64) (aq rl : Bool) (p q : Int) (found : BitVec 64) (won : Bool) (h x : Ha) (w : World)
    (HC : Hid (∀ w, Calls Tryz.prog 7 #[h.V] w fun e w' => e = .returned (.int .i64 0) ∧ Below w.heap.size w w'))
    (HR : Hid (∀ w, Calls Tryz.prog 8 #[insV op d a b (S v) aq rl p q] w fun e w' => e = .returned (.int .i64 0) ∧ Below w.heap.size w w'))
    (HX : Hid (∀ w, Calls Tryz.prog 12 #[h.V, insV op d a b (S v) aq rl p q, .int .u64 (U found), .bool won] w fun e w' => e = .returned (.tuple #[x.V, .int .i64 0]) ∧ Below w.heap.size w w'))
    (he0 : h.e = 0) (n1 : (op == 3) = true) (n2 : (op == 4) = false) (htx : tkX op (h.x a) (h.x b) = false) (hte : tkE op = 2) (hal : ((U (h.pc + v)).tmod 4 == 0) = false) (xe0 : x.e = 6) (xp0 : x.pc = h.pc) (xx : x.xs = h.xs) :
    Calls Tryz.prog 5 #[h.V, insV op d a b (S v) aq rl p q, .int .u64 (U found), .bool won] w fun e w' => e = .returned (.bool true) ∧ Below w.heap.size w w' := by
  have HS0 := Lib.hid (StJ.start h #[.int .i64 op, .int .i64 (d : Int), .int .i64 (a : Int), .int .i64 (b : Int), .int .i64 (S v), .bool aq, .bool rl, .int .i64 p, .int .i64 q] w)
  have t1 := wrapU_S v
  have t2 : IntKind.u64.wrap (U h.pc + 4) = U (h.pc + 4) := by rw [four_U]; exact add_U _ _
  have t3 := add_U h.pc v
  have t4 := add_U (h.x a) v
  have t5 : bits .andNot .u64 (U (h.x a + v)) 1 = U (evenV (h.x a + v)) := by rw [one_U]; exact andNot_U _ _
  have ia := fun n => index_x n a ha
  have ib := fun n => index_x n b hb'
  have HE0 := Lib.hid he0
  clear he0
  have HT := Lib.hid (fun w => (show Calls Tryz.prog 15 #[.int .i64 op, .int .u64 (U (h.x a)), .int .u64 (U (h.x b))] w fun e w' => e = .returned (.tuple #[.bool (tkX op (h.x a) (h.x b)), .int .i64 (tkE op)]) ∧ Below w.heap.size w w' from rTakes_any op (h.x a) (h.x b) w))
  rw [htx, hte] at HT
  clear htx hte
  have XX := Lib.hid xx
  have EQ := eq_arr h.xs h.len
  clear xx
  have XE := Lib.hid (And.intro xe0 xp0)
  clear xe0 xp0
  go_enter Tryz.func5, Tryz.ntmps5
  go_upto_region 9 with (first | (go_at_call 6; (with_reducible refine (lives_any _).mono ?_); rintro e w1 ⟨rfl, hb⟩; have HS1 := Lib.hid (HS0.out.on hb); clear hb) | (refine load_ha row_hart HS1.out.1 rfl _ rfl rfl ?_) | (go_at_call 7; (with_reducible refine (HC.out _).mono ?_); rintro e w2 ⟨rfl, hb⟩; have HS2 := Lib.hid (HS1.out.on hb); clear hb; have hz2 := HS2.out.2.2.2; have hy2 : w.heap.size < w2.heap.size := Nat.lt_of_succ_lt hz2; have c0 := HS2.out.cell 0; have c1 := HS2.out.cell 1; have c2 := HS2.out.cell 2; have c3 := HS2.out.cell 3; have c4 := HS2.out.cell 4; have c5 := HS2.out.cell 5; have c6 := HS2.out.cell 6; have c7 := HS2.out.cell 7; have c8 := HS2.out.cell 8; have hp := HS2.out.1.c0; have he := HS2.out.1.c33; rw [HE0.out] at he; have ca := HS2.out.1.cx a ha; have cb := HS2.out.1.cx b hb'; simp only [List.getElem?_toArray, List.getElem?_cons_zero, List.getElem?_cons_succ] at c0 c1 c2 c3 c4 c5 c6 c7 c8) | (go_at_call 8; (with_reducible refine (HR.out _).mono ?_); rintro e w3 ⟨rfl, hb⟩; have HS3 := Lib.hid (HS2.out.on hb); clear hb; have hz3 := HS3.out.2.2.2; have hy3 : w.heap.size < w3.heap.size := Nat.lt_of_succ_lt hz3; have c0 := HS3.out.cell 0; have c1 := HS3.out.cell 1; have c2 := HS3.out.cell 2; have c3 := HS3.out.cell 3; have c4 := HS3.out.cell 4; have c5 := HS3.out.cell 5; have c6 := HS3.out.cell 6; have c7 := HS3.out.cell 7; have c8 := HS3.out.cell 8; have hp := HS3.out.1.c0; have he := HS3.out.1.c33; rw [HE0.out] at he; have ca := HS3.out.1.cx a ha; have cb := HS3.out.1.cx b hb'; simp only [List.getElem?_toArray, List.getElem?_cons_zero, List.getElem?_cons_succ] at c0 c1 c2 c3 c4 c5 c6 c7 c8) | (refine load_ha row_hart HS3.out.1 rfl _ rfl rfl ?_) | (go_at_call 12; (with_reducible refine (HX.out _).mono ?_); rintro e w4 ⟨rfl, hb⟩; have HS4 := Lib.hid (HS3.out.on hb); clear hb; have hz4 := HS4.out.2.2.2; have hy4 : w.heap.size < w4.heap.size := Nat.lt_of_succ_lt hz4; have c0 := HS4.out.cell 0; have c1 := HS4.out.cell 1; have c2 := HS4.out.cell 2; have c3 := HS4.out.cell 3; have c4 := HS4.out.cell 4; have c5 := HS4.out.cell 5; have c6 := HS4.out.cell 6; have c7 := HS4.out.cell 7; have c8 := HS4.out.cell 8; have hp := HS4.out.1.c0; have he := HS4.out.1.c33; rw [HE0.out] at he; have ca := HS4.out.1.cx a ha; have cb := HS4.out.1.cx b hb'; simp only [List.getElem?_toArray, List.getElem?_cons_zero, List.getElem?_cons_succ] at c0 c1 c2 c3 c4 c5 c6 c7 c8) | (refine store_ha row_hart x (HAt.zero 25 w4) rfl _ _ rfl rfl rfl ?_; intro w5 g3 go3 gb3 gz3; have zx : w5.heap.size = w4.heap.size + 1 := (by simpa using gz3); have HX5 := Lib.hid g3; have HS5 := Lib.hid (HS4.out.on (((Below.refl _ _).alloc (Nat.le_refl _) _).trans gb3)); clear g3 go3 gb3 gz3; have hz5 := HS5.out.2.2.2; have hy5 : w.heap.size < w5.heap.size := Nat.lt_of_succ_lt hz5; have c0 := HS5.out.cell 0; have c1 := HS5.out.cell 1; have c2 := HS5.out.cell 2; have c3 := HS5.out.cell 3; have c4 := HS5.out.cell 4; have c5 := HS5.out.cell 5; have c6 := HS5.out.cell 6; have c7 := HS5.out.cell 7; have c8 := HS5.out.cell 8; have hp := HS5.out.1.c0; have he := HS5.out.1.c33; rw [HE0.out] at he; have ca := HS5.out.1.cx a ha; have cb := HS5.out.1.cx b hb'; simp only [List.getElem?_toArray, List.getElem?_cons_zero, List.getElem?_cons_succ] at c0 c1 c2 c3 c4 c5 c6 c7 c8))
  go_region_held3 (fun w' => w'.cell? ⟨w.heap.size + 1, 0, none⟩ = some (.int .i64 op) ∧ w'.cell? ⟨w.heap.size + 1, 2, none⟩ = some (.int .i64 (a : Int)) ∧ w'.cell? ⟨w.heap.size + 1, 3, none⟩ = some (.int .i64 (b : Int)) ∧ w'.cell? ⟨w.heap.size, 1 + a, none⟩ = some (.int .u64 (U (h.x a))) ∧ w'.cell? ⟨w.heap.size, 1 + b, none⟩ = some (.int .u64 (U (h.x b)))) (exact ⟨c0, c2, c3, ca, cb⟩) ((go_at_call 15; (with_reducible refine (HT.out _).mono ?_); rintro e w6 ⟨rfl, hb⟩; have HS6 := Lib.hid ((StJ.drew HS5.out).on hb); have HX6 := Lib.hid (HAt.below (w := World.drew w5) HX5.out hb (by show w4.heap.size < w5.heap.size; omega)); clear hb; have hz6 := HS6.out.2.2.2; have hy6 : w.heap.size < w6.heap.size := Nat.lt_of_succ_lt hz6; have c0 := HS6.out.cell 0; have c1 := HS6.out.cell 1; have c2 := HS6.out.cell 2; have c3 := HS6.out.cell 3; have c4 := HS6.out.cell 4; have c5 := HS6.out.cell 5; have c6 := HS6.out.cell 6; have c7 := HS6.out.cell 7; have c8 := HS6.out.cell 8; have hp := HS6.out.1.c0; have he := HS6.out.1.c33; rw [HE0.out] at he; have ca := HS6.out.1.cx a ha; have cb := HS6.out.1.cx b hb'; simp only [List.getElem?_toArray, List.getElem?_cons_zero, List.getElem?_cons_succ] at c0 c1 c2 c3 c4 c5 c6 c7 c8; have xp := HX6.out.c0; have xe := HX6.out.c33))
  all_goals
    rw [XE.out.1] at xe
    rw [XE.out.2] at xp
    go_wp2_with (first | (refine load_arr HX6.out (by kernel_rfl) _ rfl rfl ?_; rw [XX.out]) | (refine load_arr HS6.out.1 (by kernel_rfl) _ rfl rfl ?_))
  all_goals
    go_ret
    exact ⟨rfl, HS6.out.2.2.1⟩
end Go.Proofs.YtlilbfjicgchkaaGreat
