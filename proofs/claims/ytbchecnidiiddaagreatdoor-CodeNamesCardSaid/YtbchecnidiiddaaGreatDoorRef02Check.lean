/-
  Proved here: the document's own Check (layer 2) refuses just the instructions that may not be; it writes nothing that was there. Condition: the number is of 64 bits.
-/
import Derived.Test.YtbchecnidiiddaaGreatDoorRef02Plain
import Derived.Deep.RegionHeld3
namespace Go.Proofs.YtbchecnidiiddaaGreatDoor
open Go.RowKit
theorem neq_ins (a0 a1 a2 a3 a4 : Int) (a5 a6 : Bool) (a7 a8 b0 b1 b2 b3 b4 : Int) (b5 b6 : Bool) (b7 b8 : Int) (E : Bool) (hE : (decide (a0 = b0) && decide (a1 = b1) && decide (a2 = b2) && decide (a3 = b3) && decide (a4 = b4) && decide (a5 = b5) && decide (a6 = b6) && decide (a7 = b7) && decide (a8 = b8)) = E) (w : World) :
    (binOp .neq 23 (insV a0 a1 a2 a3 a4 a5 a6 a7 a8) (insV b0 b1 b2 b3 b4 b5 b6 b7 b8)).run Tryz.prog w = .ok (.bool !E) w := by
  subst hE
  go_simp
  repeat' split
  all_goals simp [*]
theorem chk_eq_0 (op rd rs1 rs2 : Int) (v : BitVec 64) (aq rl : Bool) (p q : Int) : (decide (op = op) && decide (0 = rd) && decide (0 = rs1) && decide (0 = rs2) && decide (0 = S v) && decide (false = aq) && decide (false = rl) && decide (0 = p) && decide (0 = q)) = (((hasT (0 : Int).toNat).1 || rd == 0) && ((hasT (0 : Int).toNat).2.1 || rs1 == 0) && ((hasT (0 : Int).toNat).2.2.1 || rs2 == 0) && ((hasT (0 : Int).toNat).2.2.2 || S v == 0) && ((decide ((0 : Int) = 11) || decide ((0 : Int) = 12)) || (!aq && !rl)) && (decide ((0 : Int) = 9) || (p == 0 && q == 0))) := by
  rw [Bool.eq_iff_iff]
  generalize S v = n
  cases aq <;> cases rl <;> simp [hasT, eq_comm (a := (0 : Int))] <;> grind
set_option maxHeartbeats 2000000 in
set_option maxRecDepth 100000 in
theorem rCheck_0 (op rd rs1 rs2 : Int) (v : BitVec 64) (aq rl : Bool) (p q : Int) (hf : formOf op = 0) (w : World) : Calls Tryz.prog 77 #[insV op rd rs1 rs2 (S v) aq rl p q] w fun e w' => e = .returned (.int .i64 (errI (Ins.ok ⟨op, rd, rs1, rs2, S v, aq, rl, p, q⟩))) ∧ Below w.heap.size w w' := by
  have HF := Lib.hid hf
  have HR := Lib.hid (refuses_iff ⟨op, rd, rs1, rs2, S v, aq, rl, p, q⟩ v rfl)
  have HZ := Lib.hid (show Refuses ⟨op, rd, rs1, rs2, S v, aq, rl, p, q⟩ v ↔ Bad 0 (((hasT (0 : Int).toNat).1 || rd == 0) && ((hasT (0 : Int).toNat).2.1 || rs1 == 0) && ((hasT (0 : Int).toNat).2.2.1 || rs2 == 0) && ((hasT (0 : Int).toNat).2.2.2 || S v == 0) && ((decide ((0 : Int) = 11) || decide ((0 : Int) = 12)) || (!aq && !rl)) && (decide ((0 : Int) = 9) || (p == 0 && q == 0))) rd rs1 rs2 false (numB op (S v)) p q by unfold Refuses; simp only [hf]; exact Iff.rfl)
  clear hf
  go_enter Tryz.func77, Tryz.ntmps77
  all_goals (go_upto_region 16 with (first | (go_at_call 36; (with_reducible refine (rForm_is op _ HF _).mono ?_); rintro e w' ⟨rfl, rfl⟩) | (go_at_call 102; (with_reducible refine (has_0 _).mono ?_); rintro e w' ⟨rfl, rfl⟩)))
  all_goals
    refine chk_reg op rd rs1 rs2 v aq rl p q 0 (((hasT (0 : Int).toNat).1 || rd == 0) && ((hasT (0 : Int).toNat).2.1 || rs1 == 0) && ((hasT (0 : Int).toNat).2.2.1 || rs2 == 0) && ((hasT (0 : Int).toNat).2.2.2 || S v == 0) && ((decide ((0 : Int) = 11) || decide ((0 : Int) = 12)) || (!aq && !rl)) && (decide ((0 : Int) = 9) || (p == 0 && q == 0))) false _ (.int .i64 op) (.int .i64 0) (.int .i64 0) (.int .i64 0) (.int .i64 0) (.bool false) (.bool false) (.int .i64 0) (.int .i64 0) w.heap.size (w.heap.size + 1) _ _ _ _ _ _ _ _ _ _ _ _ _ _ _ _ _ _ _ _ _ _ _ _ _ _ _ _ _ _ _ _ _ _ _ _ _ _ _ _ _ _ _ _ _ _ _ _ _ _ _ _ _ _ _ _ (Lib.hid rfl) (neq_ins _ _ _ _ _ _ _ _ _ _ _ _ _ _ _ _ _ _ _ (chk_eq_0 op rd rs1 rs2 v aq rl p q)) (by go_simp) (by go_simp) (by go_simp) (by go_simp) (by go_simp) (by go_simp) (by go_simp) (by go_simp) (by go_simp) (by go_simp) (by go_simp) (by go_simp) (by go_simp) (by go_simp) (by go_simp) (by go_simp) (by go_simp) (by go_simp) ?_
    intro _ _ _ _ _ _ _ _ _ _ _ _ _ _ _ _ _ _ _ _ _ _ _ _ _ _ _ _ _ _ _ _ _ _ _ _ _ _ _ _ _ _ _ _ _ _ _ _ _ _ _ _ _ _ _ _ _ _ _ _ _ _ _ _ _ _ _ _ _ r hr
    have HQ := Lib.hid (hr.trans HZ.out.symm)
    clear hr
    cases r
    · go_wp2_with fail
      go_ret
      have hk : Ins.ok ⟨op, rd, rs1, rs2, S v, aq, rl, p, q⟩ = true := HR.out.2 fun h => (by have := HQ.out.2 h; simp at this)
      rw [hk]
      exact ⟨rfl, by (repeat first | with_reducible exact Below.refl _ _ | with_reducible refine Below.drew ?_ | with_reducible refine Below.alloc ?_ (by first | omega | (simp; omega) | simp) _ | with_reducible refine Below.setCell ?_ (by first | omega | (simp; omega) | simp) _)⟩
    · go_wp2_with fail
      go_ret
      have hk : Ins.ok ⟨op, rd, rs1, rs2, S v, aq, rl, p, q⟩ = false := by
        rw [Bool.eq_false_iff]
        exact fun h => HR.out.1 h (HQ.out.1 (by first | rfl | trivial))
      rw [hk]
      exact ⟨rfl, by (repeat first | with_reducible exact Below.refl _ _ | with_reducible refine Below.drew ?_ | with_reducible refine Below.alloc ?_ (by first | omega | (simp; omega) | simp) _ | with_reducible refine Below.setCell ?_ (by first | omega | (simp; omega) | simp) _)⟩
theorem chk_eq_1 (op rd rs1 rs2 : Int) (v : BitVec 64) (aq rl : Bool) (p q : Int) : (decide (op = op) && decide (rd = rd) && decide (0 = rs1) && decide (0 = rs2) && decide ((S v) = S v) && decide (false = aq) && decide (false = rl) && decide (0 = p) && decide (0 = q)) = (((hasT (1 : Int).toNat).1 || rd == 0) && ((hasT (1 : Int).toNat).2.1 || rs1 == 0) && ((hasT (1 : Int).toNat).2.2.1 || rs2 == 0) && ((hasT (1 : Int).toNat).2.2.2 || S v == 0) && ((decide ((1 : Int) = 11) || decide ((1 : Int) = 12)) || (!aq && !rl)) && (decide ((1 : Int) = 9) || (p == 0 && q == 0))) := by
  rw [Bool.eq_iff_iff]
  generalize S v = n
  cases aq <;> cases rl <;> simp [hasT, eq_comm (a := (0 : Int))] <;> grind
set_option maxHeartbeats 2000000 in
set_option maxRecDepth 100000 in
theorem rCheck_1 (op rd rs1 rs2 : Int) (v : BitVec 64) (aq rl : Bool) (p q : Int) (hf : formOf op = 1) (w : World) : Calls Tryz.prog 77 #[insV op rd rs1 rs2 (S v) aq rl p q] w fun e w' => e = .returned (.int .i64 (errI (Ins.ok ⟨op, rd, rs1, rs2, S v, aq, rl, p, q⟩))) ∧ Below w.heap.size w w' := by
  have HF := Lib.hid hf
  have HR := Lib.hid (refuses_iff ⟨op, rd, rs1, rs2, S v, aq, rl, p, q⟩ v rfl)
  have HZ := Lib.hid (show Refuses ⟨op, rd, rs1, rs2, S v, aq, rl, p, q⟩ v ↔ Bad 1 (((hasT (1 : Int).toNat).1 || rd == 0) && ((hasT (1 : Int).toNat).2.1 || rs1 == 0) && ((hasT (1 : Int).toNat).2.2.1 || rs2 == 0) && ((hasT (1 : Int).toNat).2.2.2 || S v == 0) && ((decide ((1 : Int) = 11) || decide ((1 : Int) = 12)) || (!aq && !rl)) && (decide ((1 : Int) = 9) || (p == 0 && q == 0))) rd rs1 rs2 true (numB op (S v)) p q by unfold Refuses; simp only [hf]; exact Iff.rfl)
  clear hf
  go_enter Tryz.func77, Tryz.ntmps77
  all_goals (go_upto_region 16 with (first | (go_at_call 36; (with_reducible refine (rForm_is op _ HF _).mono ?_); rintro e w' ⟨rfl, rfl⟩) | (go_at_call 102; (with_reducible refine (has_1 _).mono ?_); rintro e w' ⟨rfl, rfl⟩)))
  all_goals
    refine chk_reg op rd rs1 rs2 v aq rl p q 1 (((hasT (1 : Int).toNat).1 || rd == 0) && ((hasT (1 : Int).toNat).2.1 || rs1 == 0) && ((hasT (1 : Int).toNat).2.2.1 || rs2 == 0) && ((hasT (1 : Int).toNat).2.2.2 || S v == 0) && ((decide ((1 : Int) = 11) || decide ((1 : Int) = 12)) || (!aq && !rl)) && (decide ((1 : Int) = 9) || (p == 0 && q == 0))) true _ (.int .i64 op) (.int .i64 rd) (.int .i64 0) (.int .i64 0) (.int .i64 (S v)) (.bool false) (.bool false) (.int .i64 0) (.int .i64 0) w.heap.size (w.heap.size + 1) _ _ _ _ _ _ _ _ _ _ _ _ _ _ _ _ _ _ _ _ _ _ _ _ _ _ _ _ _ _ _ _ _ _ _ _ _ _ _ _ _ _ _ _ _ _ _ _ _ _ _ _ _ _ _ _ (Lib.hid rfl) (neq_ins _ _ _ _ _ _ _ _ _ _ _ _ _ _ _ _ _ _ _ (chk_eq_1 op rd rs1 rs2 v aq rl p q)) (by go_simp) (by go_simp) (by go_simp) (by go_simp) (by go_simp) (by go_simp) (by go_simp) (by go_simp) (by go_simp) (by go_simp) (by go_simp) (by go_simp) (by go_simp) (by go_simp) (by go_simp) (by go_simp) (by go_simp) (by go_simp) ?_
    intro _ _ _ _ _ _ _ _ _ _ _ _ _ _ _ _ _ _ _ _ _ _ _ _ _ _ _ _ _ _ _ _ _ _ _ _ _ _ _ _ _ _ _ _ _ _ _ _ _ _ _ _ _ _ _ _ _ _ _ _ _ _ _ _ _ _ _ _ _ r hr
    have HQ := Lib.hid (hr.trans HZ.out.symm)
    clear hr
    cases r
    · go_wp2_with fail
      go_ret
      have hk : Ins.ok ⟨op, rd, rs1, rs2, S v, aq, rl, p, q⟩ = true := HR.out.2 fun h => (by have := HQ.out.2 h; simp at this)
      rw [hk]
      exact ⟨rfl, by (repeat first | with_reducible exact Below.refl _ _ | with_reducible refine Below.drew ?_ | with_reducible refine Below.alloc ?_ (by first | omega | (simp; omega) | simp) _ | with_reducible refine Below.setCell ?_ (by first | omega | (simp; omega) | simp) _)⟩
    · go_wp2_with fail
      go_ret
      have hk : Ins.ok ⟨op, rd, rs1, rs2, S v, aq, rl, p, q⟩ = false := by
        rw [Bool.eq_false_iff]
        exact fun h => HR.out.1 h (HQ.out.1 (by first | rfl | trivial))
      rw [hk]
      exact ⟨rfl, by (repeat first | with_reducible exact Below.refl _ _ | with_reducible refine Below.drew ?_ | with_reducible refine Below.alloc ?_ (by first | omega | (simp; omega) | simp) _ | with_reducible refine Below.setCell ?_ (by first | omega | (simp; omega) | simp) _)⟩
theorem chk_eq_2 (op rd rs1 rs2 : Int) (v : BitVec 64) (aq rl : Bool) (p q : Int) : (decide (op = op) && decide (rd = rd) && decide (0 = rs1) && decide (0 = rs2) && decide ((S v) = S v) && decide (false = aq) && decide (false = rl) && decide (0 = p) && decide (0 = q)) = (((hasT (2 : Int).toNat).1 || rd == 0) && ((hasT (2 : Int).toNat).2.1 || rs1 == 0) && ((hasT (2 : Int).toNat).2.2.1 || rs2 == 0) && ((hasT (2 : Int).toNat).2.2.2 || S v == 0) && ((decide ((2 : Int) = 11) || decide ((2 : Int) = 12)) || (!aq && !rl)) && (decide ((2 : Int) = 9) || (p == 0 && q == 0))) := by
  rw [Bool.eq_iff_iff]
  generalize S v = n
  cases aq <;> cases rl <;> simp [hasT, eq_comm (a := (0 : Int))] <;> grind
set_option maxHeartbeats 2000000 in
set_option maxRecDepth 100000 in
theorem rCheck_2 (op rd rs1 rs2 : Int) (v : BitVec 64) (aq rl : Bool) (p q : Int) (hf : formOf op = 2) (w : World) : Calls Tryz.prog 77 #[insV op rd rs1 rs2 (S v) aq rl p q] w fun e w' => e = .returned (.int .i64 (errI (Ins.ok ⟨op, rd, rs1, rs2, S v, aq, rl, p, q⟩))) ∧ Below w.heap.size w w' := by
  have HF := Lib.hid hf
  have HR := Lib.hid (refuses_iff ⟨op, rd, rs1, rs2, S v, aq, rl, p, q⟩ v rfl)
  have HZ := Lib.hid (show Refuses ⟨op, rd, rs1, rs2, S v, aq, rl, p, q⟩ v ↔ Bad 2 (((hasT (2 : Int).toNat).1 || rd == 0) && ((hasT (2 : Int).toNat).2.1 || rs1 == 0) && ((hasT (2 : Int).toNat).2.2.1 || rs2 == 0) && ((hasT (2 : Int).toNat).2.2.2 || S v == 0) && ((decide ((2 : Int) = 11) || decide ((2 : Int) = 12)) || (!aq && !rl)) && (decide ((2 : Int) = 9) || (p == 0 && q == 0))) rd rs1 rs2 true (numB op (S v)) p q by unfold Refuses; simp only [hf]; exact Iff.rfl)
  clear hf
  go_enter Tryz.func77, Tryz.ntmps77
  all_goals (go_upto_region 16 with (first | (go_at_call 36; (with_reducible refine (rForm_is op _ HF _).mono ?_); rintro e w' ⟨rfl, rfl⟩) | (go_at_call 102; (with_reducible refine (has_2 _).mono ?_); rintro e w' ⟨rfl, rfl⟩)))
  all_goals
    refine chk_reg op rd rs1 rs2 v aq rl p q 2 (((hasT (2 : Int).toNat).1 || rd == 0) && ((hasT (2 : Int).toNat).2.1 || rs1 == 0) && ((hasT (2 : Int).toNat).2.2.1 || rs2 == 0) && ((hasT (2 : Int).toNat).2.2.2 || S v == 0) && ((decide ((2 : Int) = 11) || decide ((2 : Int) = 12)) || (!aq && !rl)) && (decide ((2 : Int) = 9) || (p == 0 && q == 0))) true _ (.int .i64 op) (.int .i64 rd) (.int .i64 0) (.int .i64 0) (.int .i64 (S v)) (.bool false) (.bool false) (.int .i64 0) (.int .i64 0) w.heap.size (w.heap.size + 1) _ _ _ _ _ _ _ _ _ _ _ _ _ _ _ _ _ _ _ _ _ _ _ _ _ _ _ _ _ _ _ _ _ _ _ _ _ _ _ _ _ _ _ _ _ _ _ _ _ _ _ _ _ _ _ _ (Lib.hid rfl) (neq_ins _ _ _ _ _ _ _ _ _ _ _ _ _ _ _ _ _ _ _ (chk_eq_2 op rd rs1 rs2 v aq rl p q)) (by go_simp) (by go_simp) (by go_simp) (by go_simp) (by go_simp) (by go_simp) (by go_simp) (by go_simp) (by go_simp) (by go_simp) (by go_simp) (by go_simp) (by go_simp) (by go_simp) (by go_simp) (by go_simp) (by go_simp) (by go_simp) ?_
    intro _ _ _ _ _ _ _ _ _ _ _ _ _ _ _ _ _ _ _ _ _ _ _ _ _ _ _ _ _ _ _ _ _ _ _ _ _ _ _ _ _ _ _ _ _ _ _ _ _ _ _ _ _ _ _ _ _ _ _ _ _ _ _ _ _ _ _ _ _ r hr
    have HQ := Lib.hid (hr.trans HZ.out.symm)
    clear hr
    cases r
    · go_wp2_with fail
      go_ret
      have hk : Ins.ok ⟨op, rd, rs1, rs2, S v, aq, rl, p, q⟩ = true := HR.out.2 fun h => (by have := HQ.out.2 h; simp at this)
      rw [hk]
      exact ⟨rfl, by (repeat first | with_reducible exact Below.refl _ _ | with_reducible refine Below.drew ?_ | with_reducible refine Below.alloc ?_ (by first | omega | (simp; omega) | simp) _ | with_reducible refine Below.setCell ?_ (by first | omega | (simp; omega) | simp) _)⟩
    · go_wp2_with fail
      go_ret
      have hk : Ins.ok ⟨op, rd, rs1, rs2, S v, aq, rl, p, q⟩ = false := by
        rw [Bool.eq_false_iff]
        exact fun h => HR.out.1 h (HQ.out.1 (by first | rfl | trivial))
      rw [hk]
      exact ⟨rfl, by (repeat first | with_reducible exact Below.refl _ _ | with_reducible refine Below.drew ?_ | with_reducible refine Below.alloc ?_ (by first | omega | (simp; omega) | simp) _ | with_reducible refine Below.setCell ?_ (by first | omega | (simp; omega) | simp) _)⟩
theorem chk_eq_3 (op rd rs1 rs2 : Int) (v : BitVec 64) (aq rl : Bool) (p q : Int) : (decide (op = op) && decide (rd = rd) && decide (rs1 = rs1) && decide (0 = rs2) && decide ((S v) = S v) && decide (false = aq) && decide (false = rl) && decide (0 = p) && decide (0 = q)) = (((hasT (3 : Int).toNat).1 || rd == 0) && ((hasT (3 : Int).toNat).2.1 || rs1 == 0) && ((hasT (3 : Int).toNat).2.2.1 || rs2 == 0) && ((hasT (3 : Int).toNat).2.2.2 || S v == 0) && ((decide ((3 : Int) = 11) || decide ((3 : Int) = 12)) || (!aq && !rl)) && (decide ((3 : Int) = 9) || (p == 0 && q == 0))) := by
  rw [Bool.eq_iff_iff]
  generalize S v = n
  cases aq <;> cases rl <;> simp [hasT, eq_comm (a := (0 : Int))] <;> grind
set_option maxHeartbeats 2000000 in
set_option maxRecDepth 100000 in
theorem rCheck_3 (op rd rs1 rs2 : Int) (v : BitVec 64) (aq rl : Bool) (p q : Int) (hf : formOf op = 3) (w : World) : Calls Tryz.prog 77 #[insV op rd rs1 rs2 (S v) aq rl p q] w fun e w' => e = .returned (.int .i64 (errI (Ins.ok ⟨op, rd, rs1, rs2, S v, aq, rl, p, q⟩))) ∧ Below w.heap.size w w' := by
  have HF := Lib.hid hf
  have HR := Lib.hid (refuses_iff ⟨op, rd, rs1, rs2, S v, aq, rl, p, q⟩ v rfl)
  have HZ := Lib.hid (show Refuses ⟨op, rd, rs1, rs2, S v, aq, rl, p, q⟩ v ↔ Bad 3 (((hasT (3 : Int).toNat).1 || rd == 0) && ((hasT (3 : Int).toNat).2.1 || rs1 == 0) && ((hasT (3 : Int).toNat).2.2.1 || rs2 == 0) && ((hasT (3 : Int).toNat).2.2.2 || S v == 0) && ((decide ((3 : Int) = 11) || decide ((3 : Int) = 12)) || (!aq && !rl)) && (decide ((3 : Int) = 9) || (p == 0 && q == 0))) rd rs1 rs2 true (numB op (S v)) p q by unfold Refuses; simp only [hf]; exact Iff.rfl)
  clear hf
  go_enter Tryz.func77, Tryz.ntmps77
  all_goals (go_upto_region 16 with (first | (go_at_call 36; (with_reducible refine (rForm_is op _ HF _).mono ?_); rintro e w' ⟨rfl, rfl⟩) | (go_at_call 102; (with_reducible refine (has_3 _).mono ?_); rintro e w' ⟨rfl, rfl⟩)))
  all_goals
    refine chk_reg op rd rs1 rs2 v aq rl p q 3 (((hasT (3 : Int).toNat).1 || rd == 0) && ((hasT (3 : Int).toNat).2.1 || rs1 == 0) && ((hasT (3 : Int).toNat).2.2.1 || rs2 == 0) && ((hasT (3 : Int).toNat).2.2.2 || S v == 0) && ((decide ((3 : Int) = 11) || decide ((3 : Int) = 12)) || (!aq && !rl)) && (decide ((3 : Int) = 9) || (p == 0 && q == 0))) true _ (.int .i64 op) (.int .i64 rd) (.int .i64 rs1) (.int .i64 0) (.int .i64 (S v)) (.bool false) (.bool false) (.int .i64 0) (.int .i64 0) w.heap.size (w.heap.size + 1) _ _ _ _ _ _ _ _ _ _ _ _ _ _ _ _ _ _ _ _ _ _ _ _ _ _ _ _ _ _ _ _ _ _ _ _ _ _ _ _ _ _ _ _ _ _ _ _ _ _ _ _ _ _ _ _ (Lib.hid rfl) (neq_ins _ _ _ _ _ _ _ _ _ _ _ _ _ _ _ _ _ _ _ (chk_eq_3 op rd rs1 rs2 v aq rl p q)) (by go_simp) (by go_simp) (by go_simp) (by go_simp) (by go_simp) (by go_simp) (by go_simp) (by go_simp) (by go_simp) (by go_simp) (by go_simp) (by go_simp) (by go_simp) (by go_simp) (by go_simp) (by go_simp) (by go_simp) (by go_simp) ?_
    intro _ _ _ _ _ _ _ _ _ _ _ _ _ _ _ _ _ _ _ _ _ _ _ _ _ _ _ _ _ _ _ _ _ _ _ _ _ _ _ _ _ _ _ _ _ _ _ _ _ _ _ _ _ _ _ _ _ _ _ _ _ _ _ _ _ _ _ _ _ r hr
    have HQ := Lib.hid (hr.trans HZ.out.symm)
    clear hr
    cases r
    · go_wp2_with fail
      go_ret
      have hk : Ins.ok ⟨op, rd, rs1, rs2, S v, aq, rl, p, q⟩ = true := HR.out.2 fun h => (by have := HQ.out.2 h; simp at this)
      rw [hk]
      exact ⟨rfl, by (repeat first | with_reducible exact Below.refl _ _ | with_reducible refine Below.drew ?_ | with_reducible refine Below.alloc ?_ (by first | omega | (simp; omega) | simp) _ | with_reducible refine Below.setCell ?_ (by first | omega | (simp; omega) | simp) _)⟩
    · go_wp2_with fail
      go_ret
      have hk : Ins.ok ⟨op, rd, rs1, rs2, S v, aq, rl, p, q⟩ = false := by
        rw [Bool.eq_false_iff]
        exact fun h => HR.out.1 h (HQ.out.1 (by first | rfl | trivial))
      rw [hk]
      exact ⟨rfl, by (repeat first | with_reducible exact Below.refl _ _ | with_reducible refine Below.drew ?_ | with_reducible refine Below.alloc ?_ (by first | omega | (simp; omega) | simp) _ | with_reducible refine Below.setCell ?_ (by first | omega | (simp; omega) | simp) _)⟩
theorem chk_eq_4 (op rd rs1 rs2 : Int) (v : BitVec 64) (aq rl : Bool) (p q : Int) : (decide (op = op) && decide (rd = rd) && decide (rs1 = rs1) && decide (0 = rs2) && decide ((S v) = S v) && decide (false = aq) && decide (false = rl) && decide (0 = p) && decide (0 = q)) = (((hasT (4 : Int).toNat).1 || rd == 0) && ((hasT (4 : Int).toNat).2.1 || rs1 == 0) && ((hasT (4 : Int).toNat).2.2.1 || rs2 == 0) && ((hasT (4 : Int).toNat).2.2.2 || S v == 0) && ((decide ((4 : Int) = 11) || decide ((4 : Int) = 12)) || (!aq && !rl)) && (decide ((4 : Int) = 9) || (p == 0 && q == 0))) := by
  rw [Bool.eq_iff_iff]
  generalize S v = n
  cases aq <;> cases rl <;> simp [hasT, eq_comm (a := (0 : Int))] <;> grind
set_option maxHeartbeats 2000000 in
set_option maxRecDepth 100000 in
theorem rCheck_4 (op rd rs1 rs2 : Int) (v : BitVec 64) (aq rl : Bool) (p q : Int) (hf : formOf op = 4) (w : World) : Calls Tryz.prog 77 #[insV op rd rs1 rs2 (S v) aq rl p q] w fun e w' => e = .returned (.int .i64 (errI (Ins.ok ⟨op, rd, rs1, rs2, S v, aq, rl, p, q⟩))) ∧ Below w.heap.size w w' := by
  have HF := Lib.hid hf
  have HR := Lib.hid (refuses_iff ⟨op, rd, rs1, rs2, S v, aq, rl, p, q⟩ v rfl)
  have HZ := Lib.hid (show Refuses ⟨op, rd, rs1, rs2, S v, aq, rl, p, q⟩ v ↔ Bad 4 (((hasT (4 : Int).toNat).1 || rd == 0) && ((hasT (4 : Int).toNat).2.1 || rs1 == 0) && ((hasT (4 : Int).toNat).2.2.1 || rs2 == 0) && ((hasT (4 : Int).toNat).2.2.2 || S v == 0) && ((decide ((4 : Int) = 11) || decide ((4 : Int) = 12)) || (!aq && !rl)) && (decide ((4 : Int) = 9) || (p == 0 && q == 0))) rd rs1 rs2 true (numB op (S v)) p q by unfold Refuses; simp only [hf]; exact Iff.rfl)
  clear hf
  go_enter Tryz.func77, Tryz.ntmps77
  all_goals (go_upto_region 16 with (first | (go_at_call 36; (with_reducible refine (rForm_is op _ HF _).mono ?_); rintro e w' ⟨rfl, rfl⟩) | (go_at_call 102; (with_reducible refine (has_4 _).mono ?_); rintro e w' ⟨rfl, rfl⟩)))
  all_goals
    refine chk_reg op rd rs1 rs2 v aq rl p q 4 (((hasT (4 : Int).toNat).1 || rd == 0) && ((hasT (4 : Int).toNat).2.1 || rs1 == 0) && ((hasT (4 : Int).toNat).2.2.1 || rs2 == 0) && ((hasT (4 : Int).toNat).2.2.2 || S v == 0) && ((decide ((4 : Int) = 11) || decide ((4 : Int) = 12)) || (!aq && !rl)) && (decide ((4 : Int) = 9) || (p == 0 && q == 0))) true _ (.int .i64 op) (.int .i64 rd) (.int .i64 rs1) (.int .i64 0) (.int .i64 (S v)) (.bool false) (.bool false) (.int .i64 0) (.int .i64 0) w.heap.size (w.heap.size + 1) _ _ _ _ _ _ _ _ _ _ _ _ _ _ _ _ _ _ _ _ _ _ _ _ _ _ _ _ _ _ _ _ _ _ _ _ _ _ _ _ _ _ _ _ _ _ _ _ _ _ _ _ _ _ _ _ (Lib.hid rfl) (neq_ins _ _ _ _ _ _ _ _ _ _ _ _ _ _ _ _ _ _ _ (chk_eq_4 op rd rs1 rs2 v aq rl p q)) (by go_simp) (by go_simp) (by go_simp) (by go_simp) (by go_simp) (by go_simp) (by go_simp) (by go_simp) (by go_simp) (by go_simp) (by go_simp) (by go_simp) (by go_simp) (by go_simp) (by go_simp) (by go_simp) (by go_simp) (by go_simp) ?_
    intro _ _ _ _ _ _ _ _ _ _ _ _ _ _ _ _ _ _ _ _ _ _ _ _ _ _ _ _ _ _ _ _ _ _ _ _ _ _ _ _ _ _ _ _ _ _ _ _ _ _ _ _ _ _ _ _ _ _ _ _ _ _ _ _ _ _ _ _ _ r hr
    have HQ := Lib.hid (hr.trans HZ.out.symm)
    clear hr
    cases r
    · go_wp2_with fail
      go_ret
      have hk : Ins.ok ⟨op, rd, rs1, rs2, S v, aq, rl, p, q⟩ = true := HR.out.2 fun h => (by have := HQ.out.2 h; simp at this)
      rw [hk]
      exact ⟨rfl, by (repeat first | with_reducible exact Below.refl _ _ | with_reducible refine Below.drew ?_ | with_reducible refine Below.alloc ?_ (by first | omega | (simp; omega) | simp) _ | with_reducible refine Below.setCell ?_ (by first | omega | (simp; omega) | simp) _)⟩
    · go_wp2_with fail
      go_ret
      have hk : Ins.ok ⟨op, rd, rs1, rs2, S v, aq, rl, p, q⟩ = false := by
        rw [Bool.eq_false_iff]
        exact fun h => HR.out.1 h (HQ.out.1 (by first | rfl | trivial))
      rw [hk]
      exact ⟨rfl, by (repeat first | with_reducible exact Below.refl _ _ | with_reducible refine Below.drew ?_ | with_reducible refine Below.alloc ?_ (by first | omega | (simp; omega) | simp) _ | with_reducible refine Below.setCell ?_ (by first | omega | (simp; omega) | simp) _)⟩
theorem chk_eq_5 (op rd rs1 rs2 : Int) (v : BitVec 64) (aq rl : Bool) (p q : Int) : (decide (op = op) && decide (0 = rd) && decide (rs1 = rs1) && decide (rs2 = rs2) && decide ((S v) = S v) && decide (false = aq) && decide (false = rl) && decide (0 = p) && decide (0 = q)) = (((hasT (5 : Int).toNat).1 || rd == 0) && ((hasT (5 : Int).toNat).2.1 || rs1 == 0) && ((hasT (5 : Int).toNat).2.2.1 || rs2 == 0) && ((hasT (5 : Int).toNat).2.2.2 || S v == 0) && ((decide ((5 : Int) = 11) || decide ((5 : Int) = 12)) || (!aq && !rl)) && (decide ((5 : Int) = 9) || (p == 0 && q == 0))) := by
  rw [Bool.eq_iff_iff]
  generalize S v = n
  cases aq <;> cases rl <;> simp [hasT, eq_comm (a := (0 : Int))] <;> grind
set_option maxHeartbeats 2000000 in
set_option maxRecDepth 100000 in
theorem rCheck_5 (op rd rs1 rs2 : Int) (v : BitVec 64) (aq rl : Bool) (p q : Int) (hf : formOf op = 5) (w : World) : Calls Tryz.prog 77 #[insV op rd rs1 rs2 (S v) aq rl p q] w fun e w' => e = .returned (.int .i64 (errI (Ins.ok ⟨op, rd, rs1, rs2, S v, aq, rl, p, q⟩))) ∧ Below w.heap.size w w' := by
  have HF := Lib.hid hf
  have HR := Lib.hid (refuses_iff ⟨op, rd, rs1, rs2, S v, aq, rl, p, q⟩ v rfl)
  have HZ := Lib.hid (show Refuses ⟨op, rd, rs1, rs2, S v, aq, rl, p, q⟩ v ↔ Bad 5 (((hasT (5 : Int).toNat).1 || rd == 0) && ((hasT (5 : Int).toNat).2.1 || rs1 == 0) && ((hasT (5 : Int).toNat).2.2.1 || rs2 == 0) && ((hasT (5 : Int).toNat).2.2.2 || S v == 0) && ((decide ((5 : Int) = 11) || decide ((5 : Int) = 12)) || (!aq && !rl)) && (decide ((5 : Int) = 9) || (p == 0 && q == 0))) rd rs1 rs2 true (numB op (S v)) p q by unfold Refuses; simp only [hf]; exact Iff.rfl)
  clear hf
  go_enter Tryz.func77, Tryz.ntmps77
  all_goals (go_upto_region 16 with (first | (go_at_call 36; (with_reducible refine (rForm_is op _ HF _).mono ?_); rintro e w' ⟨rfl, rfl⟩) | (go_at_call 102; (with_reducible refine (has_5 _).mono ?_); rintro e w' ⟨rfl, rfl⟩)))
  all_goals
    refine chk_reg op rd rs1 rs2 v aq rl p q 5 (((hasT (5 : Int).toNat).1 || rd == 0) && ((hasT (5 : Int).toNat).2.1 || rs1 == 0) && ((hasT (5 : Int).toNat).2.2.1 || rs2 == 0) && ((hasT (5 : Int).toNat).2.2.2 || S v == 0) && ((decide ((5 : Int) = 11) || decide ((5 : Int) = 12)) || (!aq && !rl)) && (decide ((5 : Int) = 9) || (p == 0 && q == 0))) true _ (.int .i64 op) (.int .i64 0) (.int .i64 rs1) (.int .i64 rs2) (.int .i64 (S v)) (.bool false) (.bool false) (.int .i64 0) (.int .i64 0) w.heap.size (w.heap.size + 1) _ _ _ _ _ _ _ _ _ _ _ _ _ _ _ _ _ _ _ _ _ _ _ _ _ _ _ _ _ _ _ _ _ _ _ _ _ _ _ _ _ _ _ _ _ _ _ _ _ _ _ _ _ _ _ _ (Lib.hid rfl) (neq_ins _ _ _ _ _ _ _ _ _ _ _ _ _ _ _ _ _ _ _ (chk_eq_5 op rd rs1 rs2 v aq rl p q)) (by go_simp) (by go_simp) (by go_simp) (by go_simp) (by go_simp) (by go_simp) (by go_simp) (by go_simp) (by go_simp) (by go_simp) (by go_simp) (by go_simp) (by go_simp) (by go_simp) (by go_simp) (by go_simp) (by go_simp) (by go_simp) ?_
    intro _ _ _ _ _ _ _ _ _ _ _ _ _ _ _ _ _ _ _ _ _ _ _ _ _ _ _ _ _ _ _ _ _ _ _ _ _ _ _ _ _ _ _ _ _ _ _ _ _ _ _ _ _ _ _ _ _ _ _ _ _ _ _ _ _ _ _ _ _ r hr
    have HQ := Lib.hid (hr.trans HZ.out.symm)
    clear hr
    cases r
    · go_wp2_with fail
      go_ret
      have hk : Ins.ok ⟨op, rd, rs1, rs2, S v, aq, rl, p, q⟩ = true := HR.out.2 fun h => (by have := HQ.out.2 h; simp at this)
      rw [hk]
      exact ⟨rfl, by (repeat first | with_reducible exact Below.refl _ _ | with_reducible refine Below.drew ?_ | with_reducible refine Below.alloc ?_ (by first | omega | (simp; omega) | simp) _ | with_reducible refine Below.setCell ?_ (by first | omega | (simp; omega) | simp) _)⟩
    · go_wp2_with fail
      go_ret
      have hk : Ins.ok ⟨op, rd, rs1, rs2, S v, aq, rl, p, q⟩ = false := by
        rw [Bool.eq_false_iff]
        exact fun h => HR.out.1 h (HQ.out.1 (by first | rfl | trivial))
      rw [hk]
      exact ⟨rfl, by (repeat first | with_reducible exact Below.refl _ _ | with_reducible refine Below.drew ?_ | with_reducible refine Below.alloc ?_ (by first | omega | (simp; omega) | simp) _ | with_reducible refine Below.setCell ?_ (by first | omega | (simp; omega) | simp) _)⟩
theorem chk_eq_6 (op rd rs1 rs2 : Int) (v : BitVec 64) (aq rl : Bool) (p q : Int) : (decide (op = op) && decide (0 = rd) && decide (rs1 = rs1) && decide (rs2 = rs2) && decide ((S v) = S v) && decide (false = aq) && decide (false = rl) && decide (0 = p) && decide (0 = q)) = (((hasT (6 : Int).toNat).1 || rd == 0) && ((hasT (6 : Int).toNat).2.1 || rs1 == 0) && ((hasT (6 : Int).toNat).2.2.1 || rs2 == 0) && ((hasT (6 : Int).toNat).2.2.2 || S v == 0) && ((decide ((6 : Int) = 11) || decide ((6 : Int) = 12)) || (!aq && !rl)) && (decide ((6 : Int) = 9) || (p == 0 && q == 0))) := by
  rw [Bool.eq_iff_iff]
  generalize S v = n
  cases aq <;> cases rl <;> simp [hasT, eq_comm (a := (0 : Int))] <;> grind
set_option maxHeartbeats 2000000 in
set_option maxRecDepth 100000 in
theorem rCheck_6 (op rd rs1 rs2 : Int) (v : BitVec 64) (aq rl : Bool) (p q : Int) (hf : formOf op = 6) (w : World) : Calls Tryz.prog 77 #[insV op rd rs1 rs2 (S v) aq rl p q] w fun e w' => e = .returned (.int .i64 (errI (Ins.ok ⟨op, rd, rs1, rs2, S v, aq, rl, p, q⟩))) ∧ Below w.heap.size w w' := by
  have HF := Lib.hid hf
  have HR := Lib.hid (refuses_iff ⟨op, rd, rs1, rs2, S v, aq, rl, p, q⟩ v rfl)
  have HZ := Lib.hid (show Refuses ⟨op, rd, rs1, rs2, S v, aq, rl, p, q⟩ v ↔ Bad 6 (((hasT (6 : Int).toNat).1 || rd == 0) && ((hasT (6 : Int).toNat).2.1 || rs1 == 0) && ((hasT (6 : Int).toNat).2.2.1 || rs2 == 0) && ((hasT (6 : Int).toNat).2.2.2 || S v == 0) && ((decide ((6 : Int) = 11) || decide ((6 : Int) = 12)) || (!aq && !rl)) && (decide ((6 : Int) = 9) || (p == 0 && q == 0))) rd rs1 rs2 true (numB op (S v)) p q by unfold Refuses; simp only [hf]; exact Iff.rfl)
  clear hf
  go_enter Tryz.func77, Tryz.ntmps77
  all_goals (go_upto_region 16 with (first | (go_at_call 36; (with_reducible refine (rForm_is op _ HF _).mono ?_); rintro e w' ⟨rfl, rfl⟩) | (go_at_call 102; (with_reducible refine (has_6 _).mono ?_); rintro e w' ⟨rfl, rfl⟩)))
  all_goals
    refine chk_reg op rd rs1 rs2 v aq rl p q 6 (((hasT (6 : Int).toNat).1 || rd == 0) && ((hasT (6 : Int).toNat).2.1 || rs1 == 0) && ((hasT (6 : Int).toNat).2.2.1 || rs2 == 0) && ((hasT (6 : Int).toNat).2.2.2 || S v == 0) && ((decide ((6 : Int) = 11) || decide ((6 : Int) = 12)) || (!aq && !rl)) && (decide ((6 : Int) = 9) || (p == 0 && q == 0))) true _ (.int .i64 op) (.int .i64 0) (.int .i64 rs1) (.int .i64 rs2) (.int .i64 (S v)) (.bool false) (.bool false) (.int .i64 0) (.int .i64 0) w.heap.size (w.heap.size + 1) _ _ _ _ _ _ _ _ _ _ _ _ _ _ _ _ _ _ _ _ _ _ _ _ _ _ _ _ _ _ _ _ _ _ _ _ _ _ _ _ _ _ _ _ _ _ _ _ _ _ _ _ _ _ _ _ (Lib.hid rfl) (neq_ins _ _ _ _ _ _ _ _ _ _ _ _ _ _ _ _ _ _ _ (chk_eq_6 op rd rs1 rs2 v aq rl p q)) (by go_simp) (by go_simp) (by go_simp) (by go_simp) (by go_simp) (by go_simp) (by go_simp) (by go_simp) (by go_simp) (by go_simp) (by go_simp) (by go_simp) (by go_simp) (by go_simp) (by go_simp) (by go_simp) (by go_simp) (by go_simp) ?_
    intro _ _ _ _ _ _ _ _ _ _ _ _ _ _ _ _ _ _ _ _ _ _ _ _ _ _ _ _ _ _ _ _ _ _ _ _ _ _ _ _ _ _ _ _ _ _ _ _ _ _ _ _ _ _ _ _ _ _ _ _ _ _ _ _ _ _ _ _ _ r hr
    have HQ := Lib.hid (hr.trans HZ.out.symm)
    clear hr
    cases r
    · go_wp2_with fail
      go_ret
      have hk : Ins.ok ⟨op, rd, rs1, rs2, S v, aq, rl, p, q⟩ = true := HR.out.2 fun h => (by have := HQ.out.2 h; simp at this)
      rw [hk]
      exact ⟨rfl, by (repeat first | with_reducible exact Below.refl _ _ | with_reducible refine Below.drew ?_ | with_reducible refine Below.alloc ?_ (by first | omega | (simp; omega) | simp) _ | with_reducible refine Below.setCell ?_ (by first | omega | (simp; omega) | simp) _)⟩
    · go_wp2_with fail
      go_ret
      have hk : Ins.ok ⟨op, rd, rs1, rs2, S v, aq, rl, p, q⟩ = false := by
        rw [Bool.eq_false_iff]
        exact fun h => HR.out.1 h (HQ.out.1 (by first | rfl | trivial))
      rw [hk]
      exact ⟨rfl, by (repeat first | with_reducible exact Below.refl _ _ | with_reducible refine Below.drew ?_ | with_reducible refine Below.alloc ?_ (by first | omega | (simp; omega) | simp) _ | with_reducible refine Below.setCell ?_ (by first | omega | (simp; omega) | simp) _)⟩
theorem chk_eq_7 (op rd rs1 rs2 : Int) (v : BitVec 64) (aq rl : Bool) (p q : Int) : (decide (op = op) && decide (rd = rd) && decide (rs1 = rs1) && decide (0 = rs2) && decide ((S v) = S v) && decide (false = aq) && decide (false = rl) && decide (0 = p) && decide (0 = q)) = (((hasT (7 : Int).toNat).1 || rd == 0) && ((hasT (7 : Int).toNat).2.1 || rs1 == 0) && ((hasT (7 : Int).toNat).2.2.1 || rs2 == 0) && ((hasT (7 : Int).toNat).2.2.2 || S v == 0) && ((decide ((7 : Int) = 11) || decide ((7 : Int) = 12)) || (!aq && !rl)) && (decide ((7 : Int) = 9) || (p == 0 && q == 0))) := by
  rw [Bool.eq_iff_iff]
  generalize S v = n
  cases aq <;> cases rl <;> simp [hasT, eq_comm (a := (0 : Int))] <;> grind
set_option maxHeartbeats 2000000 in
set_option maxRecDepth 100000 in
theorem rCheck_7 (op rd rs1 rs2 : Int) (v : BitVec 64) (aq rl : Bool) (p q : Int) (hf : formOf op = 7) (w : World) : Calls Tryz.prog 77 #[insV op rd rs1 rs2 (S v) aq rl p q] w fun e w' => e = .returned (.int .i64 (errI (Ins.ok ⟨op, rd, rs1, rs2, S v, aq, rl, p, q⟩))) ∧ Below w.heap.size w w' := by
  have HF := Lib.hid hf
  have HR := Lib.hid (refuses_iff ⟨op, rd, rs1, rs2, S v, aq, rl, p, q⟩ v rfl)
  have HZ := Lib.hid (show Refuses ⟨op, rd, rs1, rs2, S v, aq, rl, p, q⟩ v ↔ Bad 7 (((hasT (7 : Int).toNat).1 || rd == 0) && ((hasT (7 : Int).toNat).2.1 || rs1 == 0) && ((hasT (7 : Int).toNat).2.2.1 || rs2 == 0) && ((hasT (7 : Int).toNat).2.2.2 || S v == 0) && ((decide ((7 : Int) = 11) || decide ((7 : Int) = 12)) || (!aq && !rl)) && (decide ((7 : Int) = 9) || (p == 0 && q == 0))) rd rs1 rs2 true (numB op (S v)) p q by unfold Refuses; simp only [hf]; exact Iff.rfl)
  clear hf
  go_enter Tryz.func77, Tryz.ntmps77
  all_goals (go_upto_region 16 with (first | (go_at_call 36; (with_reducible refine (rForm_is op _ HF _).mono ?_); rintro e w' ⟨rfl, rfl⟩) | (go_at_call 102; (with_reducible refine (has_7 _).mono ?_); rintro e w' ⟨rfl, rfl⟩)))
  all_goals
    refine chk_reg op rd rs1 rs2 v aq rl p q 7 (((hasT (7 : Int).toNat).1 || rd == 0) && ((hasT (7 : Int).toNat).2.1 || rs1 == 0) && ((hasT (7 : Int).toNat).2.2.1 || rs2 == 0) && ((hasT (7 : Int).toNat).2.2.2 || S v == 0) && ((decide ((7 : Int) = 11) || decide ((7 : Int) = 12)) || (!aq && !rl)) && (decide ((7 : Int) = 9) || (p == 0 && q == 0))) true _ (.int .i64 op) (.int .i64 rd) (.int .i64 rs1) (.int .i64 0) (.int .i64 (S v)) (.bool false) (.bool false) (.int .i64 0) (.int .i64 0) w.heap.size (w.heap.size + 1) _ _ _ _ _ _ _ _ _ _ _ _ _ _ _ _ _ _ _ _ _ _ _ _ _ _ _ _ _ _ _ _ _ _ _ _ _ _ _ _ _ _ _ _ _ _ _ _ _ _ _ _ _ _ _ _ (Lib.hid rfl) (neq_ins _ _ _ _ _ _ _ _ _ _ _ _ _ _ _ _ _ _ _ (chk_eq_7 op rd rs1 rs2 v aq rl p q)) (by go_simp) (by go_simp) (by go_simp) (by go_simp) (by go_simp) (by go_simp) (by go_simp) (by go_simp) (by go_simp) (by go_simp) (by go_simp) (by go_simp) (by go_simp) (by go_simp) (by go_simp) (by go_simp) (by go_simp) (by go_simp) ?_
    intro _ _ _ _ _ _ _ _ _ _ _ _ _ _ _ _ _ _ _ _ _ _ _ _ _ _ _ _ _ _ _ _ _ _ _ _ _ _ _ _ _ _ _ _ _ _ _ _ _ _ _ _ _ _ _ _ _ _ _ _ _ _ _ _ _ _ _ _ _ r hr
    have HQ := Lib.hid (hr.trans HZ.out.symm)
    clear hr
    cases r
    · go_wp2_with fail
      go_ret
      have hk : Ins.ok ⟨op, rd, rs1, rs2, S v, aq, rl, p, q⟩ = true := HR.out.2 fun h => (by have := HQ.out.2 h; simp at this)
      rw [hk]
      exact ⟨rfl, by (repeat first | with_reducible exact Below.refl _ _ | with_reducible refine Below.drew ?_ | with_reducible refine Below.alloc ?_ (by first | omega | (simp; omega) | simp) _ | with_reducible refine Below.setCell ?_ (by first | omega | (simp; omega) | simp) _)⟩
    · go_wp2_with fail
      go_ret
      have hk : Ins.ok ⟨op, rd, rs1, rs2, S v, aq, rl, p, q⟩ = false := by
        rw [Bool.eq_false_iff]
        exact fun h => HR.out.1 h (HQ.out.1 (by first | rfl | trivial))
      rw [hk]
      exact ⟨rfl, by (repeat first | with_reducible exact Below.refl _ _ | with_reducible refine Below.drew ?_ | with_reducible refine Below.alloc ?_ (by first | omega | (simp; omega) | simp) _ | with_reducible refine Below.setCell ?_ (by first | omega | (simp; omega) | simp) _)⟩
theorem chk_eq_8 (op rd rs1 rs2 : Int) (v : BitVec 64) (aq rl : Bool) (p q : Int) : (decide (op = op) && decide (rd = rd) && decide (rs1 = rs1) && decide (rs2 = rs2) && decide (0 = S v) && decide (false = aq) && decide (false = rl) && decide (0 = p) && decide (0 = q)) = (((hasT (8 : Int).toNat).1 || rd == 0) && ((hasT (8 : Int).toNat).2.1 || rs1 == 0) && ((hasT (8 : Int).toNat).2.2.1 || rs2 == 0) && ((hasT (8 : Int).toNat).2.2.2 || S v == 0) && ((decide ((8 : Int) = 11) || decide ((8 : Int) = 12)) || (!aq && !rl)) && (decide ((8 : Int) = 9) || (p == 0 && q == 0))) := by
  rw [Bool.eq_iff_iff]
  generalize S v = n
  cases aq <;> cases rl <;> simp [hasT, eq_comm (a := (0 : Int))] <;> grind
set_option maxHeartbeats 2000000 in
set_option maxRecDepth 100000 in
theorem rCheck_8 (op rd rs1 rs2 : Int) (v : BitVec 64) (aq rl : Bool) (p q : Int) (hf : formOf op = 8) (w : World) : Calls Tryz.prog 77 #[insV op rd rs1 rs2 (S v) aq rl p q] w fun e w' => e = .returned (.int .i64 (errI (Ins.ok ⟨op, rd, rs1, rs2, S v, aq, rl, p, q⟩))) ∧ Below w.heap.size w w' := by
  have HF := Lib.hid hf
  have HR := Lib.hid (refuses_iff ⟨op, rd, rs1, rs2, S v, aq, rl, p, q⟩ v rfl)
  have HZ := Lib.hid (show Refuses ⟨op, rd, rs1, rs2, S v, aq, rl, p, q⟩ v ↔ Bad 8 (((hasT (8 : Int).toNat).1 || rd == 0) && ((hasT (8 : Int).toNat).2.1 || rs1 == 0) && ((hasT (8 : Int).toNat).2.2.1 || rs2 == 0) && ((hasT (8 : Int).toNat).2.2.2 || S v == 0) && ((decide ((8 : Int) = 11) || decide ((8 : Int) = 12)) || (!aq && !rl)) && (decide ((8 : Int) = 9) || (p == 0 && q == 0))) rd rs1 rs2 false (numB op (S v)) p q by unfold Refuses; simp only [hf]; exact Iff.rfl)
  clear hf
  go_enter Tryz.func77, Tryz.ntmps77
  all_goals (go_upto_region 16 with (first | (go_at_call 36; (with_reducible refine (rForm_is op _ HF _).mono ?_); rintro e w' ⟨rfl, rfl⟩) | (go_at_call 102; (with_reducible refine (has_8 _).mono ?_); rintro e w' ⟨rfl, rfl⟩)))
  all_goals
    refine chk_reg op rd rs1 rs2 v aq rl p q 8 (((hasT (8 : Int).toNat).1 || rd == 0) && ((hasT (8 : Int).toNat).2.1 || rs1 == 0) && ((hasT (8 : Int).toNat).2.2.1 || rs2 == 0) && ((hasT (8 : Int).toNat).2.2.2 || S v == 0) && ((decide ((8 : Int) = 11) || decide ((8 : Int) = 12)) || (!aq && !rl)) && (decide ((8 : Int) = 9) || (p == 0 && q == 0))) false _ (.int .i64 op) (.int .i64 rd) (.int .i64 rs1) (.int .i64 rs2) (.int .i64 0) (.bool false) (.bool false) (.int .i64 0) (.int .i64 0) w.heap.size (w.heap.size + 1) _ _ _ _ _ _ _ _ _ _ _ _ _ _ _ _ _ _ _ _ _ _ _ _ _ _ _ _ _ _ _ _ _ _ _ _ _ _ _ _ _ _ _ _ _ _ _ _ _ _ _ _ _ _ _ _ (Lib.hid rfl) (neq_ins _ _ _ _ _ _ _ _ _ _ _ _ _ _ _ _ _ _ _ (chk_eq_8 op rd rs1 rs2 v aq rl p q)) (by go_simp) (by go_simp) (by go_simp) (by go_simp) (by go_simp) (by go_simp) (by go_simp) (by go_simp) (by go_simp) (by go_simp) (by go_simp) (by go_simp) (by go_simp) (by go_simp) (by go_simp) (by go_simp) (by go_simp) (by go_simp) ?_
    intro _ _ _ _ _ _ _ _ _ _ _ _ _ _ _ _ _ _ _ _ _ _ _ _ _ _ _ _ _ _ _ _ _ _ _ _ _ _ _ _ _ _ _ _ _ _ _ _ _ _ _ _ _ _ _ _ _ _ _ _ _ _ _ _ _ _ _ _ _ r hr
    have HQ := Lib.hid (hr.trans HZ.out.symm)
    clear hr
    cases r
    · go_wp2_with fail
      go_ret
      have hk : Ins.ok ⟨op, rd, rs1, rs2, S v, aq, rl, p, q⟩ = true := HR.out.2 fun h => (by have := HQ.out.2 h; simp at this)
      rw [hk]
      exact ⟨rfl, by (repeat first | with_reducible exact Below.refl _ _ | with_reducible refine Below.drew ?_ | with_reducible refine Below.alloc ?_ (by first | omega | (simp; omega) | simp) _ | with_reducible refine Below.setCell ?_ (by first | omega | (simp; omega) | simp) _)⟩
    · go_wp2_with fail
      go_ret
      have hk : Ins.ok ⟨op, rd, rs1, rs2, S v, aq, rl, p, q⟩ = false := by
        rw [Bool.eq_false_iff]
        exact fun h => HR.out.1 h (HQ.out.1 (by first | rfl | trivial))
      rw [hk]
      exact ⟨rfl, by (repeat first | with_reducible exact Below.refl _ _ | with_reducible refine Below.drew ?_ | with_reducible refine Below.alloc ?_ (by first | omega | (simp; omega) | simp) _ | with_reducible refine Below.setCell ?_ (by first | omega | (simp; omega) | simp) _)⟩
theorem chk_eq_9 (op rd rs1 rs2 : Int) (v : BitVec 64) (aq rl : Bool) (p q : Int) : (decide (op = op) && decide (0 = rd) && decide (0 = rs1) && decide (0 = rs2) && decide (0 = S v) && decide (false = aq) && decide (false = rl) && decide (p = p) && decide (q = q)) = (((hasT (9 : Int).toNat).1 || rd == 0) && ((hasT (9 : Int).toNat).2.1 || rs1 == 0) && ((hasT (9 : Int).toNat).2.2.1 || rs2 == 0) && ((hasT (9 : Int).toNat).2.2.2 || S v == 0) && ((decide ((9 : Int) = 11) || decide ((9 : Int) = 12)) || (!aq && !rl)) && (decide ((9 : Int) = 9) || (p == 0 && q == 0))) := by
  rw [Bool.eq_iff_iff]
  generalize S v = n
  cases aq <;> cases rl <;> simp [hasT, eq_comm (a := (0 : Int))] <;> grind
set_option maxHeartbeats 2000000 in
set_option maxRecDepth 100000 in
theorem rCheck_9 (op rd rs1 rs2 : Int) (v : BitVec 64) (aq rl : Bool) (p q : Int) (hf : formOf op = 9) (w : World) : Calls Tryz.prog 77 #[insV op rd rs1 rs2 (S v) aq rl p q] w fun e w' => e = .returned (.int .i64 (errI (Ins.ok ⟨op, rd, rs1, rs2, S v, aq, rl, p, q⟩))) ∧ Below w.heap.size w w' := by
  have HF := Lib.hid hf
  have HR := Lib.hid (refuses_iff ⟨op, rd, rs1, rs2, S v, aq, rl, p, q⟩ v rfl)
  have HZ := Lib.hid (show Refuses ⟨op, rd, rs1, rs2, S v, aq, rl, p, q⟩ v ↔ Bad 9 (((hasT (9 : Int).toNat).1 || rd == 0) && ((hasT (9 : Int).toNat).2.1 || rs1 == 0) && ((hasT (9 : Int).toNat).2.2.1 || rs2 == 0) && ((hasT (9 : Int).toNat).2.2.2 || S v == 0) && ((decide ((9 : Int) = 11) || decide ((9 : Int) = 12)) || (!aq && !rl)) && (decide ((9 : Int) = 9) || (p == 0 && q == 0))) rd rs1 rs2 false (numB op (S v)) p q by unfold Refuses; simp only [hf]; exact Iff.rfl)
  clear hf
  go_enter Tryz.func77, Tryz.ntmps77
  go_upto_region 15 with (first | (go_at_call 36; (with_reducible refine (rForm_is op _ HF _).mono ?_); rintro e w' ⟨rfl, rfl⟩) | (go_at_call 102; (with_reducible refine (has_9 _).mono ?_); rintro e w' ⟨rfl, rfl⟩))
  go_region_held3 (fun w' => w'.cell? ⟨w.heap.size, 7, none⟩ = some (.int .i64 p) ∧ w'.cell? ⟨w.heap.size, 8, none⟩ = some (.int .i64 q)) (go_keep) ((fail))
  all_goals (go_upto_region 16 with (first | (go_at_call 36; (with_reducible refine (rForm_is op _ HF _).mono ?_); rintro e w' ⟨rfl, rfl⟩) | (go_at_call 102; (with_reducible refine (has_9 _).mono ?_); rintro e w' ⟨rfl, rfl⟩)))
  all_goals
    refine chk_reg op rd rs1 rs2 v aq rl p q 9 (((hasT (9 : Int).toNat).1 || rd == 0) && ((hasT (9 : Int).toNat).2.1 || rs1 == 0) && ((hasT (9 : Int).toNat).2.2.1 || rs2 == 0) && ((hasT (9 : Int).toNat).2.2.2 || S v == 0) && ((decide ((9 : Int) = 11) || decide ((9 : Int) = 12)) || (!aq && !rl)) && (decide ((9 : Int) = 9) || (p == 0 && q == 0))) false _ (.int .i64 op) (.int .i64 0) (.int .i64 0) (.int .i64 0) (.int .i64 0) (.bool false) (.bool false) (.int .i64 p) (.int .i64 q) w.heap.size (w.heap.size + 1) _ _ _ _ _ _ _ _ _ _ _ _ _ _ _ _ _ _ _ _ _ _ _ _ _ _ _ _ _ _ _ _ _ _ _ _ _ _ _ _ _ _ _ _ _ _ _ _ _ _ _ _ _ _ _ _ (Lib.hid rfl) (neq_ins _ _ _ _ _ _ _ _ _ _ _ _ _ _ _ _ _ _ _ (chk_eq_9 op rd rs1 rs2 v aq rl p q)) (by go_simp) (by go_simp) (by go_simp) (by go_simp) (by go_simp) (by go_simp) (by go_simp) (by go_simp) (by go_simp) (by go_simp) (by go_simp) (by go_simp) (by go_simp) (by go_simp) (by go_simp) (by go_simp) (by go_simp) (by go_simp) ?_
    intro _ _ _ _ _ _ _ _ _ _ _ _ _ _ _ _ _ _ _ _ _ _ _ _ _ _ _ _ _ _ _ _ _ _ _ _ _ _ _ _ _ _ _ _ _ _ _ _ _ _ _ _ _ _ _ _ _ _ _ _ _ _ _ _ _ _ _ _ _ r hr
    have HQ := Lib.hid (hr.trans HZ.out.symm)
    clear hr
    cases r
    · go_wp2_with fail
      go_ret
      have hk : Ins.ok ⟨op, rd, rs1, rs2, S v, aq, rl, p, q⟩ = true := HR.out.2 fun h => (by have := HQ.out.2 h; simp at this)
      rw [hk]
      exact ⟨rfl, by (repeat first | with_reducible exact Below.refl _ _ | with_reducible refine Below.drew ?_ | with_reducible refine Below.alloc ?_ (by first | omega | (simp; omega) | simp) _ | with_reducible refine Below.setCell ?_ (by first | omega | (simp; omega) | simp) _)⟩
    · go_wp2_with fail
      go_ret
      have hk : Ins.ok ⟨op, rd, rs1, rs2, S v, aq, rl, p, q⟩ = false := by
        rw [Bool.eq_false_iff]
        exact fun h => HR.out.1 h (HQ.out.1 (by first | rfl | trivial))
      rw [hk]
      exact ⟨rfl, by (repeat first | with_reducible exact Below.refl _ _ | with_reducible refine Below.drew ?_ | with_reducible refine Below.alloc ?_ (by first | omega | (simp; omega) | simp) _ | with_reducible refine Below.setCell ?_ (by first | omega | (simp; omega) | simp) _)⟩
theorem chk_eq_10 (op rd rs1 rs2 : Int) (v : BitVec 64) (aq rl : Bool) (p q : Int) : (decide (op = op) && decide (0 = rd) && decide (0 = rs1) && decide (0 = rs2) && decide (0 = S v) && decide (false = aq) && decide (false = rl) && decide (0 = p) && decide (0 = q)) = (((hasT (10 : Int).toNat).1 || rd == 0) && ((hasT (10 : Int).toNat).2.1 || rs1 == 0) && ((hasT (10 : Int).toNat).2.2.1 || rs2 == 0) && ((hasT (10 : Int).toNat).2.2.2 || S v == 0) && ((decide ((10 : Int) = 11) || decide ((10 : Int) = 12)) || (!aq && !rl)) && (decide ((10 : Int) = 9) || (p == 0 && q == 0))) := by
  rw [Bool.eq_iff_iff]
  generalize S v = n
  cases aq <;> cases rl <;> simp [hasT, eq_comm (a := (0 : Int))] <;> grind
set_option maxHeartbeats 2000000 in
set_option maxRecDepth 100000 in
theorem rCheck_10 (op rd rs1 rs2 : Int) (v : BitVec 64) (aq rl : Bool) (p q : Int) (hf : formOf op = 10) (w : World) : Calls Tryz.prog 77 #[insV op rd rs1 rs2 (S v) aq rl p q] w fun e w' => e = .returned (.int .i64 (errI (Ins.ok ⟨op, rd, rs1, rs2, S v, aq, rl, p, q⟩))) ∧ Below w.heap.size w w' := by
  have HF := Lib.hid hf
  have HR := Lib.hid (refuses_iff ⟨op, rd, rs1, rs2, S v, aq, rl, p, q⟩ v rfl)
  have HZ := Lib.hid (show Refuses ⟨op, rd, rs1, rs2, S v, aq, rl, p, q⟩ v ↔ Bad 10 (((hasT (10 : Int).toNat).1 || rd == 0) && ((hasT (10 : Int).toNat).2.1 || rs1 == 0) && ((hasT (10 : Int).toNat).2.2.1 || rs2 == 0) && ((hasT (10 : Int).toNat).2.2.2 || S v == 0) && ((decide ((10 : Int) = 11) || decide ((10 : Int) = 12)) || (!aq && !rl)) && (decide ((10 : Int) = 9) || (p == 0 && q == 0))) rd rs1 rs2 false (numB op (S v)) p q by unfold Refuses; simp only [hf]; exact Iff.rfl)
  clear hf
  go_enter Tryz.func77, Tryz.ntmps77
  all_goals (go_upto_region 16 with (first | (go_at_call 36; (with_reducible refine (rForm_is op _ HF _).mono ?_); rintro e w' ⟨rfl, rfl⟩) | (go_at_call 102; (with_reducible refine (has_10 _).mono ?_); rintro e w' ⟨rfl, rfl⟩)))
  all_goals
    refine chk_reg op rd rs1 rs2 v aq rl p q 10 (((hasT (10 : Int).toNat).1 || rd == 0) && ((hasT (10 : Int).toNat).2.1 || rs1 == 0) && ((hasT (10 : Int).toNat).2.2.1 || rs2 == 0) && ((hasT (10 : Int).toNat).2.2.2 || S v == 0) && ((decide ((10 : Int) = 11) || decide ((10 : Int) = 12)) || (!aq && !rl)) && (decide ((10 : Int) = 9) || (p == 0 && q == 0))) false _ (.int .i64 op) (.int .i64 0) (.int .i64 0) (.int .i64 0) (.int .i64 0) (.bool false) (.bool false) (.int .i64 0) (.int .i64 0) w.heap.size (w.heap.size + 1) _ _ _ _ _ _ _ _ _ _ _ _ _ _ _ _ _ _ _ _ _ _ _ _ _ _ _ _ _ _ _ _ _ _ _ _ _ _ _ _ _ _ _ _ _ _ _ _ _ _ _ _ _ _ _ _ (Lib.hid rfl) (neq_ins _ _ _ _ _ _ _ _ _ _ _ _ _ _ _ _ _ _ _ (chk_eq_10 op rd rs1 rs2 v aq rl p q)) (by go_simp) (by go_simp) (by go_simp) (by go_simp) (by go_simp) (by go_simp) (by go_simp) (by go_simp) (by go_simp) (by go_simp) (by go_simp) (by go_simp) (by go_simp) (by go_simp) (by go_simp) (by go_simp) (by go_simp) (by go_simp) ?_
    intro _ _ _ _ _ _ _ _ _ _ _ _ _ _ _ _ _ _ _ _ _ _ _ _ _ _ _ _ _ _ _ _ _ _ _ _ _ _ _ _ _ _ _ _ _ _ _ _ _ _ _ _ _ _ _ _ _ _ _ _ _ _ _ _ _ _ _ _ _ r hr
    have HQ := Lib.hid (hr.trans HZ.out.symm)
    clear hr
    cases r
    · go_wp2_with fail
      go_ret
      have hk : Ins.ok ⟨op, rd, rs1, rs2, S v, aq, rl, p, q⟩ = true := HR.out.2 fun h => (by have := HQ.out.2 h; simp at this)
      rw [hk]
      exact ⟨rfl, by (repeat first | with_reducible exact Below.refl _ _ | with_reducible refine Below.drew ?_ | with_reducible refine Below.alloc ?_ (by first | omega | (simp; omega) | simp) _ | with_reducible refine Below.setCell ?_ (by first | omega | (simp; omega) | simp) _)⟩
    · go_wp2_with fail
      go_ret
      have hk : Ins.ok ⟨op, rd, rs1, rs2, S v, aq, rl, p, q⟩ = false := by
        rw [Bool.eq_false_iff]
        exact fun h => HR.out.1 h (HQ.out.1 (by first | rfl | trivial))
      rw [hk]
      exact ⟨rfl, by (repeat first | with_reducible exact Below.refl _ _ | with_reducible refine Below.drew ?_ | with_reducible refine Below.alloc ?_ (by first | omega | (simp; omega) | simp) _ | with_reducible refine Below.setCell ?_ (by first | omega | (simp; omega) | simp) _)⟩
theorem chk_eq_11 (op rd rs1 rs2 : Int) (v : BitVec 64) (aq rl : Bool) (p q : Int) : (decide (op = op) && decide (rd = rd) && decide (rs1 = rs1) && decide (0 = rs2) && decide (0 = S v) && decide (aq = aq) && decide (rl = rl) && decide (0 = p) && decide (0 = q)) = (((hasT (11 : Int).toNat).1 || rd == 0) && ((hasT (11 : Int).toNat).2.1 || rs1 == 0) && ((hasT (11 : Int).toNat).2.2.1 || rs2 == 0) && ((hasT (11 : Int).toNat).2.2.2 || S v == 0) && ((decide ((11 : Int) = 11) || decide ((11 : Int) = 12)) || (!aq && !rl)) && (decide ((11 : Int) = 9) || (p == 0 && q == 0))) := by
  rw [Bool.eq_iff_iff]
  generalize S v = n
  cases aq <;> cases rl <;> simp [hasT, eq_comm (a := (0 : Int))] <;> grind
set_option maxHeartbeats 2000000 in
set_option maxRecDepth 100000 in
theorem rCheck_11 (op rd rs1 rs2 : Int) (v : BitVec 64) (aq rl : Bool) (p q : Int) (hf : formOf op = 11) (w : World) : Calls Tryz.prog 77 #[insV op rd rs1 rs2 (S v) aq rl p q] w fun e w' => e = .returned (.int .i64 (errI (Ins.ok ⟨op, rd, rs1, rs2, S v, aq, rl, p, q⟩))) ∧ Below w.heap.size w w' := by
  have HF := Lib.hid hf
  have HR := Lib.hid (refuses_iff ⟨op, rd, rs1, rs2, S v, aq, rl, p, q⟩ v rfl)
  have HZ := Lib.hid (show Refuses ⟨op, rd, rs1, rs2, S v, aq, rl, p, q⟩ v ↔ Bad 11 (((hasT (11 : Int).toNat).1 || rd == 0) && ((hasT (11 : Int).toNat).2.1 || rs1 == 0) && ((hasT (11 : Int).toNat).2.2.1 || rs2 == 0) && ((hasT (11 : Int).toNat).2.2.2 || S v == 0) && ((decide ((11 : Int) = 11) || decide ((11 : Int) = 12)) || (!aq && !rl)) && (decide ((11 : Int) = 9) || (p == 0 && q == 0))) rd rs1 rs2 false (numB op (S v)) p q by unfold Refuses; simp only [hf]; exact Iff.rfl)
  clear hf
  go_enter Tryz.func77, Tryz.ntmps77
  go_upto_region 13 with (first | (go_at_call 36; (with_reducible refine (rForm_is op _ HF _).mono ?_); rintro e w' ⟨rfl, rfl⟩) | (go_at_call 102; (with_reducible refine (has_11 _).mono ?_); rintro e w' ⟨rfl, rfl⟩))
  go_region_held3 (fun w' => w'.cell? ⟨w.heap.size, 5, none⟩ = some (.bool aq) ∧ w'.cell? ⟨w.heap.size, 6, none⟩ = some (.bool rl)) (go_keep) ((fail))
  all_goals (go_upto_region 16 with (first | (go_at_call 36; (with_reducible refine (rForm_is op _ HF _).mono ?_); rintro e w' ⟨rfl, rfl⟩) | (go_at_call 102; (with_reducible refine (has_11 _).mono ?_); rintro e w' ⟨rfl, rfl⟩)))
  all_goals
    refine chk_reg op rd rs1 rs2 v aq rl p q 11 (((hasT (11 : Int).toNat).1 || rd == 0) && ((hasT (11 : Int).toNat).2.1 || rs1 == 0) && ((hasT (11 : Int).toNat).2.2.1 || rs2 == 0) && ((hasT (11 : Int).toNat).2.2.2 || S v == 0) && ((decide ((11 : Int) = 11) || decide ((11 : Int) = 12)) || (!aq && !rl)) && (decide ((11 : Int) = 9) || (p == 0 && q == 0))) false _ (.int .i64 op) (.int .i64 rd) (.int .i64 rs1) (.int .i64 0) (.int .i64 0) (.bool aq) (.bool rl) (.int .i64 0) (.int .i64 0) w.heap.size (w.heap.size + 1) _ _ _ _ _ _ _ _ _ _ _ _ _ _ _ _ _ _ _ _ _ _ _ _ _ _ _ _ _ _ _ _ _ _ _ _ _ _ _ _ _ _ _ _ _ _ _ _ _ _ _ _ _ _ _ _ (Lib.hid rfl) (neq_ins _ _ _ _ _ _ _ _ _ _ _ _ _ _ _ _ _ _ _ (chk_eq_11 op rd rs1 rs2 v aq rl p q)) (by go_simp) (by go_simp) (by go_simp) (by go_simp) (by go_simp) (by go_simp) (by go_simp) (by go_simp) (by go_simp) (by go_simp) (by go_simp) (by go_simp) (by go_simp) (by go_simp) (by go_simp) (by go_simp) (by go_simp) (by go_simp) ?_
    intro _ _ _ _ _ _ _ _ _ _ _ _ _ _ _ _ _ _ _ _ _ _ _ _ _ _ _ _ _ _ _ _ _ _ _ _ _ _ _ _ _ _ _ _ _ _ _ _ _ _ _ _ _ _ _ _ _ _ _ _ _ _ _ _ _ _ _ _ _ r hr
    have HQ := Lib.hid (hr.trans HZ.out.symm)
    clear hr
    cases r
    · go_wp2_with fail
      go_ret
      have hk : Ins.ok ⟨op, rd, rs1, rs2, S v, aq, rl, p, q⟩ = true := HR.out.2 fun h => (by have := HQ.out.2 h; simp at this)
      rw [hk]
      exact ⟨rfl, by (repeat first | with_reducible exact Below.refl _ _ | with_reducible refine Below.drew ?_ | with_reducible refine Below.alloc ?_ (by first | omega | (simp; omega) | simp) _ | with_reducible refine Below.setCell ?_ (by first | omega | (simp; omega) | simp) _)⟩
    · go_wp2_with fail
      go_ret
      have hk : Ins.ok ⟨op, rd, rs1, rs2, S v, aq, rl, p, q⟩ = false := by
        rw [Bool.eq_false_iff]
        exact fun h => HR.out.1 h (HQ.out.1 (by first | rfl | trivial))
      rw [hk]
      exact ⟨rfl, by (repeat first | with_reducible exact Below.refl _ _ | with_reducible refine Below.drew ?_ | with_reducible refine Below.alloc ?_ (by first | omega | (simp; omega) | simp) _ | with_reducible refine Below.setCell ?_ (by first | omega | (simp; omega) | simp) _)⟩
theorem chk_eq_12 (op rd rs1 rs2 : Int) (v : BitVec 64) (aq rl : Bool) (p q : Int) : (decide (op = op) && decide (rd = rd) && decide (rs1 = rs1) && decide (rs2 = rs2) && decide (0 = S v) && decide (aq = aq) && decide (rl = rl) && decide (0 = p) && decide (0 = q)) = (((hasT (12 : Int).toNat).1 || rd == 0) && ((hasT (12 : Int).toNat).2.1 || rs1 == 0) && ((hasT (12 : Int).toNat).2.2.1 || rs2 == 0) && ((hasT (12 : Int).toNat).2.2.2 || S v == 0) && ((decide ((12 : Int) = 11) || decide ((12 : Int) = 12)) || (!aq && !rl)) && (decide ((12 : Int) = 9) || (p == 0 && q == 0))) := by
  rw [Bool.eq_iff_iff]
  generalize S v = n
  cases aq <;> cases rl <;> simp [hasT, eq_comm (a := (0 : Int))] <;> grind
set_option maxHeartbeats 2000000 in
set_option maxRecDepth 100000 in
theorem rCheck_12 (op rd rs1 rs2 : Int) (v : BitVec 64) (aq rl : Bool) (p q : Int) (hf : formOf op = 12) (w : World) : Calls Tryz.prog 77 #[insV op rd rs1 rs2 (S v) aq rl p q] w fun e w' => e = .returned (.int .i64 (errI (Ins.ok ⟨op, rd, rs1, rs2, S v, aq, rl, p, q⟩))) ∧ Below w.heap.size w w' := by
  have HF := Lib.hid hf
  have HR := Lib.hid (refuses_iff ⟨op, rd, rs1, rs2, S v, aq, rl, p, q⟩ v rfl)
  have HZ := Lib.hid (show Refuses ⟨op, rd, rs1, rs2, S v, aq, rl, p, q⟩ v ↔ Bad 12 (((hasT (12 : Int).toNat).1 || rd == 0) && ((hasT (12 : Int).toNat).2.1 || rs1 == 0) && ((hasT (12 : Int).toNat).2.2.1 || rs2 == 0) && ((hasT (12 : Int).toNat).2.2.2 || S v == 0) && ((decide ((12 : Int) = 11) || decide ((12 : Int) = 12)) || (!aq && !rl)) && (decide ((12 : Int) = 9) || (p == 0 && q == 0))) rd rs1 rs2 false (numB op (S v)) p q by unfold Refuses; simp only [hf]; exact Iff.rfl)
  clear hf
  go_enter Tryz.func77, Tryz.ntmps77
  go_upto_region 13 with (first | (go_at_call 36; (with_reducible refine (rForm_is op _ HF _).mono ?_); rintro e w' ⟨rfl, rfl⟩) | (go_at_call 102; (with_reducible refine (has_12 _).mono ?_); rintro e w' ⟨rfl, rfl⟩))
  go_region_held3 (fun w' => w'.cell? ⟨w.heap.size, 5, none⟩ = some (.bool aq) ∧ w'.cell? ⟨w.heap.size, 6, none⟩ = some (.bool rl)) (go_keep) ((fail))
  all_goals (go_upto_region 16 with (first | (go_at_call 36; (with_reducible refine (rForm_is op _ HF _).mono ?_); rintro e w' ⟨rfl, rfl⟩) | (go_at_call 102; (with_reducible refine (has_12 _).mono ?_); rintro e w' ⟨rfl, rfl⟩)))
  all_goals
    refine chk_reg op rd rs1 rs2 v aq rl p q 12 (((hasT (12 : Int).toNat).1 || rd == 0) && ((hasT (12 : Int).toNat).2.1 || rs1 == 0) && ((hasT (12 : Int).toNat).2.2.1 || rs2 == 0) && ((hasT (12 : Int).toNat).2.2.2 || S v == 0) && ((decide ((12 : Int) = 11) || decide ((12 : Int) = 12)) || (!aq && !rl)) && (decide ((12 : Int) = 9) || (p == 0 && q == 0))) false _ (.int .i64 op) (.int .i64 rd) (.int .i64 rs1) (.int .i64 rs2) (.int .i64 0) (.bool aq) (.bool rl) (.int .i64 0) (.int .i64 0) w.heap.size (w.heap.size + 1) _ _ _ _ _ _ _ _ _ _ _ _ _ _ _ _ _ _ _ _ _ _ _ _ _ _ _ _ _ _ _ _ _ _ _ _ _ _ _ _ _ _ _ _ _ _ _ _ _ _ _ _ _ _ _ _ (Lib.hid rfl) (neq_ins _ _ _ _ _ _ _ _ _ _ _ _ _ _ _ _ _ _ _ (chk_eq_12 op rd rs1 rs2 v aq rl p q)) (by go_simp) (by go_simp) (by go_simp) (by go_simp) (by go_simp) (by go_simp) (by go_simp) (by go_simp) (by go_simp) (by go_simp) (by go_simp) (by go_simp) (by go_simp) (by go_simp) (by go_simp) (by go_simp) (by go_simp) (by go_simp) ?_
    intro _ _ _ _ _ _ _ _ _ _ _ _ _ _ _ _ _ _ _ _ _ _ _ _ _ _ _ _ _ _ _ _ _ _ _ _ _ _ _ _ _ _ _ _ _ _ _ _ _ _ _ _ _ _ _ _ _ _ _ _ _ _ _ _ _ _ _ _ _ r hr
    have HQ := Lib.hid (hr.trans HZ.out.symm)
    clear hr
    cases r
    · go_wp2_with fail
      go_ret
      have hk : Ins.ok ⟨op, rd, rs1, rs2, S v, aq, rl, p, q⟩ = true := HR.out.2 fun h => (by have := HQ.out.2 h; simp at this)
      rw [hk]
      exact ⟨rfl, by (repeat first | with_reducible exact Below.refl _ _ | with_reducible refine Below.drew ?_ | with_reducible refine Below.alloc ?_ (by first | omega | (simp; omega) | simp) _ | with_reducible refine Below.setCell ?_ (by first | omega | (simp; omega) | simp) _)⟩
    · go_wp2_with fail
      go_ret
      have hk : Ins.ok ⟨op, rd, rs1, rs2, S v, aq, rl, p, q⟩ = false := by
        rw [Bool.eq_false_iff]
        exact fun h => HR.out.1 h (HQ.out.1 (by first | rfl | trivial))
      rw [hk]
      exact ⟨rfl, by (repeat first | with_reducible exact Below.refl _ _ | with_reducible refine Below.drew ?_ | with_reducible refine Below.alloc ?_ (by first | omega | (simp; omega) | simp) _ | with_reducible refine Below.setCell ?_ (by first | omega | (simp; omega) | simp) _)⟩
theorem rCheck_any (op rd rs1 rs2 : Int) (v : BitVec 64) (aq rl : Bool) (p q : Int) (w : World) : Calls Tryz.prog 77 #[insV op rd rs1 rs2 (S v) aq rl p q] w fun e w' => e = .returned (.int .i64 (errI (Ins.ok ⟨op, rd, rs1, rs2, S v, aq, rl, p, q⟩))) ∧ Below w.heap.size w w' := by
  have hh := form_hi op
  rcases (by omega : formOf op = 0 ∨ formOf op = 1 ∨ formOf op = 2 ∨ formOf op = 3 ∨ formOf op = 4 ∨ formOf op = 5 ∨ formOf op = 6 ∨ formOf op = 7 ∨ formOf op = 8 ∨ formOf op = 9 ∨ formOf op = 10 ∨ formOf op = 11 ∨ formOf op = 12) with h | h | h | h | h | h | h | h | h | h | h | h | h
  · exact rCheck_0 op rd rs1 rs2 v aq rl p q h w
  · exact rCheck_1 op rd rs1 rs2 v aq rl p q h w
  · exact rCheck_2 op rd rs1 rs2 v aq rl p q h w
  · exact rCheck_3 op rd rs1 rs2 v aq rl p q h w
  · exact rCheck_4 op rd rs1 rs2 v aq rl p q h w
  · exact rCheck_5 op rd rs1 rs2 v aq rl p q h w
  · exact rCheck_6 op rd rs1 rs2 v aq rl p q h w
  · exact rCheck_7 op rd rs1 rs2 v aq rl p q h w
  · exact rCheck_8 op rd rs1 rs2 v aq rl p q h w
  · exact rCheck_9 op rd rs1 rs2 v aq rl p q h w
  · exact rCheck_10 op rd rs1 rs2 v aq rl p q h w
  · exact rCheck_11 op rd rs1 rs2 v aq rl p q h w
  · exact rCheck_12 op rd rs1 rs2 v aq rl p q h w
end Go.Proofs.YtbchecnidiiddaaGreatDoor
