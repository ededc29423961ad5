/-
  Proved here: the document's own Text (layer 2) of the six instructions of the third chapter's examples. No condition.
-/
import Derived.Test.YtbchecnidiiddaaGreatDoorRef02Lits
namespace Go.Proofs.YtbchecnidiiddaaGreatDoor
set_option linter.unusedVariables false
open Go.RowKit

theorem add_lit (a b c : List UInt8) (h : Hid (a ++ b = c ∧ a.length + b.length ≤ 1000000)) (w : World) : (Op.stringOp .add ⟨a.toArray⟩ ⟨b.toArray⟩).run Tryz.prog w = .ok (.string ⟨c.toArray⟩) w := by
  rw [run_string_add_sum w _ _ (by rw [lit_size, lit_size]; have := h.out.2; omega)]
  have e : (⟨a.toArray⟩ : ByteArray) ++ ⟨b.toArray⟩ = ⟨c.toArray⟩ := by
    refine ByteArray.ext ?_
    rw [ByteArray.data_append, ← h.out.1]
    simp
  rw [e]
theorem dec_1 (n : Nat) (h : n < 10) : Lib.decDigits n = [UInt8.ofNat (48 + n)] := Lib.decDigits_one h
theorem dec_2048 : Lib.decDigits 2048 = [50, 48, 52, 56] := by
  rw [Lib.decDigits, dif_neg (by omega), Lib.decDigits, dif_neg (by omega), Lib.decDigits, dif_neg (by omega), Lib.decDigits_one (by omega)]
  rfl
theorem t0K : Hid ((⟨22, 5, 6, 0, (-3), false, false, 0, 0⟩ : Ins).ok = true) := Lib.hid (by decide +kernel)
theorem t0R : Hid (-9223372036854775808 ≤ (⟨22, 5, 6, 0, (-3), false, false, 0, 0⟩ : Ins).imm ∧ (⟨22, 5, 6, 0, (-3), false, false, 0, 0⟩ : Ins).imm ≤ 9223372036854775807) := Lib.hid ⟨by decide, by decide⟩
theorem t0N : Hid ((22 : Int) = ((22 : Nat) : Int) ∧ 22 < 88 ∧ formOf ((22 : Nat) : Int) ≠ 0 ∧ nameOf ((22 : Nat) : Int) = [97, 100, 100, 105]) := Lib.hid (by refine ⟨rfl, by decide, by decide +kernel, by decide +kernel⟩)
theorem t0F : Hid (formOf 22 = 3) := Lib.hid (by decide +kernel)
theorem t0X0 : Hid ((0 : Int) = ((0 : Nat) : Int) ∧ 0 < 9223372036854775808) := Lib.hid ⟨rfl, by decide⟩
theorem t0Y0 : Hid ([120, 48] = xL 0) := Lib.hid (by unfold xL; rw [dec_1 0 (by decide)]; rfl)
theorem t0X5 : Hid ((5 : Int) = ((5 : Nat) : Int) ∧ 5 < 9223372036854775808) := Lib.hid ⟨rfl, by decide⟩
theorem t0Y5 : Hid ([120, 53] = xL 5) := Lib.hid (by unfold xL; rw [dec_1 5 (by decide)]; rfl)
theorem t0X6 : Hid ((6 : Int) = ((6 : Nat) : Int) ∧ 6 < 9223372036854775808) := Lib.hid ⟨rfl, by decide⟩
theorem t0Y6 : Hid ([120, 54] = xL 6) := Lib.hid (by unfold xL; rw [dec_1 6 (by decide)]; rfl)
theorem t0Z : Hid ((-3 : Int) = -((3 : Nat) : Int) ∧ 0 < 3 ∧ 3 < 9223372036854775808) := Lib.hid ⟨rfl, by decide, by decide⟩
theorem t0W : Hid ([45, 51] = 45 :: Lib.decDigits 3) := Lib.hid (by rw [dec_1 3 (by decide)]; rfl)
set_option maxRecDepth 100000 in
set_option maxHeartbeats 4000000 in
theorem text_0 (w : World) : Calls Tryz.prog 41 #[(⟨22, 5, 6, 0, (-3), false, false, 0, 0⟩ : Ins).V] w fun e w' => PtOk0 (.tuple #[.string ⟨#[97, 100, 100, 105, 32, 120, 53, 44, 32, 120, 54, 44, 32, 45, 51]⟩, .int .i64 0]) w e w' := by
  have a0 := fun w => add_lit [97, 100, 100, 105] [32] [97, 100, 100, 105, 32] (Lib.hid (by decide)) w
  have a1 := fun w => add_lit [97, 100, 100, 105, 32] [120, 53] [97, 100, 100, 105, 32, 120, 53] (Lib.hid (by decide)) w
  have a2 := fun w => add_lit [97, 100, 100, 105, 32, 120, 53] [44, 32] [97, 100, 100, 105, 32, 120, 53, 44, 32] (Lib.hid (by decide)) w
  have a3 := fun w => add_lit [97, 100, 100, 105, 32, 120, 53, 44, 32] [120, 54] [97, 100, 100, 105, 32, 120, 53, 44, 32, 120, 54] (Lib.hid (by decide)) w
  have a4 := fun w => add_lit [97, 100, 100, 105, 32, 120, 53, 44, 32, 120, 54] [44, 32] [97, 100, 100, 105, 32, 120, 53, 44, 32, 120, 54, 44, 32] (Lib.hid (by decide)) w
  have a5 := fun w => add_lit [97, 100, 100, 105, 32, 120, 53, 44, 32, 120, 54, 44, 32] [45, 51] [97, 100, 100, 105, 32, 120, 53, 44, 32, 120, 54, 44, 32, 45, 51] (Lib.hid (by decide)) w
  have S0 := Lib.hid (Stand.start (⟨22, 5, 6, 0, (-3), false, false, 0, 0⟩) w)
  obtain ⟨hz, c0, c1, c2, c3, c4, c5, c6, c7, c8⟩ := (Stand.ins S0.out).facts
  dsimp only at c0 c1 c2 c3 c4 c5 c6 c7 c8
  go_enter Tryz.func41, Tryz.ntmps41
  go_wp2_with (first
    | (go_at_call 77; (with_reducible refine (rCheck_ok (⟨22, 5, 6, 0, (-3), false, false, 0, 0⟩) t0K t0R _).mono ?_); rintro e w1 ⟨rfl, hb⟩; have S1 := Lib.hid (Stand.on S0.out hb); clear hb hz c0 c1 c2 c3 c4 c5 c6 c7 c8; obtain ⟨hz, c0, c1, c2, c3, c4, c5, c6, c7, c8⟩ := (Stand.ins S1.out).facts; dsimp only at c0 c1 c2 c3 c4 c5 c6 c7 c8)
    | (go_at_call 78; (with_reducible refine (name_lit 22 22 _ t0N _).mono ?_); rintro e w2 ⟨rfl, hb⟩; have S2 := Lib.hid (Stand.on S1.out hb); clear hb hz c0 c1 c2 c3 c4 c5 c6 c7 c8; obtain ⟨hz, c0, c1, c2, c3, c4, c5, c6, c7, c8⟩ := (Stand.ins S2.out).facts; dsimp only at c0 c1 c2 c3 c4 c5 c6 c7 c8))
  go_quiet (first | (go_at_call 79; first | exact Calls.quiet_of_same (sameq (x_lit 0 0 t0X0 [120, 48] t0Y0 _)) | exact Calls.quiet_of_same (sameq (x_lit 5 5 t0X5 [120, 53] t0Y5 _)) | exact Calls.quiet_of_same (sameq (x_lit 6 6 t0X6 [120, 54] t0Y6 _))) | (go_at_call 80; exact Calls.quiet_of_same (sameq (sgn_lit 3 (-3) t0Z [45, 51] t0W _))))
  go_wp2_with (go_at_call 36; (with_reducible refine (form_lit 22 3 t0F _).mono ?_); rintro e w3 ⟨rfl, rfl⟩)
  go_ret2
  exact ⟨rfl, below_drewN (Stand.below S2.out) _⟩
theorem t1K : Hid ((⟨21, 0, 2, 7, 8, false, false, 0, 0⟩ : Ins).ok = true) := Lib.hid (by decide +kernel)
theorem t1R : Hid (-9223372036854775808 ≤ (⟨21, 0, 2, 7, 8, false, false, 0, 0⟩ : Ins).imm ∧ (⟨21, 0, 2, 7, 8, false, false, 0, 0⟩ : Ins).imm ≤ 9223372036854775807) := Lib.hid ⟨by decide, by decide⟩
theorem t1N : Hid ((21 : Int) = ((21 : Nat) : Int) ∧ 21 < 88 ∧ formOf ((21 : Nat) : Int) ≠ 0 ∧ nameOf ((21 : Nat) : Int) = [115, 100]) := Lib.hid (by refine ⟨rfl, by decide, by decide +kernel, by decide +kernel⟩)
theorem t1F : Hid (formOf 21 = 5) := Lib.hid (by decide +kernel)
theorem t1X0 : Hid ((0 : Int) = ((0 : Nat) : Int) ∧ 0 < 9223372036854775808) := Lib.hid ⟨rfl, by decide⟩
theorem t1Y0 : Hid ([120, 48] = xL 0) := Lib.hid (by unfold xL; rw [dec_1 0 (by decide)]; rfl)
theorem t1X2 : Hid ((2 : Int) = ((2 : Nat) : Int) ∧ 2 < 9223372036854775808) := Lib.hid ⟨rfl, by decide⟩
theorem t1Y2 : Hid ([120, 50] = xL 2) := Lib.hid (by unfold xL; rw [dec_1 2 (by decide)]; rfl)
theorem t1X7 : Hid ((7 : Int) = ((7 : Nat) : Int) ∧ 7 < 9223372036854775808) := Lib.hid ⟨rfl, by decide⟩
theorem t1Y7 : Hid ([120, 55] = xL 7) := Lib.hid (by unfold xL; rw [dec_1 7 (by decide)]; rfl)
theorem t1Z : Hid ((8 : Int) = ((8 : Nat) : Int) ∧ 8 < 9223372036854775808) := Lib.hid ⟨rfl, by decide⟩
theorem t1W : Hid ([56] = Lib.decDigits 8) := Lib.hid (by rw [dec_1 8 (by decide)]; rfl)
set_option maxRecDepth 100000 in
set_option maxHeartbeats 4000000 in
theorem text_1 (w : World) : Calls Tryz.prog 41 #[(⟨21, 0, 2, 7, 8, false, false, 0, 0⟩ : Ins).V] w fun e w' => PtOk0 (.tuple #[.string ⟨#[115, 100, 32, 120, 55, 44, 32, 56, 40, 120, 50, 41]⟩, .int .i64 0]) w e w' := by
  have a0 := fun w => add_lit [115, 100] [32] [115, 100, 32] (Lib.hid (by decide)) w
  have a1 := fun w => add_lit [115, 100, 32] [120, 55] [115, 100, 32, 120, 55] (Lib.hid (by decide)) w
  have a2 := fun w => add_lit [115, 100, 32, 120, 55] [44, 32] [115, 100, 32, 120, 55, 44, 32] (Lib.hid (by decide)) w
  have a3 := fun w => add_lit [115, 100, 32, 120, 55, 44, 32] [56] [115, 100, 32, 120, 55, 44, 32, 56] (Lib.hid (by decide)) w
  have a4 := fun w => add_lit [115, 100, 32, 120, 55, 44, 32, 56] [40] [115, 100, 32, 120, 55, 44, 32, 56, 40] (Lib.hid (by decide)) w
  have a5 := fun w => add_lit [115, 100, 32, 120, 55, 44, 32, 56, 40] [120, 50] [115, 100, 32, 120, 55, 44, 32, 56, 40, 120, 50] (Lib.hid (by decide)) w
  have a6 := fun w => add_lit [115, 100, 32, 120, 55, 44, 32, 56, 40, 120, 50] [41] [115, 100, 32, 120, 55, 44, 32, 56, 40, 120, 50, 41] (Lib.hid (by decide)) w
  have S0 := Lib.hid (Stand.start (⟨21, 0, 2, 7, 8, false, false, 0, 0⟩) w)
  obtain ⟨hz, c0, c1, c2, c3, c4, c5, c6, c7, c8⟩ := (Stand.ins S0.out).facts
  dsimp only at c0 c1 c2 c3 c4 c5 c6 c7 c8
  go_enter Tryz.func41, Tryz.ntmps41
  go_wp2_with (first
    | (go_at_call 77; (with_reducible refine (rCheck_ok (⟨21, 0, 2, 7, 8, false, false, 0, 0⟩) t1K t1R _).mono ?_); rintro e w1 ⟨rfl, hb⟩; have S1 := Lib.hid (Stand.on S0.out hb); clear hb hz c0 c1 c2 c3 c4 c5 c6 c7 c8; obtain ⟨hz, c0, c1, c2, c3, c4, c5, c6, c7, c8⟩ := (Stand.ins S1.out).facts; dsimp only at c0 c1 c2 c3 c4 c5 c6 c7 c8)
    | (go_at_call 78; (with_reducible refine (name_lit 21 21 _ t1N _).mono ?_); rintro e w2 ⟨rfl, hb⟩; have S2 := Lib.hid (Stand.on S1.out hb); clear hb hz c0 c1 c2 c3 c4 c5 c6 c7 c8; obtain ⟨hz, c0, c1, c2, c3, c4, c5, c6, c7, c8⟩ := (Stand.ins S2.out).facts; dsimp only at c0 c1 c2 c3 c4 c5 c6 c7 c8))
  go_quiet (first | (go_at_call 79; first | exact Calls.quiet_of_same (sameq (x_lit 0 0 t1X0 [120, 48] t1Y0 _)) | exact Calls.quiet_of_same (sameq (x_lit 2 2 t1X2 [120, 50] t1Y2 _)) | exact Calls.quiet_of_same (sameq (x_lit 7 7 t1X7 [120, 55] t1Y7 _))) | (go_at_call 80; exact Calls.quiet_of_same (sameq (sgp_lit 8 8 t1Z [56] t1W _))))
  go_wp2_with (go_at_call 36; (with_reducible refine (form_lit 21 5 t1F _).mono ?_); rintro e w3 ⟨rfl, rfl⟩)
  go_ret2
  exact ⟨rfl, below_drewN (Stand.below S2.out) _⟩
theorem t2K : Hid ((⟨5, 0, 1, 2, (-4), false, false, 0, 0⟩ : Ins).ok = true) := Lib.hid (by decide +kernel)
theorem t2R : Hid (-9223372036854775808 ≤ (⟨5, 0, 1, 2, (-4), false, false, 0, 0⟩ : Ins).imm ∧ (⟨5, 0, 1, 2, (-4), false, false, 0, 0⟩ : Ins).imm ≤ 9223372036854775807) := Lib.hid ⟨by decide, by decide⟩
theorem t2N : Hid ((5 : Int) = ((5 : Nat) : Int) ∧ 5 < 88 ∧ formOf ((5 : Nat) : Int) ≠ 0 ∧ nameOf ((5 : Nat) : Int) = [98, 101, 113]) := Lib.hid (by refine ⟨rfl, by decide, by decide +kernel, by decide +kernel⟩)
theorem t2F : Hid (formOf 5 = 6) := Lib.hid (by decide +kernel)
theorem t2X0 : Hid ((0 : Int) = ((0 : Nat) : Int) ∧ 0 < 9223372036854775808) := Lib.hid ⟨rfl, by decide⟩
theorem t2Y0 : Hid ([120, 48] = xL 0) := Lib.hid (by unfold xL; rw [dec_1 0 (by decide)]; rfl)
theorem t2X1 : Hid ((1 : Int) = ((1 : Nat) : Int) ∧ 1 < 9223372036854775808) := Lib.hid ⟨rfl, by decide⟩
theorem t2Y1 : Hid ([120, 49] = xL 1) := Lib.hid (by unfold xL; rw [dec_1 1 (by decide)]; rfl)
theorem t2X2 : Hid ((2 : Int) = ((2 : Nat) : Int) ∧ 2 < 9223372036854775808) := Lib.hid ⟨rfl, by decide⟩
theorem t2Y2 : Hid ([120, 50] = xL 2) := Lib.hid (by unfold xL; rw [dec_1 2 (by decide)]; rfl)
theorem t2Z : Hid ((-4 : Int) = -((4 : Nat) : Int) ∧ 0 < 4 ∧ 4 < 9223372036854775808) := Lib.hid ⟨rfl, by decide, by decide⟩
theorem t2W : Hid ([45, 52] = 45 :: Lib.decDigits 4) := Lib.hid (by rw [dec_1 4 (by decide)]; rfl)
set_option maxRecDepth 100000 in
set_option maxHeartbeats 4000000 in
theorem text_2 (w : World) : Calls Tryz.prog 41 #[(⟨5, 0, 1, 2, (-4), false, false, 0, 0⟩ : Ins).V] w fun e w' => PtOk0 (.tuple #[.string ⟨#[98, 101, 113, 32, 120, 49, 44, 32, 120, 50, 44, 32, 45, 52]⟩, .int .i64 0]) w e w' := by
  have a0 := fun w => add_lit [98, 101, 113] [32] [98, 101, 113, 32] (Lib.hid (by decide)) w
  have a1 := fun w => add_lit [98, 101, 113, 32] [120, 49] [98, 101, 113, 32, 120, 49] (Lib.hid (by decide)) w
  have a2 := fun w => add_lit [98, 101, 113, 32, 120, 49] [44, 32] [98, 101, 113, 32, 120, 49, 44, 32] (Lib.hid (by decide)) w
  have a3 := fun w => add_lit [98, 101, 113, 32, 120, 49, 44, 32] [120, 50] [98, 101, 113, 32, 120, 49, 44, 32, 120, 50] (Lib.hid (by decide)) w
  have a4 := fun w => add_lit [98, 101, 113, 32, 120, 49, 44, 32, 120, 50] [44, 32] [98, 101, 113, 32, 120, 49, 44, 32, 120, 50, 44, 32] (Lib.hid (by decide)) w
  have a5 := fun w => add_lit [98, 101, 113, 32, 120, 49, 44, 32, 120, 50, 44, 32] [45, 52] [98, 101, 113, 32, 120, 49, 44, 32, 120, 50, 44, 32, 45, 52] (Lib.hid (by decide)) w
  have S0 := Lib.hid (Stand.start (⟨5, 0, 1, 2, (-4), false, false, 0, 0⟩) w)
  obtain ⟨hz, c0, c1, c2, c3, c4, c5, c6, c7, c8⟩ := (Stand.ins S0.out).facts
  dsimp only at c0 c1 c2 c3 c4 c5 c6 c7 c8
  go_enter Tryz.func41, Tryz.ntmps41
  go_wp2_with (first
    | (go_at_call 77; (with_reducible refine (rCheck_ok (⟨5, 0, 1, 2, (-4), false, false, 0, 0⟩) t2K t2R _).mono ?_); rintro e w1 ⟨rfl, hb⟩; have S1 := Lib.hid (Stand.on S0.out hb); clear hb hz c0 c1 c2 c3 c4 c5 c6 c7 c8; obtain ⟨hz, c0, c1, c2, c3, c4, c5, c6, c7, c8⟩ := (Stand.ins S1.out).facts; dsimp only at c0 c1 c2 c3 c4 c5 c6 c7 c8)
    | (go_at_call 78; (with_reducible refine (name_lit 5 5 _ t2N _).mono ?_); rintro e w2 ⟨rfl, hb⟩; have S2 := Lib.hid (Stand.on S1.out hb); clear hb hz c0 c1 c2 c3 c4 c5 c6 c7 c8; obtain ⟨hz, c0, c1, c2, c3, c4, c5, c6, c7, c8⟩ := (Stand.ins S2.out).facts; dsimp only at c0 c1 c2 c3 c4 c5 c6 c7 c8))
  go_quiet (first | (go_at_call 79; first | exact Calls.quiet_of_same (sameq (x_lit 0 0 t2X0 [120, 48] t2Y0 _)) | exact Calls.quiet_of_same (sameq (x_lit 1 1 t2X1 [120, 49] t2Y1 _)) | exact Calls.quiet_of_same (sameq (x_lit 2 2 t2X2 [120, 50] t2Y2 _))) | (go_at_call 80; exact Calls.quiet_of_same (sameq (sgn_lit 4 (-4) t2Z [45, 52] t2W _))))
  go_wp2_with (go_at_call 36; (with_reducible refine (form_lit 5 6 t2F _).mono ?_); rintro e w3 ⟨rfl, rfl⟩)
  go_ret2
  exact ⟨rfl, below_drewN (Stand.below S2.out) _⟩
theorem t3K : Hid ((⟨3, 1, 0, 0, 2048, false, false, 0, 0⟩ : Ins).ok = true) := Lib.hid (by decide +kernel)
theorem t3R : Hid (-9223372036854775808 ≤ (⟨3, 1, 0, 0, 2048, false, false, 0, 0⟩ : Ins).imm ∧ (⟨3, 1, 0, 0, 2048, false, false, 0, 0⟩ : Ins).imm ≤ 9223372036854775807) := Lib.hid ⟨by decide, by decide⟩
theorem t3N : Hid ((3 : Int) = ((3 : Nat) : Int) ∧ 3 < 88 ∧ formOf ((3 : Nat) : Int) ≠ 0 ∧ nameOf ((3 : Nat) : Int) = [106, 97, 108]) := Lib.hid (by refine ⟨rfl, by decide, by decide +kernel, by decide +kernel⟩)
theorem t3F : Hid (formOf 3 = 2) := Lib.hid (by decide +kernel)
theorem t3X0 : Hid ((0 : Int) = ((0 : Nat) : Int) ∧ 0 < 9223372036854775808) := Lib.hid ⟨rfl, by decide⟩
theorem t3Y0 : Hid ([120, 48] = xL 0) := Lib.hid (by unfold xL; rw [dec_1 0 (by decide)]; rfl)
theorem t3X1 : Hid ((1 : Int) = ((1 : Nat) : Int) ∧ 1 < 9223372036854775808) := Lib.hid ⟨rfl, by decide⟩
theorem t3Y1 : Hid ([120, 49] = xL 1) := Lib.hid (by unfold xL; rw [dec_1 1 (by decide)]; rfl)
theorem t3Z : Hid ((2048 : Int) = ((2048 : Nat) : Int) ∧ 2048 < 9223372036854775808) := Lib.hid ⟨rfl, by decide⟩
theorem t3W : Hid ([50, 48, 52, 56] = Lib.decDigits 2048) := Lib.hid (by rw [dec_2048])
set_option maxRecDepth 100000 in
set_option maxHeartbeats 4000000 in
theorem text_3 (w : World) : Calls Tryz.prog 41 #[(⟨3, 1, 0, 0, 2048, false, false, 0, 0⟩ : Ins).V] w fun e w' => PtOk0 (.tuple #[.string ⟨#[106, 97, 108, 32, 120, 49, 44, 32, 50, 48, 52, 56]⟩, .int .i64 0]) w e w' := by
  have a0 := fun w => add_lit [106, 97, 108] [32] [106, 97, 108, 32] (Lib.hid (by decide)) w
  have a1 := fun w => add_lit [106, 97, 108, 32] [120, 49] [106, 97, 108, 32, 120, 49] (Lib.hid (by decide)) w
  have a2 := fun w => add_lit [106, 97, 108, 32, 120, 49] [44, 32] [106, 97, 108, 32, 120, 49, 44, 32] (Lib.hid (by decide)) w
  have a3 := fun w => add_lit [106, 97, 108, 32, 120, 49, 44, 32] [50, 48, 52, 56] [106, 97, 108, 32, 120, 49, 44, 32, 50, 48, 52, 56] (Lib.hid (by decide)) w
  have S0 := Lib.hid (Stand.start (⟨3, 1, 0, 0, 2048, false, false, 0, 0⟩) w)
  obtain ⟨hz, c0, c1, c2, c3, c4, c5, c6, c7, c8⟩ := (Stand.ins S0.out).facts
  dsimp only at c0 c1 c2 c3 c4 c5 c6 c7 c8
  go_enter Tryz.func41, Tryz.ntmps41
  go_wp2_with (first
    | (go_at_call 77; (with_reducible refine (rCheck_ok (⟨3, 1, 0, 0, 2048, false, false, 0, 0⟩) t3K t3R _).mono ?_); rintro e w1 ⟨rfl, hb⟩; have S1 := Lib.hid (Stand.on S0.out hb); clear hb hz c0 c1 c2 c3 c4 c5 c6 c7 c8; obtain ⟨hz, c0, c1, c2, c3, c4, c5, c6, c7, c8⟩ := (Stand.ins S1.out).facts; dsimp only at c0 c1 c2 c3 c4 c5 c6 c7 c8)
    | (go_at_call 78; (with_reducible refine (name_lit 3 3 _ t3N _).mono ?_); rintro e w2 ⟨rfl, hb⟩; have S2 := Lib.hid (Stand.on S1.out hb); clear hb hz c0 c1 c2 c3 c4 c5 c6 c7 c8; obtain ⟨hz, c0, c1, c2, c3, c4, c5, c6, c7, c8⟩ := (Stand.ins S2.out).facts; dsimp only at c0 c1 c2 c3 c4 c5 c6 c7 c8))
  go_quiet (first | (go_at_call 79; first | exact Calls.quiet_of_same (sameq (x_lit 0 0 t3X0 [120, 48] t3Y0 _)) | exact Calls.quiet_of_same (sameq (x_lit 1 1 t3X1 [120, 49] t3Y1 _))) | (go_at_call 80; exact Calls.quiet_of_same (sameq (sgp_lit 2048 2048 t3Z [50, 48, 52, 56] t3W _))))
  go_wp2_with (go_at_call 36; (with_reducible refine (form_lit 3 2 t3F _).mono ?_); rintro e w3 ⟨rfl, rfl⟩)
  go_ret2
  exact ⟨rfl, below_drewN (Stand.below S2.out) _⟩
theorem t4K : Hid ((⟨63, 0, 0, 0, 0, false, false, 3, 3⟩ : Ins).ok = true) := Lib.hid (by decide +kernel)
theorem t4R : Hid (-9223372036854775808 ≤ (⟨63, 0, 0, 0, 0, false, false, 3, 3⟩ : Ins).imm ∧ (⟨63, 0, 0, 0, 0, false, false, 3, 3⟩ : Ins).imm ≤ 9223372036854775807) := Lib.hid ⟨by decide, by decide⟩
theorem t4N : Hid ((63 : Int) = ((63 : Nat) : Int) ∧ 63 < 88 ∧ formOf ((63 : Nat) : Int) ≠ 0 ∧ nameOf ((63 : Nat) : Int) = [102, 101, 110, 99, 101]) := Lib.hid (by refine ⟨rfl, by decide, by decide +kernel, by decide +kernel⟩)
theorem t4F : Hid (formOf 63 = 9) := Lib.hid (by decide +kernel)
theorem t4X0 : Hid ((0 : Int) = ((0 : Nat) : Int) ∧ 0 < 9223372036854775808) := Lib.hid ⟨rfl, by decide⟩
theorem t4Y0 : Hid ([120, 48] = xL 0) := Lib.hid (by unfold xL; rw [dec_1 0 (by decide)]; rfl)
theorem t4Z : Hid ((0 : Int) = ((0 : Nat) : Int) ∧ 0 < 9223372036854775808) := Lib.hid ⟨rfl, by decide⟩
theorem t4W : Hid ([48] = Lib.decDigits 0) := Lib.hid (by rw [dec_1 0 (by decide)]; rfl)
theorem t4P : Hid ((3 : Int) = ((3 : Nat) : Int) ∧ 3 < 16 ∧ partsL 3 = [114, 119]) := Lib.hid (by refine ⟨rfl, by decide, by decide +kernel⟩)
set_option maxRecDepth 100000 in
set_option maxHeartbeats 4000000 in
theorem text_4 (w : World) : Calls Tryz.prog 41 #[(⟨63, 0, 0, 0, 0, false, false, 3, 3⟩ : Ins).V] w fun e w' => PtOk0 (.tuple #[.string ⟨#[102, 101, 110, 99, 101, 32, 114, 119, 44, 32, 114, 119]⟩, .int .i64 0]) w e w' := by
  have a0 := fun w => add_lit [102, 101, 110, 99, 101] [32] [102, 101, 110, 99, 101, 32] (Lib.hid (by decide)) w
  have a1 := fun w => add_lit [102, 101, 110, 99, 101, 32] [114, 119] [102, 101, 110, 99, 101, 32, 114, 119] (Lib.hid (by decide)) w
  have a2 := fun w => add_lit [102, 101, 110, 99, 101, 32, 114, 119] [44, 32] [102, 101, 110, 99, 101, 32, 114, 119, 44, 32] (Lib.hid (by decide)) w
  have a3 := fun w => add_lit [102, 101, 110, 99, 101, 32, 114, 119, 44, 32] [114, 119] [102, 101, 110, 99, 101, 32, 114, 119, 44, 32, 114, 119] (Lib.hid (by decide)) w
  have S0 := Lib.hid (Stand.start (⟨63, 0, 0, 0, 0, false, false, 3, 3⟩) w)
  obtain ⟨hz, c0, c1, c2, c3, c4, c5, c6, c7, c8⟩ := (Stand.ins S0.out).facts
  dsimp only at c0 c1 c2 c3 c4 c5 c6 c7 c8
  go_enter Tryz.func41, Tryz.ntmps41
  go_wp2_with (first
    | (go_at_call 77; (with_reducible refine (rCheck_ok (⟨63, 0, 0, 0, 0, false, false, 3, 3⟩) t4K t4R _).mono ?_); rintro e w1 ⟨rfl, hb⟩; have S1 := Lib.hid (Stand.on S0.out hb); clear hb hz c0 c1 c2 c3 c4 c5 c6 c7 c8; obtain ⟨hz, c0, c1, c2, c3, c4, c5, c6, c7, c8⟩ := (Stand.ins S1.out).facts; dsimp only at c0 c1 c2 c3 c4 c5 c6 c7 c8)
    | (go_at_call 78; (with_reducible refine (name_lit 63 63 _ t4N _).mono ?_); rintro e w2 ⟨rfl, hb⟩; have S2 := Lib.hid (Stand.on S1.out hb); clear hb hz c0 c1 c2 c3 c4 c5 c6 c7 c8; obtain ⟨hz, c0, c1, c2, c3, c4, c5, c6, c7, c8⟩ := (Stand.ins S2.out).facts; dsimp only at c0 c1 c2 c3 c4 c5 c6 c7 c8))
  go_quiet (first | (go_at_call 79; first | exact Calls.quiet_of_same (sameq (x_lit 0 0 t4X0 [120, 48] t4Y0 _))) | (go_at_call 80; exact Calls.quiet_of_same (sameq (sgp_lit 0 0 t4Z [48] t4W _))))
  have S3 := Lib.hid (Stand.on S2.out (below_drewN (Below.refl w2.heap.size w2) nq))
  obtain ⟨V, hV⟩ : ∃ V, Hid (w2.drewN nq = V) := ⟨_, Lib.hid rfl⟩
  rw [hV.out] at S3 ⊢
  clear hz c0 c1 c2 c3 c4 c5 c6 c7 c8 hV
  obtain ⟨hz, c0, c1, c2, c3, c4, c5, c6, c7, c8⟩ := (Stand.ins S3.out).facts
  dsimp only at c0 c1 c2 c3 c4 c5 c6 c7 c8
  go_wp2_with (go_at_call 36; (with_reducible refine (form_lit 63 9 t4F _).mono ?_); rintro e w3 ⟨rfl, rfl⟩)
  go_quiet (first | (go_at_call 76; exact Calls.quiet_of_same (sameq (parts_lit 3 3 _ t4P _))))
  go_wp2
  go_ret2
  exact ⟨rfl, below_drewN (Stand.below S3.out) _⟩
theorem t5K : Hid ((⟨67, 5, 6, 0, 0, true, false, 0, 0⟩ : Ins).ok = true) := Lib.hid (by decide +kernel)
theorem t5R : Hid (-9223372036854775808 ≤ (⟨67, 5, 6, 0, 0, true, false, 0, 0⟩ : Ins).imm ∧ (⟨67, 5, 6, 0, 0, true, false, 0, 0⟩ : Ins).imm ≤ 9223372036854775807) := Lib.hid ⟨by decide, by decide⟩
theorem t5N : Hid ((67 : Int) = ((67 : Nat) : Int) ∧ 67 < 88 ∧ formOf ((67 : Nat) : Int) ≠ 0 ∧ nameOf ((67 : Nat) : Int) = [108, 114, 46, 100]) := Lib.hid (by refine ⟨rfl, by decide, by decide +kernel, by decide +kernel⟩)
theorem t5F : Hid (formOf 67 = 11) := Lib.hid (by decide +kernel)
theorem t5X0 : Hid ((0 : Int) = ((0 : Nat) : Int) ∧ 0 < 9223372036854775808) := Lib.hid ⟨rfl, by decide⟩
theorem t5Y0 : Hid ([120, 48] = xL 0) := Lib.hid (by unfold xL; rw [dec_1 0 (by decide)]; rfl)
theorem t5X5 : Hid ((5 : Int) = ((5 : Nat) : Int) ∧ 5 < 9223372036854775808) := Lib.hid ⟨rfl, by decide⟩
theorem t5Y5 : Hid ([120, 53] = xL 5) := Lib.hid (by unfold xL; rw [dec_1 5 (by decide)]; rfl)
theorem t5X6 : Hid ((6 : Int) = ((6 : Nat) : Int) ∧ 6 < 9223372036854775808) := Lib.hid ⟨rfl, by decide⟩
theorem t5Y6 : Hid ([120, 54] = xL 6) := Lib.hid (by unfold xL; rw [dec_1 6 (by decide)]; rfl)
theorem t5Z : Hid ((0 : Int) = ((0 : Nat) : Int) ∧ 0 < 9223372036854775808) := Lib.hid ⟨rfl, by decide⟩
theorem t5W : Hid ([48] = Lib.decDigits 0) := Lib.hid (by rw [dec_1 0 (by decide)]; rfl)
set_option maxRecDepth 100000 in
set_option maxHeartbeats 4000000 in
theorem text_5 (w : World) : Calls Tryz.prog 41 #[(⟨67, 5, 6, 0, 0, true, false, 0, 0⟩ : Ins).V] w fun e w' => PtOk0 (.tuple #[.string ⟨#[108, 114, 46, 100, 46, 97, 113, 32, 120, 53, 44, 32, 40, 120, 54, 41]⟩, .int .i64 0]) w e w' := by
  have a0 := fun w => add_lit [108, 114, 46, 100] [46] [108, 114, 46, 100, 46] (Lib.hid (by decide)) w
  have a1 := fun w => add_lit [108, 114, 46, 100, 46] [97, 113] [108, 114, 46, 100, 46, 97, 113] (Lib.hid (by decide)) w
  have a2 := fun w => add_lit [108, 114, 46, 100, 46, 97, 113] [32] [108, 114, 46, 100, 46, 97, 113, 32] (Lib.hid (by decide)) w
  have a3 := fun w => add_lit [108, 114, 46, 100, 46, 97, 113, 32] [120, 53] [108, 114, 46, 100, 46, 97, 113, 32, 120, 53] (Lib.hid (by decide)) w
  have a4 := fun w => add_lit [108, 114, 46, 100, 46, 97, 113, 32, 120, 53] [44, 32, 40] [108, 114, 46, 100, 46, 97, 113, 32, 120, 53, 44, 32, 40] (Lib.hid (by decide)) w
  have a5 := fun w => add_lit [108, 114, 46, 100, 46, 97, 113, 32, 120, 53, 44, 32, 40] [120, 54] [108, 114, 46, 100, 46, 97, 113, 32, 120, 53, 44, 32, 40, 120, 54] (Lib.hid (by decide)) w
  have a6 := fun w => add_lit [108, 114, 46, 100, 46, 97, 113, 32, 120, 53, 44, 32, 40, 120, 54] [41] [108, 114, 46, 100, 46, 97, 113, 32, 120, 53, 44, 32, 40, 120, 54, 41] (Lib.hid (by decide)) w
  have S0 := Lib.hid (Stand.start (⟨67, 5, 6, 0, 0, true, false, 0, 0⟩) w)
  obtain ⟨hz, c0, c1, c2, c3, c4, c5, c6, c7, c8⟩ := (Stand.ins S0.out).facts
  dsimp only at c0 c1 c2 c3 c4 c5 c6 c7 c8
  go_enter Tryz.func41, Tryz.ntmps41
  go_wp2_with (first
    | (go_at_call 77; (with_reducible refine (rCheck_ok (⟨67, 5, 6, 0, 0, true, false, 0, 0⟩) t5K t5R _).mono ?_); rintro e w1 ⟨rfl, hb⟩; have S1 := Lib.hid (Stand.on S0.out hb); clear hb hz c0 c1 c2 c3 c4 c5 c6 c7 c8; obtain ⟨hz, c0, c1, c2, c3, c4, c5, c6, c7, c8⟩ := (Stand.ins S1.out).facts; dsimp only at c0 c1 c2 c3 c4 c5 c6 c7 c8)
    | (go_at_call 78; (with_reducible refine (name_lit 67 67 _ t5N _).mono ?_); rintro e w2 ⟨rfl, hb⟩; have S2 := Lib.hid (Stand.on S1.out hb); clear hb hz c0 c1 c2 c3 c4 c5 c6 c7 c8; obtain ⟨hz, c0, c1, c2, c3, c4, c5, c6, c7, c8⟩ := (Stand.ins S2.out).facts; dsimp only at c0 c1 c2 c3 c4 c5 c6 c7 c8))
  go_quiet (first | (go_at_call 79; first | exact Calls.quiet_of_same (sameq (x_lit 0 0 t5X0 [120, 48] t5Y0 _)) | exact Calls.quiet_of_same (sameq (x_lit 5 5 t5X5 [120, 53] t5Y5 _)) | exact Calls.quiet_of_same (sameq (x_lit 6 6 t5X6 [120, 54] t5Y6 _))) | (go_at_call 80; exact Calls.quiet_of_same (sameq (sgp_lit 0 0 t5Z [48] t5W _))))
  go_wp2_with (go_at_call 36; (with_reducible refine (form_lit 67 11 t5F _).mono ?_); rintro e w3 ⟨rfl, rfl⟩)
  go_ret2
  exact ⟨rfl, below_drewN (Stand.below S2.out) _⟩
end Go.Proofs.YtbchecnidiiddaaGreatDoor
