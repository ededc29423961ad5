/-
  Proved here: the document's own answers of layer 4, op by op, are those that the program's are named for. No condition.
-/
import Derived.Test.YtdiacnjkffdegaaGreatAluDo
import Derived.Test.YtdiacnjkffdegaaGreatAluRefForm
import Derived.Test.YtdiacnjkffdegaaGreatAluHalvesPlain
namespace Go.Proofs.YtdiacnjkffdegaaGreat
open Go.RowKit
theorem rlow6 (b : BitVec 64) (w : World) : Calls Tryz.prog 56 #[.int .u64 (U b), .int .i64 6] w fun e w' => e = .returned (.int .u64 ((far6 b : Nat) : Int)) ∧ w = w' := by
  have h := refLow_any (U b) 6 w
  rw [lowI_U, ck6] at h
  exact h
theorem rlow5 (b : BitVec 64) (w : World) : Calls Tryz.prog 56 #[.int .u64 (U b), .int .i64 5] w fun e w' => e = .returned (.int .u64 ((far5 b : Nat) : Int)) ∧ w = w' := by
  have h := refLow_any (U b) 5 w
  rw [lowI_U, ck5] at h
  exact h
theorem rsign_U (x : BitVec 64) (w : World) : Calls Tryz.prog 55 #[.int .u64 (U x), .int .i64 32] w fun e w' => e = .returned (.int .i64 (S (sh x))) ∧ w = w' := by
  have h := refSign_any x 32 w
  rw [signI_S, ck32] at h
  exact h
theorem rones (n : Int) (m : Int) (h : onesI n = m) (w : World) : Calls Tryz.prog 58 #[.int .i64 n] w fun e w' => e = .returned (.int .u64 m) ∧ w = w' := h ▸ refOnes_any n w
theorem rone (p : Bool) (w : World) : Calls Tryz.prog 59 #[.bool p] w fun e w' => e = .returned (.int .u64 (U (bitV p))) ∧ w = w' := by
  cases p
  · go_enter Tryz.func59, Tryz.ntmps59
    go_wp2
    go_ret
    exact ⟨ret_int (by decide +kernel), rfl⟩
  · go_enter Tryz.func59, Tryz.ntmps59
    go_wp2
    go_ret
    exact ⟨ret_int (by decide +kernel), rfl⟩
theorem rneg (a : BitVec 64) (w : World) : Calls Tryz.prog 61 #[.int .u64 (U a)] w fun e w' => e = .returned (.bool (decide (S a < 0))) ∧ w = w' := by
  have e1 := wrapS_U a
  go_enter Tryz.func61, Tryz.ntmps61
  go_wp2
  go_ret
  exact ⟨rfl, rfl⟩
theorem bit_mul (a b : BitVec 64) : IntKind.u64.wrap (U (bitV (decide (S a < 0))) * U b) = U (abV a b) := by
  unfold abV bitV
  by_cases h : S a < 0
  · rw [decide_eq_true h, if_pos rfl, if_pos h, ← one_U, Int.one_mul, wrapU_U]
  · rw [decide_eq_false h, if_neg (by decide), if_neg h, ← zero_U, Int.zero_mul]; decide +kernel
theorem quoV_neg1 (x : BitVec 64) (y : BitVec 64) (h : S y = -1) : S (quoV x y) = wrap64 (-S x) ∧ S (remV x y) = 0 := by
  have hy : y ≠ 0 := fun e => by rw [(S_zero_iff y).2 e] at h; omega
  have h2 := S_remV x y hy
  rw [h] at h2
  refine ⟨?_, by rw [h2]; have := tmod_abs (S x) (-1) (by omega); omega⟩
  unfold quoV; rw [if_neg hy, h, wrapS, Int.tdiv_neg, Int.tdiv_one]
theorem quoV_else (x y : BitVec 64) (h : S y ≠ 0) : S (quoV x y) = wrap64 ((S x).tdiv (S y)) ∧ S (remV x y) = (S x).tmod (S y) := by
  have hy : y ≠ 0 := fun e => h ((S_zero_iff y).2 e)
  refine ⟨?_, S_remV x y hy⟩
  unfold quoV; rw [if_neg hy, wrapS]
theorem rdivide (x y : BitVec 64) (w : World) : Calls Tryz.prog 57 #[.int .i64 (S x), .int .i64 (S y)] w fun e w' => e = .returned (.tuple #[.int .i64 (S (quoV x y)), .int .i64 (S (remV x y))]) ∧ Below w.heap.size w w' := by
  by_cases h0 : S y = 0
  · have hz := quoV_0 x y ((S_zero_iff y).1 h0)
    have H1 := Lib.hid (show S (quoV x y) = -1 by rw [hz.1]; decide +kernel)
    have H2 := Lib.hid (show S (remV x y) = S x by rw [hz.2])
    have c1 : (S y == 0) = true := by simp [h0]
    clear h0 hz
    go_enter Tryz.func57, Tryz.ntmps57
    go_wp2
    go_ret2
    exact ⟨by (rw [H1.out, H2.out]) <;> rfl, Below.refl _ _⟩
  · have c1 : (S y == 0) = false := by simp [h0]
    by_cases h1 : S y = -1
    · have hz := quoV_neg1 x y h1
      have H1 := Lib.hid hz.1
      have H2 := Lib.hid hz.2
      have c2 : (S y == -1) = true := by simp [h1]
      clear h0 hz h1
      go_enter Tryz.func57, Tryz.ntmps57
      go_wp2
      go_ret2
      exact ⟨by (rw [H1.out, H2.out]) <;> rfl, Below.refl _ _⟩
    · have hz := quoV_else x y h0
      have H1 := Lib.hid hz.1
      have H2 := Lib.hid hz.2
      have c2 : (S y == -1) = false := by simp [h1]
      clear hz
      go_enter Tryz.func57, Tryz.ntmps57
      go_wp2
      go_quiet (fail)
      go_wp2
      go_ret2
      exact ⟨by (rw [H1.out, H2.out]) <;> rfl, drewN_below _ _ _⟩
theorem high_nat (x y : Nat) (hx : x < 18446744073709551616) (hy : y < 18446744073709551616) :
    ((x % 4294967296) * (y % 4294967296)) % 18446744073709551616 = (x % 4294967296) * (y % 4294967296) ∧
    ((x / 4294967296) * (y % 4294967296)) % 18446744073709551616 = (x / 4294967296) * (y % 4294967296) ∧
    ((x % 4294967296) * (y / 4294967296)) % 18446744073709551616 = (x % 4294967296) * (y / 4294967296) ∧
    ((x / 4294967296) * (y / 4294967296)) % 18446744073709551616 = (x / 4294967296) * (y / 4294967296) := by
  have a := Lib.half_mul_le (a := x % 4294967296) (b := y % 4294967296) (by omega) (by omega)
  have b := Lib.half_mul_le (a := x / 4294967296) (b := y % 4294967296) (by omega) (by omega)
  have c := Lib.half_mul_le (a := x % 4294967296) (b := y / 4294967296) (by omega) (by omega)
  have d := Lib.half_mul_le (a := x / 4294967296) (b := y / 4294967296) (by omega) (by omega)
  exact ⟨Nat.mod_eq_of_lt (by omega), Nat.mod_eq_of_lt (by omega), Nat.mod_eq_of_lt (by omega), Nat.mod_eq_of_lt (by omega)⟩
theorem high_parts (a b x1 x0 y1 y0 t p c m q l u v s r z : BitVec 64) (e1 : x1 = a >>> (32 : Nat)) (e2 : x0 = lo a) (e3 : y1 = b >>> (32 : Nat)) (e4 : y0 = lo b)
    (e5 : t = x1 * y0) (e6 : p = x0 * y0) (e7 : c = p >>> (32 : Nat)) (e8 : m = t + c) (e9 : q = x0 * y1) (e10 : l = lo m) (e11 : u = q + l) (e12 : v = x1 * y1) (e13 : s = m >>> (32 : Nat)) (e14 : r = v + s) (e15 : z = u >>> (32 : Nat)) : r + z = hiV a b := by
  have la := a.isLt
  have lb := b.isLt
  obtain ⟨k1, k2, k3, k4⟩ := Lib.mul64_hi a.toNat b.toNat la lb
  obtain ⟨m1, m2, m3, m4⟩ := high_nat a.toNat b.toNat la lb
  have n1 : x1.toNat = a.toNat / 4294967296 := by rw [e1, nat_shr]
  have n2 : x0.toNat = a.toNat % 4294967296 := by rw [e2, nat_lo]
  have n3 : y1.toNat = b.toNat / 4294967296 := by rw [e3, nat_shr]
  have n4 : y0.toNat = b.toNat % 4294967296 := by rw [e4, nat_lo]
  have n5 : t.toNat = a.toNat / 4294967296 * (b.toNat % 4294967296) := by rw [e5, nat_mul, n1, n4, m2]
  have n6 : p.toNat = a.toNat % 4294967296 * (b.toNat % 4294967296) := by rw [e6, nat_mul, n2, n4, m1]
  have n7 := e7 ▸ shr_at n6
  have n8 := e8 ▸ add_small n5 n7 k2
  have n9 : q.toNat = a.toNat % 4294967296 * (b.toNat / 4294967296) := by rw [e9, nat_mul, n2, n3, m3]
  have n10 := e10 ▸ lo_at n8
  have n11 := e11 ▸ add_small n9 n10 (by rw [Nat.add_comm]; exact k3)
  have n12 : v.toNat = a.toNat / 4294967296 * (b.toNat / 4294967296) := by rw [e12, nat_mul, n1, n3, m4]
  have n13 := e13 ▸ shr_at n8
  have n15 := e15 ▸ shr_at n11
  have lab : a.toNat * b.toNat < 18446744073709551616 * 18446744073709551616 := Nat.mul_lt_mul_of_lt_of_lt la lb
  have lh : a.toNat * b.toNat / 18446744073709551616 < 18446744073709551616 := Nat.div_lt_of_lt_mul lab
  have eh : (hiV a b).toNat = a.toNat * b.toNat / 18446744073709551616 := by
    unfold hiV; rw [BitVec.toNat_ofNat]; exact Nat.mod_eq_of_lt lh
  rw [Nat.add_comm (_ % 4294967296) (a.toNat % 4294967296 * (b.toNat / 4294967296))] at k4
  rw [← k4] at lh eh
  have n14 := e14 ▸ add_small n12 n13 (Nat.lt_of_le_of_lt (Nat.le_add_right _ _) lh)
  apply BitVec.eq_of_toNat_eq
  rw [eh]
  exact add_small n14 n15 lh
theorem and_lo (a : BitVec 64) : bits .and .u64 (U a) 4294967295 = U (lo a) := by
  have e : (4294967295 : Int) = U (ones 32) := by decide +kernel
  rw [e, and_U]; rfl
theorem shr_32 (c : BitVec 64) : U c / (4294967296 : Int) = U (c >>> (32 : Nat)) := shr_U c 32
set_option maxHeartbeats 400000 in
theorem rhigh (a b : BitVec 64) (w : World) : Calls Tryz.prog 60 #[.int .u64 (U a), .int .u64 (U b)] w fun e w' => e = .returned (.int .u64 (U (hiV a b))) ∧ w = w' := by
  obtain ⟨x1, e_x1⟩ : ∃ z : BitVec 64, z = a >>> (32 : Nat) := ⟨_, rfl⟩
  have r1 : U a / 4294967296 = U x1 := by rw [shr_32, e_x1]
  obtain ⟨x0, e_x0⟩ : ∃ z : BitVec 64, z = lo a := ⟨_, rfl⟩
  have r2 : U (lo a) = U x0 := by rw [e_x0]
  obtain ⟨y1, e_y1⟩ : ∃ z : BitVec 64, z = b >>> (32 : Nat) := ⟨_, rfl⟩
  have r3 : U b / 4294967296 = U y1 := by rw [shr_32, e_y1]
  obtain ⟨y0, e_y0⟩ : ∃ z : BitVec 64, z = lo b := ⟨_, rfl⟩
  have r4 : U (lo b) = U y0 := by rw [e_y0]
  obtain ⟨t, e_t⟩ : ∃ z : BitVec 64, z = x1 * y0 := ⟨_, rfl⟩
  have r5 : IntKind.u64.wrap (U x1 * U y0) = U t := by rw [mul_U, e_t]
  obtain ⟨p, e_p⟩ : ∃ z : BitVec 64, z = x0 * y0 := ⟨_, rfl⟩
  have r6 : IntKind.u64.wrap (U x0 * U y0) = U p := by rw [mul_U, e_p]
  obtain ⟨c, e_c⟩ : ∃ z : BitVec 64, z = p >>> (32 : Nat) := ⟨_, rfl⟩
  have r7 : U p / 4294967296 = U c := by rw [shr_32, e_c]
  obtain ⟨m, e_m⟩ : ∃ z : BitVec 64, z = t + c := ⟨_, rfl⟩
  have r8 : IntKind.u64.wrap (U t + U c) = U m := by rw [add_U, e_m]
  obtain ⟨q, e_q⟩ : ∃ z : BitVec 64, z = x0 * y1 := ⟨_, rfl⟩
  have r9 : IntKind.u64.wrap (U x0 * U y1) = U q := by rw [mul_U, e_q]
  obtain ⟨l, e_l⟩ : ∃ z : BitVec 64, z = lo m := ⟨_, rfl⟩
  have r10 : U (lo m) = U l := by rw [e_l]
  obtain ⟨u, e_u⟩ : ∃ z : BitVec 64, z = q + l := ⟨_, rfl⟩
  have r11 : IntKind.u64.wrap (U q + U l) = U u := by rw [add_U, e_u]
  obtain ⟨v, e_v⟩ : ∃ z : BitVec 64, z = x1 * y1 := ⟨_, rfl⟩
  have r12 : IntKind.u64.wrap (U x1 * U y1) = U v := by rw [mul_U, e_v]
  obtain ⟨s, e_s⟩ : ∃ z : BitVec 64, z = m >>> (32 : Nat) := ⟨_, rfl⟩
  have r13 : U m / 4294967296 = U s := by rw [shr_32, e_s]
  obtain ⟨r, e_r⟩ : ∃ z : BitVec 64, z = v + s := ⟨_, rfl⟩
  have r14 : IntKind.u64.wrap (U v + U s) = U r := by rw [add_U, e_r]
  obtain ⟨z, e_z⟩ : ∃ z : BitVec 64, z = u >>> (32 : Nat) := ⟨_, rfl⟩
  have r15 : U u / 4294967296 = U z := by rw [shr_32, e_z]
  have H := Lib.hid (high_parts a b x1 x0 y1 y0 t p c m q l u v s r z e_x1 e_x0 e_y1 e_y0 e_t e_p e_c e_m e_q e_l e_u e_v e_s e_r e_z)
  have rz := add_U r z
  clear e_x1 e_x0 e_y1 e_y0 e_t e_p e_c e_m e_q e_l e_u e_v e_s e_r e_z
  go_enter Tryz.func60, Tryz.ntmps60
  go_wp2_with (go_at_call 56; (with_reducible refine (rlow_U _ _).mono ?_); rintro e w' ⟨rfl, rfl⟩)
  go_ret
  exact ⟨ret_int (by rw [H.out]), rfl⟩
end Go.Proofs.YtdiacnjkffdegaaGreat
