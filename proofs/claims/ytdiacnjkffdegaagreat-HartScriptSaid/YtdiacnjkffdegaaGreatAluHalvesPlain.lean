/-
  Proved here: plain facts under the law AluHalves: the whole product out of four products of halves. No condition; no Go text is named.
-/
import Derived.Test.YtdiacnjkffdegaaGreatAluPlain
namespace Go.Proofs.YtdiacnjkffdegaaGreat
open Go.RowKit

theorem halves_nat (x0 x1 y0 y1 : Nat) (h0 : x0 < 4294967296) (h1 : x1 < 4294967296) (h2 : y0 < 4294967296) (h3 : y1 < 4294967296) :
    ∃ P00 P01 P10 P11, P00 = x0 * y0 ∧ P01 = x0 * y1 ∧ P10 = x1 * y0 ∧ P11 = x1 * y1 ∧ P00 ≤ 18446744065119617025 ∧ P01 ≤ 18446744065119617025 ∧ P10 ≤ 18446744065119617025 ∧ P11 ≤ 18446744065119617025 ∧
      (x1 * 4294967296 + x0) * (y1 * 4294967296 + y0) = P11 * (4294967296 * 4294967296) + (P10 + P01) * 4294967296 + P00 :=
  ⟨_, _, _, _, rfl, rfl, rfl, rfl, Lib.half_mul_le (by omega) (by omega), Lib.half_mul_le (by omega) (by omega), Lib.half_mul_le (by omega) (by omega), Lib.half_mul_le (by omega) (by omega), Lib.split_mul _ _ _ _ _⟩
theorem nat_lo (x : BitVec 64) : (lo x).toNat = x.toNat % 4294967296 := lo_nat x
theorem nat_shr (x : BitVec 64) : (x >>> (32 : Nat)).toNat = x.toNat / 4294967296 := by rw [BitVec.toNat_ushiftRight, Nat.shiftRight_eq_div_pow]
theorem nat_add (x y : BitVec 64) : (x + y).toNat = (x.toNat + y.toNat) % 18446744073709551616 := BitVec.toNat_add x y
theorem nat_mul (x y : BitVec 64) : (x * y).toNat = x.toNat * y.toNat % 18446744073709551616 := BitVec.toNat_mul x y
/-- two halves, side by side -/
theorem nat_join (x y : BitVec 64) (hx : x.toNat < 4294967296) (hy : y.toNat < 4294967296) : (x ||| y <<< (32 : Nat)).toNat = y.toNat * 4294967296 + x.toNat := by
  have e : (y <<< (32 : Nat)).toNat = y.toNat * 4294967296 := by
    rw [BitVec.toNat_shiftLeft, Nat.shiftLeft_eq]
    show y.toNat * 4294967296 % 18446744073709551616 = _
    omega
  rw [BitVec.toNat_or, e, Nat.or_comm]
  have h := Nat.two_pow_add_eq_or_of_lt (i := 32) (b := x.toNat) hx y.toNat
  rw [show (2 : Nat) ^ 32 = 4294967296 from rfl, Nat.mul_comm 4294967296] at h
  exact h.symm
theorem add_small {x y : BitVec 64} {n m : Nat} (hx : x.toNat = n) (hy : y.toNat = m) (h : n + m < 18446744073709551616) : (x + y).toNat = n + m := by
  rw [nat_add, hx, hy]; exact Nat.mod_eq_of_lt h
theorem lo_at {x : BitVec 64} {n : Nat} (hx : x.toNat = n) : (lo x).toNat = n % 4294967296 := by rw [nat_lo, hx]
theorem shr_at {x : BitVec 64} {n : Nat} (hx : x.toNat = n) : (x >>> (32 : Nat)).toNat = n / 4294967296 := by rw [nat_shr, hx]
theorem mul_at {x y : BitVec 64} {P : Nat} (h : P = x.toNat * y.toNat) (hP : P ≤ 18446744065119617025) : (x * y).toNat = P := by
  rw [nat_mul, ← h]; omega
theorem total_gen (K A A' B B' C C' D D' q q' r r' : Nat) (h1 : q * K + q' = A + B' + C') (h2 : r * K + r' = B + C + D' + q) :
    (q' * K + A') + ((D + r) * K + r') * (K * K) = (D * K + D') * (K * K) + ((C * K + C') + (B * K + B')) * K + (A * K + A') := by
  have t2 : (D + r) * K + r' = (D * K + D') + (B + C) + q := by rw [Nat.add_mul]; omega
  have t3 : (C * K + C' + (B * K + B')) * K = (B + C) * (K * K) + (B' + C') * K := by
    rw [show C * K + C' + (B * K + B') = (B + C) * K + (B' + C') by rw [Nat.add_mul]; omega, Nat.add_mul, Nat.mul_assoc]
  have t4 : q * (K * K) + q' * K = A * K + (B' + C') * K := by
    rw [← Nat.mul_assoc, ← Nat.add_mul, h1, ← Nat.add_mul, Nat.add_assoc]
  rw [t2, t3, Nat.add_mul, Nat.add_mul]
  omega
theorem total (A A' B B' C C' D D' q q' r r' : Nat) (h1 : q * 4294967296 + q' = A + B' + C') (h2 : r * 4294967296 + r' = B + C + D' + q) :
    (q' * 4294967296 + A') + ((D + r) * 4294967296 + r') * 18446744073709551616 = (D * 4294967296 + D') * (4294967296 * 4294967296) + ((C * 4294967296 + C') + (B * 4294967296 + B')) * 4294967296 + (A * 4294967296 + A') :=
  total_gen 4294967296 A A' B B' C C' D D' q q' r r' h1 h2
theorem div_mod' (n : Nat) : n / 4294967296 * 4294967296 + n % 4294967296 = n := Nat.div_add_mod' n 4294967296
theorem half_div {P : Nat} (h : P ≤ 18446744065119617025) : P / 4294967296 ≤ 4294967295 := by omega
theorem half_mod (P : Nat) : P % 4294967296 ≤ 4294967295 := by omega
theorem top_small (M X T l z : Nat) (h : l + (T * 4294967296 + z) * M = X) (hX : X < M * M) (hM : M = 18446744073709551616) : T < 4294967296 := by
  have h1 : (T * 4294967296 + z) * M ≤ X := by rw [← h]; exact Nat.le_add_left _ _
  have h3 : T * 4294967296 + z < M := Nat.lt_of_mul_lt_mul_right (Nat.lt_of_le_of_lt h1 hX)
  rw [hM] at h3
  omega
theorem parts_of (X l t : Nat) (h : l + t * 18446744073709551616 = X) (hl : l < 18446744073709551616) : l = X % 18446744073709551616 ∧ t = X / 18446744073709551616 := by
  subst h
  refine ⟨?_, ?_⟩
  · rw [Nat.add_mul_mod_self_right, Nat.mod_eq_of_lt hl]
  · rw [Nat.add_mul_div_right _ _ (by decide), Nat.div_eq_of_lt hl, Nat.zero_add]
theorem halves_all (a b x0 x1 y0 y1 p00 l00 h00 p01 l01 h01 p10 l10 h10 p11 l11 h11 c1 d1 c2 d2 s0 q1 z0 s1 q2 z1 s2 q3 z2 : BitVec 64)
    (e1 : x0 = lo a) (e2 : x1 = a >>> (32 : Nat)) (e3 : y0 = lo b) (e4 : y1 = b >>> (32 : Nat))
    (e5 : p00 = x0 * y0) (e6 : l00 = lo p00) (e7 : h00 = p00 >>> (32 : Nat)) (e8 : p01 = x0 * y1) (e9 : l01 = lo p01) (e10 : h01 = p01 >>> (32 : Nat))
    (e11 : p10 = x1 * y0) (e12 : l10 = lo p10) (e13 : h10 = p10 >>> (32 : Nat)) (e14 : p11 = x1 * y1) (e15 : l11 = lo p11) (e16 : h11 = p11 >>> (32 : Nat))
    (e17 : c1 = h00 + l01) (e18 : d1 = c1 + l10) (e19 : c2 = h01 + h10) (e20 : d2 = c2 + l11) (e21 : s0 = l00 >>> (32 : Nat)) (e22 : q1 = d1 + s0) (e23 : z0 = lo l00)
    (e24 : s1 = q1 >>> (32 : Nat)) (e25 : q2 = d2 + s1) (e26 : z1 = lo q1) (e27 : s2 = q2 >>> (32 : Nat)) (e28 : q3 = h11 + s2) (e29 : z2 = lo q2) :
    z0 ||| z1 <<< (32 : Nat) = a * b ∧ z2 ||| q3 <<< (32 : Nat) = hiV a b := by
  have lab : a.toNat * b.toNat < 18446744073709551616 * 18446744073709551616 := Nat.mul_lt_mul_of_lt_of_lt a.isLt b.isLt
  have n1 : x0.toNat = a.toNat % 4294967296 := by rw [e1, nat_lo]
  have n2 : x1.toNat = a.toNat / 4294967296 := by rw [e2, nat_shr]
  have n3 : y0.toNat = b.toNat % 4294967296 := by rw [e3, nat_lo]
  have n4 : y1.toNat = b.toNat / 4294967296 := by rw [e4, nat_shr]
  obtain ⟨P00, P01, P10, P11, k1, k2, k3, k4, b1, b2, b3, b4, hp⟩ := halves_nat x0.toNat x1.toNat y0.toNat y1.toNat (by rw [n1]; exact Nat.mod_lt _ (by omega)) (by rw [n2]; have := a.isLt; clear e1 e2 e3 e4 e5 e6 e7 e8 e9 e10 n1 n2 n3 n4 lab; omega) (by rw [n3]; exact Nat.mod_lt _ (by omega)) (by rw [n4]; have := b.isLt; clear e1 e2 e3 e4 e5 e6 e7 e8 e9 e10 n1 n2 n3 n4 lab; omega)
  have hab : a.toNat * b.toNat = P11 * (4294967296 * 4294967296) + (P10 + P01) * 4294967296 + P00 := by
    rw [← hp, n1, n2, n3, n4, div_mod', div_mod']
  have n5 : p00.toNat = P00 := e5 ▸ mul_at k1 b1
  have n8 : p01.toNat = P01 := e8 ▸ mul_at k2 b2
  have n11 : p10.toNat = P10 := e11 ▸ mul_at k3 b3
  have n14 : p11.toNat = P11 := e14 ▸ mul_at k4 b4
  clear k1 k2 k3 k4 hp n1 n2 n3 n4 e1 e2 e3 e4 e5 e8 e11 e14
  have n6 : l00.toNat = P00 % 4294967296 := e6 ▸ lo_at n5
  have n7 : h00.toNat = P00 / 4294967296 := e7 ▸ shr_at n5
  have n9 : l01.toNat = P01 % 4294967296 := e9 ▸ lo_at n8
  have n10 : h01.toNat = P01 / 4294967296 := e10 ▸ shr_at n8
  have n12 : l10.toNat = P10 % 4294967296 := e12 ▸ lo_at n11
  have n13 : h10.toNat = P10 / 4294967296 := e13 ▸ shr_at n11
  have n15 : l11.toNat = P11 % 4294967296 := e15 ▸ lo_at n14
  have n16 : h11.toNat = P11 / 4294967296 := e16 ▸ shr_at n14
  clear n5 n8 n11 n14 e6 e7 e9 e10 e12 e13 e15 e16
  have v1 := half_div b1
  have v2 := half_div b2
  have v3 := half_div b3
  have v4 := half_div b4
  have u1 := half_mod P00
  have u2 := half_mod P01
  have u3 := half_mod P10
  have u4 := half_mod P11
  have w1 := div_mod' P00
  have w2 := div_mod' P01
  have w3 := div_mod' P10
  have w4 := div_mod' P11
  clear b1 b2 b3 b4
  generalize P00 / 4294967296 = A at *
  generalize P01 / 4294967296 = B at *
  generalize P10 / 4294967296 = C at *
  generalize P11 / 4294967296 = D at *
  generalize P00 % 4294967296 = A' at *
  generalize P01 % 4294967296 = B' at *
  generalize P10 % 4294967296 = C' at *
  generalize P11 % 4294967296 = D' at *
  have n17 : c1.toNat = A + B' := e17 ▸ add_small n7 n9 (by omega)
  have n18 : d1.toNat = A + B' + C' := e18 ▸ add_small n17 n12 (by omega)
  have n19 : c2.toNat = B + C := e19 ▸ add_small n10 n13 (by omega)
  have n20 : d2.toNat = B + C + D' := e20 ▸ add_small n19 n15 (by omega)
  have n21 : s0.toNat = 0 := by rw [e21, shr_at n6]; omega
  have n22 : q1.toNat = A + B' + C' := by rw [e22]; have h := add_small n18 n21 (by omega); rw [Nat.add_zero] at h; exact h
  have n23 : z0.toNat = A' := by rw [e23, lo_at n6]; omega
  have n24 : s1.toNat = (A + B' + C') / 4294967296 := e24 ▸ shr_at n22
  have n26 : z1.toNat = (A + B' + C') % 4294967296 := e26 ▸ lo_at n22
  have w5 := div_mod' (A + B' + C')
  have u5 : (A + B' + C') / 4294967296 ≤ 4294967295 := by omega
  have u6 := half_mod (A + B' + C')
  generalize (A + B' + C') / 4294967296 = q at *
  generalize (A + B' + C') % 4294967296 = q' at *
  have n25 : q2.toNat = B + C + D' + q := e25 ▸ add_small n20 n24 (by omega)
  have n27 : s2.toNat = (B + C + D' + q) / 4294967296 := e27 ▸ shr_at n25
  have n29 : z2.toNat = (B + C + D' + q) % 4294967296 := e29 ▸ lo_at n25
  have w6 := div_mod' (B + C + D' + q)
  have u7 : (B + C + D' + q) / 4294967296 ≤ 4294967295 := by omega
  have u8 := half_mod (B + C + D' + q)
  generalize (B + C + D' + q) / 4294967296 = r at *
  generalize (B + C + D' + q) % 4294967296 = r' at *
  have n28 : q3.toNat = D + r := e28 ▸ add_small n16 n27 (by omega)
  have hsum := total A A' B B' C C' D D' q q' r r' w5 w6
  rw [w1, w2, w3, w4, ← hab] at hsum
  have l3 := top_small _ _ _ _ _ hsum lab rfl
  have hlow : q' * 4294967296 + A' < 18446744073709551616 := by
    clear hsum lab hab w1 w2 w3 w4 w5 w6 n6 n7 n9 n10 n12 n13 n15 n16 n17 n18 n19 n20 n21 n22 n23 n24 n25 n26 n27 n28 n29; omega
  obtain ⟨r1, r2⟩ := parts_of _ _ _ hsum hlow
  have j1 := nat_join z0 z1 (by rw [n23]; exact Nat.lt_of_le_of_lt u1 (by omega)) (by rw [n26]; exact Nat.lt_of_le_of_lt u6 (by omega))
  have j2 := nat_join z2 q3 (by rw [n29]; exact Nat.lt_of_le_of_lt u8 (by omega)) (by rw [n28]; exact l3)
  constructor
  · apply BitVec.eq_of_toNat_eq; rw [j1, nat_mul, n26, n23]; exact r1
  · apply BitVec.eq_of_toNat_eq
    have e : (hiV a b).toNat = a.toNat * b.toNat / 18446744073709551616 := by
      unfold hiV; rw [BitVec.toNat_ofNat]
      exact Nat.mod_eq_of_lt (Nat.div_lt_of_lt_mul lab)
    rw [j2, e, n28, n29]; exact r2
theorem hiV_comm (a b : BitVec 64) : hiV b a = hiV a b := by unfold hiV; rw [Nat.mul_comm]
end Go.Proofs.YtdiacnjkffdegaaGreat
