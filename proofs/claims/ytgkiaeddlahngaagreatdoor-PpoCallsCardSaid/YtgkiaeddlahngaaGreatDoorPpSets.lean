/-
  Proved here: ppo's sets of one word: empty, put, has; math/bits.TrailingZeros64. Condition: numbers below 64; the table of zero bits as the library lays it.
  (With it: Words: a word as a set of numbers. No condition.)
-/
import Derived.WalkKit
import Derived.Lib.TrailingZeros
import Derived.Test.YtgkiaeddlahngaaGreatDoorProg
import Derived.Laws.Tables
import Derived.Laws.Rows
import Derived.Laws.NewBlocks
import Derived.Lib.Hide
import Derived.OwnWalk
import Derived.Laws.MakeOwn
import Derived.Laws.Bits64b
import Derived.Laws.BitsAllLaws
import Derived.Shelf.Spec.TrailingZeros
import Derived.StillTailTactics
import Derived.Deep.QuietTactic
import Derived.BigQuiet
import Derived.IntWalk
namespace Go.Proofs.YtgkiaeddlahngaaGreatDoor
set_option linter.unusedVariables false
set_option linter.unusedSimpArgs false
open Go.RowKit

/-! ### words as sets -/
theorem bit_div (x n : Nat) : decide (x / 2 ^ n % 2 = 1) = x.testBit n := (Nat.testBit_eq_decide_div_mod_eq).symm
theorem bit_put (x n m : Nat) : (x ||| 2 ^ n).testBit m = (x.testBit m || decide (n = m)) := by rw [Nat.testBit_or, Nat.testBit_two_pow]
theorem low_parts (x : Nat) (h0 : x ≠ 0) (h : x < 2 ^ 64) : ∃ t, x = 2 ^ Lib.ctz 64 x * (2 * t + 1) ∧ Lib.ctz 64 x < 64 := by
  obtain ⟨m, hm, hk⟩ := Lib.ctzFrom_spec 64 x (by omega) h
  have e : Lib.ctz 64 x = Lib.ctzFrom 64 x := by simp [Lib.ctz, h0]
  rw [e]; exact ⟨m, hm, hk⟩
theorem low_set (x : Nat) (h0 : x ≠ 0) (h : x < 2 ^ 64) : x.testBit (Lib.ctz 64 x) = true ∧ ∀ m, m < Lib.ctz 64 x → x.testBit m = false := by
  obtain ⟨t, ht, hk⟩ := low_parts x h0 h
  obtain ⟨k, hk2⟩ : ∃ k, Lib.ctz 64 x = k := ⟨_, rfl⟩
  rw [hk2] at ht ⊢
  refine ⟨?_, fun m hm => ?_⟩
  · rw [ht, Nat.testBit_two_pow_mul]; simp
  · rw [ht, Nat.testBit_two_pow_mul]; simp; omega
theorem clear_low (x : Nat) (h0 : x ≠ 0) (h : x < 2 ^ 64) (m : Nat) : (x &&& (x - 1)).testBit m = (x.testBit m && decide (m ≠ Lib.ctz 64 x)) := by
  obtain ⟨t, ht, hk⟩ := low_parts x h0 h
  obtain ⟨k, hk2⟩ : ∃ k, Lib.ctz 64 x = k := ⟨_, rfl⟩
  rw [hk2] at ht ⊢
  have hp : 0 < 2 ^ k := Nat.two_pow_pos k
  have h1 : x - 1 = 2 ^ k * (2 * t) + (2 ^ k - 1) := by
    rw [ht, Nat.mul_add, Nat.mul_one]; omega
  rw [Nat.testBit_and, h1, Nat.testBit_two_pow_mul_add _ (by omega)]
  rw [ht, Nat.testBit_two_pow_mul]
  by_cases hm : m < k
  · simp [show ¬ k ≤ m by omega]
  · rw [if_neg hm]
    rcases Nat.lt_or_ge k m with h2 | h2
    · obtain ⟨j, rfl⟩ : ∃ j, m = k + (j + 1) := ⟨m - k - 1, by omega⟩
      rw [show k + (j + 1) - k = j + 1 by omega, Nat.testBit_succ, Nat.testBit_succ]
      rw [show (2 * t + 1) / 2 = t by omega, show 2 * t / 2 = t by omega]
      simp
    · obtain rfl : m = k := by omega
      simp
theorem clear_lt (x : Nat) (h0 : x ≠ 0) : x &&& (x - 1) < x := by
  have := Nat.and_le_right (n := x) (m := x - 1)
  omega
end Go.Proofs.YtgkiaeddlahngaaGreatDoor
namespace Go.Proofs.YtgkiaeddlahngaaGreatDoor
set_option linter.unusedVariables false
set_option linter.unusedSimpArgs false
open Go.RowKit

/-- a set of one word in block g -/
def SetAt (x g : Nat) (w : World) : Prop := w.heap[g]? = some (.cells #[.int .u64 (x : Int)] 44 (0, 0))
theorem SetAt.lt {x g : Nat} {w : World} (h : SetAt x g w) : g < w.heap.size := (Array.getElem?_eq_some_iff.1 h).1
theorem SetAt.on {x g : Nat} {w w' : World} (h : SetAt x g w) (hb : Below w.heap.size w w') : SetAt x g w' := (hb.block g h.lt).trans h
theorem SetAt.cell {x g : Nat} {w : World} (h : SetAt x g w) : w.cell? ⟨g, 0, none⟩ = some (.int .u64 (x : Int)) := by rw [cell_of_row w g 0 _ _ _ h]; rfl
theorem SetAt.free {x g : Nat} {w : World} (h : SetAt x g w) : w.frozen? ⟨g, 0, none⟩ = false := frozen_of_row w g 0 _ _ h
theorem cells_set (w : World) (n k : Nat) (v : Value) (cs : Array Value) (T : TypeId) (fr : Nat × Nat) (h : w.heap[n]? = some (.cells cs T fr)) : (w.setCell ⟨n, k, none⟩ v).heap[n]? = some (.cells (cs.setIfInBounds k v) T fr) := by
  have hl : n < w.heap.size := (Array.getElem?_eq_some_iff.1 h).1
  unfold World.setCell
  simp only [Array.getElem?_modify, if_true, h, Option.map_some]
  simp
theorem SetAt.put {x y g : Nat} {w : World} (h : SetAt x g w) : SetAt y g (w.setCell ⟨g, 0, none⟩ (.int .u64 (y : Int))) := by
  have := cells_set w g 0 (.int .u64 (y : Int)) _ _ _ h
  unfold SetAt; rw [this]; simp
abbrev setV (g : Nat) : Value := .slice (some ⟨g, 0, none⟩) 1 1
def EmptyIs (w : World) (e : Ending) (w' : World) : Prop := e = .returned (setV w.heap.size) ∧ w.alloc (.cells #[.int .u64 0] 44) = w'
set_option maxHeartbeats 2000000 in
theorem setEmpty_any (n : Int) (h1 : 1 ≤ n) (h2 : n ≤ 64) (w : World) : Calls Tryz.prog 76 #[.int .i64 n] w fun e w' => EmptyIs w e w' := by
  have hmk : ∀ W, (Instr.makeSlice 88 (.int .i64 1) (.int .i64 1)).run Tryz.prog W = .ok (.slice (some ⟨W.heap.size, 0, none⟩) 1 1) (W.alloc (.cells #[.int .u64 0] 44)) := fun _ => by kernel_rfl
  have hq : (n + 64 - 1) / 64 = 1 := by omega
  go_enter Tryz.func76, Tryz.ntmps76
  go_wp2
  go_ret
  exact ⟨rfl, rfl⟩
theorem div64 (n : Nat) (hn : n < 64) : ((n : Int)) / 64 = 0 := by omega
theorem has_bit (x n : Nat) (hx : x < 18446744073709551616) : (bits .and .u64 ((x : Int) / ((2 ^ n : Nat) : Int)) 1 != 0) = x.testBit n := by
  have h1 : ((x : Int) / ((2 ^ n : Nat) : Int)) = ((x / 2 ^ n : Nat) : Int) := by simp
  have hlt : x / 2 ^ n < 18446744073709551616 := Nat.lt_of_le_of_lt (Nat.div_le_self _ _) hx
  have h2 := bits_and_u64_nat (x / 2 ^ n) 1 hlt (by omega)
  rw [h1]
  rw [show ((1 : Nat) : Int) = 1 from rfl] at h2
  rw [h2, Nat.and_one_is_mod, ← bit_div x n]
  have : x / 2 ^ n % 2 < 2 := Nat.mod_lt _ (by omega)
  rcases (show x / 2 ^ n % 2 = 0 ∨ x / 2 ^ n % 2 = 1 by omega) with h | h <;> rw [h] <;> rfl
def BoolSame (b : Bool) (w : World) (e : Ending) (w' : World) : Prop := e = .returned (.bool b) ∧ w = w'
set_option maxHeartbeats 2000000 in
theorem setHas_any (x g n : Nat) (hx : x < 18446744073709551616) (hn : n < 64) (w : World) (h : SetAt x g w) (r : Bool) (hr : x.testBit n = r) : Calls Tryz.prog 79 #[setV g, .int .i64 (n : Int)] w fun e w' => BoolSame r w e w' := by
  have hc := h.cell
  have hd := div64 n hn
  have H := Lib.hid (has_bit x n hx)
  have HR := Lib.hid hr
  clear h hr
  go_enter Tryz.func79, Tryz.ntmps79
  go_wp2
  go_ret
  refine ⟨?_, rfl⟩
  rw [← HR.out, ← H.out, Nat.mod_eq_of_lt hn]
  simp
theorem put_bit (x n : Nat) (hx : x < 18446744073709551616) (hn : n < 64) : bits .or .u64 (x : Int) (((2 ^ n : Nat) : Int)) = ((x ||| 2 ^ n : Nat) : Int) ∧ (x ||| 2 ^ n) < 18446744073709551616 := by
  have hp : 2 ^ n < 18446744073709551616 := Nat.lt_of_lt_of_le (Nat.pow_lt_pow_right (by omega) hn) (by decide)
  exact ⟨bits_or_u64_nat x (2 ^ n) hx hp, Nat.or_lt_two_pow (n := 64) hx hp⟩
theorem shl_one (n : Nat) (hn : n < 64) : IntKind.u64.wrap (((2 ^ n : Nat) : Int)) = ((2 ^ n : Nat) : Int) := by
  have hp : 2 ^ n < 18446744073709551616 := Nat.lt_of_lt_of_le (Nat.pow_lt_pow_right (by omega) hn) (by decide)
  obtain ⟨k, hk⟩ : ∃ k, 2 ^ n = k := ⟨_, rfl⟩
  rw [hk] at hp ⊢
  rw [IntKind.wrap_u64]; omega
def PutIs (x g n : Nat) (w : World) (e : Ending) (w' : World) : Prop := (∃ v, e = .returned v) ∧ (w.setCell ⟨g, 0, none⟩ (.int .u64 ((x ||| 2 ^ n : Nat) : Int))).drew = w'
attribute [local irreducible] wpStill in
set_option maxHeartbeats 2000000 in
theorem setPut_any (x g n : Nat) (hx : x < 18446744073709551616) (hn : n < 64) (w : World) (h : SetAt x g w) : Calls Tryz.prog 77 #[setV g, .int .i64 (n : Int)] w fun e w' => PutIs x g n w e w' := by
  have hc := h.cell
  have hf := h.free
  have hd := div64 n hn
  have H := Lib.hid (put_bit x n hx hn)
  have H1 := Lib.hid (shl_one n hn)
  have hw0 : IntKind.i64.wrap 0 = 0 := by decide
  have hmt : (n : Int).tmod 64 = (n : Int) := by rw [Int.tmod_eq_emod_of_nonneg (by omega)]; omega
  have hn0 : (0 : Int) ≤ (n : Int) := by omega
  have hn1 : (n : Int) < 64 := by omega
  have hwn : IntKind.i64.wrap (n : Int) = n := IntWalk.i64_in _ (by omega)
  clear h
  go_enter Tryz.func77, Tryz.ntmps77
  refine wp_region_still_tail 10 (by kernel_rfl) (by kernel_rfl) ?_
  simp only [List.take_succ_cons, List.take_zero, List.drop_succ_cons, List.drop_zero]
  iterate 10 still_step
  refine wpStill_nil ?_
  change wpList _ _ _ _ _ (World.drew _)
  go_wp2
  have e1 : ((2 ^ n : Nat) : Int) = (2 : Int) ^ n := by simp
  have e2 : bits .or .u64 (x : Int) (IntKind.u64.wrap (2 ^ n)) = ((x ||| 2 ^ n : Nat) : Int) := by rw [← e1, H1.out, H.out.1]
  rw [e2]
  go_end0
  exact ⟨⟨_, rfl⟩, rfl⟩
theorem gZ : Tryz.prog.globalNamed "math/bits.deBruijn64tab" = some 0 := by kernel_rfl
/-- the table of zero bits as the library lays it -/
def TabT (w : World) : Prop := TabAt 0 Lib.deBruijn64tab w
set_option maxHeartbeats 2000000 in
theorem trail_any (x : Nat) (hx : x < 18446744073709551616) (hx0 : x ≠ 0) (w : World) (hT : TabT w) : Calls Tryz.prog 103 #[.int .u64 (x : Int)] w fun e w' => e = .returned (.int .i64 (Lib.ctz 64 x : Nat)) ∧ w = w' := by
  obtain ⟨hlow, hk⟩ := Lib.lowest_bit 64 x hx0 hx
  obtain ⟨hi, htab⟩ := Lib.deBruijn64_at _ hk
  have hcell := hT _ hi
  rw [htab] at hcell
  have key := tz64_key x _ hx hx0 hlow
  have h0 : ((x : Int) == 0) = false := by simp; omega
  obtain ⟨k, hk2⟩ : ∃ k, Hid (Lib.ctz 64 x = k) := ⟨_, Lib.hid rfl⟩
  rw [hk2.out] at hcell hk key hi htab hlow ⊢
  obtain ⟨idx, hidx⟩ : ∃ idx, Hid (2 ^ k * 285870213051353865 % 18446744073709551616 / 288230376151711744 = idx) := ⟨_, Lib.hid rfl⟩
  rw [hidx.out] at hcell key hi
  have hi64 : idx < 64 := hi
  clear hT hlow htab hi hx0 hx
  go_enter Tryz.func103, Tryz.ntmps103
  go_wp2_with (simp only [key])
  go_ret
  exact ⟨rfl, rfl⟩
end Go.Proofs.YtgkiaeddlahngaaGreatDoor
