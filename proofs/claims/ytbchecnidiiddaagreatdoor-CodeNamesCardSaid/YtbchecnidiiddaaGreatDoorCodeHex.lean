/-
  Proved here: strconv.FormatUint at base 16 answers a number's hexadecimal digits, without needless noughts; package code's digits answers eight of them; nothing that was there is changed. Condition: a number of 64 bits; math/bits' table as the library lays it.
-/
import Derived.Test.YtbchecnidiiddaaGreatDoorProg
import Derived.WalkKit
import Derived.Laws.Tables
import Derived.Laws.Rows
import Derived.Laws.NewBlocks
import Derived.Lib.Hide
import Derived.OwnWalk
import Derived.Laws.IdiomStrings
import Derived.Lib.ItoaMem
import Derived.LoopTactic
import Derived.IntWalk
import Derived.Deep.DeepCutAuto
import Derived.Outline
import Derived.Laws.Bits64b
namespace Go.Proofs.YtbchecnidiiddaaGreatDoor
open Go.RowKit

def hexD (d : Nat) : UInt8 := UInt8.ofNat (if d < 10 then 48 + d else 87 + d)
/-- the last k digits -/
def hexK : Nat → Nat → List UInt8
  | 0, _ => []
  | k + 1, u => hexD (u / 16 ^ k % 16) :: hexK k u
/-- how many digits there are besides the last one -/
def hexC : Nat → Nat → Nat
  | 0, _ => 0
  | f + 1, u => if u < 16 then 0 else 1 + hexC f (u / 16)
def hexL (u : Nat) : List UInt8 := hexK (hexC 16 u + 1) u
theorem hexK_len (k u : Nat) : (hexK k u).length = k := by induction k with | zero => rfl | succ k ih => simp [hexK, ih]
theorem hexC_le : ∀ f u, hexC f u ≤ f := by
  intro f
  induction f with
  | zero => intro u; simp [hexC]
  | succ f ih => intro u; unfold hexC; have := ih (u / 16); split <;> omega
theorem hexC_bd : ∀ f u, u < 16 ^ (f + 1) → hexC (f + 1) u ≤ f := by
  intro f
  induction f with
  | zero => intro u h; simp only [hexC]; rw [if_pos (by simpa using h)]; omega
  | succ f ih =>
    intro u h
    unfold hexC
    split
    · omega
    · have := ih (u / 16) (by rw [Nat.pow_succ] at h; omega)
      omega
theorem hexL_len (u : Nat) (h : u < 18446744073709551616) : 1 ≤ (hexL u).length ∧ (hexL u).length ≤ 16 := by
  unfold hexL
  rw [hexK_len]
  have := hexC_bd 15 u (by simpa using h)
  simp only [Nat.reduceAdd] at this
  omega
theorem div_step (u k : Nat) : u / 16 ^ (k + 1) = u / 16 ^ k / 16 := by rw [Nat.pow_succ, Nat.div_div_eq_div_mul]
/-- where the loop stands: k digits are there -/
def HexAt (u k : Nat) : Prop := k ≤ 15 ∧ k + hexC (16 - k) (u / 16 ^ k) = hexC 16 u
theorem HexAt.start (u : Nat) : HexAt u 0 := ⟨by omega, by simp⟩
theorem HexAt.step {u k : Nat} (hu : u < 18446744073709551616) (h : HexAt u k) (hg : 16 ≤ u / 16 ^ k) : HexAt u (k + 1) := by
  obtain ⟨h1, h2⟩ := h
  have hk : k ≤ 14 := by
    rcases Nat.lt_or_ge k 15 with h | h
    · omega
    · obtain rfl : k = 15 := by omega
      omega
  refine ⟨by omega, ?_⟩
  rw [← h2, show 16 - k = (16 - (k + 1)) + 1 by omega, div_step]
  conv => rhs; unfold hexC
  rw [if_neg (by omega)]
  omega
theorem HexAt.stop {u k : Nat} (h : HexAt u k) (hg : u / 16 ^ k < 16) : hexL u = hexD (u / 16 ^ k) :: hexK k u := by
  obtain ⟨h1, h2⟩ := h
  have : hexC 16 u = k := by
    rw [← h2, show 16 - k = (16 - (k + 1)) + 1 by omega]
    unfold hexC
    rw [if_pos hg]; rfl
  unfold hexL
  rw [this]
  simp only [hexK]
  rw [Nat.mod_eq_of_lt hg]
/-- the array of 65 bytes: noughts, then these -/
def hexCells (m : Nat) (ds : List UInt8) : Array Value := (List.replicate m (Value.int .u8 0) ++ ds.map fun b => Value.int .u8 (b.toNat : Int)).toArray
def HexIn (m : Nat) (ds : List UInt8) (g : Nat) (w : World) : Prop := w.heap[g]? = some (.cells (hexCells m ds) 161 (0, 0))
theorem hexCells_set (m : Nat) (ds : List UInt8) (b : UInt8) : (hexCells (m + 1) ds).setIfInBounds m (.int .u8 (b.toNat : Int)) = hexCells m (b :: ds) := by
  unfold hexCells
  simp only [List.setIfInBounds_toArray]
  congr 1
  rw [List.replicate_succ']
  simp
theorem set_at (w : World) (n k : Nat) (v : Value) (cs : Array Value) (T : TypeId) (fr : Nat × Nat) (h : w.heap[n]? = some (.cells cs T fr)) : (w.setCell ⟨n, k, none⟩ v).heap[n]? = some (.cells (cs.setIfInBounds k v) T fr) := by
  have hl : n < w.heap.size := (Array.getElem?_eq_some_iff.1 h).1
  unfold World.setCell
  simp only [Array.getElem?_modify, if_true, h, Option.map_some]
  simp
theorem HexIn.set {m g : Nat} {ds : List UInt8} {w : World} (h : HexIn (m + 1) ds g w) (b : UInt8) : HexIn m (b :: ds) g (w.setCell ⟨g, m, none⟩ (.int .u8 (b.toNat : Int))) := by
  unfold HexIn
  rw [set_at _ _ _ _ _ _ _ h, hexCells_set]
theorem HexIn.nought {m g : Nat} {ds : List UInt8} {w : World} (h : HexIn (m + 1) ds g w) : w.cell? ⟨g, m, none⟩ = some (.int .u8 0) := by
  rw [cell_of_row w g m _ _ _ h]
  unfold hexCells
  rw [List.getElem?_toArray, List.getElem?_append_left (by simp)]
  simp
theorem HexIn.frozen {m g : Nat} {ds : List UInt8} {w : World} (h : HexIn m ds g w) (k : Nat) : w.frozen? ⟨g, k, none⟩ = false := frozen_of_row w g k _ _ h
theorem HexIn.at {m g : Nat} {ds : List UInt8} {w : World} (h : HexIn m ds g w) (j : Nat) (hj : j < ds.length) : w.cell? ⟨g, m + j, none⟩ = some (.int .u8 (ds[j].toNat : Int)) := by
  rw [cell_of_row w g _ _ _ _ h]
  unfold hexCells
  rw [List.getElem?_toArray, List.getElem?_append_right (by simp)]
  simp [hj]
def digs : ByteArray := ⟨#[48, 49, 50, 51, 52, 53, 54, 55, 56, 57, 97, 98, 99, 100, 101, 102, 103, 104, 105, 106, 107, 108, 109, 110, 111, 112, 113, 114, 115, 116, 117, 118, 119, 120, 121, 122]⟩
theorem digs_is : ∀ d : Fin 16, digs.data[d.val]? = some (hexD d.val) := by decide +kernel
theorem digs_at (k : IntKind) (d : Nat) (hd : d < 16) (w : World) : (Instr.index 9 (.string digs) (.int k (d : Int))).run Tryz.prog w = .ok (.int .u8 ((hexD d).toNat : Int)) w := by
  rw [run_index_string w 9 _ k _ Tryz.underlying9, dif_pos ⟨by omega, by rw [show digs.size = 36 from rfl]; omega⟩]
  have e : ((d : Int)).toNat = d := by omega
  have h := digs_is ⟨d, hd⟩
  have hl := (Array.getElem?_eq_some_iff.1 h).2
  simp only [e]
  rw [← hl]
  rfl
/-- math/bits' table as the library lays it -/
abbrev TabZ (w : World) : Prop := Lib.TabIs Tryz.prog w "math/bits.deBruijn64tab" .u8 [0, 1, 56, 2, 57, 49, 28, 3, 61, 58, 42, 50, 38, 29, 17, 4, 62, 47, 59, 36, 45, 43, 51, 22, 53, 39, 33, 30, 24, 18, 12, 5, 63, 55, 48, 27, 60, 41, 37, 16, 46, 35, 44, 21, 52, 32, 23, 11, 54, 26, 40, 15, 34, 20, 31, 10, 25, 14, 19, 9, 13, 8, 7, 6]
theorem gZ : Tryz.prog.globalNamed "math/bits.deBruijn64tab" = some 3 := by kernel_rfl
theorem trail_any (w : World) (h : TabZ w) : Calls Tryz.prog 117 #[.int .u64 16] w fun e w' => e = .returned (.int .i64 4) ∧ w = w' := by
  have hc := h.cell gZ 15 (by decide)
  have hc' : w.cell? ⟨3, 15, none⟩ = some (.int .u8 4) := hc
  have hv : IntKind.u64.wrap (bits BinOp.and IntKind.u64 16 (IntKind.u64.wrap (-16)) * 285870213051353865) / 288230376151711744 = 15 := by decide +kernel
  clear hc h
  go_enter Tryz.func117, Tryz.ntmps117
  go_wp2
  go_ret
  exact ⟨rfl, rfl⟩
theorem power_any (w : World) : Calls Tryz.prog 116 #[.int .i64 16] w fun e w' => e = .returned (.bool true) ∧ w = w' := by
  have hv : bits BinOp.and IntKind.i64 16 15 = 0 := by decide +kernel
  go_enter Tryz.func116, Tryz.ntmps116
  go_wp2
  go_ret
  exact ⟨rfl, rfl⟩
theorem digs_zero : hexCells 65 [] = #[.int .u8 0, .int .u8 0, .int .u8 0, .int .u8 0, .int .u8 0, .int .u8 0, .int .u8 0, .int .u8 0, .int .u8 0, .int .u8 0, .int .u8 0, .int .u8 0, .int .u8 0, .int .u8 0, .int .u8 0, .int .u8 0, .int .u8 0, .int .u8 0, .int .u8 0, .int .u8 0, .int .u8 0, .int .u8 0, .int .u8 0, .int .u8 0, .int .u8 0, .int .u8 0, .int .u8 0, .int .u8 0, .int .u8 0, .int .u8 0, .int .u8 0, .int .u8 0, .int .u8 0, .int .u8 0, .int .u8 0, .int .u8 0, .int .u8 0, .int .u8 0, .int .u8 0, .int .u8 0, .int .u8 0, .int .u8 0, .int .u8 0, .int .u8 0, .int .u8 0, .int .u8 0, .int .u8 0, .int .u8 0, .int .u8 0, .int .u8 0, .int .u8 0, .int .u8 0, .int .u8 0, .int .u8 0, .int .u8 0, .int .u8 0, .int .u8 0, .int .u8 0, .int .u8 0, .int .u8 0, .int .u8 0, .int .u8 0, .int .u8 0, .int .u8 0, .int .u8 0] := by kernel_rfl
set_option maxRecDepth 100000 in
set_option maxHeartbeats 2000000 in
theorem bits_any (u : Nat) (hu : u < 18446744073709551616) (w : World) (h : TabZ w) : Calls Tryz.prog 96 #[.slice none 0 0, .int .u64 u, .int .i64 16, .bool false, .bool false] w fun e w' => e = .returned (.tuple #[.slice none 0 0, .string ⟨(hexL u).toArray⟩]) ∧ Below w.heap.size w w' := by
  have HT := Lib.hid h
  clear h
  go_enter Tryz.func96, Tryz.ntmps96
  go_upto_region 8 with (go_at_call 116; (with_reducible refine (power_any _).mono ?_); rintro e w' ⟨rfl, rfl⟩)
  go_name_world W hW
  have HZ : Hid (TabZ W) := Lib.hid (by rw [← hW]; exact Lib.tabIs_alloc HT.out _)
  have H0 : Hid (HexIn 65 [] w.heap.size W) := Lib.hid (by rw [← hW]; unfold HexIn; rw [digs_zero]; exact Array.getElem?_push_size)
  have HB : Hid (Below w.heap.size w W) := Lib.hid (by rw [← hW]; exact (Below.refl _ _).alloc (Nat.le_refl _) _)
  clear hW
  go_wp2_with (go_at_call 117; (with_reducible refine (trail_any _ HZ.out).mono ?_); rintro e w' ⟨rfl, rfl⟩)
  go_loopw [1, 13] (fun vu vi wr => ∃ m k : Nat, m + k = 64 ∧ vi = .int .i64 ((m : Int) + 1) ∧ vu = .int .u64 ((u / 16 ^ k : Nat) : Int) ∧ Hid (HexAt u k) ∧ Hid (HexIn (m + 1) (hexK k u) w.heap.size wr) ∧ Below w.heap.size w wr) (fun _ vi _ => (intOf vi).toNat)
  case atStart => exact ⟨64, 0, rfl, rfl, by simp, Lib.hid (HexAt.start u), H0, HB.out⟩
  case round =>
    obtain ⟨m, k, hm, rfl, rfl, hA, hI, hbel⟩ := hrel
    have HL := Lib.hid hbel
    have hk15 := hA.out.1
    clear hbel H0 HB HZ
    obtain ⟨x, hx⟩ : ∃ x, Hid (u / 16 ^ k = x) := ⟨_, Lib.hid rfl⟩
    have hx64 : x < 18446744073709551616 := by rw [← hx.out]; exact Nat.lt_of_le_of_lt (Nat.div_le_self _ _) hu
    have hn := hI.out.nought
    have hz := hI.out.frozen m
    rw [hx.out]
    by_cases hg : 16 ≤ x
    · obtain ⟨y, hy⟩ : ∃ y, Hid (x % 16 = y) := ⟨_, Lib.hid rfl⟩
      have hy16 : y < 16 := by rw [← hy.out]; omega
      have hb : bits .and .u64 (x : Int) 15 = (y : Int) := by
        have := bits_and_u64_nat x 15 hx64 (by omega)
        rw [show x &&& 15 = x % 16 from Nat.and_two_pow_sub_one_eq_mod x 4, hy.out] at this
        exact this
      have hd := digs_at .u64 y hy16
      unfold digs at hd
      have H2 : Hid (HexIn m (hexK (k + 1) u) w.heap.size (wr.setCell ⟨w.heap.size, m, none⟩ (.int .u8 ((hexD y).toNat : Int)))) := Lib.hid (by
        have := hI.out.set (hexD y)
        rw [← hy.out, ← hx.out] at this ⊢
        exact this)
      have HE := Lib.hid (HL.out.setCell (p := ⟨w.heap.size, m, none⟩) (Nat.le_refl _) (.int .u8 ((hexD y).toNat : Int)))
      have HA2 := Lib.hid (hA.out.step hu (by rw [hx.out]; exact hg))
      have HQ : Hid ((x : Int) / 16 = ((u / 16 ^ (k + 1) : Nat) : Int)) := Lib.hid (by rw [div_step, hx.out]; omega)
      have hk14 : k ≤ 14 := by have := HA2.out.1; omega
      obtain ⟨m', rfl⟩ : ∃ m', m = m' + 1 := ⟨m - 1, by omega⟩
      go_wp2
      go_roundw
      case rel => exact ⟨m', k + 1, by omega, by simp, by rw [HQ.out], HA2, H2, HE.out⟩
      case measure => simp [intOf]; omega
    · have hd := digs_at .u64 x (by omega)
      unfold digs at hd
      have hal : Tryz.prog.arrayLen 161 = 65 := by kernel_rfl
      have hsl : ∀ W, (Instr.sliceAt 161 (.pointer (some ⟨w.heap.size, 0, none⟩)) (some (.int .i64 (m : Int))) none none).run Tryz.prog W = .ok (.slice (some ⟨w.heap.size, m, none⟩) (k + 1) (k + 1)) W := fun W => by
        rw [run_sliceAt_array_l W 161 ⟨w.heap.size, 0, none⟩ (by kernel_rfl) .i64 (m : Int) (by omega) (by rw [hal]; omega)]
        go_simp
        omega
      have hS := Lib.hid (hA.out.stop (by rw [hx.out]; omega))
      rw [hx.out] at hS
      have H2 := Lib.hid (hI.out.set (hexD x))
      have hcv : (convert 31 9 (.slice (some ⟨w.heap.size, m, none⟩) (k + 1) (k + 1))).run Tryz.prog (wr.setCell ⟨w.heap.size, m, none⟩ (.int .u8 ((hexD x).toNat : Int))) = .ok (.string ⟨(hexL u).toArray⟩) (wr.setCell ⟨w.heap.size, m, none⟩ (.int .u8 ((hexD x).toNat : Int))) := by
        have h := run_convert_bytes_back (P := Tryz.prog) (wr.setCell ⟨w.heap.size, m, none⟩ (.int .u8 ((hexD x).toNat : Int))) 31 9 5 ⟨w.heap.size, m, none⟩ (k + 1) (hexD x :: hexK k u) Tryz.underlying31 Tryz.underlying5 Tryz.underlying9 (fun j hj => by rw [Lib.add_plain]; exact H2.out.at j hj)
        rw [List.length_cons, hexK_len] at h
        rw [hS.out]
        exact h
      have HE := Lib.hid (HL.out.setCell (p := ⟨w.heap.size, m, none⟩) (Nat.le_refl _) (.int .u8 ((hexD x).toNat : Int)))
      go_wp2
      go_ret2
      exact ⟨rfl, HE.out⟩
def hexS (u : Nat) : ByteArray := ⟨(hexL u).toArray⟩
def TextIs (w : World) (s : ByteArray) (e : Ending) (w' : World) : Prop := e = .returned (.string s) ∧ Below w.heap.size w w'
theorem formatI_any (u : Nat) (hu : u < 18446744073709551616) (w : World) (h : TabZ w) : Calls Tryz.prog 67 #[.int .u64 u, .int .i64 16] w fun e w' => TextIs w (hexS u) e w' := by
  have H := Lib.hid (bits_any u hu w h)
  clear h
  unfold hexS
  go_enter Tryz.func67, Tryz.ntmps67
  go_wp2_with (go_at_call 96; (with_reducible refine (H.out).mono ?_); rintro e w1 ⟨rfl, hb⟩; have HB := Lib.hid hb; clear hb)
  go_ret
  exact ⟨rfl, HB.out⟩
theorem format_any (u : Nat) (hu : u < 18446744073709551616) (w : World) (h : TabZ w) : Calls Tryz.prog 28 #[.int .u64 u, .int .i64 16] w fun e w' => TextIs w (hexS u) e w' := by
  have H := Lib.hid (formatI_any u hu w h)
  clear h
  go_enter Tryz.func28, Tryz.ntmps28
  go_wp2_with (go_at_call 67; (with_reducible refine (H.out).mono ?_); rintro e w1 ⟨rfl, hb⟩; have HB := Lib.hid hb; clear hb)
  go_ret
  exact ⟨rfl, HB.out⟩
/-- a word's eight digits -/
def eightS (u : Nat) : ByteArray := (hexS (4294967296 + u)).extract 1 (hexS (4294967296 + u)).size
theorem eightS_le (u : Nat) (hu : u < 4294967296) : (eightS u).size ≤ 16 := by
  have := (hexL_len (4294967296 + u) (by omega)).2
  have hs : (hexS (4294967296 + u)).size ≤ 16 := by
    show (hexL (4294967296 + u)).toArray.size ≤ 16
    rw [List.size_toArray]; exact this
  unfold eightS
  rw [ByteArray.size_extract]
  omega
theorem digitsC_any (u : Nat) (hu : u < 4294967296) (w : World) (h : TabZ w) : Calls Tryz.prog 18 #[.int .u32 u] w fun e w' => TextIs w (eightS u) e w' := by
  have hor : (4294967296 : Nat) ||| u = 4294967296 + u := by
    have := Nat.two_pow_add_eq_or_of_lt (i := 32) (b := u) (by omega) 1
    simpa using this.symm
  have hbo : bits BinOp.or IntKind.u64 4294967296 (u : Int) = ((4294967296 + u : Nat) : Int) := by
    have h1 := bits_or_u64_nat 4294967296 u (by omega) (by omega)
    rw [hor] at h1
    exact h1
  have H := Lib.hid (format_any (4294967296 + u) (by omega) w h)
  rw [show ((4294967296 + u : Nat) : Int) = 4294967296 + (u : Int) from by simp] at H hbo
  clear h
  have hsz : (1 : Int) ≤ ((hexS (4294967296 + u)).size : Int) := by
    have := (hexL_len (4294967296 + u) (by omega)).1
    show (1 : Int) ≤ (((hexL (4294967296 + u)).toArray.size : Nat) : Int)
    rw [List.size_toArray]; omega
  unfold eightS
  obtain ⟨t, ht⟩ : ∃ t, Hid (hexS (4294967296 + u) = t) := ⟨_, Lib.hid rfl⟩
  rw [ht.out] at H hsz ⊢
  go_enter Tryz.func18, Tryz.ntmps18
  go_wp2_with (go_at_call 28; (with_reducible refine (H.out).mono ?_); rintro e w1 ⟨rfl, hb⟩; have HB := Lib.hid hb; clear hb)
  go_ret
  exact ⟨rfl, HB.out⟩
end Go.Proofs.YtbchecnidiiddaaGreatDoor
