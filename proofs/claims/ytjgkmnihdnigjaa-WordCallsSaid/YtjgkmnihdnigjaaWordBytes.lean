/-
  Proved here: the contracts of word.Bytes and word.Of: Bytes makes one new block of the bytes and hands it back; Of reads a row of bytes and leaves the world as it was. Conditions: what Of reads is a row of bytes.
-/
import Derived.Test.YtjgkmnihdnigjaaWordRefs
import Derived.Laws.BytesArg
namespace Go.Proofs.Ytjgkmnihdnigjaa
open Go.RowKit

theorem clamp_hid {n h r : Int} (H : Hid (cl n h = r)) (w : World) : Calls Try.prog 30 #[.int .i64 n, .int .i64 h] w fun e w' => e = .returned (.int .i64 r) ∧ w = w' :=
  H.out ▸ clamp_any n h w
theorem cl_is (n : Int) (h : Nat) : ∃ k : Nat, cl n (h : Int) = (k : Int) ∧ k ≤ h := by
  have h0 := cl_lo n (h : Int) (by omega)
  have h1 := cl_hi n (h : Int) (by omega)
  exact ⟨(cl n h).toNat, by omega, by omega⟩
/-- byte i of x, in the walk's spelling -/
def byteI (x : Int) (i : Nat) : Int := x / 2 ^ (i * 8) % 256
def rowA (x : Int) (k j : Nat) : Array Value := ((List.range k).map fun i => Value.int .u8 (if i < j then byteI x i else 0)).toArray
theorem info5 : (Try.prog.info? 5).map (fun i => (i.zero, i.size, i.bytes)) = some (some (.int .u8 0), 1, 1) := by kernel_rfl
theorem rowA_get (x : Int) (k j : Nat) (h : j < k) : (rowA x k j)[j]? = some (.int .u8 0) := by
  unfold rowA; simp [h]

theorem made_row (x : Int) (k : Nat) : madeCells #[.int .u8 0] k = rowA x k 0 := by
  unfold madeCells rowA
  apply Array.ext
  · simp
  · intro i h1 h2
    simp [Nat.mod_one]
theorem make_row (x : Int) (k : Nat) (hk : k ≤ 8) (w : World) : (Instr.makeSlice 26 (.int .i64 (k : Int)) (.int .i64 (k : Int))).run Try.prog w =
    .ok (.slice (some ⟨w.heap.size, 0, none⟩) k k) (w.alloc (.cells (rowA x k 0) 5)) := by
  obtain ⟨i0, hi, hz0, hz1, hz2⟩ := info_parts info5
  have h := run_make (P := Try.prog) w 26 5 i0 (.int .u8 0) Try.underlying26 hi hz0 .i64 .i64 (k : Int) (k : Int) (by omega) (by omega) (by rw [hz2]; omega) (by omega)
  rw [h, hz1, Int.toNat_natCast, Nat.mul_one]
  show Result.ok _ (w.alloc (.cells (madeCells #[.int .u8 0] k) _)) = _
  rw [made_row x k]
theorem row_set (x : Int) (k j : Nat) : (rowA x k j).setIfInBounds j (.int .u8 (byteI x j)) = rowA x k (j + 1) := by
  unfold rowA
  apply Array.ext
  · simp
  · intro i h1 h2
    simp
    by_cases e : j = i
    · subst e; simp
    · have : (i < j) ↔ (i < j + 1) := by omega
      simp [e, this]

set_option maxHeartbeats 1000000 in
theorem Bytes_any (x n : Int) (w : World) : Calls Try.prog 12 #[.int .u64 x, .int .i64 n] w fun e w' =>
    e = .returned (.slice (some ⟨w.heap.size, 0, none⟩) (cl n 8).toNat (cl n 8).toNat) ∧ w' = w.alloc (.cells (rowA x (cl n 8).toNat (cl n 8).toNat) 5) := by
  obtain ⟨k, hk, hk8⟩ := cl_is n 8
  have HK := Lib.hid (show cl n 8 = (k : Int) from hk)
  have hk' : (cl n 8).toNat = k := by rw [HK.out, Int.toNat_natCast]
  rw [hk']
  clear hk hk'
  have hmk := make_row x k hk8
  have HR := Lib.hid (row_set x k)
  go_enter Try.func12, Try.ntmps12
  go_wp2_with (go_at_call 30; (with_reducible refine (clamp_hid HK _).mono ?_); rintro e w' ⟨rfl, rfl⟩)
  go_loopw [6, 12] (fun _ i wr => ∃ j : Nat, j ≤ k ∧ i = .int .i64 j ∧ wr = w.alloc (.cells (rowA x k j) 5)) (fun _ i _ => k - (intOf i).toNat)
  case atStart => exact ⟨0, by omega, rfl, rfl⟩
  case round =>
    obtain ⟨j, hj, rfl, rfl⟩ := hrel
    clear hmk
    by_cases hlt : j < k
    · have hg := rowA_get x k j hlt
      go_wp2_with (fail)
      go_roundw
      case rel => exact ⟨j + 1, by omega, by go_num, by rw [← HR.out]; rfl⟩
      case measure => simp [intOf]; omega
    · go_wp2_with (fail)
      go_ret
      obtain rfl : j = k := by omega
      exact ⟨rfl, rfl⟩

/-- the slice a of xs.length elements reads as the bytes xs -/
def RowAt (w : World) (a : Option Addr) (xs : List Int) : Prop :=
  xs ≠ [] → ∃ b off, a = some ⟨b, off, none⟩ ∧ ∀ i, i < xs.length → w.cell? ⟨b, off + i, none⟩ = some (.int .u8 (xs.getD i 0))
/-- what Of has behind j bytes -/
def ofI (xs : List Int) : Nat → Int
  | 0 => 0
  | j + 1 => bits .or .u64 (ofI xs j) (IntKind.u64.wrap (xs.getD j 0 * 2 ^ (j * 8)))

set_option maxHeartbeats 1000000 in
theorem Of_any (a : Option Addr) (cap : Nat) (xs : List Int) (w : World) (hr : RowAt w a xs) (hm : xs.length ≤ maxLen) (hx : ∀ i, 0 ≤ xs.getD i 0 ∧ xs.getD i 0 ≤ 255) :
    Calls Try.prog 13 #[.slice a xs.length cap] w fun e w' => e = .returned (.int .u64 (ofI xs (cl xs.length 8).toNat)) ∧ w = w' := by
  unfold maxLen at hm
  obtain ⟨k, hk, hk8⟩ := cl_is xs.length 8
  have hkl : k ≤ xs.length := by
    have : cl (xs.length : Int) 8 ≤ xs.length := by unfold cl; rw [if_neg (by omega)]; split <;> omega
    have hk2 : cl (xs.length : Int) 8 = (k : Int) := hk
    omega
  have HK := Lib.hid (show cl (xs.length : Int) 8 = (k : Int) from hk)
  have hk' : (cl (xs.length : Int) 8).toNat = k := by rw [HK.out, Int.toNat_natCast]
  rw [hk']
  clear hk hk'
  have HX := Lib.hid hx
  clear hx
  obtain ⟨l, hl⟩ : ∃ l, l = xs.length := ⟨_, rfl⟩
  rw [← hl] at hm hkl HK ⊢
  have HL := Lib.hid hl
  clear hl
  have HZ := Lib.hid (show ofI xs 0 = 0 from rfl)
  have HS := Lib.hid (show ∀ j, ofI xs (j + 1) = bits .or .u64 (ofI xs j) (IntKind.u64.wrap (xs.getD j 0 * 2 ^ (j * 8))) from fun _ => rfl)
  have HR := Lib.hid hr
  clear hr
  go_enter Try.func13, Try.ntmps13
  go_wp2_with (go_at_call 30; (with_reducible refine (clamp_hid HK _).mono ?_); rintro e w' ⟨rfl, rfl⟩)
  go_loop [3, 4, 8] (fun x _ i => ∃ j : Nat, j ≤ k ∧ i = .int .i64 j ∧ x = .int .u64 (ofI xs j)) (fun _ _ i => k - (intOf i).toNat)
  case atStart => exact ⟨0, by omega, rfl, by rw [HZ.out]⟩
  case round =>
    obtain ⟨j, hj, rfl, rfl⟩ := hrel
    by_cases hlt : j < k
    · obtain ⟨b, off, rfl, hc⟩ := HR.out (by intro e; rw [e] at HL; have := HL.out; simp at this; omega)
      have hcj := hc j (by rw [← HL.out]; omega)
      obtain ⟨y, hy⟩ : ∃ y, xs.getD j 0 = y := ⟨_, rfl⟩
      rw [hy] at hcj
      have hb := HX.out j
      rw [hy] at hb
      obtain ⟨hb0, hb1⟩ := hb
      have HY := Lib.hid hy
      clear hy hc HR
      go_wp2_with (fail)
      go_round
      case rel => exact ⟨j + 1, by omega, by go_num, by rw [HS.out, HY.out]⟩
      case measure => simp [intOf]; omega
    · go_wp2_with (fail)
      go_ret
      obtain rfl : j = k := by omega
      exact ⟨rfl, rfl⟩
end Go.Proofs.Ytjgkmnihdnigjaa
