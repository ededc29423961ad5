/-
  Proved here: the law WordNames returns true, and the world has at most new blocks behind it. No condition.
-/
import Derived.Test.YtjgkmnihdnigjaaWordTexts
import Derived.RegionTactic
import Derived.ChangeAlike
import Derived.Deep.RegionWith
import Derived.RowKit3
namespace Go.Proofs.Ytjgkmnihdnigjaa
open Go.RowKit

theorem row_made (x : Int) (k : Nat) (w : World) : RowAt (w.alloc (.cells (rowA x k k) 5)) (some ⟨w.heap.size, 0, none⟩) (bytesL x k) := by
  intro _
  refine ⟨w.heap.size, 0, rfl, ?_⟩
  intro i hi
  rw [bytesL_len] at hi
  rw [Nat.zero_add, World.cell?_alloc_new, rowA_full, bytesL_get _ _ _ hi]
  simp [bytesL, hi]
theorem names_str : strOfNums (bytesL 258 2) = ⟨#[2, 1]⟩ := by decide +kernel
theorem Bytes_names (w : World) : Calls Try.prog 12 #[.int .u64 258, .int .i64 2] w fun e w' =>
    ∃ b, e = .returned (.slice (some ⟨b, 0, none⟩) 2 2) ∧ (∀ w2, Below w'.heap.size w' w2 → (convert 26 9 (.slice (some ⟨b, 0, none⟩) 2 2)).run Try.prog w2 = .ok (.string ⟨#[2, 1]⟩) w2) ∧ Grown w w' := by
  refine (Bytes_any 258 2 w).mono ?_
  rintro e w' ⟨he, hw⟩
  have e1 : (cl 2 8).toNat = 2 := by decide +kernel
  rw [e1] at he hw
  subst hw
  refine ⟨_, he, ?_, (Grown.refl _).alloc _ _⟩
  intro w2 hb
  have hr := row_made 258 2 w
  have h := conv_row (row_later hr hb (row_lt hr)) 2
  rw [bytesL_len, names_str] at h
  exact h
theorem row_12 (w : World) : RowAt (w.alloc (.cells #[.int .u8 1, .int .u8 2] 5)) (some ⟨w.heap.size, 0, none⟩) [1, 2] := by
  intro _
  refine ⟨w.heap.size, 0, rfl, ?_⟩
  intro i hi
  rw [Nat.zero_add, World.cell?_alloc_new]
  match i, hi with
  | 0, _ => rfl
  | 1, _ => rfl
theorem Of_names (w : World) : Calls Try.prog 13 #[.slice (some ⟨w.heap.size, 0, none⟩) 2 2] (w.alloc (.cells #[.int .u8 1, .int .u8 2] 5)) fun e w' => e = .returned (.int .u64 513) ∧ w.alloc (.cells #[.int .u8 1, .int .u8 2] 5) = w' := by
  have h := Of_any (some ⟨w.heap.size, 0, none⟩) 2 [1, 2] _ (row_12 w) (by unfold maxLen; simp) (by
    intro i
    match i with
    | 0 => exact ⟨by decide, by decide⟩
    | 1 => exact ⟨by decide, by decide⟩
    | i + 2 => exact ⟨by simp, by simp⟩)
  have e : ofI [1, 2] (cl (([1, 2] : List Int).length : Int) 8).toNat = 513 := by decide +kernel
  rw [e] at h
  exact h

set_option maxRecDepth 100000 in
set_option maxHeartbeats 4000000 in
theorem names_any (w : World) : Calls Try.prog 3 #[] w fun e w' => e = .returned (.bool true) ∧ Grown w w' := by
  have n1 : (onesI 64 == 18446744073709551615) = true := by decide +kernel
  have n2 : (onesI (-3) == 0) = true := by decide +kernel
  have n3 : (lowI 255 4 == 15) = true := by decide +kernel
  have n4 : (shortI 2147483648 == 18446744071562067968) = true := by decide +kernel
  have n5 : fitsI 0 0 = true := by decide +kernel
  have n6 : fitsI 1 0 = false := by decide +kernel
  have n7 : (signI 5 0 == 0) = true := by decide +kernel
  go_enter Try.func3, Try.ntmps3
  go_wp2_with (first | (go_at_call 9; (with_reducible refine (lives_any _).mono ?_); rintro e w' ⟨rfl, rfl⟩) | (go_at_call 10; (with_reducible refine (Ones_any _ _).mono ?_); rintro e w' ⟨rfl, rfl⟩) | (go_at_call 11; (with_reducible refine (Low_any _ _ _).mono ?_); rintro e w' ⟨rfl, rfl⟩) | (go_at_call 14; (with_reducible refine (Short_any _ _).mono ?_); rintro e w' ⟨rfl, rfl⟩) | (go_at_call 15; (with_reducible refine (Fits_any _ _ _).mono ?_); rintro e w' ⟨rfl, rfl⟩) | (go_at_call 16; (with_reducible refine (Sign_any _ _ _).mono ?_); rintro e w' ⟨rfl, rfl⟩) | (go_at_call 12; (with_reducible refine (Bytes_names _).mono ?_); rintro e w3 ⟨b3, rfl, hc3, hg3⟩; have HG := Lib.hid hg3; have hr3 := Below.refl w3.heap.size w3; have hr4 := (Below.refl w3.heap.size w3).alloc (Nat.le_refl _) (.cells #[.int .u8 1, .int .u8 2] 5); clear hg3) | (go_at_call 13; (with_reducible refine (Of_names _).mono ?_); rintro e w' ⟨rfl, rfl⟩))
  all_goals
    go_ret
    exact ⟨rfl, Grown.alloc (show Grown w w3 from HG.out) _ _⟩
end Go.Proofs.Ytjgkmnihdnigjaa
