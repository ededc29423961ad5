/-
  Proved here: the laws' first question, lives, returns true and leaves the world as it was. No condition.
-/
import Derived.Test.YtjgkmnihdnigjaaWordWalks
namespace Go.Proofs.Ytjgkmnihdnigjaa
open Go.RowKit
theorem lives_any (w : World) : Calls Try.prog 9 #[] w fun e w' => e = .returned (.bool true) ∧ w = w' := by
  have h1 : (partI 43981 4 8 == 188) = true := by decide +kernel
  have h2 : (putI 0 4 8 511 == 4080) = true := by decide +kernel
  have h3 : (signI 4095 12 == -1) = true := by decide +kernel
  have h4 : (signI 2047 12 == 2047) = true := by decide +kernel
  have h5 : fitsI (-2048) 12 = true := by decide +kernel
  have h6 : fitsI 2048 12 = false := by decide +kernel
  go_enter Try.func9, Try.ntmps9
  go_wp2_with (first | (go_at_call 19; (with_reducible refine (Part_any _ _ _ _).mono ?_); rintro e w' ⟨rfl, rfl⟩) | (go_at_call 21; (with_reducible refine (Put_any _ _ _ _ _).mono ?_); rintro e w' ⟨rfl, rfl⟩) | (go_at_call 16; (with_reducible refine (Sign_any _ _ _).mono ?_); rintro e w' ⟨rfl, rfl⟩) | (go_at_call 15; (with_reducible refine (Fits_any _ _ _).mono ?_); rintro e w' ⟨rfl, rfl⟩))
  go_ret
  exact ⟨rfl, rfl⟩
end Go.Proofs.Ytjgkmnihdnigjaa
