/-
  Proved here: the package hart's isEnd, Check answer whether a number is an end, whether a hart may be and goes on; each writes nothing that was there. No condition.
-/
import Derived.Test.YtdiacnjkffdegaaGreatHartWords
import Derived.WalkLawsBesides
import Derived.WalkSpells
import Derived.Laws.EntriesVeiled
import Derived.IntWalk
namespace Go.Proofs.YtdiacnjkffdegaaGreat
open Go.RowKit
def endB (n : Int) : Bool := decide (0 ≤ n ∧ n ≤ 6)
theorem isEnd_any (n : Int) (w : World) : Calls Tryz.prog 26 #[.int .i64 n] w fun e w' => e = .returned (.bool (endB n)) ∧ w = w' := by
  go_enter Tryz.func26, Tryz.ntmps26
  go_wp2
  all_goals
    go_ret
    refine ⟨congrArg (fun b => Ending.returned (.bool b)) ?_, rfl⟩
    unfold endB
    first
      | (rw [eq_comm]; refine decide_eq_false ?_; omega)
      | (refine decide_eq_decide.2 ?_; omega)
theorem isEnd_is (n : Int) (b : Bool) (hb : Hid (endB n = b)) (w : World) : Calls Tryz.prog 26 #[.int .i64 n] w fun e w' => e = .returned (.bool b) ∧ w = w' := hb.out ▸ isEnd_any n w
/-- what Check answers: 2 of a hart that may not be, 10 of one that ended, else 0 -/
def Ha.chk (h : Ha) : Int := if U (h.x 0) = 0 ∧ (0 ≤ h.e ∧ h.e ≤ 6) ∧ (U h.code = 0 ∨ h.e = 1) then (if h.e = 0 then 0 else 10) else 2
set_option maxRecDepth 100000 in
theorem hCheck_any (h : Ha) (w : World) : Calls Tryz.prog 9 #[h.V] w fun e w' => e = .returned (.int .i64 h.chk) ∧ Below w.heap.size w w' := by
  unfold Ha.V
  have HN := HAt.new 25 h w
  have c1 := HN.c1
  have c33 := HN.c33
  have c34 := HN.c34
  clear HN
  have HC := Lib.hid (show h.chk = if U (h.x 0) = 0 ∧ (0 ≤ h.e ∧ h.e ≤ 6) ∧ (U h.code = 0 ∨ h.e = 1) then (if h.e = 0 then 0 else 10) else 2 from rfl)
  by_cases hE : 0 ≤ h.e ∧ h.e ≤ 6
  · have HE := Lib.hid (show endB h.e = true from decide_eq_true hE)
    go_enter Tryz.func9, Tryz.ntmps9
    go_wp2_with (go_at_call 26; (with_reducible refine (isEnd_is _ _ HE _).mono ?_); rintro e w' ⟨rfl, rfl⟩)
    all_goals
      go_ret
      refine ⟨congrArg (fun n => Ending.returned (.int .i64 n)) ?_, (Below.refl _ _).alloc (Nat.le_refl _) _⟩
      rw [HC.out]
      repeat' split
      all_goals first | omega | (simp only [bne_eq_false_iff_eq, bne_iff_ne, ne_eq] at *; omega)
  · have HE := Lib.hid (show endB h.e = false from decide_eq_false hE)
    go_enter Tryz.func9, Tryz.ntmps9
    go_wp2_with (go_at_call 26; (with_reducible refine (isEnd_is _ _ HE _).mono ?_); rintro e w' ⟨rfl, rfl⟩)
    all_goals
      go_ret
      refine ⟨congrArg (fun n => Ending.returned (.int .i64 n)) ?_, (Below.refl _ _).alloc (Nat.le_refl _) _⟩
      rw [HC.out]
      repeat' split
      all_goals first | omega | (simp only [bne_eq_false_iff_eq, bne_iff_ne, ne_eq] at *; omega)
end Go.Proofs.YtdiacnjkffdegaaGreat
