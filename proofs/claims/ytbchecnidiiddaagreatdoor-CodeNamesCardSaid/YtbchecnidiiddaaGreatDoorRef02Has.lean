/-
  Proved here: which fields a form has, and which numbers an op, as the document's own answer for layer 2 has them. Condition: the number is of 64 bits.
-/
import Derived.Test.YtbchecnidiiddaaGreatDoorRef02Form
import Derived.Test.YtbchecnidiiddaaGreatDoorAluWord
import Derived.OwnWalk
namespace Go.Proofs.YtbchecnidiiddaaGreatDoor
open Go.RowKit
theorem results_tmp4 {fn : Func} {t u v x : Tmp} (h : fn.results = #[.tmp t, .tmp u, .tmp v, .tmp x]) (tmps : Array Value) (P : Program) (w : World) :
    (results fn tmps).run P w = .ok (.tuple #[tmps.getD t undef, tmps.getD u undef, tmps.getD v undef, tmps.getD x undef]) w := by
  simp only [results, h]
  simp
def hasT (f : Nat) : Bool × Bool × Bool × Bool := [(false, false, false, false), (true, false, false, true), (true, false, false, true), (true, true, false, true), (true, true, false, true), (false, true, true, true), (false, true, true, true), (true, true, false, true), (true, true, true, false), (false, false, false, false), (false, false, false, false), (true, true, false, false), (true, true, true, false)].getD f (false, false, false, false)
abbrev hasV (f : Nat) : Value := .tuple #[.bool (hasT f).1, .bool (hasT f).2.1, .bool (hasT f).2.2.1, .bool (hasT f).2.2.2]
theorem has_0 (w : World) : Calls Tryz.prog 102 #[.int .i64 0] w fun e w' => e = .returned (.tuple #[.bool false, .bool false, .bool false, .bool false]) ∧ w = w' := by
  go_enter Tryz.func102, Tryz.ntmps102
  go_wp2
  (try simp only [Exit.inBlock, Exit.then])
  refine bodyPost_ret (results_tmp4 rfl _ _ _) rfl ?_
  exact ⟨rfl, rfl⟩
theorem has_1 (w : World) : Calls Tryz.prog 102 #[.int .i64 1] w fun e w' => e = .returned (.tuple #[.bool true, .bool false, .bool false, .bool true]) ∧ w = w' := by
  go_enter Tryz.func102, Tryz.ntmps102
  go_wp2
  (try simp only [Exit.inBlock, Exit.then])
  refine bodyPost_ret (results_tmp4 rfl _ _ _) rfl ?_
  exact ⟨rfl, rfl⟩
theorem has_2 (w : World) : Calls Tryz.prog 102 #[.int .i64 2] w fun e w' => e = .returned (.tuple #[.bool true, .bool false, .bool false, .bool true]) ∧ w = w' := by
  go_enter Tryz.func102, Tryz.ntmps102
  go_wp2
  (try simp only [Exit.inBlock, Exit.then])
  refine bodyPost_ret (results_tmp4 rfl _ _ _) rfl ?_
  exact ⟨rfl, rfl⟩
theorem has_3 (w : World) : Calls Tryz.prog 102 #[.int .i64 3] w fun e w' => e = .returned (.tuple #[.bool true, .bool true, .bool false, .bool true]) ∧ w = w' := by
  go_enter Tryz.func102, Tryz.ntmps102
  go_wp2
  (try simp only [Exit.inBlock, Exit.then])
  refine bodyPost_ret (results_tmp4 rfl _ _ _) rfl ?_
  exact ⟨rfl, rfl⟩
theorem has_4 (w : World) : Calls Tryz.prog 102 #[.int .i64 4] w fun e w' => e = .returned (.tuple #[.bool true, .bool true, .bool false, .bool true]) ∧ w = w' := by
  go_enter Tryz.func102, Tryz.ntmps102
  go_wp2
  (try simp only [Exit.inBlock, Exit.then])
  refine bodyPost_ret (results_tmp4 rfl _ _ _) rfl ?_
  exact ⟨rfl, rfl⟩
theorem has_5 (w : World) : Calls Tryz.prog 102 #[.int .i64 5] w fun e w' => e = .returned (.tuple #[.bool false, .bool true, .bool true, .bool true]) ∧ w = w' := by
  go_enter Tryz.func102, Tryz.ntmps102
  go_wp2
  (try simp only [Exit.inBlock, Exit.then])
  refine bodyPost_ret (results_tmp4 rfl _ _ _) rfl ?_
  exact ⟨rfl, rfl⟩
theorem has_6 (w : World) : Calls Tryz.prog 102 #[.int .i64 6] w fun e w' => e = .returned (.tuple #[.bool false, .bool true, .bool true, .bool true]) ∧ w = w' := by
  go_enter Tryz.func102, Tryz.ntmps102
  go_wp2
  (try simp only [Exit.inBlock, Exit.then])
  refine bodyPost_ret (results_tmp4 rfl _ _ _) rfl ?_
  exact ⟨rfl, rfl⟩
theorem has_7 (w : World) : Calls Tryz.prog 102 #[.int .i64 7] w fun e w' => e = .returned (.tuple #[.bool true, .bool true, .bool false, .bool true]) ∧ w = w' := by
  go_enter Tryz.func102, Tryz.ntmps102
  go_wp2
  (try simp only [Exit.inBlock, Exit.then])
  refine bodyPost_ret (results_tmp4 rfl _ _ _) rfl ?_
  exact ⟨rfl, rfl⟩
theorem has_8 (w : World) : Calls Tryz.prog 102 #[.int .i64 8] w fun e w' => e = .returned (.tuple #[.bool true, .bool true, .bool true, .bool false]) ∧ w = w' := by
  go_enter Tryz.func102, Tryz.ntmps102
  go_wp2
  (try simp only [Exit.inBlock, Exit.then])
  refine bodyPost_ret (results_tmp4 rfl _ _ _) rfl ?_
  exact ⟨rfl, rfl⟩
theorem has_9 (w : World) : Calls Tryz.prog 102 #[.int .i64 9] w fun e w' => e = .returned (.tuple #[.bool false, .bool false, .bool false, .bool false]) ∧ w = w' := by
  go_enter Tryz.func102, Tryz.ntmps102
  go_wp2
  (try simp only [Exit.inBlock, Exit.then])
  refine bodyPost_ret (results_tmp4 rfl _ _ _) rfl ?_
  exact ⟨rfl, rfl⟩
theorem has_10 (w : World) : Calls Tryz.prog 102 #[.int .i64 10] w fun e w' => e = .returned (.tuple #[.bool false, .bool false, .bool false, .bool false]) ∧ w = w' := by
  go_enter Tryz.func102, Tryz.ntmps102
  go_wp2
  (try simp only [Exit.inBlock, Exit.then])
  refine bodyPost_ret (results_tmp4 rfl _ _ _) rfl ?_
  exact ⟨rfl, rfl⟩
theorem has_11 (w : World) : Calls Tryz.prog 102 #[.int .i64 11] w fun e w' => e = .returned (.tuple #[.bool true, .bool true, .bool false, .bool false]) ∧ w = w' := by
  go_enter Tryz.func102, Tryz.ntmps102
  go_wp2
  (try simp only [Exit.inBlock, Exit.then])
  refine bodyPost_ret (results_tmp4 rfl _ _ _) rfl ?_
  exact ⟨rfl, rfl⟩
theorem has_12 (w : World) : Calls Tryz.prog 102 #[.int .i64 12] w fun e w' => e = .returned (.tuple #[.bool true, .bool true, .bool true, .bool false]) ∧ w = w' := by
  go_enter Tryz.func102, Tryz.ntmps102
  go_wp2
  (try simp only [Exit.inBlock, Exit.then])
  refine bodyPost_ret (results_tmp4 rfl _ _ _) rfl ?_
  exact ⟨rfl, rfl⟩
theorem refFits_any (v : BitVec 64) (n : Int) (w : World) : Calls Tryz.prog 121 #[.int .i64 (S v), .int .i64 n] w fun e w' => e = .returned (.bool (fitsI (S v) n)) ∧ w = w' := by
  have e1 := wrapU_S v
  have H := Lib.hid (show fitsI (S v) n = (signI (U v) n == S v) by unfold fitsI; rw [e1])
  go_enter Tryz.func121, Tryz.ntmps121
  go_wp2_with (go_at_call 129; (with_reducible refine (refSign_any _ _ _).mono ?_); rintro e w' ⟨rfl, rfl⟩)
  go_ret
  exact ⟨ret_bool (by rw [H.out]), rfl⟩
theorem rForm_is (op : Int) (f : Int) (hf : Hid (formOf op = f)) (w : World) : Calls Tryz.prog 36 #[.int .i64 op] w fun e w' => e = .returned (.int .i64 f) ∧ w = w' := hf.out ▸ rForm_any op w
/-- may a number be an op's, by the document's own answer -/
def numB (op n : Int) : Bool := let f := formOf op
  if f = 1 then fitsI n 20 else if f = 2 then fitsI n 21 && (n.tmod 2 == 0) else if f = 6 then fitsI n 13 && (n.tmod 2 == 0)
  else if f = 7 then (if 32 ≤ op then decide (0 ≤ n) && decide (n ≤ 31) else decide (0 ≤ n) && decide (n ≤ 63)) else fitsI n 12
theorem fits_hid (v : BitVec 64) (n : Int) (b : Bool) (hb : Hid (fitsI (S v) n = b)) (w : World) : Calls Tryz.prog 121 #[.int .i64 (S v), .int .i64 n] w fun e w' => e = .returned (.bool b) ∧ w = w' := hb.out ▸ refFits_any v n w
set_option maxRecDepth 100000 in
theorem rnumber_any (op : Int) (v : BitVec 64) (w : World) : Calls Tryz.prog 103 #[.int .i64 op, .int .i64 (S v)] w fun e w' => e = .returned (.bool (numB op (S v))) ∧ w = w' := by
  have HN := Lib.hid (show numB op (S v) = (if formOf op = 1 then fitsI (S v) 20 else if formOf op = 2 then fitsI (S v) 21 && ((S v).tmod 2 == 0) else if formOf op = 6 then fitsI (S v) 13 && ((S v).tmod 2 == 0)
  else if formOf op = 7 then (if 32 ≤ op then decide (0 ≤ (S v)) && decide ((S v) ≤ 31) else decide (0 ≤ (S v)) && decide ((S v) ≤ 63)) else fitsI (S v) 12) from rfl)
  have hh := Lib.hid (form_hi op)
  obtain ⟨f, hf⟩ : ∃ f, formOf op = f := ⟨_, rfl⟩
  rw [hf] at HN hh
  have HF := Lib.hid hf
  clear hf
  by_cases hx : f = 1
  · subst hx
    go_enter Tryz.func103, Tryz.ntmps103
    go_wp2_with (first | (go_at_call 36; (with_reducible refine (rForm_is op _ HF _).mono ?_); rintro e w' ⟨rfl, rfl⟩) | (go_at_call 121; (with_reducible refine (refFits_any _ _ _).mono ?_); rintro e w' ⟨rfl, rfl⟩))
    all_goals
      go_ret
      refine ⟨ret_bool ?_, rfl⟩
      rw [HN.out]
      rfl
  · by_cases hy : f = 2
    · subst hy
      go_enter Tryz.func103, Tryz.ntmps103
      go_wp2_with (first | (go_at_call 36; (with_reducible refine (rForm_is op _ HF _).mono ?_); rintro e w' ⟨rfl, rfl⟩) | (go_at_call 121; (with_reducible refine (refFits_any _ _ _).mono ?_); rintro e w' ⟨rfl, rfl⟩))
      all_goals
        go_ret
        refine ⟨ret_bool ?_, rfl⟩
        rw [HN.out]
        first | rfl | (simp_all; done)
    · by_cases hz : f = 6
      · subst hz
        go_enter Tryz.func103, Tryz.ntmps103
        go_wp2_with (first | (go_at_call 36; (with_reducible refine (rForm_is op _ HF _).mono ?_); rintro e w' ⟨rfl, rfl⟩) | (go_at_call 121; (with_reducible refine (refFits_any _ _ _).mono ?_); rintro e w' ⟨rfl, rfl⟩))
        all_goals
          go_ret
          refine ⟨ret_bool ?_, rfl⟩
          rw [HN.out]
          first | rfl | (simp_all; done)
      · by_cases hu : f = 7
        · subst hu
          by_cases h32 : 32 ≤ op
          ·
            go_enter Tryz.func103, Tryz.ntmps103
            go_wp2_with (first | (go_at_call 36; (with_reducible refine (rForm_is op _ HF _).mono ?_); rintro e w' ⟨rfl, rfl⟩) | (go_at_call 121; (with_reducible refine (refFits_any _ _ _).mono ?_); rintro e w' ⟨rfl, rfl⟩))
            all_goals
              go_ret
              refine ⟨ret_bool ?_, rfl⟩
              rw [HN.out]
              (by_cases h0 : 0 ≤ S v <;> by_cases h1 : S v ≤ 31 <;> by_cases h2 : S v ≤ 63 <;> first | (simp [h32, h0, h1]; done) | omega)
          ·
            go_enter Tryz.func103, Tryz.ntmps103
            go_wp2_with (first | (go_at_call 36; (with_reducible refine (rForm_is op _ HF _).mono ?_); rintro e w' ⟨rfl, rfl⟩) | (go_at_call 121; (with_reducible refine (refFits_any _ _ _).mono ?_); rintro e w' ⟨rfl, rfl⟩))
            all_goals
              go_ret
              refine ⟨ret_bool ?_, rfl⟩
              rw [HN.out]
              (by_cases h0 : 0 ≤ S v <;> by_cases h1 : S v ≤ 31 <;> by_cases h2 : S v ≤ 63 <;> first | (simp [h32, h0, h1, h2]; done) | omega)
        · have b1 : (f == 1) = false := by simpa using hx
          have b2 : (f == 2) = false := by simpa using hy
          have b3 : (f == 6) = false := by simpa using hz
          have b4 : (f == 7) = false := by simpa using hu
          have HX := Lib.hid (And.intro hx (And.intro hy (And.intro hz hu)))
          clear hx hy hz hu
          go_enter Tryz.func103, Tryz.ntmps103
          go_wp2_with (first | (go_at_call 36; (with_reducible refine (rForm_is op _ HF _).mono ?_); rintro e w' ⟨rfl, rfl⟩) | (go_at_call 121; (with_reducible refine (refFits_any _ _ _).mono ?_); rintro e w' ⟨rfl, rfl⟩))
          all_goals
            go_ret
            refine ⟨ret_bool ?_, rfl⟩
            rw [HN.out]
            rw [if_neg HX.out.1, if_neg HX.out.2.1, if_neg HX.out.2.2.1, if_neg HX.out.2.2.2]
end Go.Proofs.YtbchecnidiiddaaGreatDoor
