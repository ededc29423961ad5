/-
  Proved here: the document's own Check, may (layer 5) answer whether a hart may be, whether it may do an instruction; each writes nothing that was there. Condition: the number is of 64 bits.
-/
import Derived.Test.YtdiacnjkffdegaaGreatHartMay
import Derived.Test.YtdiacnjkffdegaaGreatRef02Check
namespace Go.Proofs.YtdiacnjkffdegaaGreat
set_option linter.unusedSimpArgs false
set_option linter.unusedVariables false
open Go.RowKit
/-- what the document's own Check answers: 2 of a hart that may not be -/
def Ha.bad5 (h : Ha) : Int := if U (h.x 0) = 0 ∧ (0 ≤ h.e ∧ h.e ≤ 6) ∧ (U h.code = 0 ∨ h.e = 1) then 0 else 2
set_option maxRecDepth 100000 in
theorem h5Check_any (h : Ha) (w : World) : Calls Tryz.prog 32 #[h.V] w fun e w' => e = .returned (.int .i64 h.bad5) ∧ Below w.heap.size w w' := by
  unfold Ha.V
  have HN := HAt.new 25 h w
  have c1 := HN.c1
  have c33 := HN.c33
  have c34 := HN.c34
  clear HN
  have HC := Lib.hid (show h.bad5 = if U (h.x 0) = 0 ∧ (0 ≤ h.e ∧ h.e ≤ 6) ∧ (U h.code = 0 ∨ h.e = 1) then 0 else 2 from rfl)
  go_enter Tryz.func32, Tryz.ntmps32
  go_wp2
  all_goals
    go_ret
    refine ⟨congrArg (fun n => Ending.returned (.int .i64 n)) ?_, (Below.refl _ _).alloc (Nat.le_refl _) _⟩
    rw [HC.out]
    repeat' split
    all_goals first | omega | (simp only [bne_eq_false_iff_eq, bne_iff_ne, ne_eq] at *; omega)
theorem mayH_bad (h : Ha) (i : Ins) (hb : h.bad5 = 2) : mayH h i = 2 := by
  unfold mayH Ha.chk; unfold Ha.bad5 at hb
  repeat' split at hb
  all_goals first | omega | skip
  all_goals simp_all
theorem mayH_over (h : Ha) (i : Ins) (hb : h.bad5 = 0) (he : h.e ≠ 0) : mayH h i = 10 := by
  unfold mayH Ha.chk; unfold Ha.bad5 at hb
  repeat' split at hb
  all_goals first | omega | skip
  all_goals simp_all
theorem mayH_on (h : Ha) (i : Ins) (hb : h.bad5 = 0) (he : h.e = 0) : mayH h i = errI i.ok := by
  unfold mayH Ha.chk; unfold Ha.bad5 at hb
  repeat' split at hb
  all_goals first | omega | skip
  all_goals simp_all
theorem bad5_cases (h : Ha) : h.bad5 = 0 ∨ h.bad5 = 2 := by unfold Ha.bad5; split <;> simp
set_option maxHeartbeats 1000000 in
set_option maxRecDepth 100000 in
theorem may5_any (h : Ha) (op d a b : Int) (v : BitVec 64) (aq rl : Bool) (p q : Int) (w : World) : Calls Tryz.prog 15 #[h.V, insV op d a b (S v) aq rl p q] w fun e w' => e = .returned (.int .i64 (mayH h ⟨op, d, a, b, S v, aq, rl, p, q⟩)) ∧ Below w.heap.size w w' := by
  unfold Ha.V
  have HK := Lib.hid (h5Check_any h)
  have HI := Lib.hid (rCheck_any op d a b v aq rl p q)
  have HN := HAt.new 25 h w
  rcases bad5_cases h with hb | hb
  · by_cases he : h.e = 0
    · have HM := Lib.hid (mayH_on h ⟨op, d, a, b, S v, aq, rl, p, q⟩ hb he)
      have HK : Hid (∀ w, Calls Tryz.prog 32 #[h.V] w fun e w' => e = .returned (.int .i64 0) ∧ Below w.heap.size w w') := Lib.hid (hb ▸ HK.out)
      have c33 := (HN.alloc (.cells #[.int .i64 op, .int .i64 d, .int .i64 a, .int .i64 b, .int .i64 (S v), .bool aq, .bool rl, .int .i64 p, .int .i64 q] 34)).c33
      rw [he] at c33
      clear HN hb he
      go_enter Tryz.func15, Tryz.ntmps15
      go_wp2_with (first | (refine load_ha row_hart ((HAt.new 25 h w).alloc _) rfl _ rfl rfl ?_) | (go_at_call 32; (with_reducible refine (HK.out _).mono ?_); rintro e w1 ⟨rfl, hb⟩; obtain ⟨hc1, hf1⟩ := bcell hb; have HB := Lib.hid hb; clear hb) | (go_at_call 7; (with_reducible refine (HI.out _).mono ?_); rintro e w2 ⟨rfl, hb⟩; have HB2 := Lib.hid hb; clear hb))
      go_ret
      refine ⟨by rw [HM.out]; rfl, ?_⟩
      have h1 := HB.out.size
      simp at h1
      exact ((((Below.refl _ _).alloc (Nat.le_refl _) _).alloc (by simp) _).trans (HB.out.mono (by simp; omega))).trans (HB2.out.mono (by omega))
    · have HM := Lib.hid (mayH_over h ⟨op, d, a, b, S v, aq, rl, p, q⟩ hb he)
      have HK : Hid (∀ w, Calls Tryz.prog 32 #[h.V] w fun e w' => e = .returned (.int .i64 0) ∧ Below w.heap.size w w') := Lib.hid (hb ▸ HK.out)
      have c33 := (HN.alloc (.cells #[.int .i64 op, .int .i64 d, .int .i64 a, .int .i64 b, .int .i64 (S v), .bool aq, .bool rl, .int .i64 p, .int .i64 q] 34)).c33
      have he' : (h.e != 0) = true := by simpa using he
      clear HN hb he
      go_enter Tryz.func15, Tryz.ntmps15
      go_wp2_with (first | (refine load_ha row_hart ((HAt.new 25 h w).alloc _) rfl _ rfl rfl ?_) | (go_at_call 32; (with_reducible refine (HK.out _).mono ?_); rintro e w1 ⟨rfl, hb⟩; obtain ⟨hc1, hf1⟩ := bcell hb; have HB := Lib.hid hb; clear hb))
      go_ret
      refine ⟨by rw [HM.out]; rfl, ?_⟩
      exact (((Below.refl _ _).alloc (Nat.le_refl _) _).alloc (by simp) _).trans (HB.out.mono (by simp; omega))
  · have HM := Lib.hid (mayH_bad h ⟨op, d, a, b, S v, aq, rl, p, q⟩ hb)
    have HK : Hid (∀ w, Calls Tryz.prog 32 #[h.V] w fun e w' => e = .returned (.int .i64 2) ∧ Below w.heap.size w w') := Lib.hid (hb ▸ HK.out)
    clear HN hb
    go_enter Tryz.func15, Tryz.ntmps15
    go_wp2_with (first | (refine load_ha row_hart ((HAt.new 25 h w).alloc _) rfl _ rfl rfl ?_) | (go_at_call 32; (with_reducible refine (HK.out _).mono ?_); rintro e w1 ⟨rfl, hb⟩; obtain ⟨hc1, hf1⟩ := bcell hb; have HB := Lib.hid hb; clear hb))
    go_ret
    refine ⟨by rw [HM.out]; rfl, ?_⟩
    exact (((Below.refl _ _).alloc (Nat.le_refl _) _).alloc (by simp) _).trans (HB.out.mono (by simp; omega))
end Go.Proofs.YtdiacnjkffdegaaGreat
