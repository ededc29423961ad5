/-
  Proved here: the package hart's may answers whether a hart may do an instruction; it writes nothing that was there. No condition.
-/
import Derived.Test.YtdiacnjkffdegaaGreatHartCheck
import Derived.Test.YtdiacnjkffdegaaGreatHartInsn
namespace Go.Proofs.YtdiacnjkffdegaaGreat
open Go.RowKit
def mayH (h : Ha) (i : Ins) : Int := if h.chk = 0 then errI i.ok else h.chk
set_option maxRecDepth 100000 in
theorem may_any (h : Ha) (i : Ins) (w : World) : Calls Tryz.prog 11 #[h.V, i.V] w fun e w' => e = .returned (.int .i64 (mayH h i)) ∧ Below w.heap.size w w' := by
  have HM := Lib.hid (show mayH h i = if h.chk = 0 then errI i.ok else h.chk from rfl)
  have HI : ∀ w, Calls Tryz.prog 28 #[i.V] w fun e w' => e = .returned (.int .i64 (errI i.ok)) ∧ Below w.heap.size w w' := Check_i i i.ok (Lib.hid rfl)
  have HH := Lib.hid HI
  clear HI
  by_cases hc : h.chk = 0
  · have hz : (h.chk == 0) = true := by simp [hc]
    have HC := Lib.hid hc
    clear hc
    go_enter Tryz.func11, Tryz.ntmps11
    go_wp2_with (first | (refine load_ha row_hart ((HAt.new 25 h w).alloc _) rfl _ rfl rfl ?_) | (go_at_call 9; (with_reducible refine (hCheck_any h _).mono ?_); rintro e w1 ⟨rfl, hb⟩; obtain ⟨hc1, hf1⟩ := bcell hb; have HB := Lib.hid hb; clear hb) | (go_at_call 28; (with_reducible refine (HH.out _).mono ?_); rintro e w2 ⟨rfl, hb⟩; have HB2 := Lib.hid hb; clear hb))
    go_ret
    refine ⟨by rw [HM.out, if_pos HC.out]; rfl, ?_⟩
    have h1 := HB.out.size
    simp at h1
    exact ((((Below.refl _ _).alloc (Nat.le_refl _) _).alloc (by simp) _).trans (HB.out.mono (by simp; omega))).trans (HB2.out.mono (by omega))
  · have hz : (h.chk == 0) = false := by simp [hc]
    have HC := Lib.hid hc
    clear hc
    go_enter Tryz.func11, Tryz.ntmps11
    go_wp2_with (first | (refine load_ha row_hart ((HAt.new 25 h w).alloc _) rfl _ rfl rfl ?_) | (go_at_call 9; (with_reducible refine (hCheck_any h _).mono ?_); rintro e w1 ⟨rfl, hb⟩; obtain ⟨hc1, hf1⟩ := bcell hb; have HB := Lib.hid hb; clear hb))
    go_ret
    refine ⟨by rw [HM.out, if_neg HC.out]; rfl, ?_⟩
    exact (((Below.refl _ _).alloc (Nat.le_refl _) _).alloc (by simp) _).trans (HB.out.mono (by simp; omega))
end Go.Proofs.YtdiacnjkffdegaaGreat
