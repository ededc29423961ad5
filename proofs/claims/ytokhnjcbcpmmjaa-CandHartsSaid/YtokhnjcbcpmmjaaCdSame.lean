/-
  Proved here: the kit's Same at cells tells whether two lists are the same; nothing that was there is changed. Condition: at most 1,000 cells.
-/
import Derived.Test.YtokhnjcbcpmmjaaRf07Pure
import Derived.Test.YtokhnjcbcpmmjaaStill
import Derived.Laws.StructEq
namespace Go.Proofs.Ytokhnjcbcpmmjaa
set_option linter.unusedVariables false
set_option linter.unusedSimpArgs false
open Go.RowKit
attribute [local go_sem ↓] fold_E fold_SE
attribute [local irreducible] wpStill

def sameP (x1 y1 x2 y2 : Int) : Bool := decide (x1 = x2) && decide (y1 = y2)
theorem neqC_run (x1 y1 x2 y2 : Int) (w : World) : (binOp .neq 35 (.agg #[.int .u64 x1, .int .u64 y1]) (.agg #[.int .u64 x2, .int .u64 y2])).run Try.prog w = .ok (.bool (!(sameP x1 y1 x2 y2))) w := by
  have hS : Try.prog.underlying 35 = some (.struct (Try.prog.fieldsOf 35)) := by kernel_rfl
  have hp : Try.prog.stoodInHeld 35 = false := by kernel_rfl
  have u3 := Try.underlying33
  have a3 := Try.isAgg33
  have z3 := Try.sizeOf33
  rw [run_neq_struct, show (10000 : Nat) = 9999 + 1 from rfl, run_equalIn_agg w 9999 35 _ _ hS hp]
  simp only [Program.fieldsOf, Try.underlying35]
  go_simp
  unfold sameP
  by_cases h1 : x1 = x2 <;> by_cases h2 : y1 = y2 <;> simp [h1, h2]
theorem takeC_more (a b : List (Int × Int)) (k : Nat) (ha : k < a.length) (hb : k < b.length) (h : a.take k = b.take k) : (a.take (k + 1) = b.take (k + 1)) ↔ (sameP (fA a k) (fV a k) (fA b k) (fV b k) = true) := by
  have ea : a[k] = (fA a k, fV a k) := by simp [fA, fV, ha]
  have eb : b[k] = (fA b k, fV b k) := by simp [fA, fV, hb]
  rw [List.take_succ_eq_append_getElem ha, List.take_succ_eq_append_getElem hb, h, ea, eb]
  unfold sameP
  simp
theorem takeC_ne (a b : List (Int × Int)) (k : Nat) (h : a.take k ≠ b.take k) : a ≠ b := fun e => h (by rw [e])
theorem sameC_lens (a1 a2 : Option Addr) (n m c d : Nat) (hnm : n ≠ m) (w : World) : Calls Try.prog 10 #[.slice a1 n c, .slice a2 m d] w fun e w' => SameOk w false e w' := by
  have h1 : (((n : Nat) : Int) != ((m : Nat) : Int)) = true := by simp; omega
  go_enter Try.func10, Try.ntmps10
  go_wp2
  go_ret
  exact ⟨rfl, Below.refl _ _⟩
theorem sameC_none (a1 a2 : Option Addr) (c d : Nat) (w : World) : Calls Try.prog 10 #[.slice a1 0 c, .slice a2 0 d] w fun e w' => SameOk w true e w' := by
  go_enter Try.func10, Try.ntmps10
  go_wp2
  refine wp_loop_rounds 1 ?_
  rw [rounds_succ]
  go_wp2
  go_ret
  exact ⟨rfl, Below.refl _ _⟩
set_option maxRecDepth 100000 in
set_option maxHeartbeats 4000000 in
theorem sameC_some (a b : List (Int × Int)) (n b1 o1 c1 b2 o2 c2 : Nat) (w : World) (ha : a.length = n) (hb : b.length = n) (hn : n ≤ 1000) (hl1 : b1 < w.heap.size) (hl2 : b2 < w.heap.size) (h1 : CellsIn w b1 o1 a) (h2 : CellsIn w b2 o2 b) :
    Calls Try.prog 10 #[.slice (some ⟨b1, o1, none⟩) n c1, .slice (some ⟨b2, o2, none⟩) n c2] w fun e w' => SameOk w (decide (a = b)) e w' := by
  have H1 := Lib.hid h1
  have H2 := Lib.hid h2
  have HA := Lib.hid ha
  have HB := Lib.hid hb
  have hgt : Try.prog.eqGuardType Try.prog.depth 35 = false := by kernel_rfl
  clear h1 h2 ha hb
  go_enter Try.func10, Try.ntmps10
  go_wp2
  go_loopw [5] (fun i wr => ∃ k : Nat, k ≤ n ∧ i = .int .i64 k ∧ Hid (a.take k = b.take k) ∧ Below w.heap.size w wr) (fun i _ => n - (intOf i).toNat)
  case atStart => exact ⟨0, Nat.zero_le _, rfl, Lib.hid (by simp), Below.refl _ _⟩
  case round =>
    obtain ⟨k, hk, rfl, HT, hbel⟩ := hrel
    have HL := Lib.hid hbel
    clear hbel
    by_cases hlt : k < n
    · have p0 := (HL.out.cell (p := ⟨b1, o1 + k * 2, none⟩) hl1).trans (H1.out k (by rw [HA.out]; exact hlt)).1
      have p1 := (HL.out.cell (p := ⟨b1, o1 + k * 2 + 1, none⟩) hl1).trans (H1.out k (by rw [HA.out]; exact hlt)).2
      have q0 := (HL.out.cell (p := ⟨b2, o2 + k * 2, none⟩) hl2).trans (H2.out k (by rw [HB.out]; exact hlt)).1
      have q1 := (HL.out.cell (p := ⟨b2, o2 + k * 2 + 1, none⟩) hl2).trans (H2.out k (by rw [HB.out]; exact hlt)).2
      have HM := Lib.hid (takeC_more a b k (by rw [HA.out]; exact hlt) (by rw [HB.out]; exact hlt) HT.out)
      obtain ⟨x1, hx1⟩ : ∃ x, Hid (fA a k = x) := ⟨_, Lib.hid rfl⟩
      obtain ⟨y1, hy1⟩ : ∃ x, Hid (fV a k = x) := ⟨_, Lib.hid rfl⟩
      obtain ⟨x2, hx2⟩ : ∃ x, Hid (fA b k = x) := ⟨_, Lib.hid rfl⟩
      obtain ⟨y2, hy2⟩ : ∃ x, Hid (fV b k = x) := ⟨_, Lib.hid rfl⟩
      rw [hx1.out] at p0 HM
      rw [hy1.out] at p1 HM
      rw [hx2.out] at q0 HM
      rw [hy2.out] at q1 HM
      have hne := neqC_run x1 y1 x2 y2
      obtain ⟨r, hr⟩ : ∃ r, Hid (sameP x1 y1 x2 y2 = r) := ⟨_, Lib.hid rfl⟩
      rw [hr.out] at hne HM
      have hk0 : (0 : Int) ≤ (k : Int) := by omega
      have hkn : (k : Int) < (n : Int) := by omega
      cases r with
      | true =>
        have HY := Lib.hid (HM.out.2 rfl)
        go_upto_region 6 with fail
        refine wp_region_still_tail 8 (by kernel_rfl) (by kernel_rfl) ?_
        simp only [List.take_succ_cons, List.take_zero, List.drop_succ_cons, List.drop_zero]
        iterate 8 still_step
        refine wpStill_nil ?_
        change wpList _ _ _ _ _ (World.drew _)
        go_wp2
        go_roundw
        case rel => exact ⟨k + 1, by omega, by go_num, HY, HL.out.drew⟩
        case measure => simp [intOf]; omega
      | false =>
        have HN := Lib.hid (takeC_ne a b (k + 1) (fun e => by cases HM.out.1 e))
        go_upto_region 6 with fail
        refine wp_region_still_tail 8 (by kernel_rfl) (by kernel_rfl) ?_
        simp only [List.take_succ_cons, List.take_zero, List.drop_succ_cons, List.drop_zero]
        iterate 8 still_step
        refine wpStill_nil ?_
        change wpList _ _ _ _ _ (World.drew _)
        go_wp2
        go_ret
        exact SameOk.mk (decide_eq_false HN.out).symm HL.out.drew
    · have HK : Hid (k = n) := Lib.hid (by omega)
      go_wp2
      go_ret
      refine SameOk.mk ?_ HL.out
      have e := HT.out
      rw [HK.out, List.take_of_length_le (by rw [HA.out]; exact Nat.le_refl _), List.take_of_length_le (by rw [HB.out]; exact Nat.le_refl _)] at e
      exact (decide_eq_true e).symm
theorem sameC_any (va vb : Value) (a b : List (Int × Int)) (w : World) (ha : ReadsF w va a) (hb : ReadsF w vb b) (hn : a.length ≤ 1000) : Calls Try.prog 10 #[va, vb] w fun e w' => SameOk w (decide (a = b)) e w' := by
  by_cases hl : a.length = b.length
  · rcases ha with ⟨⟨a1, c1, rfl, _⟩, rfl⟩ | ⟨b1, o1, c1, rfl, _, _, h3, h4⟩
    · obtain ⟨a2, c2, rfl⟩ := hb.len
      have hb0 : b = [] := List.length_eq_zero_iff.1 (by rw [← hl]; rfl)
      subst hb0
      exact sameC_none a1 a2 c1 c2 w
    · rcases hb with ⟨⟨a2, c2, rfl, _⟩, rfl⟩ | ⟨b2, o2, c2, rfl, _, _, k3, k4⟩
      · have ha0 : a = [] := List.length_eq_zero_iff.1 (by rw [hl]; rfl)
        subst ha0
        exact sameC_none _ a2 c1 c2 w
      · rw [← hl]
        exact sameC_some a b a.length b1 o1 c1 b2 o2 c2 w rfl hl.symm hn h3 k3 h4 k4
  · obtain ⟨a1, c1, rfl⟩ := ha.len
    obtain ⟨a2, c2, rfl⟩ := hb.len
    rw [decide_eq_false (fun e => hl (by rw [e]))]
    exact sameC_lens a1 a2 a.length b.length c1 c2 hl w
end Go.Proofs.Ytokhnjcbcpmmjaa
