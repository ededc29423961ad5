/-
  Proved here: cand's rising tells whether cells stand at doubles, rising; nothing that was there is changed. Condition: words.
-/
import Derived.Test.YtokhnjcbcpmmjaaStill
import Derived.Lib.ItoaWalk
namespace Go.Proofs.Ytokhnjcbcpmmjaa
set_option linter.unusedVariables false
set_option linter.unusedSimpArgs false
open Go.RowKit
attribute [local go_sem ↓] fold_E fold_SE
attribute [local irreducible] wpStill

/-- a cell in a block -/
def PairAt (x y : Int) (g : Nat) (w : World) : Prop := w.heap[g]? = some (.cells #[.int .u64 x, .int .u64 y] 35 (0, 0))
theorem PairAt.lt {x y : Int} {g : Nat} {w : World} (h : PairAt x y g w) : g < w.heap.size := (Array.getElem?_eq_some_iff.1 h).1
theorem PairAt.facts {x y : Int} {g : Nat} {w : World} (h : PairAt x y g w) : w.cell? ⟨g, 0, none⟩ = some (.int .u64 x) ∧ w.cell? ⟨g, 1, none⟩ = some (.int .u64 y) :=
  ⟨by rw [cell_of_row w g 0 _ _ _ h]; rfl, by rw [cell_of_row w g 1 _ _ _ h]; rfl⟩
theorem rise_nil (a : Option Addr) (cp : Nat) (w : World) : Calls Try.prog 24 #[.slice a 0 cp] w fun e w' => TellsIs w true e w' := by
  go_enter Try.func24, Try.ntmps24
  go_wp2
  refine wp_loop_rounds 1 ?_
  rw [rounds_succ]
  go_wp2
  go_ret
  exact ⟨rfl, Below.refl _ _⟩
set_option maxRecDepth 100000 in
set_option maxHeartbeats 4000000 in
theorem rise_some (fs : List (Int × Int)) (n b off cp : Nat) (w : World) (hn : fs.length = n) (hn60 : n ≤ 60) (h : CellsIn w b off fs) (hlt : b < w.heap.size) (hw : ∀ j, j < n → 0 ≤ fA fs j) :
    Calls Try.prog 24 #[.slice (some ⟨b, off, none⟩) n cp] w fun e w' => TellsIs w (riseL fs n) e w' := by
  have HV := Lib.hid h
  have HN := Lib.hid hn
  clear h hn
  go_enter Try.func24, Try.ntmps24
  go_wp2
  go_loopw [7] (fun vi wr => ∃ (j : Nat), j ≤ n ∧ vi = .int .i64 j ∧ Hid (riseL fs j = true) ∧ Below w.heap.size w wr) (fun vi _ => n - (intOf vi).toNat)
  case atStart => exact ⟨0, Nat.zero_le _, rfl, Lib.hid rfl, Below.refl _ _⟩
  case round =>
    obtain ⟨j, hj, rfl, hR, hbel⟩ := hrel
    have HB := Lib.hid hbel
    clear hbel
    by_cases hj2 : j < n
    · obtain ⟨c0, c1⟩ := HV.out j (by rw [HN.out]; exact hj2)
      have d0 := (HB.out.cell (p := ⟨b, off + j * 2, none⟩) hlt).trans c0
      have d1 := (HB.out.cell (p := ⟨b, off + j * 2 + 1, none⟩) hlt).trans c1
      clear c0 c1
      obtain ⟨x, hx⟩ : ∃ x, Hid (fA fs j = x) := ⟨_, Lib.hid rfl⟩
      obtain ⟨y, hy⟩ : ∃ y, Hid (fV fs j = y) := ⟨_, Lib.hid rfl⟩
      have hx0 := hw j hj2
      have HS := Lib.hid (show riseAt fs j = (decide (fA fs j % 8 = 0) && (j == 0 || decide (fA fs (j - 1) < fA fs j))) from rfl)
      rw [hx.out] at d0 hx0 HS
      rw [hy.out] at d1
      have HT := Lib.hid (Int.tmod_eq_emod_of_nonneg (b := 8) hx0)
      have HZ := Lib.hid (all_stop (riseAt fs) j n hj2)
      have HY := Lib.hid (all_next (riseAt fs) j hR.out)
      have B1 := Lib.hid (HB.out.alloc HB.out.size (.cells #[.int .u64 x, .int .u64 y] 35))
      have P1 : PairAt x y wr.heap.size (wr.alloc (.cells #[.int .u64 x, .int .u64 y] 35)) := Array.getElem?_push_size
      by_cases h8 : x % 8 = 0
      rotate_left
      · have hr : (x.tmod 8 != 0) = true := by rw [HT.out]; simpa using h8
        have hno := Lib.hid (HZ.out (by rw [HS.out, decide_eq_false h8]; rfl))
        clear h8
        go_upto_region 4 with fail
        go_name_world W hW
        rw [hW] at P1
        have BW : Hid (Below w.heap.size w W) := Lib.hid (by rw [← hW]; exact B1.out)
        have AW : Hid (Below wr.heap.size wr W) := Lib.hid (by rw [← hW]; exact box_below _ _)
        have hbr : b < wr.heap.size := Nat.lt_of_lt_of_le hlt HB.out.size
        clear hW
        obtain ⟨p0, p1⟩ := P1.facts
        try have q0 := (AW.out.cell (p := ⟨b, off + m * 2, none⟩) hbr).trans e0
        refine wp_region_still_tail 18 (by kernel_rfl) (by kernel_rfl) ?_
        simp only [List.take_succ_cons, List.take_zero, List.drop_succ_cons, List.drop_zero]
        iterate 18 (first | (refine wpStill_skip (by as_aux_lemma => kernel_rfl) ?_; simp only [Act.put, List.setIfInBounds_toArray, List.set_cons_succ, List.set_cons_zero]) | still_step)
        refine wpStill_nil ?_
        change wpList _ _ _ _ _ (World.drew _)
        go_wp2
        go_ret
        exact TellsIs.mk hno.out (BW.out.drew)
      have hr : (x.tmod 8 != 0) = false := by rw [HT.out]; simpa using h8
      have hS2 : Hid (riseAt fs j = (j == 0 || decide (fA fs (j - 1) < x))) := Lib.hid (by rw [HS.out, decide_eq_true h8]; rfl)
      clear h8
      cases j with
      | zero =>
        have hok := Lib.hid (HY.out (by rw [hS2.out]; rfl))
        simp only [Nat.zero_mul, Nat.add_zero] at d0 d1
        go_upto_region 4 with fail
        go_name_world W hW
        rw [hW] at P1
        have BW : Hid (Below w.heap.size w W) := Lib.hid (by rw [← hW]; exact B1.out)
        have AW : Hid (Below wr.heap.size wr W) := Lib.hid (by rw [← hW]; exact box_below _ _)
        have hbr : b < wr.heap.size := Nat.lt_of_lt_of_le hlt HB.out.size
        clear hW
        obtain ⟨p0, p1⟩ := P1.facts
        try have q0 := (AW.out.cell (p := ⟨b, off + m * 2, none⟩) hbr).trans e0
        refine wp_region_still_tail 18 (by kernel_rfl) (by kernel_rfl) ?_
        simp only [List.take_succ_cons, List.take_zero, List.drop_succ_cons, List.drop_zero]
        iterate 18 (first | (refine wpStill_skip (by as_aux_lemma => kernel_rfl) ?_; simp only [Act.put, List.setIfInBounds_toArray, List.set_cons_succ, List.set_cons_zero]) | still_step)
        refine wpStill_nil ?_
        change wpList _ _ _ _ _ (World.drew _)
        go_wp2
        go_roundw
        case rel => exact ⟨1, by omega, by go_num, hok, BW.out.drew⟩
        case measure => simp [intOf]; omega
      | succ m =>
        obtain ⟨c0, c1⟩ := HV.out m (by rw [HN.out]; omega)
        have e0 := (HB.out.cell (p := ⟨b, off + m * 2, none⟩) hlt).trans c0
        clear c0 c1
        have hm0 : (0 : Int) ≤ (m : Int) := by omega
        have hmn : (m : Int) < (n : Int) := by omega
        have hwm : IntKind.i64.wrap (m : Int) = m := IntWalk.i64_in _ (by omega)
        obtain ⟨z, hz⟩ : ∃ z, Hid (fA fs m = z) := ⟨_, Lib.hid rfl⟩
        rw [hz.out] at e0
        have hS3 : Hid (riseAt fs (m + 1) = decide (z < x)) := Lib.hid (by rw [hS2.out]; simp [hz.out])
        by_cases hle : x ≤ z
        · have hno := Lib.hid (HZ.out (by rw [hS3.out]; simp; omega))
          go_upto_region 4 with fail
          go_name_world W hW
          rw [hW] at P1
          have BW : Hid (Below w.heap.size w W) := Lib.hid (by rw [← hW]; exact B1.out)
          have AW : Hid (Below wr.heap.size wr W) := Lib.hid (by rw [← hW]; exact box_below _ _)
          have hbr : b < wr.heap.size := Nat.lt_of_lt_of_le hlt HB.out.size
          clear hW
          obtain ⟨p0, p1⟩ := P1.facts
          try have q0 := (AW.out.cell (p := ⟨b, off + m * 2, none⟩) hbr).trans e0
          refine wp_region_still_tail 18 (by kernel_rfl) (by kernel_rfl) ?_
          simp only [List.take_succ_cons, List.take_zero, List.drop_succ_cons, List.drop_zero]
          iterate 18 (first | (refine wpStill_skip (by as_aux_lemma => kernel_rfl) ?_; simp only [Act.put, List.setIfInBounds_toArray, List.set_cons_succ, List.set_cons_zero]) | still_step)
          refine wpStill_nil ?_
          change wpList _ _ _ _ _ (World.drew _)
          go_wp2
          go_ret
          exact TellsIs.mk hno.out (BW.out.drew)
        · have hok := Lib.hid (HY.out (by rw [hS3.out]; simp; omega))
          go_upto_region 4 with fail
          go_name_world W hW
          rw [hW] at P1
          have BW : Hid (Below w.heap.size w W) := Lib.hid (by rw [← hW]; exact B1.out)
          have AW : Hid (Below wr.heap.size wr W) := Lib.hid (by rw [← hW]; exact box_below _ _)
          have hbr : b < wr.heap.size := Nat.lt_of_lt_of_le hlt HB.out.size
          clear hW
          obtain ⟨p0, p1⟩ := P1.facts
          try have q0 := (AW.out.cell (p := ⟨b, off + m * 2, none⟩) hbr).trans e0
          refine wp_region_still_tail 18 (by kernel_rfl) (by kernel_rfl) ?_
          simp only [List.take_succ_cons, List.take_zero, List.drop_succ_cons, List.drop_zero]
          iterate 18 (first | (refine wpStill_skip (by as_aux_lemma => kernel_rfl) ?_; simp only [Act.put, List.setIfInBounds_toArray, List.set_cons_succ, List.set_cons_zero]) | still_step)
          refine wpStill_nil ?_
          change wpList _ _ _ _ _ (World.drew _)
          go_wp2
          go_roundw
          case rel => exact ⟨m + 2, by omega, by go_num, hok, BW.out.drew⟩
          case measure => simp [intOf]; omega
    · obtain rfl : j = n := by omega
      go_wp2
      go_ret
      exact TellsIs.mk hR.out HB.out
theorem riseC_any (v : Value) (fs : List (Int × Int)) (w : World) (h : ReadsF w v fs) (hn : fs.length ≤ 60) (hw : ∀ j, j < fs.length → 0 ≤ fA fs j) : Calls Try.prog 24 #[v] w fun e w' => TellsIs w (riseL fs fs.length) e w' := by
  rcases h with ⟨⟨a, c, rfl, _⟩, rfl⟩ | ⟨b, off, c, rfl, h1, h2, h3, h4⟩
  · exact rise_nil a c w
  · exact rise_some fs fs.length b off c w rfl hn h4 h3 hw
end Go.Proofs.Ytokhnjcbcpmmjaa
