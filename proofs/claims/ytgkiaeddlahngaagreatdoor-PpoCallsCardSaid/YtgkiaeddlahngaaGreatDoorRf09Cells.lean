/-
  Proved here: the document's Cells tells whether cells stand at doubles, rising; its first gives what cells have at an address; nothing that was there is changed. Condition: words.
-/
import Derived.Test.YtgkiaeddlahngaaGreatDoorCdVal
import Derived.Test.YtgkiaeddlahngaaGreatDoorPpView
namespace Go.Proofs.YtgkiaeddlahngaaGreatDoor
set_option linter.unusedVariables false
set_option linter.unusedSimpArgs false
open Go.RowKit
attribute [local go_sem ↓] fold_E fold_SE
attribute [local irreducible] wpStill

theorem rcells_none (a : Option Addr) (cp : Nat) (w : World) : Calls Tryz.prog 28 #[.slice a 0 cp] w fun e w' => SaysB w true e w' := by
  go_enter Tryz.func28, Tryz.ntmps28
  go_wp2
  refine wp_loop_rounds 1 ?_
  rw [rounds_succ]
  go_wp2
  go_ret
  exact ⟨rfl, Below.refl _ _⟩
set_option maxRecDepth 100000 in
set_option maxHeartbeats 8000000 in
theorem rcells_some (fs : List (Int × Int)) (n b off cp : Nat) (w : World) (hn : fs.length = n) (hn60 : n ≤ 100000) (h : CellsIn w b off fs) (hlt : b < w.heap.size) (hw : ∀ j, j < n → 0 ≤ fA fs j) :
    Calls Tryz.prog 28 #[.slice (some ⟨b, off, none⟩) n cp] w fun e w' => SaysB w (riseL fs n) e w' := by
  have HV := Lib.hid h
  have HN := Lib.hid hn
  clear h hn
  go_enter Tryz.func28, Tryz.ntmps28
  go_wp2
  go_loopw [3] (fun vi wr => ∃ (j : Nat), j ≤ n ∧ vi = .int .i64 j ∧ Hid (riseL fs j = true) ∧ Hid (Below w.heap.size w wr)) (fun vi _ => n - (intOf vi).toNat)
  case atStart => exact ⟨0, Nat.zero_le _, rfl, Lib.hid rfl, Lib.hid (Below.refl _ _)⟩
  case round =>
    obtain ⟨j, hj, rfl, hR, HB⟩ := hrel
    by_cases hj2 : j < n
    · have d0 := (HB.out.cell (p := ⟨b, off + j * 2, none⟩) hlt).trans (HV.out j (by rw [HN.out]; exact hj2)).1
      obtain ⟨x, hx⟩ : ∃ x, Hid (fA fs j = x) := ⟨_, Lib.hid rfl⟩
      have hx0 := hw j hj2
      have HS := Lib.hid (show riseAt fs j = (decide (fA fs j % 8 = 0) && (j == 0 || decide (fA fs (j - 1) < fA fs j))) from rfl)
      rw [hx.out] at d0 hx0 HS
      have HT := Lib.hid (Int.tmod_eq_emod_of_nonneg (b := 8) hx0)
      have HZ := Lib.hid (all_stop (riseAt fs) j n hj2)
      have HY := Lib.hid (all_next (riseAt fs) j hR.out)
      have hj0 : (0 : Int) ≤ (j : Int) := by omega
      have hj1 : (j : Int) < (n : Int) := by omega
      by_cases h8 : x % 8 = 0
      rotate_left
      · have hr : (x.tmod 8 != 0) = true := by rw [HT.out]; simpa using h8
        have hr' : (x % 8 != 0) = true := by simpa using h8
        have hno : Hid (riseL fs n = false) := Lib.hid (HZ.out (by rw [HS.out, decide_eq_false h8]; rfl))
        clear h8
        go_upto_region 4 with fail
        refine wp_region_still_tail 24 (by kernel_rfl) (by kernel_rfl) ?_
        simp only [List.take_succ_cons, List.take_zero, List.drop_succ_cons, List.drop_zero]
        iterate 24 (first | (refine wpStill_skip (by as_aux_lemma => kernel_rfl) ?_; simp only [Act.put, List.setIfInBounds_toArray, List.set_cons_succ, List.set_cons_zero]) | still_step)
        refine wpStill_nil ?_
        change wpList _ _ _ _ _ (World.drew _)
        go_wp2
        go_ret
        exact ⟨by rw [hno.out]; rfl, HB.out.drew⟩
      have hr : (x.tmod 8 != 0) = false := by rw [HT.out]; simpa using h8
      have hr' : (x % 8 != 0) = false := by simpa using h8
      have hS2 : Hid (riseAt fs j = (j == 0 || decide (fA fs (j - 1) < x))) := Lib.hid (by rw [HS.out, decide_eq_true h8]; rfl)
      clear h8
      cases j with
      | zero =>
        have hok := Lib.hid (HY.out (by rw [hS2.out]; rfl))
        simp only [Nat.zero_mul, Nat.add_zero] at d0
        go_upto_region 4 with fail
        refine wp_region_still_tail 24 (by kernel_rfl) (by kernel_rfl) ?_
        simp only [List.take_succ_cons, List.take_zero, List.drop_succ_cons, List.drop_zero]
        iterate 24 (first | (refine wpStill_skip (by as_aux_lemma => kernel_rfl) ?_; simp only [Act.put, List.setIfInBounds_toArray, List.set_cons_succ, List.set_cons_zero]) | still_step)
        refine wpStill_nil ?_
        change wpList _ _ _ _ _ (World.drew _)
        go_wp2
        go_roundw
        case rel => exact ⟨1, by omega, by go_num, hok, Lib.hid HB.out.drew⟩
        case measure => simp [intOf]; omega
      | succ m =>
        have d1 := (HB.out.cell (p := ⟨b, off + m * 2, none⟩) hlt).trans (HV.out m (by rw [HN.out]; omega)).1
        obtain ⟨y, hy⟩ : ∃ y, Hid (fA fs m = y) := ⟨_, Lib.hid rfl⟩
        rw [hy.out] at d1
        have hS3 : Hid (riseAt fs (m + 1) = decide (y < x)) := Lib.hid (by rw [hS2.out, Nat.add_sub_cancel, hy.out]; simp)
        have hm0 : (0 : Int) ≤ (m : Int) := by omega
        have hm1 : (m : Int) < (n : Int) := by omega
        have hk0s : (0 : Int) ≤ (m : Int) + 1 := by omega
        have hk1s : (m : Int) + 1 < (n : Int) := by omega
        have hpos : (0 : Int) < (m : Int) + 1 := by omega
        have hwm : IntKind.i64.wrap ((m : Int) + 1 - 1) = (m : Int) := by rw [IntWalk.i64_in _ (by omega)]; omega
        have hwm2 : IntKind.i64.wrap (m : Int) = (m : Int) := IntWalk.i64_in _ (by omega)
        by_cases hyx : x ≤ y
        · have hd : decide (x ≤ y) = true := by simpa using hyx
          have hno : Hid (riseL fs n = false) := Lib.hid (HZ.out (by rw [hS3.out]; simpa using hyx))
          clear hyx
          go_upto_region 4 with fail
          refine wp_region_still_tail 24 (by kernel_rfl) (by kernel_rfl) ?_
          simp only [List.take_succ_cons, List.take_zero, List.drop_succ_cons, List.drop_zero]
          iterate 24 (first | (refine wpStill_skip (by as_aux_lemma => kernel_rfl) ?_; simp only [Act.put, List.setIfInBounds_toArray, List.set_cons_succ, List.set_cons_zero]) | still_step)
          refine wpStill_nil ?_
          change wpList _ _ _ _ _ (World.drew _)
          go_wp2
          go_ret
          exact ⟨by rw [hno.out]; rfl, HB.out.drew⟩
        · have hd : decide (x ≤ y) = false := by simpa using hyx
          have hok := Lib.hid (HY.out (by rw [hS3.out]; simpa using hyx))
          clear hyx
          go_upto_region 4 with fail
          refine wp_region_still_tail 24 (by kernel_rfl) (by kernel_rfl) ?_
          simp only [List.take_succ_cons, List.take_zero, List.drop_succ_cons, List.drop_zero]
          iterate 24 (first | (refine wpStill_skip (by as_aux_lemma => kernel_rfl) ?_; simp only [Act.put, List.setIfInBounds_toArray, List.set_cons_succ, List.set_cons_zero]) | still_step)
          refine wpStill_nil ?_
          change wpList _ _ _ _ _ (World.drew _)
          go_wp2
          go_roundw
          case rel => exact ⟨m + 1 + 1, by omega, by go_num, hok, Lib.hid HB.out.drew⟩
          case measure => simp [intOf]; omega
    · obtain rfl : j = n := by omega
      go_wp2
      go_ret
      exact ⟨by rw [hR.out]; rfl, HB.out⟩
theorem rcells_any (v : Value) (fs : List (Int × Int)) (w : World) (h : ReadsF w v fs) (hn : fs.length ≤ 100000) (hw : ∀ j, j < fs.length → 0 ≤ fA fs j) : Calls Tryz.prog 28 #[v] w fun e w' => SaysB w (riseL fs fs.length) e w' := by
  rcases h with ⟨⟨a, c, rfl, _⟩, rfl⟩ | ⟨b, off, c, rfl, _, _, h3, h4⟩
  · exact rcells_none a c w
  · exact rcells_some fs _ b off c w rfl hn h4 h3 hw
theorem rfirst_none (a : Option Addr) (cp : Nat) (x : Int) (w : World) : Calls Tryz.prog 53 #[.slice a 0 cp, .int .u64 x] w fun e w' => ValIs w 0 e w' := by
  go_enter Tryz.func53, Tryz.ntmps53
  go_wp2
  refine wp_loop_rounds 1 ?_
  rw [rounds_succ]
  go_wp2
  go_ret
  exact ⟨rfl, Below.refl _ _⟩
set_option maxRecDepth 100000 in
set_option maxHeartbeats 8000000 in
theorem rfirst_some (fs : List (Int × Int)) (n b off cp : Nat) (x : Int) (w : World) (hn : fs.length = n) (hn60 : n ≤ 100000) (h : CellsIn w b off fs) (hlt : b < w.heap.size) :
    Calls Tryz.prog 53 #[.slice (some ⟨b, off, none⟩) n cp, .int .u64 x] w fun e w' => ValIs w (valL fs x) e w' := by
  have HV := Lib.hid h
  have HN := Lib.hid hn
  clear h hn
  go_enter Tryz.func53, Tryz.ntmps53
  go_wp2
  go_loopw [5] (fun vi wr => ∃ (j : Nat), j ≤ n ∧ vi = .int .i64 j ∧ Hid (∀ k, k < j → fA fs k ≠ x) ∧ Hid (Below w.heap.size w wr)) (fun vi _ => n - (intOf vi).toNat)
  case atStart => exact ⟨0, Nat.zero_le _, rfl, Lib.hid (fun k hk => absurd hk (by omega)), Lib.hid (Below.refl _ _)⟩
  case round =>
    obtain ⟨j, hj, rfl, hR, HB⟩ := hrel
    by_cases hj2 : j < n
    · have d0 := (HB.out.cell (p := ⟨b, off + j * 2, none⟩) hlt).trans (HV.out j (by rw [HN.out]; exact hj2)).1
      have d1 := (HB.out.cell (p := ⟨b, off + j * 2 + 1, none⟩) hlt).trans (HV.out j (by rw [HN.out]; exact hj2)).2
      obtain ⟨y, hy⟩ : ∃ y, Hid (fA fs j = y) := ⟨_, Lib.hid rfl⟩
      obtain ⟨z, hz⟩ : ∃ y, Hid (fV fs j = y) := ⟨_, Lib.hid rfl⟩
      rw [hy.out] at d0
      rw [hz.out] at d1
      have hj0 : (0 : Int) ≤ (j : Int) := by omega
      by_cases hxy : y = x
      · have he : (y == x) = true := by simpa using hxy
        have hh := Lib.hid (valL_hit fs x j (by rw [HN.out]; exact hj2) hR.out (by rw [hy.out]; exact hxy))
        rw [hz.out] at hh
        clear hxy
        go_wp2
        go_ret
        exact ValIs.mk hh.out HB.out
      · have he : (y == x) = false := by simpa using hxy
        have hnx : Hid (∀ k, k < j + 1 → fA fs k ≠ x) := Lib.hid (fun k hk => by
          by_cases hkj : k = j
          · rw [hkj, hy.out]; exact hxy
          · exact hR.out k (by omega))
        clear hxy
        go_wp2
        go_roundw
        case rel => exact ⟨j + 1, by omega, by go_num, hnx, HB⟩
        case measure => simp [intOf]; omega
    · obtain rfl : j = n := by omega
      have hm := Lib.hid (valL_miss fs x (by rw [HN.out]; exact hR.out))
      go_wp2
      go_ret
      exact ValIs.mk hm.out HB.out
theorem rfirst_any (v : Value) (fs : List (Int × Int)) (x : Int) (w : World) (h : ReadsF w v fs) (hn : fs.length ≤ 100000) : Calls Tryz.prog 53 #[v, .int .u64 x] w fun e w' => ValIs w (valL fs x) e w' := by
  rcases h with ⟨⟨a, c, rfl, _⟩, rfl⟩ | ⟨b, off, c, rfl, _, _, h3, h4⟩
  · exact rfirst_none a c x w
  · exact rfirst_some fs _ b off c x w rfl hn h4 h3
end Go.Proofs.YtgkiaeddlahngaaGreatDoor
