/-
  Proved here: the document's Rising and below tell whether a list rises and stays below a place; nothing that was there is changed. Condition: at most 100,000 numbers.
  (With it: Proved here: what a view's small questions answer: writes, reads, memory, oneHart, oneAddr; nothing that was there is changed. Condition: numbers that there are. (With it: Words: what package ppo knows of each event of a candidate; its rules, as plain functions. No condition.))
-/
import Derived.Test.YtokhnjcbcpmmjaaGreatCdFew
namespace Go.Proofs.YtokhnjcbcpmmjaaGreat
set_option linter.unusedVariables false
set_option linter.unusedSimpArgs false
open Go.RowKit

end Go.Proofs.YtokhnjcbcpmmjaaGreat
namespace Go.Proofs.YtokhnjcbcpmmjaaGreat
set_option linter.unusedVariables false
set_option linter.unusedSimpArgs false
open Go.RowKit
attribute [local go_sem ↓] fold_E fold_SE
attribute [local irreducible] wpStill

/-- what it answers: a bool, the world as it was -/
def SaysB (w : World) (r : Bool) (e : Ending) (w' : World) : Prop := e = .returned (.bool r) ∧ Below w.heap.size w w'
end Go.Proofs.YtokhnjcbcpmmjaaGreat
namespace Go.Proofs.YtokhnjcbcpmmjaaGreat
set_option linter.unusedVariables false
set_option linter.unusedSimpArgs false
open Go.RowKit
attribute [local go_sem ↓] fold_E fold_SE
attribute [local irreducible] wpStill

theorem rises_go (l : List Int) (k : Nat) (hk : k < l.length) (hT : risesFrom (-1) (l.take k) = true) (h0 : 0 ≤ atI l k) (h1 : 0 < k → atI l (k - 1) < atI l k) : risesFrom (-1) (l.take (k + 1)) = true := by
  rw [risesFrom_take l (-1) k hk, hT]
  cases k with
  | zero => simp [atI] at *; omega
  | succ m =>
    have := h1 (by omega)
    simp [atI] at *
    exact this
theorem rises_neg (l : List Int) (k : Nat) (hk : k < l.length) (h0 : atI l k < 0) : rises l = false := by
  cases hr : rises l with
  | false => rfl
  | true =>
    have hm : atI l k ∈ l := by unfold atI; rw [List.getD_eq_getElem?_getD, List.getElem?_eq_getElem hk]; exact List.getElem_mem hk
    have := rises_lo l (-1) hr _ hm
    omega
theorem rises_fall (l : List Int) (m : Nat) (hk : m + 1 < l.length) (h0 : atI l (m + 1) ≤ atI l m) : rises l = false := by
  refine risesFrom_pre l (-1) (m + 1 + 1) ?_
  rw [risesFrom_take l (-1) (m + 1) hk, Bool.and_eq_false_iff]
  right
  have : ¬ atI l m < atI l (m + 1) := by omega
  simpa [atI] using this
theorem rrising_none (a : Option Addr) (cp : Nat) (w : World) : Calls Tryz.prog 95 #[.slice a 0 cp] w fun e w' => SaysB w true e w' := by
  go_enter Tryz.func95, Tryz.ntmps95
  go_wp2
  refine wp_loop_rounds 1 ?_
  rw [rounds_succ]
  go_wp2
  go_ret
  exact ⟨rfl, Below.refl _ _⟩
set_option maxRecDepth 100000 in
set_option maxHeartbeats 8000000 in
theorem rrising_some (b off cp : Nat) (l : List Int) (w : World) (hb : b < w.heap.size) (hn : l.length ≤ 100000) (hc : ∀ j, j < l.length → w.cell? ⟨b, off + j, none⟩ = some (.int .i64 (atI l j))) : Calls Tryz.prog 95 #[.slice (some ⟨b, off, none⟩) l.length cp] w fun e w' => SaysB w (rises l) e w' := by
  have HC := Lib.hid hc
  obtain ⟨n, hnn⟩ : ∃ n, Hid (l.length = n) := ⟨_, Lib.hid rfl⟩
  rw [hnn.out] at hn ⊢
  clear hc
  go_enter Tryz.func95, Tryz.ntmps95
  go_wp2
  go_loopw [3] (fun vi wr => ∃ (k : Nat), k ≤ n ∧ vi = .int .i64 k ∧ Hid (risesFrom (-1) (l.take k) = true) ∧ Hid (Below w.heap.size w wr)) (fun vi _ => n - (intOf vi).toNat)
  case atStart => exact ⟨0, Nat.zero_le _, rfl, Lib.hid rfl, Lib.hid (Below.refl _ _)⟩
  case round =>
    obtain ⟨k, hk, rfl, HT, HB⟩ := hrel
    by_cases hlt : k < n
    · have d0 := (HB.out.cell (p := ⟨b, off + k, none⟩) hb).trans (HC.out k (by rw [hnn.out]; exact hlt))
      have HS := Lib.hid (rises_go l k (by rw [hnn.out]; exact hlt) HT.out)
      have HG := Lib.hid (rises_neg l k (by rw [hnn.out]; exact hlt))
      have hk0 : (0 : Int) ≤ (k : Int) := by omega
      have hk1 : (k : Int) < (n : Int) := by omega
      cases k with
      | zero =>
        simp only [Nat.add_zero] at d0
        obtain ⟨x, hx⟩ : ∃ x, Hid (atI l 0 = x) := ⟨_, Lib.hid rfl⟩
        rw [hx.out] at d0 HS HG
        by_cases h0 : x < 0
        · have hd : decide (x < 0) = true := by simpa using h0
          have HR := Lib.hid (HG.out h0)
          clear h0
          go_upto_region 4 with fail
          refine wp_region_still_tail 20 (by kernel_rfl) (by kernel_rfl) ?_
          simp only [List.take_succ_cons, List.take_zero, List.drop_succ_cons, List.drop_zero]
          iterate 20 (first | (refine wpStill_skip (by as_aux_lemma => kernel_rfl) ?_; simp only [Act.put, List.setIfInBounds_toArray, List.set_cons_succ, List.set_cons_zero]) | still_step)
          refine wpStill_nil ?_
          change wpList _ _ _ _ _ (World.drew _)
          go_wp2
          go_ret
          exact ⟨by rw [HR.out]; rfl, HB.out.drew⟩
        · have hd : decide (x < 0) = false := by simpa using h0
          have HN := Lib.hid (HS.out (by omega) (fun h => by omega))
          clear h0
          go_upto_region 4 with fail
          refine wp_region_still_tail 20 (by kernel_rfl) (by kernel_rfl) ?_
          simp only [List.take_succ_cons, List.take_zero, List.drop_succ_cons, List.drop_zero]
          iterate 20 (first | (refine wpStill_skip (by as_aux_lemma => kernel_rfl) ?_; simp only [Act.put, List.setIfInBounds_toArray, List.set_cons_succ, List.set_cons_zero]) | still_step)
          refine wpStill_nil ?_
          change wpList _ _ _ _ _ (World.drew _)
          go_wp2
          go_roundw
          case rel => exact ⟨1, by omega, by go_num, HN, Lib.hid HB.out.drew⟩
          case measure => simp [intOf]; omega
      | succ m =>
        have d1 := (HB.out.cell (p := ⟨b, off + m, none⟩) hb).trans (HC.out m (by rw [hnn.out]; omega))
        have HF := Lib.hid (rises_fall l m (by rw [hnn.out]; exact hlt))
        simp only [Nat.add_sub_cancel] at HS
        obtain ⟨x, hx⟩ : ∃ x, Hid (atI l (m + 1) = x) := ⟨_, Lib.hid rfl⟩
        obtain ⟨y, hy⟩ : ∃ x, Hid (atI l m = x) := ⟨_, Lib.hid rfl⟩
        rw [hx.out] at d0 HS HG HF
        rw [hy.out] at d1 HS HF
        have hm0 : (0 : Int) ≤ (m : Int) := by omega
        have hm1 : (m : Int) < (n : Int) := by omega
        have hk0s : (0 : Int) ≤ (m : Int) + 1 := by omega
        have hk1s : (m : Int) + 1 < (n : Int) := by omega
        have hpos : (0 : Int) < (m : Int) + 1 := by omega
        have hwm : IntKind.i64.wrap ((m : Int) + 1 - 1) = (m : Int) := by rw [IntWalk.i64_in _ (by omega)]; omega
        have hwm2 : IntKind.i64.wrap (m : Int) = (m : Int) := IntWalk.i64_in _ (by omega)
        by_cases h0 : x < 0
        · have hd : decide (x < 0) = true := by simpa using h0
          have HR := Lib.hid (HG.out h0)
          clear h0
          go_upto_region 4 with fail
          refine wp_region_still_tail 20 (by kernel_rfl) (by kernel_rfl) ?_
          simp only [List.take_succ_cons, List.take_zero, List.drop_succ_cons, List.drop_zero]
          iterate 20 (first | (refine wpStill_skip (by as_aux_lemma => kernel_rfl) ?_; simp only [Act.put, List.setIfInBounds_toArray, List.set_cons_succ, List.set_cons_zero]) | still_step)
          refine wpStill_nil ?_
          change wpList _ _ _ _ _ (World.drew _)
          go_wp2
          go_ret
          exact ⟨by rw [HR.out]; rfl, HB.out.drew⟩
        · have hd : decide (x < 0) = false := by simpa using h0
          by_cases h1 : x ≤ y
          · have hd1 : decide (x ≤ y) = true := by simpa using h1
            have HR := Lib.hid (HF.out h1)
            clear h0 h1
            go_upto_region 4 with fail
            refine wp_region_still_tail 20 (by kernel_rfl) (by kernel_rfl) ?_
            simp only [List.take_succ_cons, List.take_zero, List.drop_succ_cons, List.drop_zero]
            iterate 20 (first | (refine wpStill_skip (by as_aux_lemma => kernel_rfl) ?_; simp only [Act.put, List.setIfInBounds_toArray, List.set_cons_succ, List.set_cons_zero]) | still_step)
            refine wpStill_nil ?_
            change wpList _ _ _ _ _ (World.drew _)
            go_wp2
            go_ret
            exact ⟨by rw [HR.out]; rfl, HB.out.drew⟩
          · have hd1 : decide (x ≤ y) = false := by simpa using h1
            have HN := Lib.hid (HS.out (by omega) (fun _ => by omega))
            clear h0 h1
            go_upto_region 4 with fail
            refine wp_region_still_tail 20 (by kernel_rfl) (by kernel_rfl) ?_
            simp only [List.take_succ_cons, List.take_zero, List.drop_succ_cons, List.drop_zero]
            iterate 20 (first | (refine wpStill_skip (by as_aux_lemma => kernel_rfl) ?_; simp only [Act.put, List.setIfInBounds_toArray, List.set_cons_succ, List.set_cons_zero]) | still_step)
            refine wpStill_nil ?_
            change wpList _ _ _ _ _ (World.drew _)
            go_wp2
            go_roundw
            case rel => exact ⟨m + 1 + 1, by omega, by go_num, HN, Lib.hid HB.out.drew⟩
            case measure => simp [intOf]; omega
    · obtain rfl : k = n := by omega
      go_wp2
      go_ret
      refine ⟨?_, HB.out⟩
      have e := HT.out
      rw [List.take_of_length_le (by rw [hnn.out]; exact Nat.le_refl _)] at e
      rw [show rises l = true from e]; rfl
theorem rRising_any (v : Value) (l : List Int) (w : World) (h : ReadsI w v l) (hn : l.length ≤ 100000) : Calls Tryz.prog 95 #[v] w fun e w' => SaysB w (rises l) e w' := by
  rcases h with ⟨⟨a, c, rfl, _⟩, rfl⟩ | ⟨b, off, c, rfl, _, _, h3, h4⟩
  · exact rrising_none a c w
  · exact rrising_some b off c l w h3 hn h4
set_option maxRecDepth 100000 in
set_option maxHeartbeats 4000000 in
theorem below_any (v : Value) (l : List Int) (p : Int) (w : World) (h : ReadsI w v l) (hn : l.length ≤ 100000) (r : Bool) (hr : aheadB p l = r) : Calls Tryz.prog 75 #[v, .int .i64 p] w fun e w' => SaysB w r e w' := by
  have H := Lib.hid h
  have hrr : (rises l && (decide (l.length = 0) || decide (atI l (l.length - 1) < p))) = r := hr
  obtain ⟨r1, hr1⟩ : ∃ r, Hid (rises l = r) := ⟨_, Lib.hid rfl⟩
  have KR := Lib.hid (fun w0 (h0 : ReadsI w0 v l) => (show Calls Tryz.prog 95 #[v] w0 fun e w' => SaysB w0 r1 e w' from by rw [← hr1.out]; exact rRising_any v l w0 h0 hn))
  rw [hr1.out] at hrr
  rcases h with ⟨⟨a, c, rfl, _⟩, rfl⟩ | ⟨b, off, c, rfl, _, _, h3, h4⟩
  · have HR : Hid (r1 = r) := Lib.hid (by rw [← hrr]; simp)
    clear hr hrr
    cases r1
    all_goals
      go_enter Tryz.func75, Tryz.ntmps75
      go_wp2_with (go_at_call 95; (with_reducible refine (KR.out _ H.out).mono ?_); rintro e' w1 ⟨rfl, hb⟩; have L1 := Lib.hid hb; clear hb)
      go_ret
      exact ⟨by rw [← HR.out]; rfl, L1.out⟩
  · cases hl : l with
    | nil =>
      subst hl
      have HR : Hid (r1 = r) := Lib.hid (by rw [← hrr]; simp)
      clear hr hrr h4 hr1
      simp only [List.length_nil] at H KR ⊢
      cases r1
      all_goals
        go_enter Tryz.func75, Tryz.ntmps75
        go_wp2_with (go_at_call 95; (with_reducible refine (KR.out _ H.out).mono ?_); rintro e' w1 ⟨rfl, hb⟩; have L1 := Lib.hid hb; clear hb)
        go_ret
        exact ⟨by rw [← HR.out]; rfl, L1.out⟩
    | cons y t =>
      rw [← hl]
      obtain ⟨m, hm⟩ : ∃ m, l.length = m + 1 := ⟨t.length, by rw [hl]; rfl⟩
      have c0 := h4 m (by omega)
      have HC := Lib.hid c0
      obtain ⟨z, hz⟩ : ∃ z, atI l m = z := ⟨_, rfl⟩
      obtain ⟨r2, hr2⟩ : ∃ r, decide (z < p) = r := ⟨_, rfl⟩
      have HR : Hid ((r1 && r2) = r) := Lib.hid (by rw [← hrr, hm, Nat.add_sub_cancel, hz, hr2]; simp)
      have h0 : (((m : Int) + 1) == 0) = false := by simp; omega
      have hw : IntKind.i64.wrap ((m : Int) + 1 - 1) = (m : Int) := by rw [IntWalk.i64_in _ (by omega)]; omega
      have hw2 : IntKind.i64.wrap (m : Int) = (m : Int) := IntWalk.i64_in _ (by omega)
      have m0 : (0 : Int) ≤ (m : Int) := by omega
      have m1 : (m : Int) < (m : Int) + 1 := by omega
      rw [hz] at HC
      have h3h := Lib.hid h3
      rw [hm] at H KR ⊢
      clear hr hrr h4 c0 hl hm hz h3
      cases r1 <;> cases r2
      all_goals
        go_enter Tryz.func75, Tryz.ntmps75
        go_wp2_with (go_at_call 95; (with_reducible refine (KR.out _ H.out).mono ?_); rintro e' w1 ⟨rfl, hb⟩; have L1 := Lib.hid hb; have c1 := (hb.cell (p := ⟨b, off + m, none⟩) h3h.out).trans HC.out; clear hb)
        go_ret
        exact ⟨by rw [← HR.out]; rfl, L1.out⟩
end Go.Proofs.YtokhnjcbcpmmjaaGreat
