/-
  Proved here: cand's found tells whether From tells of each number where it may have found what it loaded; nothing that was there is changed. Condition: at most 60 events and cells. (With it: Proved here: cand's finds tells whether a number's From may be this one; nothing that was there is changed. Condition: at most 60 events and cells.) (With it: Words: the events of a candidate by number, in one block; cand's within. No condition.)
  (With it: Proved here: cand's value: what cells that rise have at an address; nothing that was there is changed. Condition: at most 60 cells, words. (With it: Proved here: cmp.Compare at words, cand's byAddr, slices.BinarySearchFunc at rising cells, cand's value: what cells that rise have at an address; nothing that was there is changed. Condition: at most 60 cells, words.))
-/
import Derived.Test.YtokhnjcbcpmmjaaGreatCdRise
import Derived.Deep.RegionHeld3
namespace Go.Proofs.YtokhnjcbcpmmjaaGreat
set_option linter.unusedVariables false
set_option linter.unusedSimpArgs false
open Go.RowKit
attribute [local go_sem ↓] fold_E fold_SE
attribute [local irreducible] wpStill

def cmpI (x y : Int) : Int := if x < y then -1 else if y < x then 1 else 0
theorem isNaN_any (x : Int) (w : World) : Calls Tryz.prog 91 #[.int .u64 x] w fun e w' => e = .returned (.bool false) ∧ w = w' := by
  go_enter Tryz.func91, Tryz.ntmps91
  go_wp2
  go_ret
  exact ⟨by simp, rfl⟩
theorem compare_any (x y : Int) (w : World) : Calls Tryz.prog 68 #[.int .u64 x, .int .u64 y] w fun e w' => e = .returned (.int .i64 (cmpI x y)) ∧ w = w' := by
  unfold cmpI
  by_cases h1 : x < y
  · rw [if_pos h1]
    go_enter Tryz.func68, Tryz.ntmps68
    go_wp2_with (go_at_call 91; (with_reducible refine (isNaN_any _ _).mono ?_); rintro e' w1 ⟨rfl, rfl⟩)
    go_ret
    exact ⟨rfl, rfl⟩
  · rw [if_neg h1]
    have h1' : decide (x < y) = false := by simpa using h1
    by_cases h2 : y < x
    · rw [if_pos h2]
      go_enter Tryz.func68, Tryz.ntmps68
      go_wp2_with (go_at_call 91; (with_reducible refine (isNaN_any _ _).mono ?_); rintro e' w1 ⟨rfl, rfl⟩)
      go_ret
      exact ⟨rfl, rfl⟩
    · rw [if_neg h2]
      have h2' : decide (y < x) = false := by simpa using h2
      go_enter Tryz.func68, Tryz.ntmps68
      go_wp2_with (go_at_call 91; (with_reducible refine (isNaN_any _ _).mono ?_); rintro e' w1 ⟨rfl, rfl⟩)
      go_ret
      exact ⟨rfl, rfl⟩
def CmpIs (w : World) (x y : Int) (e : Ending) (w' : World) : Prop := e = .returned (.int .i64 (cmpI x y)) ∧ Below w.heap.size w w'
theorem byAddr_any (x1 y1 x2 y2 : Int) (w : World) : Calls Tryz.prog 44 #[.agg #[.int .u64 x1, .int .u64 y1], .agg #[.int .u64 x2, .int .u64 y2]] w fun e w' => CmpIs w x1 x2 e w' := by
  have HB := Lib.hid (two_below w (.cells #[.int .u64 x1, .int .u64 y1] 43) (.cells #[.int .u64 x2, .int .u64 y2] 43))
  go_enter Tryz.func44, Tryz.ntmps44
  go_wp2_with (go_at_call 68; (with_reducible refine (compare_any _ _ _).mono ?_); rintro e' w1 ⟨rfl, rfl⟩)
  go_ret
  exact ⟨rfl, HB.out⟩
/-- what the search has found -/
structure Found (fs : List (Int × Int)) (x : Int) (i j : Nat) : Prop where
  le : i ≤ j ∧ j ≤ fs.length
  before : ∀ k, k < i → fA fs k < x
  behind : ∀ k, j ≤ k → k < fs.length → x ≤ fA fs k
def SearchIs (fs : List (Int × Int)) (x : Int) (w : World) (e : Ending) (w' : World) : Prop := ∃ i, Found fs x i i ∧ e = .returned (.tuple #[.int .i64 (i : Int), .bool (decide (i < fs.length) && decide (fA fs i = x))]) ∧ Below w.heap.size w w'
theorem Found.up {fs : List (Int × Int)} {x : Int} {i j : Nat} (h : Found fs x i j) (m : Nat) (_ : i ≤ m) (h2 : m < j) (hb : ∀ k, k ≤ m → fA fs k < x) : Found fs x (m + 1) j := ⟨⟨h2, h.le.2⟩, fun k hk => hb k (by omega), h.behind⟩
theorem Found.down {fs : List (Int × Int)} {x : Int} {i j : Nat} (h : Found fs x i j) (m : Nat) (h1 : i ≤ m) (h2 : m < j) (hb : ∀ k, m ≤ k → k < fs.length → x ≤ fA fs k) : Found fs x i m := ⟨⟨h1, by have := h.le.2; omega⟩, h.before, hb⟩
/-- a cell of the row, and the one looked for -/
structure Srch (b o : Nat) (X Y x y : Int) (w wr : World) : Prop where
  c0 : wr.cell? ⟨b, o, none⟩ = some (.int .u64 X)
  c1 : wr.cell? ⟨b, o + 1, none⟩ = some (.int .u64 Y)
  pair : PairAt x y w.heap.size wr
  below : Below w.heap.size w wr
  lt : b < w.heap.size
theorem Srch.on {b o : Nat} {X Y x y : Int} {w wr w2 : World} (h : Srch b o X Y x y w wr) (hb : Below wr.heap.size wr w2) : Srch b o X Y x y w w2 :=
  have hl : b < wr.heap.size := Nat.lt_of_lt_of_le h.lt h.below.size
  ⟨(hb.cell (p := ⟨b, o, none⟩) hl).trans h.c0, (hb.cell (p := ⟨b, o + 1, none⟩) hl).trans h.c1, (hb.block _ h.pair.lt).trans h.pair, h.below.trans (hb.mono h.below.size), h.lt⟩
theorem Srch.drew {b o : Nat} {X Y x y : Int} {w wr : World} (h : Srch b o X Y x y w wr) : Srch b o X Y x y w wr.drew := h.on (Below.refl _ _).drew
theorem Srch.four {b o : Nat} {X Y x y : Int} {w wr : World} (h : Srch b o X Y x y w wr) : wr.cell? ⟨b, o, none⟩ = some (.int .u64 X) ∧ wr.cell? ⟨b, o + 1, none⟩ = some (.int .u64 Y) ∧ wr.cell? ⟨w.heap.size, 0, none⟩ = some (.int .u64 x) ∧ wr.cell? ⟨w.heap.size, 1, none⟩ = some (.int .u64 y) := ⟨h.c0, h.c1, h.pair.facts.1, h.pair.facts.2⟩
theorem search_nil (a : Option Addr) (cp : Nat) (x y : Int) (w : World) : Calls Tryz.prog 64 #[.slice a 0 cp, .agg #[.int .u64 x, .int .u64 y], .func (.func 44) #[] #[]] w fun e w' => SearchIs [] x w e w' := by
  go_enter Tryz.func64, Tryz.ntmps64
  go_wp2
  refine wp_loop_rounds 1 ?_
  rw [rounds_succ]
  go_upto_region 8 with fail
  go_name_world W hW
  have BW : Hid (Below w.heap.size w W) := Lib.hid (by rw [← hW]; exact box_below _ _)
  clear hW
  refine wp_region_still_tail 15 (by kernel_rfl) (by kernel_rfl) ?_
  simp only [List.take_succ_cons, List.take_zero, List.drop_succ_cons, List.drop_zero]
  iterate 15 (first | (refine wpStill_skip (by as_aux_lemma => kernel_rfl) ?_; simp only [Act.put, List.setIfInBounds_toArray, List.set_cons_succ, List.set_cons_zero]) | still_step)
  refine wpStill_nil ?_
  change wpList _ _ _ _ _ (World.drew _)
  go_wp2
  go_ret2
  exact ⟨0, ⟨⟨Nat.le_refl _, Nat.le_refl _⟩, fun k hk => absurd hk (by omega), fun k _ hk => absurd hk (by simp)⟩, rfl, BW.out.drew⟩
set_option maxRecDepth 100000 in
set_option maxHeartbeats 8000000 in
theorem search_some (fs : List (Int × Int)) (n b off cp : Nat) (x y : Int) (w : World) (hn : fs.length = n) (hn60 : n ≤ 60) (h : CellsIn w b off fs) (hlt : b < w.heap.size) (hr : ∀ i j, i < j → j < n → fA fs i < fA fs j) :
    Calls Tryz.prog 64 #[.slice (some ⟨b, off, none⟩) n cp, .agg #[.int .u64 x, .int .u64 y], .func (.func 44) #[] #[]] w fun e w' => SearchIs fs x w e w' := by
  have HV := Lib.hid h
  have HN := Lib.hid hn
  have HR := Lib.hid hr
  clear h hn hr
  go_enter Tryz.func64, Tryz.ntmps64
  go_wp2
  go_loopw [9, 10] (fun vi vj wr => ∃ (i j : Nat), vi = .int .i64 i ∧ vj = .int .i64 j ∧ Hid (Found fs x i j) ∧ Hid (PairAt x y w.heap.size wr) ∧ Below w.heap.size w wr) (fun vi vj _ => (intOf vj).toNat - (intOf vi).toNat)
  case atStart => exact ⟨0, n, rfl, rfl, Lib.hid ⟨⟨Nat.zero_le _, Nat.le_of_eq HN.out.symm⟩, fun k hk => absurd hk (by omega), fun k hk hk2 => absurd hk2 (by rw [HN.out]; omega)⟩, Lib.hid Array.getElem?_push_size, box_below _ _⟩
  case round =>
    obtain ⟨i, j, rfl, rfl, hF, hP, hbel⟩ := hrel
    have HB := Lib.hid hbel
    clear hbel
    have hij := hF.out.le.1
    have hjn : j ≤ n := by rw [← HN.out]; exact hF.out.le.2
    by_cases hlt2 : i < j
    · obtain ⟨m, hm⟩ : ∃ m : Nat, ((i : Int) + (j : Int)) / 2 = (m : Int) := ⟨(i + j) / 2, by omega⟩
      have hmi : i ≤ m := by omega
      have hmj : m < j := by omega
      obtain ⟨c0, c1⟩ := HV.out m (by rw [HN.out]; omega)
      obtain ⟨X, hX⟩ : ∃ X, Hid (fA fs m = X) := ⟨_, Lib.hid rfl⟩
      obtain ⟨Y, hY⟩ : ∃ Y, Hid (fV fs m = Y) := ⟨_, Lib.hid rfl⟩
      rw [hX.out] at c0
      rw [hY.out] at c1
      have T1 := Lib.hid (show Srch b (off + m * 2) X Y x y w wr from ⟨(HB.out.cell (p := ⟨b, off + m * 2, none⟩) hlt).trans c0, (HB.out.cell (p := ⟨b, off + m * 2 + 1, none⟩) hlt).trans c1, hP.out, HB.out, hlt⟩)
      have T2 := Lib.hid T1.out.drew
      clear c0 c1
      obtain ⟨q, hq⟩ : ∃ q, Hid (cmpI X x = q) := ⟨_, Lib.hid rfl⟩
      have KB := Lib.hid (fun w0 => byAddr_any X Y x y w0)
      unfold CmpIs at KB
      rw [hq.out] at KB
      have hmn : (m : Int) < (n : Int) := by omega
      have hm0 : (0 : Int) ≤ (m : Int) := by omega
      by_cases hc : X < x
      · have hqn : decide (q < 0) = true := by rw [← hq.out]; unfold cmpI; rw [if_pos hc]; rfl
        have HF2 := Lib.hid (hF.out.up m hmi hmj (fun k hk => by rcases Nat.lt_or_ge k m with h1 | h1
                                                                 · exact Int.lt_trans (HR.out k m h1 (by omega)) (by rw [hX.out]; exact hc)
                                                                 · obtain rfl : k = m := by omega
                                                                   rw [hX.out]; exact hc))
        clear hc
        go_upto_region 5 with fail
        obtain ⟨t0, t1, t2, t3⟩ := T1.out.four
        go_region_held3 (fun w' => w'.cell? ⟨b, off + m * 2, none⟩ = some (.int .u64 X) ∧ w'.cell? ⟨b, off + m * 2 + 1, none⟩ = some (.int .u64 Y) ∧ w'.cell? ⟨w.heap.size, 0, none⟩ = some (.int .u64 x) ∧ w'.cell? ⟨w.heap.size, 1, none⟩ = some (.int .u64 y))
          (first | exact T2.out.four | exact T1.out.four | exact T3.out.four)
          ((go_at_call 44; (with_reducible refine (KB.out _).mono ?_); rintro e' w2 ⟨rfl, hb⟩; have T3 := Lib.hid (T2.out.on hb); clear hb))
        go_wp2
        go_roundw
        case rel => exact ⟨m + 1, j, by go_num, rfl, HF2, Lib.hid T3.out.pair, T3.out.below⟩
        case measure => simp [intOf]; omega
      · have hqn : decide (q < 0) = false := by rw [← hq.out]; unfold cmpI; rw [if_neg hc]; split <;> rfl
        have HF2 := Lib.hid (hF.out.down m hmi hmj (fun k hk hkn => by rcases Nat.lt_or_ge m k with h1 | h1
                                                                       · have := HR.out m k h1 (by rw [← HN.out]; exact hkn)
                                                                         rw [hX.out] at this; omega
                                                                       · obtain rfl : k = m := by omega
                                                                         rw [hX.out]; omega))
        clear hc
        go_upto_region 5 with fail
        obtain ⟨t0, t1, t2, t3⟩ := T1.out.four
        go_region_held3 (fun w' => w'.cell? ⟨b, off + m * 2, none⟩ = some (.int .u64 X) ∧ w'.cell? ⟨b, off + m * 2 + 1, none⟩ = some (.int .u64 Y) ∧ w'.cell? ⟨w.heap.size, 0, none⟩ = some (.int .u64 x) ∧ w'.cell? ⟨w.heap.size, 1, none⟩ = some (.int .u64 y))
          (first | exact T2.out.four | exact T1.out.four | exact T3.out.four)
          ((go_at_call 44; (with_reducible refine (KB.out _).mono ?_); rintro e' w2 ⟨rfl, hb⟩; have T3 := Lib.hid (T2.out.on hb); clear hb))
        go_wp2
        go_roundw
        case rel => exact ⟨i, m, rfl, rfl, HF2, Lib.hid T3.out.pair, T3.out.below⟩
        case measure => simp [intOf]; omega
    · obtain rfl : i = j := by omega
      by_cases hin : i < n
      · obtain ⟨c0, c1⟩ := HV.out i (by rw [HN.out]; omega)
        obtain ⟨X, hX⟩ : ∃ X, Hid (fA fs i = X) := ⟨_, Lib.hid rfl⟩
        obtain ⟨Y, hY⟩ : ∃ Y, Hid (fV fs i = Y) := ⟨_, Lib.hid rfl⟩
        rw [hX.out] at c0
        rw [hY.out] at c1
        have T1 := Lib.hid (show Srch b (off + i * 2) X Y x y w wr from ⟨(HB.out.cell (p := ⟨b, off + i * 2, none⟩) hlt).trans c0, (HB.out.cell (p := ⟨b, off + i * 2 + 1, none⟩) hlt).trans c1, hP.out, HB.out, hlt⟩)
        have T2 := Lib.hid T1.out.drew
        clear c0 c1
        obtain ⟨q, hq⟩ : ∃ q, Hid (cmpI X x = q) := ⟨_, Lib.hid rfl⟩
        have HQ : Hid ((q == 0) = decide (X = x)) := Lib.hid (by rw [← hq.out]; unfold cmpI; split <;> (try split) <;> (first | (rw [decide_eq_true (by omega)]; rfl) | (rw [decide_eq_false (by omega)]; rfl)))
        have KB := Lib.hid (fun w0 => byAddr_any X Y x y w0)
        unfold CmpIs at KB
        rw [hq.out] at KB
        go_upto_region 8 with fail
        obtain ⟨t0, t1, t2, t3⟩ := T1.out.four
        go_region_held3 (fun w' => w'.cell? ⟨b, off + i * 2, none⟩ = some (.int .u64 X) ∧ w'.cell? ⟨b, off + i * 2 + 1, none⟩ = some (.int .u64 Y) ∧ w'.cell? ⟨w.heap.size, 0, none⟩ = some (.int .u64 x) ∧ w'.cell? ⟨w.heap.size, 1, none⟩ = some (.int .u64 y))
          (first | exact T2.out.four | exact T1.out.four | exact T3.out.four)
          ((go_at_call 44; (with_reducible refine (KB.out _).mono ?_); rintro e' w2 ⟨rfl, hb⟩; have T3 := Lib.hid (T2.out.on hb); clear hb))
        go_wp2
        go_ret2
        exact ⟨i, hF.out, by rw [HN.out, decide_eq_true hin, hX.out, HQ.out]; rfl, T3.out.below⟩
      · obtain rfl : i = n := by omega
        go_upto_region 8 with fail
        refine wp_region_still_tail 15 (by kernel_rfl) (by kernel_rfl) ?_
        simp only [List.take_succ_cons, List.take_zero, List.drop_succ_cons, List.drop_zero]
        iterate 15 (first | (refine wpStill_skip (by as_aux_lemma => kernel_rfl) ?_; simp only [Act.put, List.setIfInBounds_toArray, List.set_cons_succ, List.set_cons_zero]) | still_step)
        refine wpStill_nil ?_
        change wpList _ _ _ _ _ (World.drew _)
        go_wp2
        go_ret2
        exact ⟨i, hF.out, by rw [HN.out, decide_eq_false (Nat.lt_irrefl _)]; rfl, HB.out.drew⟩
end Go.Proofs.YtokhnjcbcpmmjaaGreat
namespace Go.Proofs.YtokhnjcbcpmmjaaGreat
set_option linter.unusedVariables false
set_option linter.unusedSimpArgs false
open Go.RowKit
attribute [local go_sem ↓] fold_E fold_SE

theorem valL_hit : ∀ (fs : List (Int × Int)) (x : Int) (i : Nat), i < fs.length → (∀ k, k < i → fA fs k ≠ x) → fA fs i = x → valL fs x = fV fs i
  | [], x, i, h, _, _ => by simp at h
  | p :: r, x, 0, _, _, h => by unfold valL; rw [if_pos (by simpa [fA] using h)]; simp [fV]
  | p :: r, x, i + 1, hi, hb, h => by
    unfold valL
    have h0 := hb 0 (by omega)
    rw [if_neg (by simpa [fA] using h0), valL_hit r x i (by simpa using hi) (fun k hk => by have := hb (k + 1) (by omega); simpa [fA] using this) (by simpa [fA] using h)]
    simp [fV]
theorem valL_miss : ∀ (fs : List (Int × Int)) (x : Int), (∀ k, k < fs.length → fA fs k ≠ x) → valL fs x = 0
  | [], _, _ => rfl
  | p :: r, x, h => by
    unfold valL
    have h0 := h 0 (by simp)
    rw [if_neg (by simpa [fA] using h0)]
    exact valL_miss r x (fun k hk => by have := h (k + 1) (by simpa using hk); simpa [fA] using this)
theorem rise_step {fs : List (Int × Int)} {n : Nat} (h : riseL fs n = true) (k : Nat) (hk : k + 1 < n) : fA fs k < fA fs (k + 1) := by
  have := all_at _ n h (k + 1) hk
  unfold riseAt at this
  simp at this
  exact this.2
theorem rise_lt {fs : List (Int × Int)} {n : Nat} (h : riseL fs n = true) : ∀ i j, i < j → j < n → fA fs i < fA fs j := by
  intro i j hij
  induction j with
  | zero => omega
  | succ j ih =>
    intro hj
    have h1 := rise_step h j hj
    rcases Nat.lt_or_ge i j with h2 | h2
    · exact Int.lt_trans (ih h2 (by omega)) h1
    · obtain rfl : i = j := by omega
      exact h1
theorem found_hit {fs : List (Int × Int)} {x : Int} {i : Nat} (h : Found fs x i i) (hi : i < fs.length) (hx : fA fs i = x) : valL fs x = fV fs i := valL_hit fs x i hi (fun k hk => by have := h.before k hk; omega) hx
theorem found_miss {fs : List (Int × Int)} {x : Int} {i : Nat} (h : Found fs x i i) (hr : ∀ i j, i < j → j < fs.length → fA fs i < fA fs j) (hi : ¬ (i < fs.length ∧ fA fs i = x)) : valL fs x = 0 := valL_miss fs x (fun k hk => by
  rcases Nat.lt_or_ge k i with h1 | h1
  · have := h.before k h1; omega
  · have h2 := h.behind k h1 hk
    rcases Nat.lt_or_ge i k with h3 | h3
    · have := hr i k h3 hk
      have := h.behind i (Nat.le_refl _) (by omega)
      omega
    · obtain rfl : i = k := by omega
      exact fun e => hi ⟨hk, e⟩)
def ValIs (w : World) (v : Int) (e : Ending) (w' : World) : Prop := e = .returned (.int .u64 v) ∧ Below w.heap.size w w'
theorem ValIs.mk {w w' : World} {v u : Int} (h : u = v) (hb : Below w.heap.size w w') : ValIs w u (.returned (.int .u64 v)) w' := ⟨by rw [h], hb⟩
theorem value_nil (a : Option Addr) (cp : Nat) (x : Int) (w : World) : Calls Tryz.prog 40 #[.slice a 0 cp, .int .u64 x] w fun e w' => ValIs w 0 e w' := by
  have KS := Lib.hid (fun y w0 => search_nil a cp x y w0)
  go_enter Tryz.func40, Tryz.ntmps40
  go_wp2_with (go_at_call 64; (with_reducible refine (KS.out _ _).mono ?_); rintro e' w1 ⟨i, _, rfl, hb⟩; have L1 := Lib.hid hb; clear hb; simp only [List.length_nil, Nat.not_lt_zero, decide_false, Bool.false_and])
  go_ret
  exact ⟨rfl, L1.out⟩
set_option maxRecDepth 100000 in
set_option maxHeartbeats 4000000 in
theorem value_some (fs : List (Int × Int)) (n b off cp : Nat) (x : Int) (w : World) (hn : fs.length = n) (hn60 : n ≤ 60) (h : CellsIn w b off fs) (hlt : b < w.heap.size) (hr : riseL fs n = true) :
    Calls Tryz.prog 40 #[.slice (some ⟨b, off, none⟩) n cp, .int .u64 x] w fun e w' => ValIs w (valL fs x) e w' := by
  have HV := Lib.hid h
  have HN := Lib.hid hn
  have HR := Lib.hid (rise_lt hr)
  have KS := Lib.hid (fun y => search_some fs n b off cp x y w hn hn60 h hlt (rise_lt hr))
  clear h hn hr
  go_enter Tryz.func40, Tryz.ntmps40
  go_upto_region 2 with (go_at_call 64; (with_reducible refine (KS.out _).mono ?_); rintro e' w1 ⟨i, hF, rfl, hb⟩; have L1 := Lib.hid hb; have HF := Lib.hid hF; clear hb hF; obtain ⟨r, hrr⟩ : ∃ r, Hid ((decide (i < fs.length) && decide (fA fs i = x)) = r) := ⟨_, Lib.hid rfl⟩; rw [hrr.out])
  cases r with
  | false =>
    have hno : Hid (valL fs x = 0) := Lib.hid (found_miss HF.out (by rw [HN.out]; exact HR.out) (fun hh => by have h3 := hrr.out; rw [decide_eq_true hh.1, decide_eq_true hh.2] at h3; cases h3))
    go_wp2
    go_ret
    exact ValIs.mk hno.out L1.out
  | true =>
    have h3 := hrr.out
    rw [Bool.and_eq_true, decide_eq_true_eq, decide_eq_true_eq] at h3
    have hyes : Hid (valL fs x = fV fs i) := Lib.hid (found_hit HF.out h3.1 h3.2)
    obtain ⟨c0, c1⟩ := HV.out i h3.1
    have hin : i < n := by rw [← HN.out]; exact h3.1
    have d1 := (L1.out.cell (p := ⟨b, off + i * 2 + 1, none⟩) hlt).trans c1
    clear c0 c1 h3
    go_wp2
    go_ret
    exact ValIs.mk hyes.out L1.out
theorem value_any (v : Value) (fs : List (Int × Int)) (x : Int) (w : World) (h : ReadsF w v fs) (hn : fs.length ≤ 60) (hr : riseL fs fs.length = true) : Calls Tryz.prog 40 #[v, .int .u64 x] w fun e w' => ValIs w (valL fs x) e w' := by
  rcases h with ⟨⟨a, c, rfl, _⟩, rfl⟩ | ⟨b, off, c, rfl, h1, h2, h3, h4⟩
  · exact value_nil a c x w
  · exact value_some fs fs.length b off c x w rfl hn h4 h3 hr
end Go.Proofs.YtokhnjcbcpmmjaaGreat
namespace Go.Proofs.YtokhnjcbcpmmjaaGreat
set_option linter.unusedVariables false
set_option linter.unusedSimpArgs false
open Go.RowKit
attribute [local go_sem ↓] fold_E fold_SE

/-- the events by number, in block g -/
structure AllIn (c : Cd) (g : Nat) (w : World) : Prop where
  blk : w.heap[g]? = some (.cells (flat ((allP c c.nh).map (·.1))).toArray 60 (0, 0))
  reads : ∀ n, n < c.N → EReads w (c.at n).1 (c.at n).2
  low : ∀ n, n < c.N → 0 ≤ (c.at n).1.addr
theorem AllIn.lt {c : Cd} {g : Nat} {w : World} (h : AllIn c g w) : g < w.heap.size := (Array.getElem?_eq_some_iff.1 h.blk).1
theorem AllIn.on {c : Cd} {g : Nat} {w w' : World} (h : AllIn c g w) (hb : Below w.heap.size w w') : AllIn c g w' :=
  ⟨(hb.block g h.lt).trans h.blk, fun n hn => (h.reads n hn).below hb, h.low⟩
theorem AllIn.evIn {c : Cd} {g : Nat} {w : World} (h : AllIn c g w) (n : Nat) (hn : n < c.N) : EvIn (c.at n).1 g (n * 14) w := by
  intro j v hv
  have he : ((allP c c.nh).map (·.1))[n]? = some (c.at n).1 := by rw [List.getElem?_map, c.at_mem n hn]; rfl
  have := flat_at _ n j _ v he (by unfold Ev.row; simpa using hv)
  rw [cell_of_row w g (n * 14 + j) _ _ _ h.blk]
  simpa using this
theorem AllIn.load {c : Cd} {g : Nat} {w : World} (h : AllIn c g w) (n : Nat) (hn : n < c.N) : (LoadE (.pointer (some ⟨g, n * 14, none⟩))).run Tryz.prog w = .ok (c.at n).1.V w := (h.evIn n hn).load
theorem AllIn.flat_ {c : Cd} {g : Nat} {w : World} (h : AllIn c g w) (n : Nat) (hn : n < c.N) : (c.at n).1.flat := (h.reads n hn).flat
/-- the rows' events read as they do, by number -/
theorem reads_of_harts {c : Cd} {a : Option Addr} {w : World} (h : HsAt c c.nh a w) (n : Nat) (hn : n < c.N) : EReads w (c.at n).1 (c.at n).2 ∧ 0 ≤ (c.at n).1.addr := by
  obtain ⟨k, j, hk, hj, rfl⟩ := num_of c.len c.nh n hn
  rw [c.at_is k j hk hj]
  obtain ⟨b, off, a2, c2, _, _, _, hr⟩ := h.row k hk
  obtain ⟨a3, c3, e, _, hr⟩ := hr
  rcases hr with h0 | ⟨b2, off2, _, hr⟩
  · omega
  · exact ⟨hr.reads j hj, hr.low j hj⟩
theorem AllIn.mk' {c : Cd} {a : Option Addr} {g : Nat} {w w' : World} (h : HsAt c c.nh a w) (hb : Below w.heap.size w w') (hg : w'.heap[g]? = some (.cells (flat ((allP c c.nh).map (·.1))).toArray 60 (0, 0))) : AllIn c g w' :=
  ⟨hg, fun n hn => (reads_of_harts h n hn).1.below hb, fun n hn => (reads_of_harts h n hn).2⟩
theorem cwithin_any (x m : Int) (w : World) : Calls Tryz.prog 26 #[.int .i64 x, .int .i64 m] w fun e w' => e = .returned (.bool (withinB x m)) ∧ w = w' := by
  unfold withinB
  by_cases h1 : 0 ≤ x
  · by_cases h2 : x < m
    · go_enter Tryz.func26, Tryz.ntmps26
      go_wp2
      go_ret
      exact ⟨by simp [h1, h2], rfl⟩
    · have h2' : decide (x < m) = false := by simpa using h2
      go_enter Tryz.func26, Tryz.ntmps26
      go_wp2
      go_ret
      exact ⟨by simp, rfl⟩
  · have h1' : decide (0 ≤ x) = false := by simpa using h1
    go_enter Tryz.func26, Tryz.ntmps26
    go_wp2
    go_ret
    exact ⟨by simp, rfl⟩
theorem cwithin_b (x m : Int) (b : Bool) (h : withinB x m = b) (w : World) : Calls Tryz.prog 26 #[.int .i64 x, .int .i64 m] w fun e w' => e = .returned (.bool b) ∧ w = w' := by rw [← h]; exact cwithin_any x m w
/-- a number's From, whatever it is -/
def findX (c : Cd) (n : Nat) (f : Int) : Bool :=
  if readsE (c.at n).1 = false then f == -1
  else if f = -1 then (c.at n).1.load == valL c.fs (c.at n).1.addr
  else if f = n ∨ withinB f c.N = false then false
  else writesE (c.at f.toNat).1 && ((c.at f.toNat).1.addr == (c.at n).1.addr && (c.at f.toNat).1.store == (c.at n).1.load)
theorem findB_is (c : Cd) (n : Nat) : findB c n = findX c n (atI c.fr n) := rfl
end Go.Proofs.YtokhnjcbcpmmjaaGreat
namespace Go.Proofs.YtokhnjcbcpmmjaaGreat
set_option linter.unusedVariables false
set_option linter.unusedSimpArgs false
open Go.RowKit
attribute [local go_sem ↓] fold_E fold_SE

/-- what finds stands on -/
structure Fd (c : Cd) (q : Cv) (g : Nat) (w : World) : Prop where
  all : AllIn c g w
  first : ReadsF w (.slice q.aF c.fs.length q.cF) c.fs
  fs60 : c.fs.length ≤ 60
  rise : riseL c.fs c.fs.length = true
  n60 : c.N ≤ 60
theorem Fd.on {c : Cd} {q : Cv} {g : Nat} {w w' : World} (h : Fd c q g w) (hb : Below w.heap.size w w') : Fd c q g w' := ⟨h.all.on hb, h.first.below hb, h.fs60, h.rise, h.n60⟩
/-- the boxes of finds: the candidate, the event -/
structure Fx (c : Cd) (q : Cv) (g : Nat) (e : Ev) (w W : World) : Prop where
  box : CdAt c q w.heap.size W
  ev : EvAt e (w.heap.size + 1) W
  below : Below w.heap.size w W
  here : Fd c q g w
theorem Fx.on {c : Cd} {q : Cv} {g : Nat} {e : Ev} {w W W2 : World} (h : Fx c q g e w W) (hb : Below W.heap.size W W2) : Fx c q g e w W2 := ⟨h.box.on hb, h.ev.on hb, h.below.trans (hb.mono h.below.size), h.here⟩
theorem Fx.fd {c : Cd} {q : Cv} {g : Nat} {e : Ev} {w W : World} (h : Fx c q g e w W) : Fd c q g W := h.here.on h.below
theorem Fx.start {c : Cd} {q : Cv} {g : Nat} {e : Ev} {w w1 : World} (h : Fd c q g w) (D1 : EvAt e (w.heap.size + 1) w1) (ho : ∀ j, j ≠ w.heap.size + 1 → w1.heap[j]? = ((w.alloc (.cells #[.slice q.aF c.fs.length q.cF, .slice q.aH c.nh q.cH, .slice q.aR c.fr.length q.cR, .slice q.aO c.od.length q.cO] 26)).alloc (.cells #[.int .i64 0, .int .i64 0, .int .i64 0, .int .u64 0, .int .u64 0, .int .u64 0, .bool false, .bool false, .int .i64 0, .int .i64 0, .int .i64 0, .slice none 0 0, .slice none 0 0, .slice none 0 0] 60)).heap[j]?)
    (hb : Below (w.heap.size + 1) ((w.alloc (.cells #[.slice q.aF c.fs.length q.cF, .slice q.aH c.nh q.cH, .slice q.aR c.fr.length q.cR, .slice q.aO c.od.length q.cO] 26)).alloc (.cells #[.int .i64 0, .int .i64 0, .int .i64 0, .int .u64 0, .int .u64 0, .int .u64 0, .bool false, .bool false, .int .i64 0, .int .i64 0, .int .i64 0, .slice none 0 0, .slice none 0 0, .slice none 0 0] 60)) w1) : Fx c q g e w w1 := by
  refine ⟨?_, D1, (two_below w _ _).trans (hb.mono (by omega)), h⟩
  have h0 := (CdAt.new c q w).on (box_below _ (.cells #[.int .i64 0, .int .i64 0, .int .i64 0, .int .u64 0, .int .u64 0, .int .u64 0, .bool false, .bool false, .int .i64 0, .int .i64 0, .int .i64 0, .slice none 0 0, .slice none 0 0, .slice none 0 0] 60))
  exact (ho w.heap.size (by omega)).trans h0
theorem Fx.three {c : Cd} {q : Cv} {g : Nat} {e : Ev} {w W : World} (h : Fx c q g e w W) : W.cell? ⟨w.heap.size + 1, 4, none⟩ = some (.int .u64 e.load) ∧ W.cell? ⟨w.heap.size, 0, none⟩ = some (.slice q.aF c.fs.length q.cF) ∧ W.cell? ⟨w.heap.size + 1, 3, none⟩ = some (.int .u64 e.addr) := by
  obtain ⟨_, _, _, _, g3, g4, _⟩ := h.ev.facts
  exact ⟨g4, h.box.facts.1, g3⟩
set_option maxRecDepth 100000 in
set_option maxHeartbeats 8000000 in
theorem finds_any (c : Cd) (q : Cv) (g n : Nat) (f : Int) (w : World) (h : Fd c q g w) (hn : n < c.N) : Calls Tryz.prog 73 #[cdV c q, .slice (some ⟨g, 0, none⟩) c.N c.N, .int .i64 (n : Int), .int .i64 f] w fun e w' => TellsIs w (findX c n f) e w' := by
  have H := Lib.hid h
  clear h
  have HB0 := Lib.hid (box_below w (.cells #[.slice q.aF c.fs.length q.cF, .slice q.aH c.nh q.cH, .slice q.aR c.fr.length q.cR, .slice q.aO c.od.length q.cO] 26))
  have cl := (H.out.on HB0.out).all.load n hn
  have hfl := Lib.hid (H.out.all.flat_ n hn)
  have HX := Lib.hid (show findX c n f = if readsE (c.at n).1 = false then f == -1
      else if f = -1 then (c.at n).1.load == valL c.fs (c.at n).1.addr
      else if f = n ∨ withinB f c.N = false then false
      else writesE (c.at f.toNat).1 && ((c.at f.toNat).1.addr == (c.at n).1.addr && (c.at f.toNat).1.store == (c.at n).1.load) from rfl)
  obtain ⟨e, he⟩ : ∃ e, Hid ((c.at n).1 = e) := ⟨_, Lib.hid rfl⟩
  rw [he.out] at cl hfl HX
  obtain ⟨N, hN⟩ : ∃ N, Hid (c.N = N) := ⟨_, Lib.hid rfl⟩
  rw [hN.out] at hn HX ⊢
  have KR := Lib.hid (fun b hb w0 => Reads_b e b hb w0)
  obtain ⟨r, hr⟩ : ∃ r, Hid (readsE e = r) := ⟨_, Lib.hid rfl⟩
  have KR2 := Lib.hid (KR.out r hr.out)
  rw [hr.out] at HX
  cases r with
  | false =>
    rw [if_pos rfl] at HX
    go_enter Tryz.func73, Tryz.ntmps73
    go_upto_region 2 with (refine store_ev (EvAt.new_at zeroEv _ (w.heap.size + 1) (by simp)) e hfl.out rfl (.tmp 9) (.tmp 14) rfl rfl rfl ?_; intro w1 D1 ho1 hb1 hz1; have S1 := Lib.hid (Fx.start H.out D1 ho1 hb1); clear D1 ho1 hb1 hz1)
    have cl1 := run_LoadE S1.out.ev
    clear cl
    go_wp2_with (go_at_call 94; (with_reducible refine (KR2.out _).mono ?_); rintro e' w2 ⟨rfl, hb⟩; have S2 := Lib.hid (S1.out.on hb); clear hb cl1)
    go_ret
    exact TellsIs.mk HX.out S2.out.below
  | true =>
    rw [if_neg (by simp)] at HX
    by_cases h1 : f = -1
    · rw [if_pos h1] at HX
      subst h1
      go_enter Tryz.func73, Tryz.ntmps73
      go_upto_region 2 with (refine store_ev (EvAt.new_at zeroEv _ (w.heap.size + 1) (by simp)) e hfl.out rfl (.tmp 9) (.tmp 14) rfl rfl rfl ?_; intro w1 D1 ho1 hb1 hz1; have S1 := Lib.hid (Fx.start H.out D1 ho1 hb1); clear D1 ho1 hb1 hz1)
      have cl1 := run_LoadE S1.out.ev
      clear cl
      go_upto_region 5 with (go_at_call 94; (with_reducible refine (KR2.out _).mono ?_); rintro e' w2 ⟨rfl, hb⟩; have S2 := Lib.hid (S1.out.on hb); clear hb cl1)
      have S3 := Lib.hid (S2.out.on (Below.refl _ _).drew)
      have KV := Lib.hid (fun w0 h0 => value_any (.slice q.aF c.fs.length q.cF) c.fs e.addr w0 h0 H.out.fs60 H.out.rise)
      obtain ⟨v, hv⟩ : ∃ v, Hid (valL c.fs e.addr = v) := ⟨_, Lib.hid rfl⟩
      rw [hv.out] at KV HX
      obtain ⟨u0, u1, u2⟩ := S2.out.three
      go_region_held3 (fun w' => w'.cell? ⟨w.heap.size + 1, 4, none⟩ = some (.int .u64 e.load) ∧ w'.cell? ⟨w.heap.size, 0, none⟩ = some (.slice q.aF c.fs.length q.cF) ∧ w'.cell? ⟨w.heap.size + 1, 3, none⟩ = some (.int .u64 e.addr))
        (first | exact S3.out.three | exact S2.out.three | exact S4.out.three)
        ((go_at_call 40; (with_reducible refine (KV.out _ S3.out.fd.first).mono ?_); rintro e' w3 ⟨rfl, hb⟩; have S4 := Lib.hid (S3.out.on hb); clear hb))
      go_wp2
      go_ret
      exact TellsIs.mk HX.out S4.out.below
    · rw [if_neg h1] at HX
      have h1' : (f == -1) = false := by simpa using h1
      clear h1
      by_cases h2 : f = n
      · rw [if_pos (.inl h2)] at HX
        have h2' : (f == (n : Int)) = true := by simpa using h2
        clear h2
        go_enter Tryz.func73, Tryz.ntmps73
        go_upto_region 2 with (refine store_ev (EvAt.new_at zeroEv _ (w.heap.size + 1) (by simp)) e hfl.out rfl (.tmp 9) (.tmp 14) rfl rfl rfl ?_; intro w1 D1 ho1 hb1 hz1; have S1 := Lib.hid (Fx.start H.out D1 ho1 hb1); clear D1 ho1 hb1 hz1)
        have cl1 := run_LoadE S1.out.ev
        clear cl
        go_wp2_with (go_at_call 94; (with_reducible refine (KR2.out _).mono ?_); rintro e' w2 ⟨rfl, hb⟩; have S2 := Lib.hid (S1.out.on hb); clear hb cl1)
        go_ret
        exact TellsIs.mk HX.out S2.out.below
      have h2' : (f == (n : Int)) = false := by simpa using h2
      obtain ⟨iw, hiw⟩ : ∃ iw, Hid (withinB f N = iw) := ⟨_, Lib.hid rfl⟩
      have KW := Lib.hid (fun w0 => cwithin_b f N iw hiw.out w0)
      cases iw with
      | false =>
        rw [if_pos (.inr hiw.out)] at HX
        clear h2
        go_enter Tryz.func73, Tryz.ntmps73
        go_upto_region 2 with (refine store_ev (EvAt.new_at zeroEv _ (w.heap.size + 1) (by simp)) e hfl.out rfl (.tmp 9) (.tmp 14) rfl rfl rfl ?_; intro w1 D1 ho1 hb1 hz1; have S1 := Lib.hid (Fx.start H.out D1 ho1 hb1); clear D1 ho1 hb1 hz1)
        have cl1 := run_LoadE S1.out.ev
        clear cl
        go_wp2_with (first
          | (go_at_call 94; (with_reducible refine (KR2.out _).mono ?_); rintro e' w2 ⟨rfl, hb⟩; have S2 := Lib.hid (S1.out.on hb); clear hb cl1)
          | (go_at_call 26; (with_reducible refine (KW.out _).mono ?_); rintro e' w3 ⟨rfl, rfl⟩))
        go_ret
        exact TellsIs.mk HX.out S2.out.below
      | true =>
        rw [if_neg (by rw [hiw.out]; simp [h2])] at HX
        have hfn := withinB_yes hiw.out
        obtain ⟨m, hm⟩ : ∃ m : Nat, f = m := ⟨f.toNat, by omega⟩
        subst hm
        have hmN : m < N := by omega
        rw [Int.toNat_natCast] at HX
        clear h2 hfn
        obtain ⟨d, hd⟩ : ∃ d, Hid ((c.at m).1 = d) := ⟨_, Lib.hid rfl⟩
        have hfd := Lib.hid (H.out.all.flat_ m (by rw [hN.out]; exact hmN))
        rw [hd.out] at HX hfd
        have KWr := Lib.hid (fun w0 => Writes_b d _ rfl w0)
        obtain ⟨wr, hwr⟩ : ∃ wr, Hid (writesE d = wr) := ⟨_, Lib.hid rfl⟩
        have KW2 : Hid (∀ w0, Calls Tryz.prog 65 #[d.V] w0 fun e' w' => AskIs w0 wr e' w') := Lib.hid (by rw [← hwr.out]; exact KWr.out)
        rw [hwr.out] at HX
        clear KWr
        go_enter Tryz.func73, Tryz.ntmps73
        go_upto_region 2 with (refine store_ev (EvAt.new_at zeroEv _ (w.heap.size + 1) (by simp)) e hfl.out rfl (.tmp 9) (.tmp 14) rfl rfl rfl ?_; intro w1 D1 ho1 hb1 hz1; have S1 := Lib.hid (Fx.start H.out D1 ho1 hb1); clear D1 ho1 hb1 hz1)
        have cl1 := run_LoadE S1.out.ev
        clear cl
        go_upto_region 8 with (first
          | (go_at_call 94; (with_reducible refine (KR2.out _).mono ?_); rintro e' w2 ⟨rfl, hb⟩; have S2 := Lib.hid (S1.out.on hb); clear hb cl1)
          | (go_at_call 26; (with_reducible refine (KW.out _).mono ?_); rintro e' w3 ⟨rfl, rfl⟩))
        have cd := S2.out.fd.all.load m (by rw [hN.out]; exact hmN)
        rw [hd.out] at cd
        go_upto_region 9 with (refine store_ev (EvAt.new zeroEv _) d hfd.out rfl (.tmp 10) (.tmp 46) rfl rfl rfl ?_; intro w4 D4 ho4 hb4 hz4; have X4 := Lib.hid D4; have S4 := Lib.hid (S2.out.on ((box_below w2 (.cells #[.int .i64 0, .int .i64 0, .int .i64 0, .int .u64 0, .int .u64 0, .int .u64 0, .bool false, .bool false, .int .i64 0, .int .i64 0, .int .i64 0, .slice none 0 0, .slice none 0 0, .slice none 0 0] 60)).trans hb4)); clear D4 ho4 hb4 hz4 cd)
        have cd4 := run_LoadE X4.out
        cases wr with
        | false =>
          rw [Bool.false_and] at HX
          go_wp2_with (go_at_call 65; (with_reducible refine (KW2.out _).mono ?_); rintro e' w5 ⟨rfl, hb⟩; have X5 := Lib.hid (X4.out.on hb); have S5 := Lib.hid (S4.out.on hb); clear hb cd4; obtain ⟨_, _, _, _, x3, _, x5, _⟩ := X5.out.facts; obtain ⟨_, _, _, _, y3, y4, _⟩ := S5.out.ev.facts)
          go_ret
          exact TellsIs.mk HX.out S5.out.below
        | true =>
          rw [Bool.true_and] at HX
          cases ha : (d.addr == e.addr) with
          | false =>
            rw [ha, Bool.false_and] at HX
            go_wp2_with (go_at_call 65; (with_reducible refine (KW2.out _).mono ?_); rintro e' w5 ⟨rfl, hb⟩; have X5 := Lib.hid (X4.out.on hb); have S5 := Lib.hid (S4.out.on hb); clear hb cd4; obtain ⟨_, _, _, _, x3, _, x5, _⟩ := X5.out.facts; obtain ⟨_, _, _, _, y3, y4, _⟩ := S5.out.ev.facts)
            go_ret
            exact TellsIs.mk HX.out S5.out.below
          | true =>
            rw [ha, Bool.true_and] at HX
            obtain ⟨b3, hb3⟩ : ∃ b3, Hid ((d.store == e.load) = b3) := ⟨_, Lib.hid rfl⟩
            rw [hb3.out] at HX
            go_wp2_with (go_at_call 65; (with_reducible refine (KW2.out _).mono ?_); rintro e' w5 ⟨rfl, hb⟩; have X5 := Lib.hid (X4.out.on hb); have S5 := Lib.hid (S4.out.on hb); clear hb cd4; obtain ⟨_, _, _, _, x3, _, x5, _⟩ := X5.out.facts; obtain ⟨_, _, _, _, y3, y4, _⟩ := S5.out.ev.facts)
            go_ret
            exact TellsIs.mk (HX.out.trans hb3.out.symm) S5.out.below
end Go.Proofs.YtokhnjcbcpmmjaaGreat
namespace Go.Proofs.YtokhnjcbcpmmjaaGreat
set_option linter.unusedVariables false
set_option linter.unusedSimpArgs false
open Go.RowKit
attribute [local go_sem ↓] fold_E fold_SE

def foundB (c : Cd) : Bool := decide (c.fr.length = c.N) && foundL c c.N
set_option maxRecDepth 100000 in
set_option maxHeartbeats 8000000 in
theorem found_lens (c : Cd) (q : Cv) (g : Nat) (w : World) (hl : c.fr.length ≠ c.N) : Calls Tryz.prog 56 #[cdV c q, .slice (some ⟨g, 0, none⟩) c.N c.N] w fun e w' => TellsIs w (foundB c) e w' := by
  have HX : Hid (foundB c = false) := Lib.hid (by unfold foundB; rw [decide_eq_false hl]; rfl)
  have HB0 := Lib.hid (box_below w (.cells #[.slice q.aF c.fs.length q.cF, .slice q.aH c.nh q.cH, .slice q.aR c.fr.length q.cR, .slice q.aO c.od.length q.cO] 26))
  have hne : ((c.fr.length : Int) != (c.N : Int)) = true := by simp; omega
  clear hl
  go_enter Tryz.func56, Tryz.ntmps56
  go_wp2
  go_ret
  exact TellsIs.mk HX.out HB0.out
set_option maxRecDepth 100000 in
set_option maxHeartbeats 8000000 in
theorem found_some (c : Cd) (q : Cv) (g b off : Nat) (w : World) (h : Fd c q g w) (hl : c.fr.length = c.N) (hq : q.aR = some ⟨b, off, none⟩) (hlt : b < w.heap.size) (hcell : ∀ j, j < c.fr.length → w.cell? ⟨b, off + j, none⟩ = some (.int .i64 (atI c.fr j))) :
    Calls Tryz.prog 56 #[cdV c q, .slice (some ⟨g, 0, none⟩) c.N c.N] w fun e w' => TellsIs w (foundB c) e w' := by
  have HX : Hid (foundB c = foundL c c.N) := Lib.hid (by unfold foundB; rw [decide_eq_true hl]; rfl)
  have H := Lib.hid h
  have HC := Lib.hid hcell
  have HB0 := Lib.hid (box_below w (.cells #[.slice q.aF c.fs.length q.cF, .slice q.aH c.nh q.cH, .slice q.aR c.fr.length q.cR, .slice q.aO c.od.length q.cO] 26))
  have KF := Lib.hid (fun n hn w0 h0 => finds_any c q g n (atI c.fr n) w0 h0 hn)
  have HN60 := h.n60
  obtain ⟨N, hN⟩ : ∃ N, Hid (c.N = N) := ⟨_, Lib.hid rfl⟩
  obtain ⟨fs, hfs⟩ : ∃ fs, Hid (c.fs.length = fs) := ⟨_, Lib.hid rfl⟩
  obtain ⟨nh, hnh⟩ : ∃ nh, Hid (c.nh = nh) := ⟨_, Lib.hid rfl⟩
  obtain ⟨od, hod⟩ : ∃ od, Hid (c.od.length = od) := ⟨_, Lib.hid rfl⟩
  clear h hcell
  unfold cdV at KF ⊢
  rw [hl] at HC
  rw [hN.out] at hl HX HN60 HC
  have HB1 := HB0
  rw [hl, hq, hfs.out, hnh.out, hod.out] at HB0
  rw [hl, hq, hN.out, hfs.out, hnh.out, hod.out] at KF
  rw [hl, hq, hN.out, hfs.out, hnh.out, hod.out]
  have HBox : Hid (∀ W, W.heap[w.heap.size]? = some (.cells #[.slice q.aF fs q.cF, .slice q.aH nh q.cH, .slice (some ⟨b, off, none⟩) N q.cR, .slice q.aO od q.cO] 26 (0, 0)) → CdAt c q w.heap.size W) := Lib.hid (fun W hW => by unfold CdAt; rw [hl, hq, hfs.out, hnh.out, hod.out]; exact hW)
  clear HB1
  go_enter Tryz.func56, Tryz.ntmps56
  go_wp2
  go_loopw [16] (fun vi wr => ∃ (j : Nat), j ≤ N ∧ vi = .int .i64 j ∧ Hid (foundL c j = true) ∧ Hid (wr.heap[w.heap.size]? = some (.cells #[.slice q.aF fs q.cF, .slice q.aH nh q.cH, .slice (some ⟨b, off, none⟩) N q.cR, .slice q.aO od q.cO] 26 (0, 0))) ∧ Below w.heap.size w wr) (fun vi _ => N - (intOf vi).toNat)
  case atStart => exact ⟨0, Nat.zero_le _, rfl, Lib.hid rfl, Lib.hid Array.getElem?_push_size, HB0.out⟩
  case round =>
    obtain ⟨j, hj, rfl, hR, hbx, hbel⟩ := hrel
    have HB := Lib.hid hbel
    clear hbel
    by_cases hlt2 : j < N
    · have d0 := (HB.out.cell (p := ⟨b, off + j, none⟩) hlt).trans (HC.out j hlt2)
      have hlb := Lib.hid (show w.heap.size < wr.heap.size from (Array.getElem?_eq_some_iff.1 hbx.out).1)
      have b0 : wr.cell? ⟨w.heap.size, 0, none⟩ = some (.slice q.aF fs q.cF) := by rw [cell_of_row wr _ 0 _ _ _ hbx.out]; rfl
      have b1 : wr.cell? ⟨w.heap.size, 1, none⟩ = some (.slice q.aH nh q.cH) := by rw [cell_of_row wr _ 1 _ _ _ hbx.out]; rfl
      have b2 : wr.cell? ⟨w.heap.size, 2, none⟩ = some (.slice (some ⟨b, off, none⟩) N q.cR) := by rw [cell_of_row wr _ 2 _ _ _ hbx.out]; rfl
      have b3 : wr.cell? ⟨w.heap.size, 3, none⟩ = some (.slice q.aO od q.cO) := by rw [cell_of_row wr _ 3 _ _ _ hbx.out]; rfl
      have KF2 := Lib.hid (KF.out j hlt2 wr (H.out.on HB.out))
      obtain ⟨F, hF⟩ : ∃ F, Hid (atI c.fr j = F) := ⟨_, Lib.hid rfl⟩
      obtain ⟨r, hr⟩ : ∃ r, Hid (findB c j = r) := ⟨_, Lib.hid rfl⟩
      rw [hF.out] at d0
      rw [← findB_is, hr.out, hF.out] at KF2
      cases r with
      | true =>
        have HY := Lib.hid (all_next (findB c) j hR.out hr.out)
        go_wp2_with (go_at_call 73; (with_reducible refine (KF2.out).mono ?_); rintro e' w2 ⟨rfl, hb⟩; have L2 := Lib.hid (HB.out.trans (hb.mono HB.out.size)); have X2 := Lib.hid ((hb.block _ hlb.out).trans hbx.out); clear hb)
        go_roundw
        case rel => exact ⟨j + 1, by omega, by go_num, HY, X2, L2.out⟩
        case measure => simp [intOf]; omega
      | false =>
        have HNo := Lib.hid (all_stop (findB c) j N hlt2 hr.out)
        go_wp2_with (go_at_call 73; (with_reducible refine (KF2.out).mono ?_); rintro e' w2 ⟨rfl, hb⟩; have L2 := Lib.hid (HB.out.trans (hb.mono HB.out.size)); clear hb)
        go_ret
        exact TellsIs.mk (HX.out.trans HNo.out) L2.out
    · obtain rfl : j = N := by omega
      go_wp2
      go_ret
      exact TellsIs.mk (HX.out.trans hR.out) HB.out
set_option maxRecDepth 100000 in
set_option maxHeartbeats 8000000 in
theorem found_zero (c : Cd) (q : Cv) (g : Nat) (w : World) (hl : c.fr.length = c.N) (h0 : c.N = 0) : Calls Tryz.prog 56 #[cdV c q, .slice (some ⟨g, 0, none⟩) c.N c.N] w fun e w' => TellsIs w (foundB c) e w' := by
  have HX : Hid (foundB c = true) := Lib.hid (by unfold foundB; rw [decide_eq_true hl, h0]; rfl)
  have HB0 := Lib.hid (box_below w (.cells #[.slice q.aF c.fs.length q.cF, .slice q.aH c.nh q.cH, .slice q.aR 0 q.cR, .slice q.aO c.od.length q.cO] 26))
  unfold cdV
  rw [hl, h0]
  clear hl h0
  go_enter Tryz.func56, Tryz.ntmps56
  go_wp2
  refine wp_loop_rounds 1 ?_
  rw [rounds_succ]
  go_wp2
  go_ret
  exact TellsIs.mk HX.out HB0.out
theorem found_any (c : Cd) (q : Cv) (g : Nat) (w : World) (h : Fd c q g w) (hr : ReadsI w (.slice q.aR c.fr.length q.cR) c.fr) : Calls Tryz.prog 56 #[cdV c q, .slice (some ⟨g, 0, none⟩) c.N c.N] w fun e w' => TellsIs w (foundB c) e w' := by
  by_cases hl : c.fr.length = c.N
  · rcases hr with ⟨_, h0⟩ | ⟨b, off, c2, e, _, _, h3, h4⟩
    · exact found_zero c q g w hl (by rw [← hl, h0]; rfl)
    · injection e with e1 e2 e3
      exact found_some c q g b off w h hl e1 h3 h4
  · exact found_lens c q g w hl
end Go.Proofs.YtokhnjcbcpmmjaaGreat
