/-
  Proved here: cand's value: what cells that rise have at an address; nothing that was there is changed. Condition: at most 60 cells, words.
  (With it: Proved here: cmp.Compare at words, cand's byAddr, slices.BinarySearchFunc at rising cells, cand's value: what cells that rise have at an address; nothing that was there is changed. Condition: at most 60 cells, words.)
-/
import Derived.Test.YtokhnjcbcpmmjaaCdRise
import Derived.Deep.RegionHeld3
namespace Go.Proofs.Ytokhnjcbcpmmjaa
set_option linter.unusedVariables false
set_option linter.unusedSimpArgs false
open Go.RowKit
attribute [local go_sem ↓] fold_E fold_SE
attribute [local irreducible] wpStill

def cmpI (x y : Int) : Int := if x < y then -1 else if y < x then 1 else 0
theorem isNaN_any (x : Int) (w : World) : Calls Try.prog 51 #[.int .u64 x] w fun e w' => e = .returned (.bool false) ∧ w = w' := by
  go_enter Try.func51, Try.ntmps51
  go_wp2
  go_ret
  exact ⟨by simp, rfl⟩
theorem compare_any (x y : Int) (w : World) : Calls Try.prog 32 #[.int .u64 x, .int .u64 y] w fun e w' => e = .returned (.int .i64 (cmpI x y)) ∧ w = w' := by
  unfold cmpI
  by_cases h1 : x < y
  · rw [if_pos h1]
    go_enter Try.func32, Try.ntmps32
    go_wp2_with (go_at_call 51; (with_reducible refine (isNaN_any _ _).mono ?_); rintro e' w1 ⟨rfl, rfl⟩)
    go_ret
    exact ⟨rfl, rfl⟩
  · rw [if_neg h1]
    have h1' : decide (x < y) = false := by simpa using h1
    by_cases h2 : y < x
    · rw [if_pos h2]
      go_enter Try.func32, Try.ntmps32
      go_wp2_with (go_at_call 51; (with_reducible refine (isNaN_any _ _).mono ?_); rintro e' w1 ⟨rfl, rfl⟩)
      go_ret
      exact ⟨rfl, rfl⟩
    · rw [if_neg h2]
      have h2' : decide (y < x) = false := by simpa using h2
      go_enter Try.func32, Try.ntmps32
      go_wp2_with (go_at_call 51; (with_reducible refine (isNaN_any _ _).mono ?_); rintro e' w1 ⟨rfl, rfl⟩)
      go_ret
      exact ⟨rfl, rfl⟩
def CmpIs (w : World) (x y : Int) (e : Ending) (w' : World) : Prop := e = .returned (.int .i64 (cmpI x y)) ∧ Below w.heap.size w w'
theorem byAddr_any (x1 y1 x2 y2 : Int) (w : World) : Calls Try.prog 19 #[.agg #[.int .u64 x1, .int .u64 y1], .agg #[.int .u64 x2, .int .u64 y2]] w fun e w' => CmpIs w x1 x2 e w' := by
  have HB := Lib.hid (two_below w (.cells #[.int .u64 x1, .int .u64 y1] 35) (.cells #[.int .u64 x2, .int .u64 y2] 35))
  go_enter Try.func19, Try.ntmps19
  go_wp2_with (go_at_call 32; (with_reducible refine (compare_any _ _ _).mono ?_); rintro e' w1 ⟨rfl, rfl⟩)
  go_ret
  exact ⟨rfl, HB.out⟩
/-- what the search has found -/
structure Found (fs : List (Int × Int)) (x : Int) (i j : Nat) : Prop where
  le : i ≤ j ∧ j ≤ fs.length
  before : ∀ k, k < i → fA fs k < x
  behind : ∀ k, j ≤ k → k < fs.length → x ≤ fA fs k
def SearchIs (fs : List (Int × Int)) (x : Int) (w : World) (e : Ending) (w' : World) : Prop := ∃ i, Found fs x i i ∧ e = .returned (.tuple #[.int .i64 (i : Int), .bool (decide (i < fs.length) && decide (fA fs i = x))]) ∧ Below w.heap.size w w'
theorem Found.up {fs : List (Int × Int)} {x : Int} {i j : Nat} (h : Found fs x i j) (m : Nat) (_ : i ≤ m) (h2 : m < j) (hb : ∀ k, k ≤ m → fA fs k < x) : Found fs x (m + 1) j := ⟨⟨h2, h.le.2⟩, fun k hk => hb k (by omega), h.behind⟩
theorem Found.down {fs : List (Int × Int)} {x : Int} {i j : Nat} (h : Found fs x i j) (m : Nat) (h1 : i ≤ m) (h2 : m < j) (hb : ∀ k, m ≤ k → k < fs.length → x ≤ fA fs k) : Found fs x i m := ⟨⟨h1, by have := h.le.2; omega⟩, h.before, hb⟩
/-- a cell of the row, and the one looked for -/
structure Srch (b o : Nat) (X Y x y : Int) (w wr : World) : Prop where
  c0 : wr.cell? ⟨b, o, none⟩ = some (.int .u64 X)
  c1 : wr.cell? ⟨b, o + 1, none⟩ = some (.int .u64 Y)
  pair : PairAt x y w.heap.size wr
  below : Below w.heap.size w wr
  lt : b < w.heap.size
theorem Srch.on {b o : Nat} {X Y x y : Int} {w wr w2 : World} (h : Srch b o X Y x y w wr) (hb : Below wr.heap.size wr w2) : Srch b o X Y x y w w2 :=
  have hl : b < wr.heap.size := Nat.lt_of_lt_of_le h.lt h.below.size
  ⟨(hb.cell (p := ⟨b, o, none⟩) hl).trans h.c0, (hb.cell (p := ⟨b, o + 1, none⟩) hl).trans h.c1, (hb.block _ h.pair.lt).trans h.pair, h.below.trans (hb.mono h.below.size), h.lt⟩
theorem Srch.drew {b o : Nat} {X Y x y : Int} {w wr : World} (h : Srch b o X Y x y w wr) : Srch b o X Y x y w wr.drew := h.on (Below.refl _ _).drew
theorem Srch.four {b o : Nat} {X Y x y : Int} {w wr : World} (h : Srch b o X Y x y w wr) : wr.cell? ⟨b, o, none⟩ = some (.int .u64 X) ∧ wr.cell? ⟨b, o + 1, none⟩ = some (.int .u64 Y) ∧ wr.cell? ⟨w.heap.size, 0, none⟩ = some (.int .u64 x) ∧ wr.cell? ⟨w.heap.size, 1, none⟩ = some (.int .u64 y) := ⟨h.c0, h.c1, h.pair.facts.1, h.pair.facts.2⟩
theorem search_nil (a : Option Addr) (cp : Nat) (x y : Int) (w : World) : Calls Try.prog 65 #[.slice a 0 cp, .agg #[.int .u64 x, .int .u64 y], .func (.func 19) #[] #[]] w fun e w' => SearchIs [] x w e w' := by
  go_enter Try.func65, Try.ntmps65
  go_wp2
  refine wp_loop_rounds 1 ?_
  rw [rounds_succ]
  go_upto_region 8 with fail
  go_name_world W hW
  have BW : Hid (Below w.heap.size w W) := Lib.hid (by rw [← hW]; exact box_below _ _)
  clear hW
  refine wp_region_still_tail 15 (by kernel_rfl) (by kernel_rfl) ?_
  simp only [List.take_succ_cons, List.take_zero, List.drop_succ_cons, List.drop_zero]
  iterate 15 (first | (refine wpStill_skip (by as_aux_lemma => kernel_rfl) ?_; simp only [Act.put, List.setIfInBounds_toArray, List.set_cons_succ, List.set_cons_zero]) | still_step)
  refine wpStill_nil ?_
  change wpList _ _ _ _ _ (World.drew _)
  go_wp2
  go_ret2
  exact ⟨0, ⟨⟨Nat.le_refl _, Nat.le_refl _⟩, fun k hk => absurd hk (by omega), fun k _ hk => absurd hk (by simp)⟩, rfl, BW.out.drew⟩
set_option maxRecDepth 100000 in
set_option maxHeartbeats 8000000 in
theorem search_some (fs : List (Int × Int)) (n b off cp : Nat) (x y : Int) (w : World) (hn : fs.length = n) (hn60 : n ≤ 60) (h : CellsIn w b off fs) (hlt : b < w.heap.size) (hr : ∀ i j, i < j → j < n → fA fs i < fA fs j) :
    Calls Try.prog 65 #[.slice (some ⟨b, off, none⟩) n cp, .agg #[.int .u64 x, .int .u64 y], .func (.func 19) #[] #[]] w fun e w' => SearchIs fs x w e w' := by
  have HV := Lib.hid h
  have HN := Lib.hid hn
  have HR := Lib.hid hr
  clear h hn hr
  go_enter Try.func65, Try.ntmps65
  go_wp2
  go_loopw [9, 10] (fun vi vj wr => ∃ (i j : Nat), vi = .int .i64 i ∧ vj = .int .i64 j ∧ Hid (Found fs x i j) ∧ Hid (PairAt x y w.heap.size wr) ∧ Below w.heap.size w wr) (fun vi vj _ => (intOf vj).toNat - (intOf vi).toNat)
  case atStart => exact ⟨0, n, rfl, rfl, Lib.hid ⟨⟨Nat.zero_le _, Nat.le_of_eq HN.out.symm⟩, fun k hk => absurd hk (by omega), fun k hk hk2 => absurd hk2 (by rw [HN.out]; omega)⟩, Lib.hid Array.getElem?_push_size, box_below _ _⟩
  case round =>
    obtain ⟨i, j, rfl, rfl, hF, hP, hbel⟩ := hrel
    have HB := Lib.hid hbel
    clear hbel
    have hij := hF.out.le.1
    have hjn : j ≤ n := by rw [← HN.out]; exact hF.out.le.2
    by_cases hlt2 : i < j
    · obtain ⟨m, hm⟩ : ∃ m : Nat, ((i : Int) + (j : Int)) / 2 = (m : Int) := ⟨(i + j) / 2, by omega⟩
      have hmi : i ≤ m := by omega
      have hmj : m < j := by omega
      obtain ⟨c0, c1⟩ := HV.out m (by rw [HN.out]; omega)
      obtain ⟨X, hX⟩ : ∃ X, Hid (fA fs m = X) := ⟨_, Lib.hid rfl⟩
      obtain ⟨Y, hY⟩ : ∃ Y, Hid (fV fs m = Y) := ⟨_, Lib.hid rfl⟩
      rw [hX.out] at c0
      rw [hY.out] at c1
      have T1 := Lib.hid (show Srch b (off + m * 2) X Y x y w wr from ⟨(HB.out.cell (p := ⟨b, off + m * 2, none⟩) hlt).trans c0, (HB.out.cell (p := ⟨b, off + m * 2 + 1, none⟩) hlt).trans c1, hP.out, HB.out, hlt⟩)
      have T2 := Lib.hid T1.out.drew
      clear c0 c1
      obtain ⟨q, hq⟩ : ∃ q, Hid (cmpI X x = q) := ⟨_, Lib.hid rfl⟩
      have KB := Lib.hid (fun w0 => byAddr_any X Y x y w0)
      unfold CmpIs at KB
      rw [hq.out] at KB
      have hmn : (m : Int) < (n : Int) := by omega
      have hm0 : (0 : Int) ≤ (m : Int) := by omega
      by_cases hc : X < x
      · have hqn : decide (q < 0) = true := by rw [← hq.out]; unfold cmpI; rw [if_pos hc]; rfl
        have HF2 := Lib.hid (hF.out.up m hmi hmj (fun k hk => by rcases Nat.lt_or_ge k m with h1 | h1
                                                                 · exact Int.lt_trans (HR.out k m h1 (by omega)) (by rw [hX.out]; exact hc)
                                                                 · obtain rfl : k = m := by omega
                                                                   rw [hX.out]; exact hc))
        clear hc
        go_upto_region 5 with fail
        obtain ⟨t0, t1, t2, t3⟩ := T1.out.four
        go_region_held3 (fun w' => w'.cell? ⟨b, off + m * 2, none⟩ = some (.int .u64 X) ∧ w'.cell? ⟨b, off + m * 2 + 1, none⟩ = some (.int .u64 Y) ∧ w'.cell? ⟨w.heap.size, 0, none⟩ = some (.int .u64 x) ∧ w'.cell? ⟨w.heap.size, 1, none⟩ = some (.int .u64 y))
          (first | exact T2.out.four | exact T1.out.four | exact T3.out.four)
          ((go_at_call 19; (with_reducible refine (KB.out _).mono ?_); rintro e' w2 ⟨rfl, hb⟩; have T3 := Lib.hid (T2.out.on hb); clear hb))
        go_wp2
        go_roundw
        case rel => exact ⟨m + 1, j, by go_num, rfl, HF2, Lib.hid T3.out.pair, T3.out.below⟩
        case measure => simp [intOf]; omega
      · have hqn : decide (q < 0) = false := by rw [← hq.out]; unfold cmpI; rw [if_neg hc]; split <;> rfl
        have HF2 := Lib.hid (hF.out.down m hmi hmj (fun k hk hkn => by rcases Nat.lt_or_ge m k with h1 | h1
                                                                       · have := HR.out m k h1 (by rw [← HN.out]; exact hkn)
                                                                         rw [hX.out] at this; omega
                                                                       · obtain rfl : k = m := by omega
                                                                         rw [hX.out]; omega))
        clear hc
        go_upto_region 5 with fail
        obtain ⟨t0, t1, t2, t3⟩ := T1.out.four
        go_region_held3 (fun w' => w'.cell? ⟨b, off + m * 2, none⟩ = some (.int .u64 X) ∧ w'.cell? ⟨b, off + m * 2 + 1, none⟩ = some (.int .u64 Y) ∧ w'.cell? ⟨w.heap.size, 0, none⟩ = some (.int .u64 x) ∧ w'.cell? ⟨w.heap.size, 1, none⟩ = some (.int .u64 y))
          (first | exact T2.out.four | exact T1.out.four | exact T3.out.four)
          ((go_at_call 19; (with_reducible refine (KB.out _).mono ?_); rintro e' w2 ⟨rfl, hb⟩; have T3 := Lib.hid (T2.out.on hb); clear hb))
        go_wp2
        go_roundw
        case rel => exact ⟨i, m, rfl, rfl, HF2, Lib.hid T3.out.pair, T3.out.below⟩
        case measure => simp [intOf]; omega
    · obtain rfl : i = j := by omega
      by_cases hin : i < n
      · obtain ⟨c0, c1⟩ := HV.out i (by rw [HN.out]; omega)
        obtain ⟨X, hX⟩ : ∃ X, Hid (fA fs i = X) := ⟨_, Lib.hid rfl⟩
        obtain ⟨Y, hY⟩ : ∃ Y, Hid (fV fs i = Y) := ⟨_, Lib.hid rfl⟩
        rw [hX.out] at c0
        rw [hY.out] at c1
        have T1 := Lib.hid (show Srch b (off + i * 2) X Y x y w wr from ⟨(HB.out.cell (p := ⟨b, off + i * 2, none⟩) hlt).trans c0, (HB.out.cell (p := ⟨b, off + i * 2 + 1, none⟩) hlt).trans c1, hP.out, HB.out, hlt⟩)
        have T2 := Lib.hid T1.out.drew
        clear c0 c1
        obtain ⟨q, hq⟩ : ∃ q, Hid (cmpI X x = q) := ⟨_, Lib.hid rfl⟩
        have HQ : Hid ((q == 0) = decide (X = x)) := Lib.hid (by rw [← hq.out]; unfold cmpI; split <;> (try split) <;> (first | (rw [decide_eq_true (by omega)]; rfl) | (rw [decide_eq_false (by omega)]; rfl)))
        have KB := Lib.hid (fun w0 => byAddr_any X Y x y w0)
        unfold CmpIs at KB
        rw [hq.out] at KB
        go_upto_region 8 with fail
        obtain ⟨t0, t1, t2, t3⟩ := T1.out.four
        go_region_held3 (fun w' => w'.cell? ⟨b, off + i * 2, none⟩ = some (.int .u64 X) ∧ w'.cell? ⟨b, off + i * 2 + 1, none⟩ = some (.int .u64 Y) ∧ w'.cell? ⟨w.heap.size, 0, none⟩ = some (.int .u64 x) ∧ w'.cell? ⟨w.heap.size, 1, none⟩ = some (.int .u64 y))
          (first | exact T2.out.four | exact T1.out.four | exact T3.out.four)
          ((go_at_call 19; (with_reducible refine (KB.out _).mono ?_); rintro e' w2 ⟨rfl, hb⟩; have T3 := Lib.hid (T2.out.on hb); clear hb))
        go_wp2
        go_ret2
        exact ⟨i, hF.out, by rw [HN.out, decide_eq_true hin, hX.out, HQ.out]; rfl, T3.out.below⟩
      · obtain rfl : i = n := by omega
        go_upto_region 8 with fail
        refine wp_region_still_tail 15 (by kernel_rfl) (by kernel_rfl) ?_
        simp only [List.take_succ_cons, List.take_zero, List.drop_succ_cons, List.drop_zero]
        iterate 15 (first | (refine wpStill_skip (by as_aux_lemma => kernel_rfl) ?_; simp only [Act.put, List.setIfInBounds_toArray, List.set_cons_succ, List.set_cons_zero]) | still_step)
        refine wpStill_nil ?_
        change wpList _ _ _ _ _ (World.drew _)
        go_wp2
        go_ret2
        exact ⟨i, hF.out, by rw [HN.out, decide_eq_false (Nat.lt_irrefl _)]; rfl, HB.out.drew⟩
end Go.Proofs.Ytokhnjcbcpmmjaa
namespace Go.Proofs.Ytokhnjcbcpmmjaa
set_option linter.unusedVariables false
set_option linter.unusedSimpArgs false
open Go.RowKit
attribute [local go_sem ↓] fold_E fold_SE

theorem valL_hit : ∀ (fs : List (Int × Int)) (x : Int) (i : Nat), i < fs.length → (∀ k, k < i → fA fs k ≠ x) → fA fs i = x → valL fs x = fV fs i
  | [], x, i, h, _, _ => by simp at h
  | p :: r, x, 0, _, _, h => by unfold valL; rw [if_pos (by simpa [fA] using h)]; simp [fV]
  | p :: r, x, i + 1, hi, hb, h => by
    unfold valL
    have h0 := hb 0 (by omega)
    rw [if_neg (by simpa [fA] using h0), valL_hit r x i (by simpa using hi) (fun k hk => by have := hb (k + 1) (by omega); simpa [fA] using this) (by simpa [fA] using h)]
    simp [fV]
theorem valL_miss : ∀ (fs : List (Int × Int)) (x : Int), (∀ k, k < fs.length → fA fs k ≠ x) → valL fs x = 0
  | [], _, _ => rfl
  | p :: r, x, h => by
    unfold valL
    have h0 := h 0 (by simp)
    rw [if_neg (by simpa [fA] using h0)]
    exact valL_miss r x (fun k hk => by have := h (k + 1) (by simpa using hk); simpa [fA] using this)
theorem rise_step {fs : List (Int × Int)} {n : Nat} (h : riseL fs n = true) (k : Nat) (hk : k + 1 < n) : fA fs k < fA fs (k + 1) := by
  have := all_at _ n h (k + 1) hk
  unfold riseAt at this
  simp at this
  exact this.2
theorem rise_lt {fs : List (Int × Int)} {n : Nat} (h : riseL fs n = true) : ∀ i j, i < j → j < n → fA fs i < fA fs j := by
  intro i j hij
  induction j with
  | zero => omega
  | succ j ih =>
    intro hj
    have h1 := rise_step h j hj
    rcases Nat.lt_or_ge i j with h2 | h2
    · exact Int.lt_trans (ih h2 (by omega)) h1
    · obtain rfl : i = j := by omega
      exact h1
theorem found_hit {fs : List (Int × Int)} {x : Int} {i : Nat} (h : Found fs x i i) (hi : i < fs.length) (hx : fA fs i = x) : valL fs x = fV fs i := valL_hit fs x i hi (fun k hk => by have := h.before k hk; omega) hx
theorem found_miss {fs : List (Int × Int)} {x : Int} {i : Nat} (h : Found fs x i i) (hr : ∀ i j, i < j → j < fs.length → fA fs i < fA fs j) (hi : ¬ (i < fs.length ∧ fA fs i = x)) : valL fs x = 0 := valL_miss fs x (fun k hk => by
  rcases Nat.lt_or_ge k i with h1 | h1
  · have := h.before k h1; omega
  · have h2 := h.behind k h1 hk
    rcases Nat.lt_or_ge i k with h3 | h3
    · have := hr i k h3 hk
      have := h.behind i (Nat.le_refl _) (by omega)
      omega
    · obtain rfl : i = k := by omega
      exact fun e => hi ⟨hk, e⟩)
def ValIs (w : World) (v : Int) (e : Ending) (w' : World) : Prop := e = .returned (.int .u64 v) ∧ Below w.heap.size w w'
theorem ValIs.mk {w w' : World} {v u : Int} (h : u = v) (hb : Below w.heap.size w w') : ValIs w u (.returned (.int .u64 v)) w' := ⟨by rw [h], hb⟩
theorem value_nil (a : Option Addr) (cp : Nat) (x : Int) (w : World) : Calls Try.prog 55 #[.slice a 0 cp, .int .u64 x] w fun e w' => ValIs w 0 e w' := by
  have KS := Lib.hid (fun y w0 => search_nil a cp x y w0)
  go_enter Try.func55, Try.ntmps55
  go_wp2_with (go_at_call 65; (with_reducible refine (KS.out _ _).mono ?_); rintro e' w1 ⟨i, _, rfl, hb⟩; have L1 := Lib.hid hb; clear hb; simp only [List.length_nil, Nat.not_lt_zero, decide_false, Bool.false_and])
  go_ret
  exact ⟨rfl, L1.out⟩
set_option maxRecDepth 100000 in
set_option maxHeartbeats 4000000 in
theorem value_some (fs : List (Int × Int)) (n b off cp : Nat) (x : Int) (w : World) (hn : fs.length = n) (hn60 : n ≤ 60) (h : CellsIn w b off fs) (hlt : b < w.heap.size) (hr : riseL fs n = true) :
    Calls Try.prog 55 #[.slice (some ⟨b, off, none⟩) n cp, .int .u64 x] w fun e w' => ValIs w (valL fs x) e w' := by
  have HV := Lib.hid h
  have HN := Lib.hid hn
  have HR := Lib.hid (rise_lt hr)
  have KS := Lib.hid (fun y => search_some fs n b off cp x y w hn hn60 h hlt (rise_lt hr))
  clear h hn hr
  go_enter Try.func55, Try.ntmps55
  go_upto_region 2 with (go_at_call 65; (with_reducible refine (KS.out _).mono ?_); rintro e' w1 ⟨i, hF, rfl, hb⟩; have L1 := Lib.hid hb; have HF := Lib.hid hF; clear hb hF; obtain ⟨r, hrr⟩ : ∃ r, Hid ((decide (i < fs.length) && decide (fA fs i = x)) = r) := ⟨_, Lib.hid rfl⟩; rw [hrr.out])
  cases r with
  | false =>
    have hno : Hid (valL fs x = 0) := Lib.hid (found_miss HF.out (by rw [HN.out]; exact HR.out) (fun hh => by have h3 := hrr.out; rw [decide_eq_true hh.1, decide_eq_true hh.2] at h3; cases h3))
    go_wp2
    go_ret
    exact ValIs.mk hno.out L1.out
  | true =>
    have h3 := hrr.out
    rw [Bool.and_eq_true, decide_eq_true_eq, decide_eq_true_eq] at h3
    have hyes : Hid (valL fs x = fV fs i) := Lib.hid (found_hit HF.out h3.1 h3.2)
    obtain ⟨c0, c1⟩ := HV.out i h3.1
    have hin : i < n := by rw [← HN.out]; exact h3.1
    have d1 := (L1.out.cell (p := ⟨b, off + i * 2 + 1, none⟩) hlt).trans c1
    clear c0 c1 h3
    go_wp2
    go_ret
    exact ValIs.mk hyes.out L1.out
theorem value_any (v : Value) (fs : List (Int × Int)) (x : Int) (w : World) (h : ReadsF w v fs) (hn : fs.length ≤ 60) (hr : riseL fs fs.length = true) : Calls Try.prog 55 #[v, .int .u64 x] w fun e w' => ValIs w (valL fs x) e w' := by
  rcases h with ⟨⟨a, c, rfl, _⟩, rfl⟩ | ⟨b, off, c, rfl, h1, h2, h3, h4⟩
  · exact value_nil a c x w
  · exact value_some fs fs.length b off c x w rfl hn h4 h3 hr
end Go.Proofs.Ytokhnjcbcpmmjaa
