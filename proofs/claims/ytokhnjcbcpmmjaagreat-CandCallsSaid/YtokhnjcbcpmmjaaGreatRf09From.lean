/-
  Proved here: the document's from tells whether a number's From may be this one; nothing that was there is changed. Condition: a list of all events as the candidate has them, their lists anywhere.
  (With it: Proved here: the document's Cells tells whether cells stand at doubles, rising; its first gives what cells have at an address; nothing that was there is changed. Condition: words.)
-/
import Derived.Test.YtokhnjcbcpmmjaaGreatCdFound
import Derived.Test.YtokhnjcbcpmmjaaGreatRf07Below
import Derived.Test.YtokhnjcbcpmmjaaGreatCdFew
import Derived.Test.YtokhnjcbcpmmjaaGreatEvRowsArg
namespace Go.Proofs.YtokhnjcbcpmmjaaGreat
set_option linter.unusedVariables false
set_option linter.unusedSimpArgs false
open Go.RowKit
attribute [local go_sem ↓] fold_E fold_SE
attribute [local irreducible] wpStill

theorem rcells_none (a : Option Addr) (cp : Nat) (w : World) : Calls Tryz.prog 29 #[.slice a 0 cp] w fun e w' => SaysB w true e w' := by
  go_enter Tryz.func29, Tryz.ntmps29
  go_wp2
  refine wp_loop_rounds 1 ?_
  rw [rounds_succ]
  go_wp2
  go_ret
  exact ⟨rfl, Below.refl _ _⟩
set_option maxRecDepth 100000 in
set_option maxHeartbeats 8000000 in
theorem rcells_some (fs : List (Int × Int)) (n b off cp : Nat) (w : World) (hn : fs.length = n) (hn60 : n ≤ 100000) (h : CellsIn w b off fs) (hlt : b < w.heap.size) (hw : ∀ j, j < n → 0 ≤ fA fs j) :
    Calls Tryz.prog 29 #[.slice (some ⟨b, off, none⟩) n cp] w fun e w' => SaysB w (riseL fs n) e w' := by
  have HV := Lib.hid h
  have HN := Lib.hid hn
  clear h hn
  go_enter Tryz.func29, Tryz.ntmps29
  go_wp2
  go_loopw [3] (fun vi wr => ∃ (j : Nat), j ≤ n ∧ vi = .int .i64 j ∧ Hid (riseL fs j = true) ∧ Hid (Below w.heap.size w wr)) (fun vi _ => n - (intOf vi).toNat)
  case atStart => exact ⟨0, Nat.zero_le _, rfl, Lib.hid rfl, Lib.hid (Below.refl _ _)⟩
  case round =>
    obtain ⟨j, hj, rfl, hR, HB⟩ := hrel
    by_cases hj2 : j < n
    · have d0 := (HB.out.cell (p := ⟨b, off + j * 2, none⟩) hlt).trans (HV.out j (by rw [HN.out]; exact hj2)).1
      obtain ⟨x, hx⟩ : ∃ x, Hid (fA fs j = x) := ⟨_, Lib.hid rfl⟩
      have hx0 := hw j hj2
      have HS := Lib.hid (show riseAt fs j = (decide (fA fs j % 8 = 0) && (j == 0 || decide (fA fs (j - 1) < fA fs j))) from rfl)
      rw [hx.out] at d0 hx0 HS
      have HT := Lib.hid (Int.tmod_eq_emod_of_nonneg (b := 8) hx0)
      have HZ := Lib.hid (all_stop (riseAt fs) j n hj2)
      have HY := Lib.hid (all_next (riseAt fs) j hR.out)
      have hj0 : (0 : Int) ≤ (j : Int) := by omega
      have hj1 : (j : Int) < (n : Int) := by omega
      by_cases h8 : x % 8 = 0
      rotate_left
      · have hr : (x.tmod 8 != 0) = true := by rw [HT.out]; simpa using h8
        have hr' : (x % 8 != 0) = true := by simpa using h8
        have hno : Hid (riseL fs n = false) := Lib.hid (HZ.out (by rw [HS.out, decide_eq_false h8]; rfl))
        clear h8
        go_upto_region 4 with fail
        refine wp_region_still_tail 24 (by kernel_rfl) (by kernel_rfl) ?_
        simp only [List.take_succ_cons, List.take_zero, List.drop_succ_cons, List.drop_zero]
        iterate 24 (first | (refine wpStill_skip (by as_aux_lemma => kernel_rfl) ?_; simp only [Act.put, List.setIfInBounds_toArray, List.set_cons_succ, List.set_cons_zero]) | still_step)
        refine wpStill_nil ?_
        change wpList _ _ _ _ _ (World.drew _)
        go_wp2
        go_ret
        exact ⟨by rw [hno.out]; rfl, HB.out.drew⟩
      have hr : (x.tmod 8 != 0) = false := by rw [HT.out]; simpa using h8
      have hr' : (x % 8 != 0) = false := by simpa using h8
      have hS2 : Hid (riseAt fs j = (j == 0 || decide (fA fs (j - 1) < x))) := Lib.hid (by rw [HS.out, decide_eq_true h8]; rfl)
      clear h8
      cases j with
      | zero =>
        have hok := Lib.hid (HY.out (by rw [hS2.out]; rfl))
        simp only [Nat.zero_mul, Nat.add_zero] at d0
        go_upto_region 4 with fail
        refine wp_region_still_tail 24 (by kernel_rfl) (by kernel_rfl) ?_
        simp only [List.take_succ_cons, List.take_zero, List.drop_succ_cons, List.drop_zero]
        iterate 24 (first | (refine wpStill_skip (by as_aux_lemma => kernel_rfl) ?_; simp only [Act.put, List.setIfInBounds_toArray, List.set_cons_succ, List.set_cons_zero]) | still_step)
        refine wpStill_nil ?_
        change wpList _ _ _ _ _ (World.drew _)
        go_wp2
        go_roundw
        case rel => exact ⟨1, by omega, by go_num, hok, Lib.hid HB.out.drew⟩
        case measure => simp [intOf]; omega
      | succ m =>
        have d1 := (HB.out.cell (p := ⟨b, off + m * 2, none⟩) hlt).trans (HV.out m (by rw [HN.out]; omega)).1
        obtain ⟨y, hy⟩ : ∃ y, Hid (fA fs m = y) := ⟨_, Lib.hid rfl⟩
        rw [hy.out] at d1
        have hS3 : Hid (riseAt fs (m + 1) = decide (y < x)) := Lib.hid (by rw [hS2.out, Nat.add_sub_cancel, hy.out]; simp)
        have hm0 : (0 : Int) ≤ (m : Int) := by omega
        have hm1 : (m : Int) < (n : Int) := by omega
        have hk0s : (0 : Int) ≤ (m : Int) + 1 := by omega
        have hk1s : (m : Int) + 1 < (n : Int) := by omega
        have hpos : (0 : Int) < (m : Int) + 1 := by omega
        have hwm : IntKind.i64.wrap ((m : Int) + 1 - 1) = (m : Int) := by rw [IntWalk.i64_in _ (by omega)]; omega
        have hwm2 : IntKind.i64.wrap (m : Int) = (m : Int) := IntWalk.i64_in _ (by omega)
        by_cases hyx : x ≤ y
        · have hd : decide (x ≤ y) = true := by simpa using hyx
          have hno : Hid (riseL fs n = false) := Lib.hid (HZ.out (by rw [hS3.out]; simpa using hyx))
          clear hyx
          go_upto_region 4 with fail
          refine wp_region_still_tail 24 (by kernel_rfl) (by kernel_rfl) ?_
          simp only [List.take_succ_cons, List.take_zero, List.drop_succ_cons, List.drop_zero]
          iterate 24 (first | (refine wpStill_skip (by as_aux_lemma => kernel_rfl) ?_; simp only [Act.put, List.setIfInBounds_toArray, List.set_cons_succ, List.set_cons_zero]) | still_step)
          refine wpStill_nil ?_
          change wpList _ _ _ _ _ (World.drew _)
          go_wp2
          go_ret
          exact ⟨by rw [hno.out]; rfl, HB.out.drew⟩
        · have hd : decide (x ≤ y) = false := by simpa using hyx
          have hok := Lib.hid (HY.out (by rw [hS3.out]; simpa using hyx))
          clear hyx
          go_upto_region 4 with fail
          refine wp_region_still_tail 24 (by kernel_rfl) (by kernel_rfl) ?_
          simp only [List.take_succ_cons, List.take_zero, List.drop_succ_cons, List.drop_zero]
          iterate 24 (first | (refine wpStill_skip (by as_aux_lemma => kernel_rfl) ?_; simp only [Act.put, List.setIfInBounds_toArray, List.set_cons_succ, List.set_cons_zero]) | still_step)
          refine wpStill_nil ?_
          change wpList _ _ _ _ _ (World.drew _)
          go_wp2
          go_roundw
          case rel => exact ⟨m + 1 + 1, by omega, by go_num, hok, Lib.hid HB.out.drew⟩
          case measure => simp [intOf]; omega
    · obtain rfl : j = n := by omega
      go_wp2
      go_ret
      exact ⟨by rw [hR.out]; rfl, HB.out⟩
theorem rcells_any (v : Value) (fs : List (Int × Int)) (w : World) (h : ReadsF w v fs) (hn : fs.length ≤ 100000) (hw : ∀ j, j < fs.length → 0 ≤ fA fs j) : Calls Tryz.prog 29 #[v] w fun e w' => SaysB w (riseL fs fs.length) e w' := by
  rcases h with ⟨⟨a, c, rfl, _⟩, rfl⟩ | ⟨b, off, c, rfl, _, _, h3, h4⟩
  · exact rcells_none a c w
  · exact rcells_some fs _ b off c w rfl hn h4 h3 hw
theorem rfirst_none (a : Option Addr) (cp : Nat) (x : Int) (w : World) : Calls Tryz.prog 41 #[.slice a 0 cp, .int .u64 x] w fun e w' => ValIs w 0 e w' := by
  go_enter Tryz.func41, Tryz.ntmps41
  go_wp2
  refine wp_loop_rounds 1 ?_
  rw [rounds_succ]
  go_wp2
  go_ret
  exact ⟨rfl, Below.refl _ _⟩
set_option maxRecDepth 100000 in
set_option maxHeartbeats 8000000 in
theorem rfirst_some (fs : List (Int × Int)) (n b off cp : Nat) (x : Int) (w : World) (hn : fs.length = n) (hn60 : n ≤ 100000) (h : CellsIn w b off fs) (hlt : b < w.heap.size) :
    Calls Tryz.prog 41 #[.slice (some ⟨b, off, none⟩) n cp, .int .u64 x] w fun e w' => ValIs w (valL fs x) e w' := by
  have HV := Lib.hid h
  have HN := Lib.hid hn
  clear h hn
  go_enter Tryz.func41, Tryz.ntmps41
  go_wp2
  go_loopw [5] (fun vi wr => ∃ (j : Nat), j ≤ n ∧ vi = .int .i64 j ∧ Hid (∀ k, k < j → fA fs k ≠ x) ∧ Hid (Below w.heap.size w wr)) (fun vi _ => n - (intOf vi).toNat)
  case atStart => exact ⟨0, Nat.zero_le _, rfl, Lib.hid (fun k hk => absurd hk (by omega)), Lib.hid (Below.refl _ _)⟩
  case round =>
    obtain ⟨j, hj, rfl, hR, HB⟩ := hrel
    by_cases hj2 : j < n
    · have d0 := (HB.out.cell (p := ⟨b, off + j * 2, none⟩) hlt).trans (HV.out j (by rw [HN.out]; exact hj2)).1
      have d1 := (HB.out.cell (p := ⟨b, off + j * 2 + 1, none⟩) hlt).trans (HV.out j (by rw [HN.out]; exact hj2)).2
      obtain ⟨y, hy⟩ : ∃ y, Hid (fA fs j = y) := ⟨_, Lib.hid rfl⟩
      obtain ⟨z, hz⟩ : ∃ y, Hid (fV fs j = y) := ⟨_, Lib.hid rfl⟩
      rw [hy.out] at d0
      rw [hz.out] at d1
      have hj0 : (0 : Int) ≤ (j : Int) := by omega
      by_cases hxy : y = x
      · have he : (y == x) = true := by simpa using hxy
        have hh := Lib.hid (valL_hit fs x j (by rw [HN.out]; exact hj2) hR.out (by rw [hy.out]; exact hxy))
        rw [hz.out] at hh
        clear hxy
        go_wp2
        go_ret
        exact ValIs.mk hh.out HB.out
      · have he : (y == x) = false := by simpa using hxy
        have hnx : Hid (∀ k, k < j + 1 → fA fs k ≠ x) := Lib.hid (fun k hk => by
          by_cases hkj : k = j
          · rw [hkj, hy.out]; exact hxy
          · exact hR.out k (by omega))
        clear hxy
        go_wp2
        go_roundw
        case rel => exact ⟨j + 1, by omega, by go_num, hnx, HB⟩
        case measure => simp [intOf]; omega
    · obtain rfl : j = n := by omega
      have hm := Lib.hid (valL_miss fs x (by rw [HN.out]; exact hR.out))
      go_wp2
      go_ret
      exact ValIs.mk hm.out HB.out
theorem rfirst_any (v : Value) (fs : List (Int × Int)) (x : Int) (w : World) (h : ReadsF w v fs) (hn : fs.length ≤ 100000) : Calls Tryz.prog 41 #[v, .int .u64 x] w fun e w' => ValIs w (valL fs x) e w' := by
  rcases h with ⟨⟨a, c, rfl, _⟩, rfl⟩ | ⟨b, off, c, rfl, _, _, h3, h4⟩
  · exact rfirst_none a c x w
  · exact rfirst_some fs _ b off c x w rfl hn h4 h3
end Go.Proofs.YtokhnjcbcpmmjaaGreat
namespace Go.Proofs.YtokhnjcbcpmmjaaGreat
set_option linter.unusedVariables false
set_option linter.unusedSimpArgs false
open Go.RowKit
attribute [local go_sem ↓] fold_E fold_SE

/-- all events in a row, their lists anywhere -/
structure RAll (c : Cd) (E : Nat → Ev) (b off : Nat) (w : World) : Prop where
  at_ : ∀ k, k < c.N → EvIn (E k) b (off + k * 14) w
  like : ∀ k, k < c.N → ∃ a d y, E k = (c.at k).1.lists a d y
  flat_ : ∀ k, k < c.N → (E k).flat
  lt : 0 < c.N → b < w.heap.size
theorem RAll.on {c : Cd} {E : Nat → Ev} {b off : Nat} {w w' : World} (h : RAll c E b off w) (hb : Below w.heap.size w w') : RAll c E b off w' :=
  ⟨fun k hk => (h.at_ k hk).below hb (h.lt (by omega)), h.like, h.flat_, fun hn => Nat.lt_of_lt_of_le (h.lt hn) hb.size⟩
theorem RAll.load {c : Cd} {E : Nat → Ev} {b off : Nat} {w : World} (h : RAll c E b off w) (k : Nat) (hk : k < c.N) : (LoadE (.pointer (some ⟨b, off + k * 14, none⟩))).run Tryz.prog w = .ok (E k).V w := (h.at_ k hk).load
/-- may a number's From be this one, by the list of all -/
def findE (c : Cd) (E : Nat → Ev) (n : Nat) (f : Int) : Bool :=
  if readsE (E n) = false then f == -1
  else if f = -1 then (E n).load == valL c.fs (E n).addr
  else if f < 0 ∨ (c.N : Int) ≤ f ∨ f = n then false
  else writesE (E f.toNat) && ((E f.toNat).addr == (E n).addr && (E f.toNat).store == (E n).load)
theorem findE_is {c : Cd} {E : Nat → Ev} {b off : Nat} {w : World} (h : RAll c E b off w) (n : Nat) (hn : n < c.N) : findE c E n (atI c.fr n) = findB c n := by
  obtain ⟨a, d, y, e⟩ := h.like n hn
  unfold findE findB
  obtain ⟨f, hf⟩ : ∃ f, atI c.fr n = f := ⟨_, rfl⟩
  rw [e, hf]
  have r1 : readsE ((c.at n).1.lists a d y) = readsE (c.at n).1 := rfl
  rw [r1]
  by_cases h1 : readsE (c.at n).1 = false
  · rw [if_pos h1, if_pos h1]
  rw [if_neg h1, if_neg h1]
  by_cases h2 : f = -1
  · rw [if_pos h2, if_pos h2]
  rw [if_neg h2, if_neg h2]
  by_cases h3 : f < 0 ∨ (c.N : Int) ≤ f ∨ f = n
  · rw [if_pos h3, if_pos]
    unfold withinB
    rcases h3 with h | h | h
    · right; rw [decide_eq_false (by omega)]; rfl
    · right; rw [decide_eq_false (show ¬ f < (c.N : Int) by omega), Bool.and_false]
    · left; exact h
  · rw [if_neg h3, if_neg]
    · obtain ⟨a2, d2, y2, e2⟩ := h.like f.toNat (by omega)
      rw [e2]
      rfl
    · unfold withinB
      rw [decide_eq_true (show 0 ≤ f by omega), decide_eq_true (show f < (c.N : Int) by omega)]
      simp
      omega
/-- a candidate's four slices in a box -/
def BoxC (v0 v1 v2 v3 : Value) (g : Nat) (w : World) : Prop := w.heap[g]? = some (.cells #[v0, v1, v2, v3] 26 (0, 0))
theorem BoxC.lt {v0 v1 v2 v3 : Value} {g : Nat} {w : World} (h : BoxC v0 v1 v2 v3 g w) : g < w.heap.size := (Array.getElem?_eq_some_iff.1 h).1
theorem BoxC.on {v0 v1 v2 v3 : Value} {g n : Nat} {w w' : World} (h : BoxC v0 v1 v2 v3 g w) (hb : Below n w w') (hg : g < n) : BoxC v0 v1 v2 v3 g w' := (hb.block g hg).trans h
theorem BoxC.facts {v0 v1 v2 v3 : Value} {g : Nat} {w : World} (h : BoxC v0 v1 v2 v3 g w) : w.cell? ⟨g, 0, none⟩ = some v0 ∧ w.cell? ⟨g, 1, none⟩ = some v1 ∧ w.cell? ⟨g, 2, none⟩ = some v2 ∧ w.cell? ⟨g, 3, none⟩ = some v3 :=
  ⟨by rw [cell_of_row w g 0 _ _ _ h]; rfl, by rw [cell_of_row w g 1 _ _ _ h]; rfl, by rw [cell_of_row w g 2 _ _ _ h]; rfl, by rw [cell_of_row w g 3 _ _ _ h]; rfl⟩
theorem store_made {e0 e : Ev} {n : Nat} {w : World} (H : EvAt e0 n w) (hf : e.flat) : ∃ W3, (StoreE (.pointer (some ⟨n, 0, none⟩)) e.V).run Tryz.prog w = .ok () W3 ∧ EvAt e n W3 ∧ Below n w W3 :=
  ⟨_, run_StoreE H hf, setRow_heap w n _ _ _ _ H, (Below.refl _ _).trans ⟨rfl, rfl, rfl, by simp, fun j hj => setRow_other _ _ _ _ (by omega)⟩⟩
structure Rz (v0 v1 v2 v3 : Value) (e : Ev) (w W : World) : Prop where
  box : BoxC v0 v1 v2 v3 w.heap.size W
  ev : EvAt e (w.heap.size + 1) W
  below : Below w.heap.size w W
theorem Rz.on {v0 v1 v2 v3 : Value} {e : Ev} {w W W2 : World} (h : Rz v0 v1 v2 v3 e w W) (hb : Below W.heap.size W W2) : Rz v0 v1 v2 v3 e w W2 := ⟨h.box.on hb h.box.lt, h.ev.on hb, h.below.trans (hb.mono h.below.size)⟩
theorem Rz.start {v0 v1 v2 v3 : Value} {e : Ev} {w w1 : World} (o : Obj) (D1 : EvAt e (w.heap.size + 1) w1)
    (hb : Below (w.heap.size + 1) (((w.alloc (.cells #[v0, v1, v2, v3] 26)).alloc o).drew) w1) : Rz v0 v1 v2 v3 e w w1 := by
  have h0 : BoxC v0 v1 v2 v3 w.heap.size (w.alloc (.cells #[v0, v1, v2, v3] 26)) := Array.getElem?_push_size
  have h1 : BoxC v0 v1 v2 v3 w.heap.size (((w.alloc (.cells #[v0, v1, v2, v3] 26)).alloc o).drew) := (h0.on (box_below _ o) h0.lt).on (Below.refl (w.heap.size + 1) _).drew (by omega)
  exact ⟨h1.on hb (by omega), D1, ((two_below w _ o).drew).trans (hb.mono (by omega))⟩
set_option maxRecDepth 100000 in
set_option maxHeartbeats 8000000 in
theorem rfrom_some (c : Cd) (q : Cv) (E : Nat → Ev) (b off ca n bR oR : Nat) (w : World) (H0 : CAt c q w) (h : RAll c E b off w) (hn : n < c.N) (hl : c.fr.length = c.N) (hq : q.aR = some ⟨bR, oR, none⟩) (hlt : bR < w.heap.size) (hfs : c.fs.length ≤ 100000) (hcell : w.cell? ⟨bR, oR + n, none⟩ = some (.int .i64 (atI c.fr n))) :
    Calls Tryz.prog 32 #[cdV c q, .slice (some ⟨b, off, none⟩) c.N ca, .int .i64 (n : Int)] w fun e w' => SaysB w (findE c E n (atI c.fr n)) e w' := by
  have H := Lib.hid h
  have HC := Lib.hid H0
  obtain ⟨f, hf⟩ : ∃ f, Hid (atI c.fr n = f) := ⟨_, Lib.hid rfl⟩
  obtain ⟨e, he⟩ : ∃ e, Hid (E n = e) := ⟨_, Lib.hid rfl⟩
  obtain ⟨N, hN⟩ : ∃ N, Hid (c.N = N) := ⟨_, Lib.hid rfl⟩
  have HX := Lib.hid (show findE c E n f = if readsE (E n) = false then f == -1
    else if f = -1 then (E n).load == valL c.fs (E n).addr
    else if f < 0 ∨ (c.N : Int) ≤ f ∨ f = n then false
    else writesE (E f.toNat) && ((E f.toNat).addr == (E n).addr && (E f.toNat).store == (E n).load) from rfl)
  obtain ⟨v0, hv0⟩ : ∃ v, Hid (Value.slice q.aF c.fs.length q.cF = v) := ⟨_, Lib.hid rfl⟩
  obtain ⟨v1, hv1⟩ : ∃ v, Hid (Value.slice q.aH c.nh q.cH = v) := ⟨_, Lib.hid rfl⟩
  obtain ⟨v3, hv3⟩ : ∃ v, Hid (Value.slice q.aO c.od.length q.cO = v) := ⟨_, Lib.hid rfl⟩
  have hv0' : Hid (ReadsF w v0 c.fs) := Lib.hid (by rw [← hv0.out]; exact H0.first)
  have hfl := Lib.hid (h.flat_ n hn)
  unfold cdV
  rw [hl, hN.out, hq, hv0.out, hv1.out, hv3.out]
  have hb0 := box_below w (.cells #[v0, v1, .slice (some ⟨bR, oR, none⟩) N q.cR, v3] 26)
  obtain ⟨Z, hZ⟩ : ∃ Z, Z = Obj.cells #[.int .i64 0, .int .i64 0, .int .i64 0, .int .u64 0, .int .u64 0, .int .u64 0, .bool false, .bool false, .int .i64 0, .int .i64 0, .int .i64 0, .slice none 0 0, .slice none 0 0, .slice none 0 0] 60 := ⟨_, rfl⟩
  have cl1 := (h.on hb0.drew).load n hn
  have cl2 := (h.on ((hb0.alloc hb0.size Z).drew)).load n hn
  have cl3 := (h.on ((hb0.drew).alloc hb0.drew.size Z)).load n hn
  have c0 := (hb0.cell (p := ⟨bR, oR + n, none⟩) hlt).trans hcell
  rw [hf.out] at c0 ⊢
  rw [he.out] at cl1 cl2 cl3 hfl HX
  rw [hN.out] at HX
  have hn' : n < N := by rw [← hN.out]; exact hn
  have HCL := Lib.hid hcell
  rw [hf.out] at HCL
  obtain ⟨r, hr⟩ : ∃ r, Hid (readsE e = r) := ⟨_, Lib.hid rfl⟩
  have KR2 := Lib.hid (fun w0 => rReads_b e r hr.out w0)
  rw [hr.out] at HX
  have HLT := Lib.hid hlt
  have FS := Lib.hid hfs
  clear hb0 h H0 hcell hl hn hq
  have hn0 : (0 : Int) ≤ (n : Int) := by omega
  subst hZ
  go_enter Tryz.func32, Tryz.ntmps32
  go_upto_region 1 with fail
  go_cut [7, 8] (fun t7 t8 wx => t7 = .pointer (some ⟨w.heap.size + 1, 0, none⟩) ∧ t8 = .int .i64 f ∧ Hid (Rz v0 v1 (.slice (some ⟨bR, oR, none⟩) N q.cR) v3 e w wx))
  case first => as_aux_lemma =>
    have z0 : EvAt zeroEv (w.heap.size + 1) (((w.alloc (.cells #[v0, v1, .slice (some ⟨bR, oR, none⟩) N q.cR, v3] 26)).alloc (.cells #[.int .i64 0, .int .i64 0, .int .i64 0, .int .u64 0, .int .u64 0, .int .u64 0, .bool false, .bool false, .int .i64 0, .int .i64 0, .int .i64 0, .slice none 0 0, .slice none 0 0, .slice none 0 0] 60)).drew) :=
      (EvAt.new_at zeroEv _ (w.heap.size + 1) (by simp)).on (Below.refl _ _).drew
    obtain ⟨W3, cs, d1, hb3⟩ := store_made z0 hfl.out
    have S1 : Hid (Rz v0 v1 (.slice (some ⟨bR, oR, none⟩) N q.cR) v3 e w W3) := Lib.hid (Rz.start _ d1 hb3)
    have b2 := S1.out.box.facts.2.2.1
    have c2 := (S1.out.below.cell (p := ⟨bR, oR + n, none⟩) HLT.out).trans HCL.out
    clear z0 d1 hb3
    go_region_law (fail)
    all_goals
      go_wp2_with fail
      go_meet
      exact ⟨rfl, rfl, S1⟩
  case rest =>
    obtain ⟨rfl, rfl, HZ⟩ := hcut
    clear cl1 cl2 cl3 c0 hlt
    have cl := run_LoadE HZ.out.ev
    cases r with
    | false =>
      rw [if_pos rfl] at HX
      go_upto_region 3 with (go_at_call 60; (with_reducible refine (KR2.out _).mono ?_); rintro e' w2 ⟨rfl, hb⟩; have S2 := Lib.hid (HZ.out.on hb); clear hb cl)
      go_wp2
      go_ret
      exact ⟨by rw [HX.out]; rfl, S2.out.below⟩
    | true =>
      rw [if_neg (by simp)] at HX
      by_cases h1 : f = -1
      · rw [if_pos h1] at HX
        have h1' : (f == -1) = true := by simpa using h1
        clear h1
        go_upto_region 5 with (go_at_call 60; (with_reducible refine (KR2.out _).mono ?_); rintro e' w2 ⟨rfl, hb⟩; have S2 := Lib.hid (HZ.out.on hb); clear hb cl)
        have S3 := Lib.hid (S2.out.on (Below.refl _ _).drew)
        have KV := Lib.hid (fun w0 h0 => rfirst_any v0 c.fs e.addr w0 h0 FS.out)
        obtain ⟨v, hv⟩ : ∃ v, Hid (valL c.fs e.addr = v) := ⟨_, Lib.hid rfl⟩
        rw [hv.out] at KV HX
        have TH := Lib.hid (fun (W : World) (h : Rz v0 v1 (.slice (some ⟨bR, oR, none⟩) N q.cR) v3 e w W) => (⟨h.ev.facts.2.2.2.2.2.1, h.box.facts.1, h.ev.facts.2.2.2.2.1⟩ : W.cell? ⟨w.heap.size + 1, 4, none⟩ = some (.int .u64 e.load) ∧ W.cell? ⟨w.heap.size, 0, none⟩ = some v0 ∧ W.cell? ⟨w.heap.size + 1, 3, none⟩ = some (.int .u64 e.addr)))
        obtain ⟨u0, u1, u2⟩ := TH.out _ S2.out
        go_region_held3 (fun w' => w'.cell? ⟨w.heap.size + 1, 4, none⟩ = some (.int .u64 e.load) ∧ w'.cell? ⟨w.heap.size, 0, none⟩ = some v0 ∧ w'.cell? ⟨w.heap.size + 1, 3, none⟩ = some (.int .u64 e.addr))
          (first | exact TH.out _ S3.out | exact TH.out _ S2.out | exact TH.out _ S4.out)
          ((go_at_call 41; (with_reducible refine (KV.out _ (hv0'.out.below S3.out.below)).mono ?_); rintro e' w3 ⟨rfl, hb⟩; have S4 := Lib.hid (S3.out.on hb); clear hb))
        go_wp2
        go_ret
        exact ⟨by rw [HX.out]; rfl, S4.out.below⟩
      · rw [if_neg h1] at HX
        have h1' : (f == -1) = false := by simpa using h1
        clear h1
        by_cases h2 : f < 0
        · rw [if_pos (.inl h2)] at HX
          have d2 : decide (f < 0) = true := by simpa using h2
          clear h2
          go_upto_region 6 with (go_at_call 60; (with_reducible refine (KR2.out _).mono ?_); rintro e' w2 ⟨rfl, hb⟩; have S2 := Lib.hid (HZ.out.on hb); clear hb cl)
          go_wp2
          go_ret
          exact ⟨by rw [HX.out]; rfl, S2.out.below⟩
        have d2 : decide (f < 0) = false := by simpa using h2
        by_cases h3 : (N : Int) ≤ f
        · rw [if_pos (.inr (.inl h3))] at HX
          have d3 : decide ((N : Int) ≤ f) = true := by simpa using h3
          clear h2 h3
          go_upto_region 6 with (go_at_call 60; (with_reducible refine (KR2.out _).mono ?_); rintro e' w2 ⟨rfl, hb⟩; have S2 := Lib.hid (HZ.out.on hb); clear hb cl)
          go_wp2
          go_ret
          exact ⟨by rw [HX.out]; rfl, S2.out.below⟩
        have d3 : decide ((N : Int) ≤ f) = false := by simpa using h3
        by_cases h4 : f = n
        · rw [if_pos (.inr (.inr h4))] at HX
          have d4 : (f == (n : Int)) = true := by simpa using h4
          clear h2 h3 h4
          go_upto_region 6 with (go_at_call 60; (with_reducible refine (KR2.out _).mono ?_); rintro e' w2 ⟨rfl, hb⟩; have S2 := Lib.hid (HZ.out.on hb); clear hb cl)
          go_wp2
          go_ret
          exact ⟨by rw [HX.out]; rfl, S2.out.below⟩
        rw [if_neg (by omega)] at HX
        have d4 : (f == (n : Int)) = false := by simpa using h4
        obtain ⟨m, hm⟩ : ∃ m : Nat, f = m := ⟨f.toNat, by omega⟩
        subst hm
        have hmN : m < N := by omega
        rw [Int.toNat_natCast] at HX
        obtain ⟨d, hd⟩ : ∃ d, Hid (E m = d) := ⟨_, Lib.hid rfl⟩
        rw [hd.out] at HX
        obtain ⟨wr, hwr⟩ : ∃ wr, Hid (writesE d = wr) := ⟨_, Lib.hid rfl⟩
        have KW2 := Lib.hid (fun w0 => rWrites_b d wr hwr.out w0)
        rw [hwr.out] at HX
        clear h2 h3 h4
        go_upto_region 8 with (go_at_call 60; (with_reducible refine (KR2.out _).mono ?_); rintro e' w2 ⟨rfl, hb⟩; have S2 := Lib.hid (HZ.out.on hb); clear hb cl)
        have hm0 : (0 : Int) ≤ (m : Int) := by omega
        have hmc : m < c.N := by rw [hN.out]; exact hmN
        have FIVE := Lib.hid (fun (W : World) (h : Rz v0 v1 (.slice (some ⟨bR, oR, none⟩) N q.cR) v3 e w W) => (show (fun w' => (LoadE (.pointer (some ⟨b, off + m * 14, none⟩))).run Tryz.prog w' = .ok d.V w' ∧ w'.cell? ⟨b, off + m * 14 + 3, none⟩ = some (.int .u64 d.addr) ∧ w'.cell? ⟨b, off + m * 14 + 5, none⟩ = some (.int .u64 d.store) ∧ w'.cell? ⟨w.heap.size + 1, 3, none⟩ = some (.int .u64 e.addr) ∧ w'.cell? ⟨w.heap.size + 1, 4, none⟩ = some (.int .u64 e.load)) W from by
          have hA := H.out.on h.below
          have l1 := hA.load m hmc
          have l2 := hA.at_ m hmc 3 _ rfl
          have l3 := hA.at_ m hmc 5 _ rfl
          rw [hd.out] at l1 l2 l3
          exact ⟨l1, l2, l3, h.ev.facts.2.2.2.2.1, h.ev.facts.2.2.2.2.2.1⟩))
        have S3 := Lib.hid (S2.out.on (Below.refl _ _).drew)
        clear hmc
        cases wr with
        | false =>
          rw [Bool.false_and] at HX
          refine wp_region_held_drew (S := (fun w' => (LoadE (.pointer (some ⟨b, off + m * 14, none⟩))).run Tryz.prog w' = .ok d.V w' ∧ w'.cell? ⟨b, off + m * 14 + 3, none⟩ = some (.int .u64 d.addr) ∧ w'.cell? ⟨b, off + m * 14 + 5, none⟩ = some (.int .u64 d.store) ∧ w'.cell? ⟨w.heap.size + 1, 3, none⟩ = some (.int .u64 e.addr) ∧ w'.cell? ⟨w.heap.size + 1, 4, none⟩ = some (.int .u64 e.load))) (by kernel_rfl) ?_ (fun hHeld => ?_)
          · exact FIVE.out _ S3.out
          refine wpAnyH_take (i := 0) (oi := ⟨some 49, _, _, _, _, _⟩) (v := ?v0) rfl (by kernel_rfl) (by kernel_rfl) (by kernel_rfl) (fun _ _ _ h => h) (Or.inl ⟨by kernel_rfl, ?h0⟩) (by assumption) ?_
          case h0 => ((intro w hSw; (try dsimp only at hSw); go_simp) <;> (try with_reducible rfl))
          (try simp only [Act.put, List.setIfInBounds_toArray, List.set_cons_zero, List.set_cons_succ])
          refine wpAnyH_take (i := 1) (oi := ⟨some 50, _, _, _, _, _⟩) (v := ?v1) rfl (by kernel_rfl) (by kernel_rfl) (by kernel_rfl) (fun _ _ _ h => h) (Or.inl ⟨by kernel_rfl, ?h1⟩) (by assumption) ?_
          case h1 => ((intro w hSw; (try dsimp only at hSw); go_simp) <;> (try with_reducible rfl))
          (try simp only [Act.put, List.setIfInBounds_toArray, List.set_cons_zero, List.set_cons_succ])
          refine wpAnyH_take (i := 2) (oi := ⟨some 51, _, _, _, _, _⟩) (v := ?v2) rfl (by kernel_rfl) (by kernel_rfl) (by kernel_rfl) (fun _ _ _ h => h) (Or.inl ⟨by kernel_rfl, ?h2⟩) (by assumption) ?_
          case h2 => ((intro w hSw; (try dsimp only at hSw); go_simp) <;> (try with_reducible rfl))
          (try simp only [Act.put, List.setIfInBounds_toArray, List.set_cons_zero, List.set_cons_succ])
          refine wpAnyH_take (i := 3) (oi := ⟨some 52, _, _, _, _, _⟩) (v := ?v3) rfl (by kernel_rfl) (by kernel_rfl) (by kernel_rfl) (fun _ _ _ h => h) (Or.inl ⟨by kernel_rfl, ?h3⟩) (by assumption) ?_
          case h3 => ((intro w hSw; (try dsimp only at hSw); go_simp) <;> (try with_reducible rfl))
          (try simp only [Act.put, List.setIfInBounds_toArray, List.set_cons_zero, List.set_cons_succ])
          refine wpAnyH_ready (rs := [4]) (by kernel_rfl) (by simp) ?_
          refine AllReadyH.cons (o := ⟨some 53, _, _, _, _, _⟩) rfl (fun K hK => ?_) AllReadyH.nil
          go_simp
          ((go_at_call 46; (with_reducible refine (KW2.out _).mono ?_); rintro e' w4 ⟨rfl, hb⟩; have S4 := Lib.hid (S3.out.on hb); clear hb))
          (try go_wp2_with fail)
          refine hK.out _ _ ?_ (fun hHeld => ?_)
          · exact FIVE.out _ S4.out
          clear hK K
          (try simp only [Act.put, List.setIfInBounds_toArray, List.set_cons_zero, List.set_cons_succ])
          refine wpAnyH_take (i := 5) (oi := ⟨some 54, _, _, _, _, _⟩) (v := ?v5) rfl (by kernel_rfl) (by kernel_rfl) (by kernel_rfl) (fun _ _ _ h => h) (Or.inl ⟨by kernel_rfl, ?h5⟩) (by assumption) ?_
          case h5 => ((intro w hSw; (try dsimp only at hSw); go_simp) <;> (try with_reducible rfl))
          (try simp only [Act.put, List.setIfInBounds_toArray, List.set_cons_zero, List.set_cons_succ])
          refine wpAnyH_take (i := 6) (oi := ⟨some 55, _, _, _, _, _⟩) (v := undef) rfl (by kernel_rfl) (by kernel_rfl) (by kernel_rfl) (fun _ _ _ h => h) (Or.inr ⟨by kernel_rfl, rfl⟩) (by assumption) ?_
          (try simp only [Act.put, List.setIfInBounds_toArray, List.set_cons_zero, List.set_cons_succ])
          refine wpAnyH_take (i := 7) (oi := ⟨some 56, _, _, _, _, _⟩) (v := undef) rfl (by kernel_rfl) (by kernel_rfl) (by kernel_rfl) (fun _ _ _ h => h) (Or.inr ⟨by kernel_rfl, rfl⟩) (by assumption) ?_
          (try simp only [Act.put, List.setIfInBounds_toArray, List.set_cons_zero, List.set_cons_succ])
          refine wpAnyH_take (i := 8) (oi := ⟨some 57, _, _, _, _, _⟩) (v := undef) rfl (by kernel_rfl) (by kernel_rfl) (by kernel_rfl) (fun _ _ _ h => h) (Or.inr ⟨by kernel_rfl, rfl⟩) (by assumption) ?_
          (try simp only [Act.put, List.setIfInBounds_toArray, List.set_cons_zero, List.set_cons_succ])
          refine wpAnyH_take (i := 9) (oi := ⟨some 58, _, _, _, _, _⟩) (v := undef) rfl (by kernel_rfl) (by kernel_rfl) (by kernel_rfl) (fun _ _ _ h => h) (Or.inr ⟨by kernel_rfl, rfl⟩) (by assumption) ?_
          (try simp only [Act.put, List.setIfInBounds_toArray, List.set_cons_zero, List.set_cons_succ])
          refine wpAnyH_take (i := 10) (oi := ⟨some 59, _, _, _, _, _⟩) (v := undef) rfl (by kernel_rfl) (by kernel_rfl) (by kernel_rfl) (fun _ _ _ h => h) (Or.inr ⟨by kernel_rfl, rfl⟩) (by assumption) ?_
          (try simp only [Act.put, List.setIfInBounds_toArray, List.set_cons_zero, List.set_cons_succ])
          refine wpAnyH_take (i := 11) (oi := ⟨some 60, _, _, _, _, _⟩) (v := undef) rfl (by kernel_rfl) (by kernel_rfl) (by kernel_rfl) (fun _ _ _ h => h) (Or.inr ⟨by kernel_rfl, rfl⟩) (by assumption) ?_
          (try simp only [Act.put, List.setIfInBounds_toArray, List.set_cons_zero, List.set_cons_succ])
          refine wpAnyH_take (i := 12) (oi := ⟨some 61, _, _, _, _, _⟩) (v := undef) rfl (by kernel_rfl) (by kernel_rfl) (by kernel_rfl) (fun _ _ _ h => h) (Or.inr ⟨by kernel_rfl, rfl⟩) (by assumption) ?_
          (try simp only [Act.put, List.setIfInBounds_toArray, List.set_cons_zero, List.set_cons_succ])
          refine wpAnyH_take (i := 13) (oi := ⟨some 62, _, _, _, _, _⟩) (v := undef) rfl (by kernel_rfl) (by kernel_rfl) (by kernel_rfl) (fun _ _ _ h => h) (Or.inr ⟨by kernel_rfl, rfl⟩) (by assumption) ?_
          (try simp only [Act.put, List.setIfInBounds_toArray, List.set_cons_zero, List.set_cons_succ])
          refine wpAnyH_take (i := 14) (oi := ⟨some 63, _, _, _, _, _⟩) (v := ?v14) rfl (by kernel_rfl) (by kernel_rfl) (by kernel_rfl) (fun _ _ _ h => h) (Or.inl ⟨by kernel_rfl, ?h14⟩) (by assumption) ?_
          case h14 => ((intro w hSw; (try dsimp only at hSw); go_simp) <;> (try with_reducible rfl))
          (try simp only [Act.put, List.setIfInBounds_toArray, List.set_cons_zero, List.set_cons_succ])
          refine wpAnyH_take (i := 15) (oi := ⟨some 64, _, _, _, _, _⟩) (v := ?v15) rfl (by kernel_rfl) (by kernel_rfl) (by kernel_rfl) (fun _ _ _ h => h) (Or.inl ⟨by kernel_rfl, ?h15⟩) (by assumption) ?_
          case h15 => ((intro w hSw; (try dsimp only at hSw); go_simp) <;> (try with_reducible rfl))
          (try simp only [Act.put, List.setIfInBounds_toArray, List.set_cons_zero, List.set_cons_succ])
          refine wpAnyH_take (i := 16) (oi := ⟨some 65, _, _, _, _, _⟩) (v := undef) rfl (by kernel_rfl) (by kernel_rfl) (by kernel_rfl) (fun _ _ _ h => h) (Or.inr ⟨by kernel_rfl, rfl⟩) (by assumption) ?_
          (try simp only [Act.put, List.setIfInBounds_toArray, List.set_cons_zero, List.set_cons_succ])
          refine wpAnyH_take (i := 17) (oi := ⟨some 66, _, _, _, _, _⟩) (v := undef) rfl (by kernel_rfl) (by kernel_rfl) (by kernel_rfl) (fun _ _ _ h => h) (Or.inr ⟨by kernel_rfl, rfl⟩) (by assumption) ?_
          (try simp only [Act.put, List.setIfInBounds_toArray, List.set_cons_zero, List.set_cons_succ])
          refine wpAnyH_take (i := 18) (oi := ⟨some 67, _, _, _, _, _⟩) (v := undef) rfl (by kernel_rfl) (by kernel_rfl) (by kernel_rfl) (fun _ _ _ h => h) (Or.inr ⟨by kernel_rfl, rfl⟩) (by assumption) ?_
          (try simp only [Act.put, List.setIfInBounds_toArray, List.set_cons_zero, List.set_cons_succ])
          refine wpAnyH_take (i := 19) (oi := ⟨some 68, _, _, _, _, _⟩) (v := undef) rfl (by kernel_rfl) (by kernel_rfl) (by kernel_rfl) (fun _ _ _ h => h) (Or.inr ⟨by kernel_rfl, rfl⟩) (by assumption) ?_
          (try simp only [Act.put, List.setIfInBounds_toArray, List.set_cons_zero, List.set_cons_succ])
          refine wpAnyH_take (i := 20) (oi := ⟨some 69, _, _, _, _, _⟩) (v := undef) rfl (by kernel_rfl) (by kernel_rfl) (by kernel_rfl) (fun _ _ _ h => h) (Or.inr ⟨by kernel_rfl, rfl⟩) (by assumption) ?_
          (try simp only [Act.put, List.setIfInBounds_toArray, List.set_cons_zero, List.set_cons_succ])
          refine wpAnyH_take (i := 21) (oi := ⟨some 70, _, _, _, _, _⟩) (v := undef) rfl (by kernel_rfl) (by kernel_rfl) (by kernel_rfl) (fun _ _ _ h => h) (Or.inr ⟨by kernel_rfl, rfl⟩) (by assumption) ?_
          (try simp only [Act.put, List.setIfInBounds_toArray, List.set_cons_zero, List.set_cons_succ])
          refine wpAnyH_take (i := 22) (oi := ⟨some 71, _, _, _, _, _⟩) (v := undef) rfl (by kernel_rfl) (by kernel_rfl) (by kernel_rfl) (fun _ _ _ h => h) (Or.inr ⟨by kernel_rfl, rfl⟩) (by assumption) ?_
          (try simp only [Act.put, List.setIfInBounds_toArray, List.set_cons_zero, List.set_cons_succ])
          refine wpAnyH_take (i := 23) (oi := ⟨some 72, _, _, _, _, _⟩) (v := undef) rfl (by kernel_rfl) (by kernel_rfl) (by kernel_rfl) (fun _ _ _ h => h) (Or.inr ⟨by kernel_rfl, rfl⟩) (by assumption) ?_
          (try simp only [Act.put, List.setIfInBounds_toArray, List.set_cons_zero, List.set_cons_succ])
          refine wpAnyH_take (i := 24) (oi := ⟨some 73, _, _, _, _, _⟩) (v := ?v24) rfl (by kernel_rfl) (by kernel_rfl) (by kernel_rfl) (fun _ _ _ h => h) (Or.inl ⟨by kernel_rfl, ?h24⟩) (by assumption) ?_
          case h24 => ((intro w hSw; (try dsimp only at hSw); go_simp) <;> (try with_reducible rfl))
          (try simp only [Act.put, List.setIfInBounds_toArray, List.set_cons_zero, List.set_cons_succ])
          refine wpAnyH_take (i := 25) (oi := ⟨some 6, _, _, _, _, _⟩) (v := ?v25) rfl (by kernel_rfl) (by kernel_rfl) (by kernel_rfl) (fun _ _ _ h => h) (Or.inl ⟨by kernel_rfl, ?h25⟩) (by assumption) ?_
          case h25 => ((intro w hSw; (try dsimp only at hSw); go_simp) <;> (try with_reducible rfl))
          (try simp only [Act.put, List.setIfInBounds_toArray, List.set_cons_zero, List.set_cons_succ])
          refine wpAnyH_done (by kernel_rfl) ?_ _
          go_wp2_with fail
          go_ret
          exact ⟨by rw [HX.out]; rfl, S4.out.below⟩
        | true =>
          rw [Bool.true_and] at HX
          cases ha : (d.addr == e.addr) with
          | false =>
            rw [ha, Bool.false_and] at HX
            refine wp_region_held_drew (S := (fun w' => (LoadE (.pointer (some ⟨b, off + m * 14, none⟩))).run Tryz.prog w' = .ok d.V w' ∧ w'.cell? ⟨b, off + m * 14 + 3, none⟩ = some (.int .u64 d.addr) ∧ w'.cell? ⟨b, off + m * 14 + 5, none⟩ = some (.int .u64 d.store) ∧ w'.cell? ⟨w.heap.size + 1, 3, none⟩ = some (.int .u64 e.addr) ∧ w'.cell? ⟨w.heap.size + 1, 4, none⟩ = some (.int .u64 e.load))) (by kernel_rfl) ?_ (fun hHeld => ?_)
            · exact FIVE.out _ S3.out
            refine wpAnyH_take (i := 0) (oi := ⟨some 49, _, _, _, _, _⟩) (v := ?v0) rfl (by kernel_rfl) (by kernel_rfl) (by kernel_rfl) (fun _ _ _ h => h) (Or.inl ⟨by kernel_rfl, ?h0⟩) (by assumption) ?_
            case h0 => ((intro w hSw; (try dsimp only at hSw); go_simp) <;> (try with_reducible rfl))
            (try simp only [Act.put, List.setIfInBounds_toArray, List.set_cons_zero, List.set_cons_succ])
            refine wpAnyH_take (i := 1) (oi := ⟨some 50, _, _, _, _, _⟩) (v := ?v1) rfl (by kernel_rfl) (by kernel_rfl) (by kernel_rfl) (fun _ _ _ h => h) (Or.inl ⟨by kernel_rfl, ?h1⟩) (by assumption) ?_
            case h1 => ((intro w hSw; (try dsimp only at hSw); go_simp) <;> (try with_reducible rfl))
            (try simp only [Act.put, List.setIfInBounds_toArray, List.set_cons_zero, List.set_cons_succ])
            refine wpAnyH_take (i := 2) (oi := ⟨some 51, _, _, _, _, _⟩) (v := ?v2) rfl (by kernel_rfl) (by kernel_rfl) (by kernel_rfl) (fun _ _ _ h => h) (Or.inl ⟨by kernel_rfl, ?h2⟩) (by assumption) ?_
            case h2 => ((intro w hSw; (try dsimp only at hSw); go_simp) <;> (try with_reducible rfl))
            (try simp only [Act.put, List.setIfInBounds_toArray, List.set_cons_zero, List.set_cons_succ])
            refine wpAnyH_take (i := 3) (oi := ⟨some 52, _, _, _, _, _⟩) (v := ?v3) rfl (by kernel_rfl) (by kernel_rfl) (by kernel_rfl) (fun _ _ _ h => h) (Or.inl ⟨by kernel_rfl, ?h3⟩) (by assumption) ?_
            case h3 => ((intro w hSw; (try dsimp only at hSw); go_simp) <;> (try with_reducible rfl))
            (try simp only [Act.put, List.setIfInBounds_toArray, List.set_cons_zero, List.set_cons_succ])
            refine wpAnyH_ready (rs := [4]) (by kernel_rfl) (by simp) ?_
            refine AllReadyH.cons (o := ⟨some 53, _, _, _, _, _⟩) rfl (fun K hK => ?_) AllReadyH.nil
            go_simp
            ((go_at_call 46; (with_reducible refine (KW2.out _).mono ?_); rintro e' w4 ⟨rfl, hb⟩; have S4 := Lib.hid (S3.out.on hb); clear hb))
            (try go_wp2_with fail)
            refine hK.out _ _ ?_ (fun hHeld => ?_)
            · exact FIVE.out _ S4.out
            clear hK K
            (try simp only [Act.put, List.setIfInBounds_toArray, List.set_cons_zero, List.set_cons_succ])
            refine wpAnyH_take (i := 5) (oi := ⟨some 54, _, _, _, _, _⟩) (v := .bool true) rfl (by kernel_rfl) (by kernel_rfl) (by kernel_rfl) (fun _ _ _ h => h) (Or.inl ⟨by kernel_rfl, fun w hSw => by ((try dsimp only at hSw); go_simp; done)⟩) (by assumption) ?_
            (try simp only [Act.put, List.setIfInBounds_toArray, List.set_cons_zero, List.set_cons_succ])
            refine wpAnyH_take (i := 6) (oi := ⟨some 55, _, _, _, _, _⟩) (v := ?v6) rfl (by kernel_rfl) (by kernel_rfl) (by kernel_rfl) (fun _ _ _ h => h) (Or.inl ⟨by kernel_rfl, ?h6⟩) (by assumption) ?_
            case h6 => ((intro w hSw; (try dsimp only at hSw); go_simp) <;> (try with_reducible rfl))
            (try simp only [Act.put, List.setIfInBounds_toArray, List.set_cons_zero, List.set_cons_succ])
            refine wpAnyH_take (i := 7) (oi := ⟨some 56, _, _, _, _, _⟩) (v := ?v7) rfl (by kernel_rfl) (by kernel_rfl) (by kernel_rfl) (fun _ _ _ h => h) (Or.inl ⟨by kernel_rfl, ?h7⟩) (by assumption) ?_
            case h7 => ((intro w hSw; (try dsimp only at hSw); go_simp) <;> (try with_reducible rfl))
            (try simp only [Act.put, List.setIfInBounds_toArray, List.set_cons_zero, List.set_cons_succ])
            refine wpAnyH_take (i := 8) (oi := ⟨some 57, _, _, _, _, _⟩) (v := ?v8) rfl (by kernel_rfl) (by kernel_rfl) (by kernel_rfl) (fun _ _ _ h => h) (Or.inl ⟨by kernel_rfl, ?h8⟩) (by assumption) ?_
            case h8 => ((intro w hSw; (try dsimp only at hSw); go_simp) <;> (try with_reducible rfl))
            (try simp only [Act.put, List.setIfInBounds_toArray, List.set_cons_zero, List.set_cons_succ])
            refine wpAnyH_take (i := 9) (oi := ⟨some 58, _, _, _, _, _⟩) (v := ?v9) rfl (by kernel_rfl) (by kernel_rfl) (by kernel_rfl) (fun _ _ _ h => h) (Or.inl ⟨by kernel_rfl, ?h9⟩) (by assumption) ?_
            case h9 => ((intro w hSw; (try dsimp only at hSw); go_simp) <;> (try with_reducible rfl))
            (try simp only [Act.put, List.setIfInBounds_toArray, List.set_cons_zero, List.set_cons_succ])
            refine wpAnyH_take (i := 10) (oi := ⟨some 59, _, _, _, _, _⟩) (v := ?v10) rfl (by kernel_rfl) (by kernel_rfl) (by kernel_rfl) (fun _ _ _ h => h) (Or.inl ⟨by kernel_rfl, ?h10⟩) (by assumption) ?_
            case h10 => ((intro w hSw; (try dsimp only at hSw); go_simp) <;> (try with_reducible rfl))
            (try simp only [Act.put, List.setIfInBounds_toArray, List.set_cons_zero, List.set_cons_succ])
            refine wpAnyH_take (i := 11) (oi := ⟨some 60, _, _, _, _, _⟩) (v := ?v11) rfl (by kernel_rfl) (by kernel_rfl) (by kernel_rfl) (fun _ _ _ h => h) (Or.inl ⟨by kernel_rfl, ?h11⟩) (by assumption) ?_
            case h11 => ((intro w hSw; (try dsimp only at hSw); go_simp) <;> (try with_reducible rfl))
            (try simp only [Act.put, List.setIfInBounds_toArray, List.set_cons_zero, List.set_cons_succ])
            refine wpAnyH_take (i := 12) (oi := ⟨some 61, _, _, _, _, _⟩) (v := ?v12) rfl (by kernel_rfl) (by kernel_rfl) (by kernel_rfl) (fun _ _ _ h => h) (Or.inl ⟨by kernel_rfl, ?h12⟩) (by assumption) ?_
            case h12 => ((intro w hSw; (try dsimp only at hSw); go_simp) <;> (try with_reducible rfl))
            (try simp only [Act.put, List.setIfInBounds_toArray, List.set_cons_zero, List.set_cons_succ])
            refine wpAnyH_take (i := 13) (oi := ⟨some 62, _, _, _, _, _⟩) (v := .bool false) rfl (by kernel_rfl) (by kernel_rfl) (by kernel_rfl) (fun _ _ _ h => h) (Or.inl ⟨by kernel_rfl, fun w hSw => by ((try dsimp only at hSw); go_simp; done)⟩) (by assumption) ?_
            (try simp only [Act.put, List.setIfInBounds_toArray, List.set_cons_zero, List.set_cons_succ])
            refine wpAnyH_take (i := 14) (oi := ⟨some 63, _, _, _, _, _⟩) (v := .bool false) rfl (by kernel_rfl) (by kernel_rfl) (by kernel_rfl) (fun _ _ _ h => h) (Or.inl ⟨by kernel_rfl, fun w hSw => by ((try dsimp only at hSw); go_simp; done)⟩) (by assumption) ?_
            (try simp only [Act.put, List.setIfInBounds_toArray, List.set_cons_zero, List.set_cons_succ])
            refine wpAnyH_take (i := 15) (oi := ⟨some 64, _, _, _, _, _⟩) (v := .bool false) rfl (by kernel_rfl) (by kernel_rfl) (by kernel_rfl) (fun _ _ _ h => h) (Or.inl ⟨by kernel_rfl, fun w hSw => by ((try dsimp only at hSw); go_simp; done)⟩) (by assumption) ?_
            (try simp only [Act.put, List.setIfInBounds_toArray, List.set_cons_zero, List.set_cons_succ])
            refine wpAnyH_take (i := 16) (oi := ⟨some 65, _, _, _, _, _⟩) (v := undef) rfl (by kernel_rfl) (by kernel_rfl) (by kernel_rfl) (fun _ _ _ h => h) (Or.inr ⟨by kernel_rfl, rfl⟩) (by assumption) ?_
            (try simp only [Act.put, List.setIfInBounds_toArray, List.set_cons_zero, List.set_cons_succ])
            refine wpAnyH_take (i := 17) (oi := ⟨some 66, _, _, _, _, _⟩) (v := undef) rfl (by kernel_rfl) (by kernel_rfl) (by kernel_rfl) (fun _ _ _ h => h) (Or.inr ⟨by kernel_rfl, rfl⟩) (by assumption) ?_
            (try simp only [Act.put, List.setIfInBounds_toArray, List.set_cons_zero, List.set_cons_succ])
            refine wpAnyH_take (i := 18) (oi := ⟨some 67, _, _, _, _, _⟩) (v := undef) rfl (by kernel_rfl) (by kernel_rfl) (by kernel_rfl) (fun _ _ _ h => h) (Or.inr ⟨by kernel_rfl, rfl⟩) (by assumption) ?_
            (try simp only [Act.put, List.setIfInBounds_toArray, List.set_cons_zero, List.set_cons_succ])
            refine wpAnyH_take (i := 19) (oi := ⟨some 68, _, _, _, _, _⟩) (v := undef) rfl (by kernel_rfl) (by kernel_rfl) (by kernel_rfl) (fun _ _ _ h => h) (Or.inr ⟨by kernel_rfl, rfl⟩) (by assumption) ?_
            (try simp only [Act.put, List.setIfInBounds_toArray, List.set_cons_zero, List.set_cons_succ])
            refine wpAnyH_take (i := 20) (oi := ⟨some 69, _, _, _, _, _⟩) (v := undef) rfl (by kernel_rfl) (by kernel_rfl) (by kernel_rfl) (fun _ _ _ h => h) (Or.inr ⟨by kernel_rfl, rfl⟩) (by assumption) ?_
            (try simp only [Act.put, List.setIfInBounds_toArray, List.set_cons_zero, List.set_cons_succ])
            refine wpAnyH_take (i := 21) (oi := ⟨some 70, _, _, _, _, _⟩) (v := undef) rfl (by kernel_rfl) (by kernel_rfl) (by kernel_rfl) (fun _ _ _ h => h) (Or.inr ⟨by kernel_rfl, rfl⟩) (by assumption) ?_
            (try simp only [Act.put, List.setIfInBounds_toArray, List.set_cons_zero, List.set_cons_succ])
            refine wpAnyH_take (i := 22) (oi := ⟨some 71, _, _, _, _, _⟩) (v := undef) rfl (by kernel_rfl) (by kernel_rfl) (by kernel_rfl) (fun _ _ _ h => h) (Or.inr ⟨by kernel_rfl, rfl⟩) (by assumption) ?_
            (try simp only [Act.put, List.setIfInBounds_toArray, List.set_cons_zero, List.set_cons_succ])
            refine wpAnyH_take (i := 23) (oi := ⟨some 72, _, _, _, _, _⟩) (v := undef) rfl (by kernel_rfl) (by kernel_rfl) (by kernel_rfl) (fun _ _ _ h => h) (Or.inr ⟨by kernel_rfl, rfl⟩) (by assumption) ?_
            (try simp only [Act.put, List.setIfInBounds_toArray, List.set_cons_zero, List.set_cons_succ])
            refine wpAnyH_take (i := 24) (oi := ⟨some 73, _, _, _, _, _⟩) (v := .bool false) rfl (by kernel_rfl) (by kernel_rfl) (by kernel_rfl) (fun _ _ _ h => h) (Or.inl ⟨by kernel_rfl, fun w hSw => by ((try dsimp only at hSw); go_simp; done)⟩) (by assumption) ?_
            (try simp only [Act.put, List.setIfInBounds_toArray, List.set_cons_zero, List.set_cons_succ])
            refine wpAnyH_take (i := 25) (oi := ⟨some 6, _, _, _, _, _⟩) (v := .bool false) rfl (by kernel_rfl) (by kernel_rfl) (by kernel_rfl) (fun _ _ _ h => h) (Or.inl ⟨by kernel_rfl, fun w hSw => by ((try dsimp only at hSw); go_simp; done)⟩) (by assumption) ?_
            (try simp only [Act.put, List.setIfInBounds_toArray, List.set_cons_zero, List.set_cons_succ])
            refine wpAnyH_done (by kernel_rfl) ?_ _
            go_wp2_with fail
            go_ret
            exact ⟨by rw [HX.out]; rfl, S4.out.below⟩
          | true =>
            rw [ha, Bool.true_and] at HX
            obtain ⟨b3, hb3⟩ : ∃ b3, Hid ((d.store == e.load) = b3) := ⟨_, Lib.hid rfl⟩
            rw [hb3.out] at HX
            refine wp_region_held_drew (S := (fun w' => (LoadE (.pointer (some ⟨b, off + m * 14, none⟩))).run Tryz.prog w' = .ok d.V w' ∧ w'.cell? ⟨b, off + m * 14 + 3, none⟩ = some (.int .u64 d.addr) ∧ w'.cell? ⟨b, off + m * 14 + 5, none⟩ = some (.int .u64 d.store) ∧ w'.cell? ⟨w.heap.size + 1, 3, none⟩ = some (.int .u64 e.addr) ∧ w'.cell? ⟨w.heap.size + 1, 4, none⟩ = some (.int .u64 e.load))) (by kernel_rfl) ?_ (fun hHeld => ?_)
            · exact FIVE.out _ S3.out
            refine wpAnyH_take (i := 0) (oi := ⟨some 49, _, _, _, _, _⟩) (v := ?v0) rfl (by kernel_rfl) (by kernel_rfl) (by kernel_rfl) (fun _ _ _ h => h) (Or.inl ⟨by kernel_rfl, ?h0⟩) (by assumption) ?_
            case h0 => ((intro w hSw; (try dsimp only at hSw); go_simp) <;> (try with_reducible rfl))
            (try simp only [Act.put, List.setIfInBounds_toArray, List.set_cons_zero, List.set_cons_succ])
            refine wpAnyH_take (i := 1) (oi := ⟨some 50, _, _, _, _, _⟩) (v := ?v1) rfl (by kernel_rfl) (by kernel_rfl) (by kernel_rfl) (fun _ _ _ h => h) (Or.inl ⟨by kernel_rfl, ?h1⟩) (by assumption) ?_
            case h1 => ((intro w hSw; (try dsimp only at hSw); go_simp) <;> (try with_reducible rfl))
            (try simp only [Act.put, List.setIfInBounds_toArray, List.set_cons_zero, List.set_cons_succ])
            refine wpAnyH_take (i := 2) (oi := ⟨some 51, _, _, _, _, _⟩) (v := ?v2) rfl (by kernel_rfl) (by kernel_rfl) (by kernel_rfl) (fun _ _ _ h => h) (Or.inl ⟨by kernel_rfl, ?h2⟩) (by assumption) ?_
            case h2 => ((intro w hSw; (try dsimp only at hSw); go_simp) <;> (try with_reducible rfl))
            (try simp only [Act.put, List.setIfInBounds_toArray, List.set_cons_zero, List.set_cons_succ])
            refine wpAnyH_take (i := 3) (oi := ⟨some 52, _, _, _, _, _⟩) (v := ?v3) rfl (by kernel_rfl) (by kernel_rfl) (by kernel_rfl) (fun _ _ _ h => h) (Or.inl ⟨by kernel_rfl, ?h3⟩) (by assumption) ?_
            case h3 => ((intro w hSw; (try dsimp only at hSw); go_simp) <;> (try with_reducible rfl))
            (try simp only [Act.put, List.setIfInBounds_toArray, List.set_cons_zero, List.set_cons_succ])
            refine wpAnyH_ready (rs := [4]) (by kernel_rfl) (by simp) ?_
            refine AllReadyH.cons (o := ⟨some 53, _, _, _, _, _⟩) rfl (fun K hK => ?_) AllReadyH.nil
            go_simp
            ((go_at_call 46; (with_reducible refine (KW2.out _).mono ?_); rintro e' w4 ⟨rfl, hb⟩; have S4 := Lib.hid (S3.out.on hb); clear hb))
            (try go_wp2_with fail)
            refine hK.out _ _ ?_ (fun hHeld => ?_)
            · exact FIVE.out _ S4.out
            clear hK K
            (try simp only [Act.put, List.setIfInBounds_toArray, List.set_cons_zero, List.set_cons_succ])
            refine wpAnyH_take (i := 5) (oi := ⟨some 54, _, _, _, _, _⟩) (v := .bool true) rfl (by kernel_rfl) (by kernel_rfl) (by kernel_rfl) (fun _ _ _ h => h) (Or.inl ⟨by kernel_rfl, fun w hSw => by ((try dsimp only at hSw); go_simp; done)⟩) (by assumption) ?_
            (try simp only [Act.put, List.setIfInBounds_toArray, List.set_cons_zero, List.set_cons_succ])
            refine wpAnyH_take (i := 6) (oi := ⟨some 55, _, _, _, _, _⟩) (v := ?v6) rfl (by kernel_rfl) (by kernel_rfl) (by kernel_rfl) (fun _ _ _ h => h) (Or.inl ⟨by kernel_rfl, ?h6⟩) (by assumption) ?_
            case h6 => ((intro w hSw; (try dsimp only at hSw); go_simp) <;> (try with_reducible rfl))
            (try simp only [Act.put, List.setIfInBounds_toArray, List.set_cons_zero, List.set_cons_succ])
            refine wpAnyH_take (i := 7) (oi := ⟨some 56, _, _, _, _, _⟩) (v := ?v7) rfl (by kernel_rfl) (by kernel_rfl) (by kernel_rfl) (fun _ _ _ h => h) (Or.inl ⟨by kernel_rfl, ?h7⟩) (by assumption) ?_
            case h7 => ((intro w hSw; (try dsimp only at hSw); go_simp) <;> (try with_reducible rfl))
            (try simp only [Act.put, List.setIfInBounds_toArray, List.set_cons_zero, List.set_cons_succ])
            refine wpAnyH_take (i := 8) (oi := ⟨some 57, _, _, _, _, _⟩) (v := ?v8) rfl (by kernel_rfl) (by kernel_rfl) (by kernel_rfl) (fun _ _ _ h => h) (Or.inl ⟨by kernel_rfl, ?h8⟩) (by assumption) ?_
            case h8 => ((intro w hSw; (try dsimp only at hSw); go_simp) <;> (try with_reducible rfl))
            (try simp only [Act.put, List.setIfInBounds_toArray, List.set_cons_zero, List.set_cons_succ])
            refine wpAnyH_take (i := 9) (oi := ⟨some 58, _, _, _, _, _⟩) (v := ?v9) rfl (by kernel_rfl) (by kernel_rfl) (by kernel_rfl) (fun _ _ _ h => h) (Or.inl ⟨by kernel_rfl, ?h9⟩) (by assumption) ?_
            case h9 => ((intro w hSw; (try dsimp only at hSw); go_simp) <;> (try with_reducible rfl))
            (try simp only [Act.put, List.setIfInBounds_toArray, List.set_cons_zero, List.set_cons_succ])
            refine wpAnyH_take (i := 10) (oi := ⟨some 59, _, _, _, _, _⟩) (v := ?v10) rfl (by kernel_rfl) (by kernel_rfl) (by kernel_rfl) (fun _ _ _ h => h) (Or.inl ⟨by kernel_rfl, ?h10⟩) (by assumption) ?_
            case h10 => ((intro w hSw; (try dsimp only at hSw); go_simp) <;> (try with_reducible rfl))
            (try simp only [Act.put, List.setIfInBounds_toArray, List.set_cons_zero, List.set_cons_succ])
            refine wpAnyH_take (i := 11) (oi := ⟨some 60, _, _, _, _, _⟩) (v := ?v11) rfl (by kernel_rfl) (by kernel_rfl) (by kernel_rfl) (fun _ _ _ h => h) (Or.inl ⟨by kernel_rfl, ?h11⟩) (by assumption) ?_
            case h11 => ((intro w hSw; (try dsimp only at hSw); go_simp) <;> (try with_reducible rfl))
            (try simp only [Act.put, List.setIfInBounds_toArray, List.set_cons_zero, List.set_cons_succ])
            refine wpAnyH_take (i := 12) (oi := ⟨some 61, _, _, _, _, _⟩) (v := ?v12) rfl (by kernel_rfl) (by kernel_rfl) (by kernel_rfl) (fun _ _ _ h => h) (Or.inl ⟨by kernel_rfl, ?h12⟩) (by assumption) ?_
            case h12 => ((intro w hSw; (try dsimp only at hSw); go_simp) <;> (try with_reducible rfl))
            (try simp only [Act.put, List.setIfInBounds_toArray, List.set_cons_zero, List.set_cons_succ])
            refine wpAnyH_take (i := 13) (oi := ⟨some 62, _, _, _, _, _⟩) (v := .bool true) rfl (by kernel_rfl) (by kernel_rfl) (by kernel_rfl) (fun _ _ _ h => h) (Or.inl ⟨by kernel_rfl, fun w hSw => by ((try dsimp only at hSw); go_simp; done)⟩) (by assumption) ?_
            (try simp only [Act.put, List.setIfInBounds_toArray, List.set_cons_zero, List.set_cons_succ])
            refine wpAnyH_take (i := 14) (oi := ⟨some 63, _, _, _, _, _⟩) (v := .bool true) rfl (by kernel_rfl) (by kernel_rfl) (by kernel_rfl) (fun _ _ _ h => h) (Or.inl ⟨by kernel_rfl, fun w hSw => by ((try dsimp only at hSw); go_simp; done)⟩) (by assumption) ?_
            (try simp only [Act.put, List.setIfInBounds_toArray, List.set_cons_zero, List.set_cons_succ])
            refine wpAnyH_take (i := 15) (oi := ⟨some 64, _, _, _, _, _⟩) (v := .bool true) rfl (by kernel_rfl) (by kernel_rfl) (by kernel_rfl) (fun _ _ _ h => h) (Or.inl ⟨by kernel_rfl, fun w hSw => by ((try dsimp only at hSw); go_simp; done)⟩) (by assumption) ?_
            (try simp only [Act.put, List.setIfInBounds_toArray, List.set_cons_zero, List.set_cons_succ])
            refine wpAnyH_take (i := 16) (oi := ⟨some 65, _, _, _, _, _⟩) (v := ?v16) rfl (by kernel_rfl) (by kernel_rfl) (by kernel_rfl) (fun _ _ _ h => h) (Or.inl ⟨by kernel_rfl, ?h16⟩) (by assumption) ?_
            case h16 => ((intro w hSw; (try dsimp only at hSw); go_simp) <;> (try with_reducible rfl))
            (try simp only [Act.put, List.setIfInBounds_toArray, List.set_cons_zero, List.set_cons_succ])
            refine wpAnyH_take (i := 17) (oi := ⟨some 66, _, _, _, _, _⟩) (v := ?v17) rfl (by kernel_rfl) (by kernel_rfl) (by kernel_rfl) (fun _ _ _ h => h) (Or.inl ⟨by kernel_rfl, ?h17⟩) (by assumption) ?_
            case h17 => ((intro w hSw; (try dsimp only at hSw); go_simp) <;> (try with_reducible rfl))
            (try simp only [Act.put, List.setIfInBounds_toArray, List.set_cons_zero, List.set_cons_succ])
            refine wpAnyH_take (i := 18) (oi := ⟨some 67, _, _, _, _, _⟩) (v := ?v18) rfl (by kernel_rfl) (by kernel_rfl) (by kernel_rfl) (fun _ _ _ h => h) (Or.inl ⟨by kernel_rfl, ?h18⟩) (by assumption) ?_
            case h18 => ((intro w hSw; (try dsimp only at hSw); go_simp) <;> (try with_reducible rfl))
            (try simp only [Act.put, List.setIfInBounds_toArray, List.set_cons_zero, List.set_cons_succ])
            refine wpAnyH_take (i := 19) (oi := ⟨some 68, _, _, _, _, _⟩) (v := ?v19) rfl (by kernel_rfl) (by kernel_rfl) (by kernel_rfl) (fun _ _ _ h => h) (Or.inl ⟨by kernel_rfl, ?h19⟩) (by assumption) ?_
            case h19 => ((intro w hSw; (try dsimp only at hSw); go_simp) <;> (try with_reducible rfl))
            (try simp only [Act.put, List.setIfInBounds_toArray, List.set_cons_zero, List.set_cons_succ])
            refine wpAnyH_take (i := 20) (oi := ⟨some 69, _, _, _, _, _⟩) (v := ?v20) rfl (by kernel_rfl) (by kernel_rfl) (by kernel_rfl) (fun _ _ _ h => h) (Or.inl ⟨by kernel_rfl, ?h20⟩) (by assumption) ?_
            case h20 => ((intro w hSw; (try dsimp only at hSw); go_simp) <;> (try with_reducible rfl))
            (try simp only [Act.put, List.setIfInBounds_toArray, List.set_cons_zero, List.set_cons_succ])
            refine wpAnyH_take (i := 21) (oi := ⟨some 70, _, _, _, _, _⟩) (v := ?v21) rfl (by kernel_rfl) (by kernel_rfl) (by kernel_rfl) (fun _ _ _ h => h) (Or.inl ⟨by kernel_rfl, ?h21⟩) (by assumption) ?_
            case h21 => ((intro w hSw; (try dsimp only at hSw); go_simp) <;> (try with_reducible rfl))
            (try simp only [Act.put, List.setIfInBounds_toArray, List.set_cons_zero, List.set_cons_succ])
            refine wpAnyH_take (i := 22) (oi := ⟨some 71, _, _, _, _, _⟩) (v := ?v22) rfl (by kernel_rfl) (by kernel_rfl) (by kernel_rfl) (fun _ _ _ h => h) (Or.inl ⟨by kernel_rfl, ?h22⟩) (by assumption) ?_
            case h22 => ((intro w hSw; (try dsimp only at hSw); go_simp) <;> (try with_reducible rfl))
            (try simp only [Act.put, List.setIfInBounds_toArray, List.set_cons_zero, List.set_cons_succ])
            refine wpAnyH_take (i := 23) (oi := ⟨some 72, _, _, _, _, _⟩) (v := .bool (d.store == e.load)) rfl (by kernel_rfl) (by kernel_rfl) (by kernel_rfl) (fun _ _ _ h => h) (Or.inl ⟨by kernel_rfl, fun w hSw => by ((try dsimp only at hSw); go_simp; done)⟩) (by assumption) ?_
            (try simp only [Act.put, List.setIfInBounds_toArray, List.set_cons_zero, List.set_cons_succ])
            refine wpAnyH_take (i := 24) (oi := ⟨some 73, _, _, _, _, _⟩) (v := .bool (d.store == e.load)) rfl (by kernel_rfl) (by kernel_rfl) (by kernel_rfl) (fun _ _ _ h => h) (Or.inl ⟨by kernel_rfl, fun w hSw => by ((try dsimp only at hSw); go_simp; done)⟩) (by assumption) ?_
            (try simp only [Act.put, List.setIfInBounds_toArray, List.set_cons_zero, List.set_cons_succ])
            refine wpAnyH_take (i := 25) (oi := ⟨some 6, _, _, _, _, _⟩) (v := .bool (d.store == e.load)) rfl (by kernel_rfl) (by kernel_rfl) (by kernel_rfl) (fun _ _ _ h => h) (Or.inl ⟨by kernel_rfl, fun w hSw => by ((try dsimp only at hSw); go_simp; done)⟩) (by assumption) ?_
            (try simp only [Act.put, List.setIfInBounds_toArray, List.set_cons_zero, List.set_cons_succ])
            refine wpAnyH_done (by kernel_rfl) ?_ _
            go_wp2_with fail
            go_ret
            exact ⟨by rw [HX.out, ← hb3.out]; rfl, S4.out.below⟩
theorem rfrom_any (c : Cd) (q : Cv) (E : Nat → Ev) (b off ca n : Nat) (w : World) (H0 : CAt c q w) (h : RAll c E b off w) (hn : n < c.N) (hl : c.fr.length = c.N) (hfs : c.fs.length ≤ 100000) :
    Calls Tryz.prog 32 #[cdV c q, .slice (some ⟨b, off, none⟩) c.N ca, .int .i64 (n : Int)] w fun e w' => SaysB w (findB c n) e w' := by
  rw [← findE_is h n hn]
  rcases H0.from_ with ⟨_, h0⟩ | ⟨bR, oR, cR, e1, _, _, h3, h4⟩
  · rw [h0] at hl
    simp at hl
    omega
  · injection e1 with e2
    exact rfrom_some c q E b off ca n bR oR w H0 h hn hl e2 h3 hfs (h4 n (by omega))
end Go.Proofs.YtokhnjcbcpmmjaaGreat
