/-
  Proved here: slices.Repeat of one number, cand's Places: the place in the order of each number; nothing that was there is changed. Condition: a light candidate that may be.
-/
import Derived.Test.YtokhnjcbcpmmjaaGreatCdFew
import Derived.Test.YtokhnjcbcpmmjaaGreatShelf
namespace Go.Proofs.YtokhnjcbcpmmjaaGreat
set_option linter.unusedVariables false
set_option linter.unusedSimpArgs false
open Go.RowKit
attribute [local go_sem ↓] fold_E fold_SE
attribute [local irreducible] wpStill

/-- a row of ints in a block -/
def intsOf (f : Nat → Int) (N : Nat) : List Value := (List.range N).map fun k => .int .i64 (f k)
def IntsAt (f : Nat → Int) (N M : Nat) (w : World) : Prop := w.heap[M]? = some (.cells (intsOf f N).toArray 3 (0, 0))
theorem IntsAt.lt {f : Nat → Int} {N M : Nat} {w : World} (h : IntsAt f N M w) : M < w.heap.size := (Array.getElem?_eq_some_iff.1 h).1
theorem IntsAt.cell {f : Nat → Int} {N M : Nat} {w : World} (h : IntsAt f N M w) (n : Nat) (hn : n < N) : w.cell? ⟨M, n, none⟩ = some (.int .i64 (f n)) := by
  rw [cell_of_row w M n _ _ _ h]; simp [intsOf, hn]
theorem IntsAt.free {f : Nat → Int} {N M : Nat} {w : World} (h : IntsAt f N M w) (n : Nat) : w.frozen? ⟨M, n, none⟩ = false := frozen_of_row w M n _ _ h
theorem IntsAt.on {f : Nat → Int} {N M : Nat} {w w' : World} (h : IntsAt f N M w) (hb : Below w.heap.size w w') : IntsAt f N M w' := (hb.block M h.lt).trans h
theorem intsOf_len (f : Nat → Int) (N : Nat) : (intsOf f N).length = N := by simp [intsOf]
theorem intsOf_ext {f f2 : Nat → Int} {N : Nat} (he : ∀ k, k < N → f k = f2 k) : intsOf f N = intsOf f2 N := by
  unfold intsOf
  exact List.map_congr_left (fun k hk => by rw [he k (List.mem_range.1 hk)])
theorem intsOf_set {f f2 : Nat → Int} {N : Nat} (n : Nat) (b : Int) (he : ∀ k, k < N → f2 k = if k = n then b else f k) : (intsOf f N).set n (.int .i64 b) = intsOf f2 N := by
  apply List.ext_getElem?
  intro j
  rw [List.getElem?_set]
  by_cases hj : j < N
  · have h2 := he j hj
    have e1 : (intsOf f2 N)[j]? = some (.int .i64 (f2 j)) := by simp [intsOf, hj]
    have e2 : (intsOf f N)[j]? = some (.int .i64 (f j)) := by simp [intsOf, hj]
    rw [e1, e2, h2]
    by_cases hjn : n = j
    · subst hjn
      rw [if_pos rfl, if_pos (by rw [intsOf_len]; exact hj), if_pos rfl]
    · rw [if_neg hjn, if_neg (fun e => hjn e.symm)]
  · have e1 : (intsOf f2 N)[j]? = none := by simp [intsOf]; omega
    have e2 : (intsOf f N)[j]? = none := by simp [intsOf]; omega
    rw [e1, e2]
    split
    · rw [if_neg (by rw [intsOf_len]; omega)]
    · rfl
theorem IntsAt.set {f f2 : Nat → Int} {N M : Nat} {w : World} (h : IntsAt f N M w) (n : Nat) (b : Int) (he : ∀ k, k < N → f2 k = if k = n then b else f k) : IntsAt f2 N M (w.setCell ⟨M, n, none⟩ (.int .i64 b)) := by
  have := set_at w M n (.int .i64 b) _ _ _ h
  unfold IntsAt
  rw [this]
  simp only [List.setIfInBounds_toArray]
  rw [intsOf_set n b he]
theorem made_ints (n : Nat) : (madeCells (Value.int .i64 0).cells (n * 1)) = (intsOf (fun _ => 0) n).toArray := by
  apply Array.ext'
  simp only [madeCells, intsOf, Nat.mul_one, Array.toList_map, Array.toList_range]
  apply List.map_congr_left
  intro k _
  simp [Value.cells, Nat.mod_one]
theorem make_ints (n : Nat) (hn : n ≤ 60) (w : World) : (Instr.makeSlice 24 (.int .i64 (n : Int)) (.int .i64 (n : Int))).run Tryz.prog w = .ok (.slice (some ⟨w.heap.size, 0, none⟩) n n) (w.alloc (.cells (intsOf (fun _ => 0) n).toArray 3)) := by
  obtain ⟨i0, hi, hz0, hz1, hz2⟩ := info_parts infoInt
  have := run_make (P := Tryz.prog) w 24 3 i0 (.int .i64 0) Tryz.underlying24 hi hz0 .i64 .i64 (n : Int) (n : Int) (by omega) (Int.le_refl _) (by rw [hz2]; omega) (by omega)
  rw [this, hz1]
  simp only [Int.toNat_natCast]
  rw [made_ints]
theorem sizeInt1 : (Tryz.prog.info? 3).map (·.size) = some 1 := by kernel_rfl
/-- how far -1 was copied -/
def partF (k n : Nat) : Int := if n < k then -1 else 0
theorem splice_at {α : Type} (L : List α) (off : Nat) (cs : List α) (h : off + cs.length ≤ L.length) (j : Nat) : (splice L off cs)[j]? = if j < off then L[j]? else if j < off + cs.length then cs[j - off]? else L[j]? := by
  unfold splice
  have hl : (L.take off).length = off := by rw [List.length_take]; omega
  by_cases h1 : j < off
  · rw [if_pos h1, List.getElem?_append_left (by omega), List.getElem?_take, if_pos h1]
  · rw [if_neg h1, List.getElem?_append_right (by omega), hl]
    by_cases h2 : j < off + cs.length
    · rw [if_pos h2, List.getElem?_append_left (by omega)]
    · rw [if_neg h2, List.getElem?_append_right (by omega), List.getElem?_drop]
      congr 1
      omega
theorem intsOf_at (f : Nat → Int) (N j : Nat) : (intsOf f N)[j]? = if j < N then some (.int .i64 (f j)) else none := by
  by_cases h : j < N
  · rw [if_pos h]; simp [intsOf, h]
  · rw [if_neg h]; simp [intsOf]; omega
theorem part_splice (N k m : Nat) (h1 : k + m ≤ N) : splice (intsOf (partF k) N) k (intsOf (fun _ => -1) m) = intsOf (partF (k + m)) N := by
  apply List.ext_getElem?
  intro j
  rw [splice_at _ _ _ (by rw [intsOf_len, intsOf_len]; exact h1), intsOf_len, intsOf_at, intsOf_at, intsOf_at]
  unfold partF
  by_cases a1 : j < k
  · rw [if_pos a1, if_pos (show j < N by omega), if_pos a1, if_pos (show j < k + m by omega)]
    rw [if_pos (show j < N by omega)]
  · rw [if_neg a1]
    by_cases a2 : j < k + m
    · rw [if_pos a2, if_pos (show j - k < m by omega), if_pos (show j < N by omega), if_pos a2]
    · rw [if_neg a2, if_neg a1, if_neg a2]
theorem one_ints (f : Nat → Int) (n : Nat) : ∀ v ∈ intsOf f n, v.oneCell' = true := fun v hv => by
  unfold intsOf at hv; rw [List.mem_map] at hv; obtain ⟨_, _, rfl⟩ := hv; rfl
theorem part_src {W : World} {g n k m : Nat} (h : W.heap[g]? = some (.cells (intsOf (partF k) n).toArray 3 (0, 0))) (hm : m ≤ k) (hn : k ≤ n) (i : Nat) (v : Value) (hv : (intsOf (fun _ => -1) m)[i]? = some v) : W.drew.cell? ((⟨g, 0, none⟩ : Addr).add i) = some v := by
  rw [intsOf_at] at hv
  by_cases hi : i < m
  · rw [if_pos hi] at hv
    rw [Addr.add_lit, Nat.zero_add]
    show W.cell? ⟨g, i, none⟩ = some v
    rw [cell_of_row W g i _ _ _ h]
    have := intsOf_at (partF k) n i
    rw [if_pos (by omega)] at this
    simp only [List.getElem?_toArray]
    rw [this, ← hv]
    unfold partF
    rw [if_pos (by omega)]
  · rw [if_neg hi] at hv; cases hv
/-- n times -1, in block g -/
def RepIs (n : Nat) (w : World) (e : Ending) (w' : World) : Prop := ∃ g, e = .returned (.slice (some ⟨g, 0, none⟩) n n) ∧ w.heap.size ≤ g ∧ IntsAt (fun _ => -1) n g w' ∧ Below w.heap.size w w'
set_option maxRecDepth 100000 in
set_option maxHeartbeats 8000000 in
theorem repeat_any (n b : Nat) (w : World) (hn : n ≤ 60) (hb : w.heap[b]? = some (.cells #[.int .i64 (-1)] 3 (0, 0))) : Calls Tryz.prog 39 #[.slice (some ⟨b, 0, none⟩) 1 1, .int .i64 (n : Int)] w fun e w' => RepIs n w e w' := by
  have KM : Hid (∀ w0, Calls Tryz.prog 63 #[.int .u64 1, .int .u64 (n : Int)] w0 fun e w' => e = .returned (.tuple #[.int .u64 0, .int .u64 (n : Int)]) ∧ w0 = w') := Lib.hid (fun w0 => (Tryz.bits_Mul 1 n (by omega) (by omega) w0).mono fun e w' ⟨h1, h2⟩ => ⟨by rw [h1, Nat.one_mul, Nat.div_eq_of_lt (by omega), Nat.mod_eq_of_lt (by omega)]; rfl, h2.symm⟩)
  have h0 : decide ((n : Int) < 0) = false := by simp
  have hm := make_ints n hn
  have HB := Lib.hid hb
  have hlt : b < w.heap.size := (Array.getElem?_eq_some_iff.1 hb).1
  clear hb
  have hmx : decide ((9223372036854775807 : Int) < (n : Int)) = false := by simp; omega
  rcases Nat.eq_zero_or_pos n with hz | hp
  · subst hz
    have hm0 : ∀ w, (Instr.makeSlice 24 (.int .i64 0) (.int .i64 0)).run Tryz.prog w = .ok (.slice (some ⟨w.heap.size, 0, none⟩) 0 0) (w.alloc (.cells (intsOf (fun _ => 0) 0).toArray 3)) := hm
    have HI : Hid (IntsAt (fun _ => -1) 0 w.heap.size (w.alloc (.cells (intsOf (fun _ => 0) 0).toArray 3))) := Lib.hid (show _ = _ from Array.getElem?_push_size)
    have HBx := Lib.hid (box_below w (.cells (intsOf (fun _ => 0) 0).toArray 3))
    clear hm hmx h0
    go_enter Tryz.func39, Tryz.ntmps39
    go_upto_region 7 with (go_at_call 63; (with_reducible refine (KM.out _).mono ?_); rintro e' w1 ⟨rfl, rfl⟩)
    have hcp : ∀ w, (Builtin.copy_ #[24, 24] 3 #[.slice (some ⟨w.heap.size, 0, none⟩) 0 0, .slice (some ⟨b, 0, none⟩) 1 1]).run Tryz.prog w = .ok (goInt 0) w := fun w => run_copy_noneK w _ _ _ 3 _ _ _ _ _ _ Tryz.underlying24 (by rw [sizeInt1]; rfl) rfl
    have hcp2 : (Builtin.copy_ #[24, 24] 3 #[.slice (some ⟨w.heap.size, 0, none⟩) 0 0, .slice (some ⟨b, 0, none⟩) 1 1]).run Tryz.prog (w.alloc (.cells (intsOf (fun _ => 0) 0).toArray 3)) = .ok (goInt 0) (w.alloc (.cells (intsOf (fun _ => 0) 0).toArray 3)) := run_copy_noneK _ _ _ _ 3 _ _ _ _ _ _ Tryz.underlying24 (by rw [sizeInt1]; rfl) rfl
    go_wp2
    refine wp_loop_rounds 1 ?_
    rw [rounds_succ]
    go_wp2
    go_ret
    exact ⟨w.heap.size, rfl, Nat.le_refl _, HI.out, HBx.out⟩
  have HI : Hid ((w.alloc (.cells (intsOf (fun _ => 0) n).toArray 3)).heap[w.heap.size]? = some (.cells (intsOf (partF 0) n).toArray 3 (0, 0))) := Lib.hid (by
    rw [intsOf_ext (f := partF 0) (f2 := fun _ => 0) (fun k _ => by unfold partF; rw [if_neg (by omega)])]
    exact Array.getElem?_push_size)
  have HBx := Lib.hid (box_below w (.cells (intsOf (fun _ => 0) n).toArray 3))
  have HB2 := Lib.hid ((HBx.out.block b hlt).trans HB.out)
  have HS := Lib.hid (part_splice n 0 1 (by omega))
  have hn1 : ¬ (n = 0) := by omega
  go_enter Tryz.func39, Tryz.ntmps39
  go_upto_region 7 with (go_at_call 63; (with_reducible refine (KM.out _).mono ?_); rintro e' w1 ⟨rfl, rfl⟩)
  go_wp2_with (refine wpList_copy_splice rfl (.tmp 31) (.tmp 32) 24 24 rfl 3 Tryz.underlying24 sizeInt1 _ _ _ _ _ _ rfl rfl w.heap.size 0 (intsOf (partF 0) n) 3 HI.out (intsOf (fun _ => -1) 1) (by rw [intsOf_len]; exact (Nat.min_eq_left (show 1 ≤ n from hp)).symm) (fun _ => ⟨rfl, _, rfl, fun i v hv => by rw [intsOf_at] at hv; have hi : i < 1 := (by by_cases h : i < 1; exact h; rw [if_neg h] at hv; cases hv); rw [if_pos hi] at hv; obtain rfl : i = 0 := (by omega); rw [Addr.add_lit, cell_of_row _ b _ _ _ _ HB2.out]; simpa using hv⟩) (by rw [intsOf_len, intsOf_len]; omega) (fun v hv => by unfold intsOf at hv; rw [List.mem_map] at hv; obtain ⟨_, _, rfl⟩ := hv; rfl) w.heap.size w HBx.out (Nat.le_refl _) ?_; intro w2 hg2 hb2; rw [HS.out] at hg2; have B2 := Lib.hid hb2; clear hb2)
  rw [intsOf_len]
  go_loopw [8] (fun vi wr => ∃ (k : Nat), 1 ≤ k ∧ k ≤ n ∧ vi = .int .i64 k ∧ Hid (wr.heap[w.heap.size]? = some (.cells (intsOf (partF k) n).toArray 3 (0, 0))) ∧ Below w.heap.size w wr) (fun vi _ => n - (intOf vi).toNat)
  case atStart => exact ⟨1, Nat.le_refl _, hp, rfl, hg2, B2.out⟩
  case round =>
    obtain ⟨k, hk1, hkn, rfl, hI, hbel⟩ := hrel
    have HBr := Lib.hid hbel
    clear hbel
    by_cases hlt2 : k < n
    · obtain ⟨m, hm2⟩ : ∃ m, Hid (m = Nat.min k (n - k)) := ⟨_, Lib.hid rfl⟩
      have hmn : k + m ≤ n := by have h1 : m ≤ n - k := (by rw [hm2.out]; exact Nat.min_le_right _ _); omega
      have hmp : 1 ≤ m := by rw [hm2.out]; exact Nat.le_min.2 ⟨hk1, by omega⟩
      have hmk : m ≤ k := by rw [hm2.out]; exact Nat.min_le_left _ _
      have HS2 := Lib.hid (part_splice n k m hmn)
      have hne : ¬ (n = k) := by omega
      have hki : (k : Int) ≤ (n : Int) := by omega
      have hk0 : (0 : Int) ≤ (k : Int) := by omega
      go_upto_region 9 with fail
      go_region_held3 (fun _ => True) (trivial)
        ((refine step_copy_splice rfl (.tmp 41) (.tmp 44) 24 24 rfl 3 Tryz.underlying24 sizeInt1 _ _ _ _ _ _ rfl rfl w.heap.size k (intsOf (partF k) n) 3 hI.out (intsOf (fun _ => -1) m) (by rw [intsOf_len]; exact hm2.out) (fun _ => ⟨rfl, _, rfl, fun i v hv => part_src hI.out hmk hkn i v hv⟩) (by rw [intsOf_len, intsOf_len]; omega) (one_ints _ _) w.heap.size w HBr.out.drew (Nat.le_refl _) ?_; intro w2 hg2 hb2; rw [HS2.out] at hg2; have B2 := Lib.hid hb2; clear hb2))
      rw [intsOf_len, IntWalk.i64_in _ (by omega)]
      go_wp2
      go_roundw
      case rel => exact ⟨k + m, by omega, hmn, by rw [Int.natCast_add], hg2, B2.out⟩
      case measure => simp [intOf]; omega
    · obtain rfl : k = n := by omega
      go_wp2
      go_ret
      refine ⟨w.heap.size, rfl, Nat.le_refl _, ?_, HBr.out⟩
      unfold IntsAt
      rw [← intsOf_ext (f := partF k) (f2 := fun _ => -1) (fun j hj => by unfold partF; rw [if_pos hj])]
      exact hI.out
/-- the place of each number, so much of the order gone through -/
def plcL (c : Cd) : Nat → Nat → Int
  | 0, _ => -1
  | k + 1, n => if (n : Int) = atI c.od k then (k : Int) else plcL c k n
def PlacesIs (c : Cd) (w : World) (e : Ending) (w' : World) : Prop := ∃ g, e = .returned (.slice (some ⟨g, 0, none⟩) c.N c.N) ∧ w.heap.size ≤ g ∧ IntsAt (plcL c c.od.length) c.N g w' ∧ Below w.heap.size w w'
theorem may_ord {c : Cd} (h : c.may = true) : ordL c c.od.length = true ∧ countW (waitsL c c.od.length) c.N = 0 := by
  rw [may_is] at h
  simp only [Bool.and_eq_true] at h
  have := h.2.2.2.2.2.2
  unfold orderedB at this
  rw [Bool.and_eq_true, decide_eq_true_eq] at this
  exact this
theorem may_in {c : Cd} (h : c.may = true) (k : Nat) (hk : k < c.od.length) : 0 ≤ atI c.od k ∧ atI c.od k < c.N := by
  have := all_at _ _ (may_ord h).1 k hk
  unfold ordAt at this
  rw [Bool.and_eq_true] at this
  exact withinB_yes this.1
theorem may_rise {c : Cd} (h : c.may = true) : riseL c.fs c.fs.length = true := by
  rw [may_is] at h
  simp only [Bool.and_eq_true] at h
  exact h.2.2.2.1
set_option maxRecDepth 100000 in
set_option maxHeartbeats 8000000 in
theorem Places_yes (c : Cd) (q : Cv) (w : World) (hL : Lt c) (h : CAt c q w) (hm : c.may = true) : Calls Tryz.prog 15 #[cdV c q] w fun e w' => PlacesIs c w e w' := by
  have KK : Hid (∀ w0, CAt c q w0 → Calls Tryz.prog 28 #[cdV c q] w0 fun e w' => LookIs c true w0 e w') := Lib.hid (fun w0 h0 => by rw [← hm]; exact look_any2 c q w0 hL h0)
  have S0 := Lib.hid (Lk.start h)
  have HIN := Lib.hid (may_in hm)
  have hn60 := hL.n
  have ho120 := hL.od
  have KR := Lib.hid (fun b w0 hb => repeat_any c.N b w0 hn60 hb)
  clear h hm hL
  obtain ⟨u0, u1, u2, u3⟩ := S0.out.box.facts
  go_enter Tryz.func15, Tryz.ntmps15
  go_upto_region 4 with (go_at_call 28; (with_reducible refine (KK.out _ S0.out.at_).mono ?_); rintro e' w1 ⟨v, rfl, h1, h2, hb⟩; obtain ⟨g1, rfl, h3, h4⟩ := h1 rfl; have S1 := Lib.hid (S0.out.on hb); clear hb h1 h2 h3 h4 u0 u1 u2 u3)
  have S2 := Lib.hid (S1.out.on (box_below w1 (.cells #[.int .i64 (-1)] 3)))
  go_upto_region 5 with (go_at_call 39; (with_reducible refine (KR.out _ _ Array.getElem?_push_size).mono ?_); rintro e' w3 ⟨g, rfl, hg, hI, hb⟩; have S3 := Lib.hid (S2.out.on hb); have I3 := Lib.hid hI; have G3 := Lib.hid (Nat.le_trans S2.out.below.size hg); clear hb hI hg)
  obtain ⟨u0, u1, u2, u3⟩ := S3.out.box.facts
  have HO : Hid (c.od.length = 0 ∨ ∃ b off, q.aO = some ⟨b, off, none⟩ ∧ b < w.heap.size ∧ ∀ j, j < c.od.length → w.cell? ⟨b, off + j, none⟩ = some (.int .i64 (atI c.od j))) := Lib.hid (by
    rcases S0.out.here.order with ⟨_, h0⟩ | ⟨b, off, c2, e, _, _, h3, h4⟩
    · exact .inl (by rw [h0]; rfl)
    · injection e with e1 e2 e3
      exact .inr ⟨b, off, e1, h3, h4⟩)
  obtain ⟨no, hno⟩ : ∃ no, Hid (c.od.length = no) := ⟨_, Lib.hid rfl⟩
  have HF : Hid (∀ W e, (∃ g, e = .returned (.slice (some ⟨g, 0, none⟩) c.N c.N) ∧ w.heap.size ≤ g ∧ IntsAt (plcL c no) c.N g W ∧ Below w.heap.size w W) → PlacesIs c w e W) := Lib.hid (fun W e h => by unfold PlacesIs; rw [hno.out]; exact h)
  rw [hno.out] at HO HIN ho120 u3
  go_wp2
  go_loopw [22] (fun vi wr => ∃ (k : Nat), k ≤ no ∧ vi = .int .i64 k ∧ Hid (IntsAt (plcL c k) c.N g wr) ∧ Below w.heap.size w wr) (fun vi _ => no - (intOf vi).toNat)
  case atStart => exact ⟨0, Nat.zero_le _, rfl, I3, S3.out.below⟩
  case round =>
    obtain ⟨k, hk, rfl, hI, hbel⟩ := hrel
    have HB := Lib.hid hbel
    clear hbel
    by_cases hlt : k < no
    · rcases HO.out with h0 | ⟨b, off, hq, hbl, hcell⟩
      · exact absurd h0 (by omega)
      have d0 := (HB.out.cell (p := ⟨b, off + k, none⟩) hbl).trans (hcell k hlt)
      obtain ⟨i0, i1⟩ := HIN.out k hlt
      obtain ⟨x, hx⟩ : ∃ x : Nat, atI c.od k = x := ⟨(atI c.od k).toNat, by omega⟩
      have HSET : Hid (∀ n, plcL c (k + 1) n = if n = x then (k : Int) else plcL c k n) := Lib.hid (fun n => by
        show (if (n : Int) = atI c.od k then (k : Int) else plcL c k n) = _
        rw [hx]
        by_cases hn : n = x
        · rw [if_pos hn, if_pos (by omega)]
        · rw [if_neg hn, if_neg (by omega)])
      rw [hx] at d0 i1
      have hxN : x < c.N := by omega
      have cx := hI.out.cell x hxN
      have zx := hI.out.free x
      rw [hq]
      clear hcell i0 i1 hx
      go_wp2
      go_roundw
      case rel => exact ⟨k + 1, by omega, by go_num, Lib.hid (hI.out.set x k (fun n _ => HSET.out n)), HB.out.setCell (p := ⟨g, x, none⟩) G3.out _⟩
      case measure => simp [intOf]; omega
    · obtain rfl : k = no := by omega
      go_wp2
      go_ret
      exact HF.out _ _ ⟨g, rfl, G3.out, hI.out, HB.out⟩
end Go.Proofs.YtokhnjcbcpmmjaaGreat
