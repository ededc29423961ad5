/-
  Proved here: package axiom's place and later: the place of a number, the later one of two; nothing that was there is changed. Condition: a view of a light candidate that may be.
  (With it: Proved here: slices.Repeat of one number, cand's Places: the place in the order of each number; nothing that was there is changed. Condition: a light candidate that may be.)
  (With it: Words: what the axioms are, purely: places, sources, what an order tells alone; which candidates are allowed. No condition.)
  (With it: Words: a map from addresses to numbers: looked at, written, cleared. No condition.)
-/
import Derived.Test.YtcbfokbdiefdeaaGreatDoorPpView
import Derived.Test.YtcbfokbdiefdeaaGreatDoorShelf
import Derived.Test.YtcbfokbdiefdeaaGreatDoorPpWhole
import Derived.Maps.OwnOps
import Derived.Maps.OwnSet
import Derived.Test.YtcbfokbdiefdeaaGreatDoorCdFound
import Derived.Test.YtcbfokbdiefdeaaGreatDoorPpLook
namespace Go.Proofs.YtcbfokbdiefdeaaGreatDoor
set_option linter.unusedVariables false
set_option linter.unusedSimpArgs false
open Go.RowKit
attribute [local go_sem ↓] fold_E fold_SE
attribute [local irreducible] wpStill

/-- a row of ints in a block -/
def intsOf (f : Nat → Int) (N : Nat) : List Value := (List.range N).map fun k => .int .i64 (f k)
def IntsAt (f : Nat → Int) (N M : Nat) (w : World) : Prop := w.heap[M]? = some (.cells (intsOf f N).toArray 3 (0, 0))
theorem IntsAt.lt {f : Nat → Int} {N M : Nat} {w : World} (h : IntsAt f N M w) : M < w.heap.size := (Array.getElem?_eq_some_iff.1 h).1
theorem IntsAt.cell {f : Nat → Int} {N M : Nat} {w : World} (h : IntsAt f N M w) (n : Nat) (hn : n < N) : w.cell? ⟨M, n, none⟩ = some (.int .i64 (f n)) := by
  rw [cell_of_row w M n _ _ _ h]; simp [intsOf, hn]
theorem IntsAt.free {f : Nat → Int} {N M : Nat} {w : World} (h : IntsAt f N M w) (n : Nat) : w.frozen? ⟨M, n, none⟩ = false := frozen_of_row w M n _ _ h
theorem IntsAt.on {f : Nat → Int} {N M : Nat} {w w' : World} (h : IntsAt f N M w) (hb : Below w.heap.size w w') : IntsAt f N M w' := (hb.block M h.lt).trans h
theorem intsOf_len (f : Nat → Int) (N : Nat) : (intsOf f N).length = N := by simp [intsOf]
theorem intsOf_ext {f f2 : Nat → Int} {N : Nat} (he : ∀ k, k < N → f k = f2 k) : intsOf f N = intsOf f2 N := by
  unfold intsOf
  exact List.map_congr_left (fun k hk => by rw [he k (List.mem_range.1 hk)])
theorem intsOf_set {f f2 : Nat → Int} {N : Nat} (n : Nat) (b : Int) (he : ∀ k, k < N → f2 k = if k = n then b else f k) : (intsOf f N).set n (.int .i64 b) = intsOf f2 N := by
  apply List.ext_getElem?
  intro j
  rw [List.getElem?_set]
  by_cases hj : j < N
  · have h2 := he j hj
    have e1 : (intsOf f2 N)[j]? = some (.int .i64 (f2 j)) := by simp [intsOf, hj]
    have e2 : (intsOf f N)[j]? = some (.int .i64 (f j)) := by simp [intsOf, hj]
    rw [e1, e2, h2]
    by_cases hjn : n = j
    · subst hjn
      rw [if_pos rfl, if_pos (by rw [intsOf_len]; exact hj), if_pos rfl]
    · rw [if_neg hjn, if_neg (fun e => hjn e.symm)]
  · have e1 : (intsOf f2 N)[j]? = none := by simp [intsOf]; omega
    have e2 : (intsOf f N)[j]? = none := by simp [intsOf]; omega
    rw [e1, e2]
    split
    · rw [if_neg (by rw [intsOf_len]; omega)]
    · rfl
theorem IntsAt.set {f f2 : Nat → Int} {N M : Nat} {w : World} (h : IntsAt f N M w) (n : Nat) (b : Int) (he : ∀ k, k < N → f2 k = if k = n then b else f k) : IntsAt f2 N M (w.setCell ⟨M, n, none⟩ (.int .i64 b)) := by
  have := set_at w M n (.int .i64 b) _ _ _ h
  unfold IntsAt
  rw [this]
  simp only [List.setIfInBounds_toArray]
  rw [intsOf_set n b he]
theorem made_ints (n : Nat) : (madeCells (Value.int .i64 0).cells (n * 1)) = (intsOf (fun _ => 0) n).toArray := by
  apply Array.ext'
  simp only [madeCells, intsOf, Nat.mul_one, Array.toList_map, Array.toList_range]
  apply List.map_congr_left
  intro k _
  simp [Value.cells, Nat.mod_one]
theorem make_ints (n : Nat) (hn : n ≤ 60) (w : World) : (Instr.makeSlice 24 (.int .i64 (n : Int)) (.int .i64 (n : Int))).run Tryz.prog w = .ok (.slice (some ⟨w.heap.size, 0, none⟩) n n) (w.alloc (.cells (intsOf (fun _ => 0) n).toArray 3)) := by
  obtain ⟨i0, hi, hz0, hz1, hz2⟩ := info_parts infoInt
  have := run_make (P := Tryz.prog) w 24 3 i0 (.int .i64 0) Tryz.underlying24 hi hz0 .i64 .i64 (n : Int) (n : Int) (by omega) (Int.le_refl _) (by rw [hz2]; omega) (by omega)
  rw [this, hz1]
  simp only [Int.toNat_natCast]
  rw [made_ints]
theorem sizeInt1 : (Tryz.prog.info? 3).map (·.size) = some 1 := by kernel_rfl
/-- how far -1 was copied -/
def partF (k n : Nat) : Int := if n < k then -1 else 0
theorem splice_at {α : Type} (L : List α) (off : Nat) (cs : List α) (h : off + cs.length ≤ L.length) (j : Nat) : (splice L off cs)[j]? = if j < off then L[j]? else if j < off + cs.length then cs[j - off]? else L[j]? := by
  unfold splice
  have hl : (L.take off).length = off := by rw [List.length_take]; omega
  by_cases h1 : j < off
  · rw [if_pos h1, List.getElem?_append_left (by omega), List.getElem?_take, if_pos h1]
  · rw [if_neg h1, List.getElem?_append_right (by omega), hl]
    by_cases h2 : j < off + cs.length
    · rw [if_pos h2, List.getElem?_append_left (by omega)]
    · rw [if_neg h2, List.getElem?_append_right (by omega), List.getElem?_drop]
      congr 1
      omega
theorem intsOf_at (f : Nat → Int) (N j : Nat) : (intsOf f N)[j]? = if j < N then some (.int .i64 (f j)) else none := by
  by_cases h : j < N
  · rw [if_pos h]; simp [intsOf, h]
  · rw [if_neg h]; simp [intsOf]; omega
theorem part_splice (N k m : Nat) (h1 : k + m ≤ N) : splice (intsOf (partF k) N) k (intsOf (fun _ => -1) m) = intsOf (partF (k + m)) N := by
  apply List.ext_getElem?
  intro j
  rw [splice_at _ _ _ (by rw [intsOf_len, intsOf_len]; exact h1), intsOf_len, intsOf_at, intsOf_at, intsOf_at]
  unfold partF
  by_cases a1 : j < k
  · rw [if_pos a1, if_pos (show j < N by omega), if_pos a1, if_pos (show j < k + m by omega)]
    rw [if_pos (show j < N by omega)]
  · rw [if_neg a1]
    by_cases a2 : j < k + m
    · rw [if_pos a2, if_pos (show j - k < m by omega), if_pos (show j < N by omega), if_pos a2]
    · rw [if_neg a2, if_neg a1, if_neg a2]
theorem one_ints (f : Nat → Int) (n : Nat) : ∀ v ∈ intsOf f n, v.oneCell' = true := fun v hv => by
  unfold intsOf at hv; rw [List.mem_map] at hv; obtain ⟨_, _, rfl⟩ := hv; rfl
theorem part_src {W : World} {g n k m : Nat} (h : W.heap[g]? = some (.cells (intsOf (partF k) n).toArray 3 (0, 0))) (hm : m ≤ k) (hn : k ≤ n) (i : Nat) (v : Value) (hv : (intsOf (fun _ => -1) m)[i]? = some v) : W.drew.cell? ((⟨g, 0, none⟩ : Addr).add i) = some v := by
  rw [intsOf_at] at hv
  by_cases hi : i < m
  · rw [if_pos hi] at hv
    rw [Addr.add_lit, Nat.zero_add]
    show W.cell? ⟨g, i, none⟩ = some v
    rw [cell_of_row W g i _ _ _ h]
    have := intsOf_at (partF k) n i
    rw [if_pos (by omega)] at this
    simp only [List.getElem?_toArray]
    rw [this, ← hv]
    unfold partF
    rw [if_pos (by omega)]
  · rw [if_neg hi] at hv; cases hv
/-- n times -1, in block g -/
def RepIs (n : Nat) (w : World) (e : Ending) (w' : World) : Prop := ∃ g, e = .returned (.slice (some ⟨g, 0, none⟩) n n) ∧ w.heap.size ≤ g ∧ IntsAt (fun _ => -1) n g w' ∧ Below w.heap.size w w'
set_option maxRecDepth 100000 in
set_option maxHeartbeats 8000000 in
theorem repeat_any (n b : Nat) (w : World) (hn : n ≤ 60) (hb : w.heap[b]? = some (.cells #[.int .i64 (-1)] 3 (0, 0))) : Calls Tryz.prog 64 #[.slice (some ⟨b, 0, none⟩) 1 1, .int .i64 (n : Int)] w fun e w' => RepIs n w e w' := by
  have KM : Hid (∀ w0, Calls Tryz.prog 82 #[.int .u64 1, .int .u64 (n : Int)] w0 fun e w' => e = .returned (.tuple #[.int .u64 0, .int .u64 (n : Int)]) ∧ w0 = w') := Lib.hid (fun w0 => (Tryz.bits_Mul 1 n (by omega) (by omega) w0).mono fun e w' ⟨h1, h2⟩ => ⟨by rw [h1, Nat.one_mul, Nat.div_eq_of_lt (by omega), Nat.mod_eq_of_lt (by omega)]; rfl, h2.symm⟩)
  have h0 : decide ((n : Int) < 0) = false := by simp
  have hm := make_ints n hn
  have HB := Lib.hid hb
  have hlt : b < w.heap.size := (Array.getElem?_eq_some_iff.1 hb).1
  clear hb
  have hmx : decide ((9223372036854775807 : Int) < (n : Int)) = false := by simp; omega
  rcases Nat.eq_zero_or_pos n with hz | hp
  · subst hz
    have hm0 : ∀ w, (Instr.makeSlice 24 (.int .i64 0) (.int .i64 0)).run Tryz.prog w = .ok (.slice (some ⟨w.heap.size, 0, none⟩) 0 0) (w.alloc (.cells (intsOf (fun _ => 0) 0).toArray 3)) := hm
    have HI : Hid (IntsAt (fun _ => -1) 0 w.heap.size (w.alloc (.cells (intsOf (fun _ => 0) 0).toArray 3))) := Lib.hid (show _ = _ from Array.getElem?_push_size)
    have HBx := Lib.hid (box_below w (.cells (intsOf (fun _ => 0) 0).toArray 3))
    clear hm hmx h0
    go_enter Tryz.func64, Tryz.ntmps64
    go_upto_region 7 with (go_at_call 82; (with_reducible refine (KM.out _).mono ?_); rintro e' w1 ⟨rfl, rfl⟩)
    have hcp : ∀ w, (Builtin.copy_ #[24, 24] 3 #[.slice (some ⟨w.heap.size, 0, none⟩) 0 0, .slice (some ⟨b, 0, none⟩) 1 1]).run Tryz.prog w = .ok (goInt 0) w := fun w => run_copy_noneK w _ _ _ 3 _ _ _ _ _ _ Tryz.underlying24 (by rw [sizeInt1]; rfl) rfl
    have hcp2 : (Builtin.copy_ #[24, 24] 3 #[.slice (some ⟨w.heap.size, 0, none⟩) 0 0, .slice (some ⟨b, 0, none⟩) 1 1]).run Tryz.prog (w.alloc (.cells (intsOf (fun _ => 0) 0).toArray 3)) = .ok (goInt 0) (w.alloc (.cells (intsOf (fun _ => 0) 0).toArray 3)) := run_copy_noneK _ _ _ _ 3 _ _ _ _ _ _ Tryz.underlying24 (by rw [sizeInt1]; rfl) rfl
    go_wp2
    refine wp_loop_rounds 1 ?_
    rw [rounds_succ]
    go_wp2
    go_ret
    exact ⟨w.heap.size, rfl, Nat.le_refl _, HI.out, HBx.out⟩
  have HI : Hid ((w.alloc (.cells (intsOf (fun _ => 0) n).toArray 3)).heap[w.heap.size]? = some (.cells (intsOf (partF 0) n).toArray 3 (0, 0))) := Lib.hid (by
    rw [intsOf_ext (f := partF 0) (f2 := fun _ => 0) (fun k _ => by unfold partF; rw [if_neg (by omega)])]
    exact Array.getElem?_push_size)
  have HBx := Lib.hid (box_below w (.cells (intsOf (fun _ => 0) n).toArray 3))
  have HB2 := Lib.hid ((HBx.out.block b hlt).trans HB.out)
  have HS := Lib.hid (part_splice n 0 1 (by omega))
  have hn1 : ¬ (n = 0) := by omega
  go_enter Tryz.func64, Tryz.ntmps64
  go_upto_region 7 with (go_at_call 82; (with_reducible refine (KM.out _).mono ?_); rintro e' w1 ⟨rfl, rfl⟩)
  go_wp2_with (refine wpList_copy_splice rfl (.tmp 31) (.tmp 32) 24 24 rfl 3 Tryz.underlying24 sizeInt1 _ _ _ _ _ _ rfl rfl w.heap.size 0 (intsOf (partF 0) n) 3 HI.out (intsOf (fun _ => -1) 1) (by rw [intsOf_len]; exact (Nat.min_eq_left (show 1 ≤ n from hp)).symm) (fun _ => ⟨rfl, _, rfl, fun i v hv => by rw [intsOf_at] at hv; have hi : i < 1 := (by by_cases h : i < 1; exact h; rw [if_neg h] at hv; cases hv); rw [if_pos hi] at hv; obtain rfl : i = 0 := (by omega); rw [Addr.add_lit, cell_of_row _ b _ _ _ _ HB2.out]; simpa using hv⟩) (by rw [intsOf_len, intsOf_len]; omega) (fun v hv => by unfold intsOf at hv; rw [List.mem_map] at hv; obtain ⟨_, _, rfl⟩ := hv; rfl) w.heap.size w HBx.out (Nat.le_refl _) ?_; intro w2 hg2 hb2; rw [HS.out] at hg2; have B2 := Lib.hid hb2; clear hb2)
  rw [intsOf_len]
  go_loopw [8] (fun vi wr => ∃ (k : Nat), 1 ≤ k ∧ k ≤ n ∧ vi = .int .i64 k ∧ Hid (wr.heap[w.heap.size]? = some (.cells (intsOf (partF k) n).toArray 3 (0, 0))) ∧ Below w.heap.size w wr) (fun vi _ => n - (intOf vi).toNat)
  case atStart => exact ⟨1, Nat.le_refl _, hp, rfl, hg2, B2.out⟩
  case round =>
    obtain ⟨k, hk1, hkn, rfl, hI, hbel⟩ := hrel
    have HBr := Lib.hid hbel
    clear hbel
    by_cases hlt2 : k < n
    · obtain ⟨m, hm2⟩ : ∃ m, Hid (m = Nat.min k (n - k)) := ⟨_, Lib.hid rfl⟩
      have hmn : k + m ≤ n := by have h1 : m ≤ n - k := (by rw [hm2.out]; exact Nat.min_le_right _ _); omega
      have hmp : 1 ≤ m := by rw [hm2.out]; exact Nat.le_min.2 ⟨hk1, by omega⟩
      have hmk : m ≤ k := by rw [hm2.out]; exact Nat.min_le_left _ _
      have HS2 := Lib.hid (part_splice n k m hmn)
      have hne : ¬ (n = k) := by omega
      have hki : (k : Int) ≤ (n : Int) := by omega
      have hk0 : (0 : Int) ≤ (k : Int) := by omega
      go_upto_region 9 with fail
      go_region_held3 (fun _ => True) (trivial)
        ((refine step_copy_splice rfl (.tmp 41) (.tmp 44) 24 24 rfl 3 Tryz.underlying24 sizeInt1 _ _ _ _ _ _ rfl rfl w.heap.size k (intsOf (partF k) n) 3 hI.out (intsOf (fun _ => -1) m) (by rw [intsOf_len]; exact hm2.out) (fun _ => ⟨rfl, _, rfl, fun i v hv => part_src hI.out hmk hkn i v hv⟩) (by rw [intsOf_len, intsOf_len]; omega) (one_ints _ _) w.heap.size w HBr.out.drew (Nat.le_refl _) ?_; intro w2 hg2 hb2; rw [HS2.out] at hg2; have B2 := Lib.hid hb2; clear hb2))
      rw [intsOf_len, IntWalk.i64_in _ (by omega)]
      go_wp2
      go_roundw
      case rel => exact ⟨k + m, by omega, hmn, by rw [Int.natCast_add], hg2, B2.out⟩
      case measure => simp [intOf]; omega
    · obtain rfl : k = n := by omega
      go_wp2
      go_ret
      refine ⟨w.heap.size, rfl, Nat.le_refl _, ?_, HBr.out⟩
      unfold IntsAt
      rw [← intsOf_ext (f := partF k) (f2 := fun _ => -1) (fun j hj => by unfold partF; rw [if_pos hj])]
      exact hI.out
/-- the place of each number, so much of the order gone through -/
def plcL (c : Cd) : Nat → Nat → Int
  | 0, _ => -1
  | k + 1, n => if (n : Int) = atI c.od k then (k : Int) else plcL c k n
def PlacesIs (c : Cd) (w : World) (e : Ending) (w' : World) : Prop := ∃ g, e = .returned (.slice (some ⟨g, 0, none⟩) c.N c.N) ∧ w.heap.size ≤ g ∧ IntsAt (plcL c c.od.length) c.N g w' ∧ Below w.heap.size w w'
theorem may_ord {c : Cd} (h : c.may = true) : ordL c c.od.length = true ∧ countW (waitsL c c.od.length) c.N = 0 := by
  rw [may_is] at h
  simp only [Bool.and_eq_true] at h
  have := h.2.2.2.2.2.2
  unfold orderedB at this
  rw [Bool.and_eq_true, decide_eq_true_eq] at this
  exact this
theorem may_in {c : Cd} (h : c.may = true) (k : Nat) (hk : k < c.od.length) : 0 ≤ atI c.od k ∧ atI c.od k < c.N := by
  have := all_at _ _ (may_ord h).1 k hk
  unfold ordAt at this
  rw [Bool.and_eq_true] at this
  exact withinB_yes this.1
theorem may_rows {c : Cd} (h : c.may = true) : rowsL c c.nh = true := by
  rw [may_is] at h
  simp only [Bool.and_eq_true] at h
  exact h.2.2.2.2.1
set_option maxRecDepth 100000 in
set_option maxHeartbeats 8000000 in
theorem Places_yes (c : Cd) (q : Cv) (w : World) (hL : Lt c) (h : CAt c q w) (hm : c.may = true) : Calls Tryz.prog 60 #[cdV c q] w fun e w' => PlacesIs c w e w' := by
  have KK : Hid (∀ w0, CAt c q w0 → Calls Tryz.prog 75 #[cdV c q] w0 fun e w' => LookIs c true w0 e w') := Lib.hid (fun w0 h0 => by rw [← hm]; exact look_any2 c q w0 hL h0)
  have S0 := Lib.hid (Lk.start h)
  have HIN := Lib.hid (may_in hm)
  have hn60 := hL.n
  have ho120 := hL.od
  have KR := Lib.hid (fun b w0 hb => repeat_any c.N b w0 hn60 hb)
  clear h hm hL
  obtain ⟨u0, u1, u2, u3⟩ := S0.out.box.facts
  go_enter Tryz.func60, Tryz.ntmps60
  go_upto_region 4 with (go_at_call 75; (with_reducible refine (KK.out _ S0.out.at_).mono ?_); rintro e' w1 ⟨v, rfl, h1, h2, hb⟩; obtain ⟨g1, rfl, h3, h4⟩ := h1 rfl; have S1 := Lib.hid (S0.out.on hb); clear hb h1 h2 h3 h4 u0 u1 u2 u3)
  have S2 := Lib.hid (S1.out.on (box_below w1 (.cells #[.int .i64 (-1)] 3)))
  go_upto_region 5 with (go_at_call 64; (with_reducible refine (KR.out _ _ Array.getElem?_push_size).mono ?_); rintro e' w3 ⟨g, rfl, hg, hI, hb⟩; have S3 := Lib.hid (S2.out.on hb); have I3 := Lib.hid hI; have G3 := Lib.hid (Nat.le_trans S2.out.below.size hg); clear hb hI hg)
  obtain ⟨u0, u1, u2, u3⟩ := S3.out.box.facts
  have HO : Hid (c.od.length = 0 ∨ ∃ b off, q.aO = some ⟨b, off, none⟩ ∧ b < w.heap.size ∧ ∀ j, j < c.od.length → w.cell? ⟨b, off + j, none⟩ = some (.int .i64 (atI c.od j))) := Lib.hid (by
    rcases S0.out.here.order with ⟨_, h0⟩ | ⟨b, off, c2, e, _, _, h3, h4⟩
    · exact .inl (by rw [h0]; rfl)
    · injection e with e1 e2 e3
      exact .inr ⟨b, off, e1, h3, h4⟩)
  obtain ⟨no, hno⟩ : ∃ no, Hid (c.od.length = no) := ⟨_, Lib.hid rfl⟩
  have HF : Hid (∀ W e, (∃ g, e = .returned (.slice (some ⟨g, 0, none⟩) c.N c.N) ∧ w.heap.size ≤ g ∧ IntsAt (plcL c no) c.N g W ∧ Below w.heap.size w W) → PlacesIs c w e W) := Lib.hid (fun W e h => by unfold PlacesIs; rw [hno.out]; exact h)
  rw [hno.out] at HO HIN ho120 u3
  go_wp2
  go_loopw [22] (fun vi wr => ∃ (k : Nat), k ≤ no ∧ vi = .int .i64 k ∧ Hid (IntsAt (plcL c k) c.N g wr) ∧ Below w.heap.size w wr) (fun vi _ => no - (intOf vi).toNat)
  case atStart => exact ⟨0, Nat.zero_le _, rfl, I3, S3.out.below⟩
  case round =>
    obtain ⟨k, hk, rfl, hI, hbel⟩ := hrel
    have HB := Lib.hid hbel
    clear hbel
    by_cases hlt : k < no
    · rcases HO.out with h0 | ⟨b, off, hq, hbl, hcell⟩
      · exact absurd h0 (by omega)
      have d0 := (HB.out.cell (p := ⟨b, off + k, none⟩) hbl).trans (hcell k hlt)
      obtain ⟨i0, i1⟩ := HIN.out k hlt
      obtain ⟨x, hx⟩ : ∃ x : Nat, atI c.od k = x := ⟨(atI c.od k).toNat, by omega⟩
      have HSET : Hid (∀ n, plcL c (k + 1) n = if n = x then (k : Int) else plcL c k n) := Lib.hid (fun n => by
        show (if (n : Int) = atI c.od k then (k : Int) else plcL c k n) = _
        rw [hx]
        by_cases hn : n = x
        · rw [if_pos hn, if_pos (by omega)]
        · rw [if_neg hn, if_neg (by omega)])
      rw [hx] at d0 i1
      have hxN : x < c.N := by omega
      have cx := hI.out.cell x hxN
      have zx := hI.out.free x
      rw [hq]
      clear hcell i0 i1 hx
      go_wp2
      go_roundw
      case rel => exact ⟨k + 1, by omega, by go_num, Lib.hid (hI.out.set x k (fun n _ => HSET.out n)), HB.out.setCell (p := ⟨g, x, none⟩) G3.out _⟩
      case measure => simp [intOf]; omega
    · obtain rfl : k = no := by omega
      go_wp2
      go_ret
      exact HF.out _ _ ⟨g, rfl, G3.out, hI.out, HB.out⟩
end Go.Proofs.YtcbfokbdiefdeaaGreatDoor
namespace Go.Proofs.YtcbfokbdiefdeaaGreatDoor
set_option linter.unusedVariables false
set_option linter.unusedSimpArgs false
open Go.RowKit

theorem waits_mem (c : Cd) : ∀ (k n : Nat), waitsL c k n = true → memE (c.at n).1 = true
  | 0, _, h => h
  | k + 1, n, h => by
    have h2 : (waitsL c k n && decide ((n : Int) ≠ atI c.od k)) = true := h
    rw [Bool.and_eq_true] at h2
    exact waits_mem c k n h2.1
theorem waits_out (c : Cd) : ∀ (k n : Nat), memE (c.at n).1 = true → (∀ j, j < k → atI c.od j ≠ (n : Int)) → waitsL c k n = true
  | 0, _, h, _ => h
  | k + 1, n, h, hn => by
    show (waitsL c k n && decide ((n : Int) ≠ atI c.od k)) = true
    have hk : (n : Int) ≠ atI c.od k := fun e => hn k (by omega) e.symm
    rw [waits_out c k n h (fun j hj => hn j (by omega))]
    simpa using hk
theorem plc_none (c : Cd) (n : Nat) : ∀ (k : Nat), (∀ j, j < k → atI c.od j ≠ (n : Int)) → plcL c k n = -1
  | 0, _ => rfl
  | k + 1, h => by
    show (if (n : Int) = atI c.od k then (k : Int) else plcL c k n) = -1
    rw [if_neg (fun e => h k (by omega) e.symm)]
    exact plc_none c n k (fun j hj => h j (by omega))
theorem plc_some (c : Cd) (n : Nat) : ∀ (k : Nat), (∃ j, j < k ∧ atI c.od j = (n : Int)) → ∃ p : Nat, p < k ∧ plcL c k n = (p : Int) ∧ atI c.od p = (n : Int)
  | 0, ⟨_, h, _⟩ => by omega
  | k + 1, ⟨j, hj, he⟩ => by
    by_cases hk : (n : Int) = atI c.od k
    · exact ⟨k, by omega, by show (if (n : Int) = atI c.od k then (k : Int) else plcL c k n) = _; rw [if_pos hk], hk.symm⟩
    · have hjk : j < k := by
        rcases Nat.lt_or_ge j k with h | h
        · exact h
        · obtain rfl : j = k := by omega
          exact absurd he.symm hk
      obtain ⟨p, h1, h2, h3⟩ := plc_some c n k ⟨j, hjk, he⟩
      exact ⟨p, by omega, by show (if (n : Int) = atI c.od k then (k : Int) else plcL c k n) = _; rw [if_neg hk]; exact h2, h3⟩
theorem ord_mem {c : Cd} (hm : c.may = true) (k n : Nat) (hk : k < c.od.length) (h : atI c.od k = (n : Int)) : memE (c.at n).1 = true := by
  have := all_at _ _ (may_ord hm).1 k hk
  unfold ordAt at this
  rw [Bool.and_eq_true, h, Int.toNat_natCast] at this
  exact waits_mem c k n this.2
/-- one of memory's has its place -/
theorem place_mem {c : Cd} (hm : c.may = true) (n : Nat) (hn : n < c.N) (h : memE (c.at n).1 = true) : ∃ p : Nat, p < c.od.length ∧ plcL c c.od.length n = (p : Int) ∧ atI c.od p = (n : Int) := by
  refine plc_some c n _ ?_
  refine Classical.byContradiction fun hno => ?_
  have h1 := waits_out c c.od.length n h (fun j hj e => hno ⟨j, hj, e⟩)
  rw [countW_zero _ _ (may_ord hm).2 n hn] at h1
  cases h1
/-- a fence none -/
theorem place_not {c : Cd} (hm : c.may = true) (n : Nat) (h : memE (c.at n).1 = false) : plcL c c.od.length n = -1 :=
  plc_none c n _ (fun j hj e => by rw [ord_mem hm j n hj e] at h; cases h)
/-- the place of a number; none is ahead of all -/
def plN (c : Cd) (n : Int) : Int := if n = -1 then -1 else plcL c c.od.length n.toNat
/-- the later one of two numbers -/
def latN (c : Cd) (a b : Int) : Int := if plN c a < plN c b then b else a
/-- who was met, by address; what each number reads from, so far -/
structure Sx where
  met : Int → Int
  src : Nat → Int
def meetN (c : Cd) (n : Nat) (s : Sx) : Sx where
  met := fun x => if writesE (c.at n).1 = true ∧ x = (c.at n).1.addr then latN c (s.met x) n else s.met x
  src := fun k => if readsE (c.at n).1 = true ∧ k = n then latN c (s.src k) (s.met (c.at n).1.addr) else s.src k
/-- so much of the order gone through -/
def srcO (c : Cd) : Nat → Sx
  | 0 => ⟨fun _ => -1, fun _ => -1⟩
  | k + 1 => meetN c (atI c.od k).toNat (srcO c k)
def clrN (c : Cd) (n : Nat) (s : Sx) : Sx := ⟨if (c.at n).1.pos = 0 then fun _ => -1 else s.met, s.src⟩
/-- behind it, so many numbers gone through -/
def srcN (c : Cd) : Nat → Sx
  | 0 => srcO c c.od.length
  | n + 1 => meetN c n (clrN c n (srcN c n))
/-- which one a number should read from -/
def srcW (c : Cd) (n : Nat) : Int := (srcN c c.N).src n

/-! ### the latest of many -/
/-- s is the latest of those for which P, or none if there are none -/
def Best (c : Cd) (P : Nat → Prop) (s : Int) : Prop := (s = -1 ∨ ∃ m : Nat, s = m ∧ P m) ∧ ∀ m : Nat, P m → plN c m ≤ plN c s
theorem Best.nil (c : Cd) {P : Nat → Prop} (h : ∀ m, ¬ P m) : Best c P (-1) := ⟨.inl rfl, fun m hm => absurd hm (h m)⟩
theorem Best.one (c : Cd) (n : Nat) : Best c (fun m => m = n) n := ⟨.inr ⟨n, rfl, rfl⟩, fun m hm => by rw [hm]; exact Int.le_refl _⟩
theorem Best.iff {c : Cd} {P Q : Nat → Prop} {s : Int} (h : Best c P s) (he : ∀ m, P m ↔ Q m) : Best c Q s :=
  ⟨h.1.imp id (fun ⟨m, h1, h2⟩ => ⟨m, h1, (he m).1 h2⟩), fun m hm => h.2 m ((he m).2 hm)⟩
theorem Best.or {c : Cd} {P Q : Nat → Prop} {s t : Int} (hp : Best c P s) (hq : Best c Q t) : Best c (fun m => P m ∨ Q m) (latN c s t) := by
  unfold latN
  by_cases hlt : plN c s < plN c t
  · rw [if_pos hlt]
    refine ⟨hq.1.imp id (fun ⟨m, h1, h2⟩ => ⟨m, h1, .inr h2⟩), fun m hm => ?_⟩
    rcases hm with hm | hm
    · have := hp.2 m hm; omega
    · exact hq.2 m hm
  · rw [if_neg hlt]
    refine ⟨hp.1.imp id (fun ⟨m, h1, h2⟩ => ⟨m, h1, .inl h2⟩), fun m hm => ?_⟩
    rcases hm with hm | hm
    · exact hp.2 m hm
    · have := hq.2 m hm; omega

/-! ### places -/
theorem plN_nat (c : Cd) (n : Nat) : plN c (n : Int) = plcL c c.od.length n := by
  unfold plN
  rw [if_neg (by omega)]; simp
theorem fields_mem (k : Int) : (hasB (fieldsOf k) 16 = true → hasB (fieldsOf k) 8 = true) ∧ (hasB (fieldsOf k) 32 = true → hasB (fieldsOf k) 8 = true) := by
  by_cases h1 : k = 1
  · subst h1; decide
  by_cases h2 : k = 2
  · subst h2; decide
  by_cases h3 : k = 3
  · subst h3; decide
  by_cases h4 : k = 4
  · subst h4; decide
  by_cases h5 : k = 5
  · subst h5; decide
  by_cases h6 : k = 6
  · subst h6; decide
  unfold fieldsOf
  rw [if_neg h1, if_neg h2, if_neg h3, if_neg h4, if_neg h5, if_neg h6]; decide
theorem mem_reads {e : Ev} (h : readsE e = true) : memE e = true := (fields_mem e.kind).1 h
theorem mem_writes {e : Ev} (h : writesE e = true) : memE e = true := (fields_mem e.kind).2 h
theorem waits_in (c : Cd) : ∀ (k n : Nat), waitsL c k n = true → ∀ j, j < k → atI c.od j ≠ (n : Int)
  | 0, _, _, _, hj => by omega
  | k + 1, n, h, j, hj => by
    have h2 : (waitsL c k n && decide ((n : Int) ≠ atI c.od k)) = true := h
    rw [Bool.and_eq_true, decide_eq_true_eq] at h2
    rcases Nat.lt_or_ge j k with h3 | h3
    · exact waits_in c k n h2.1 j h3
    · obtain rfl : j = k := by omega
      exact fun e => h2.2 e.symm
/-- each of the order stands at its place, and there alone -/
theorem place_at {c : Cd} (hm : c.may = true) (k : Nat) (hk : k < c.od.length) : ∃ n : Nat, n < c.N ∧ atI c.od k = (n : Int) ∧ memE (c.at n).1 = true ∧ plN c n = k := by
  have hi := may_in hm k hk
  obtain ⟨n, hn⟩ : ∃ n : Nat, atI c.od k = (n : Int) := ⟨(atI c.od k).toNat, by omega⟩
  have hmem := ord_mem hm k n hk hn
  have hN : n < c.N := by omega
  obtain ⟨p, h1, h2, h3⟩ := place_mem hm n hN hmem
  refine ⟨n, hN, hn, hmem, ?_⟩
  rw [plN_nat, h2]
  have hw : ∀ k, k < c.od.length → ∀ j, j < k → atI c.od j ≠ atI c.od k := fun k hk j hj => by
    have := all_at _ _ (may_ord hm).1 k hk
    unfold ordAt at this
    rw [Bool.and_eq_true] at this
    have := waits_in c k _ this.2 j hj
    have hi := may_in hm k hk
    omega
  rcases Nat.lt_trichotomy p k with h | h | h
  · exact absurd (by rw [h3, hn]) (hw k hk p h)
  · omega
  · exact absurd (by rw [h3, hn]) (hw p h1 k h)
theorem place_of {c : Cd} (hm : c.may = true) (n : Nat) (hn : n < c.N) (h : memE (c.at n).1 = true) : ∃ p : Nat, p < c.od.length ∧ plN c n = p ∧ atI c.od p = (n : Int) := by
  obtain ⟨p, h1, h2, h3⟩ := place_mem hm n hn h
  exact ⟨p, h1, by rw [plN_nat, h2], h3⟩
/-- who writes at an address -/
def Wr (c : Cd) (x : Int) (m : Nat) : Prop := m < c.N ∧ writesE (c.at m).1 = true ∧ (c.at m).1.addr = x
/-- who may be read by a number: who stands ahead of it in the order -/
def Po (c : Cd) (n m : Nat) : Prop := readsE (c.at n).1 = true ∧ Wr c (c.at n).1.addr m ∧ plN c m < plN c n
/-- or ahead of it on its own hart -/
def Ho (c : Cd) (n m : Nat) : Prop := readsE (c.at n).1 = true ∧ Wr c (c.at n).1.addr m ∧ m < n ∧ (c.at m).1.hart = (c.at n).1.hart
theorem srcO_is {c : Cd} (hm : c.may = true) : ∀ (k : Nat), k ≤ c.od.length → (∀ x, Best c (fun m => Wr c x m ∧ plN c m < k) ((srcO c k).met x)) ∧ ∀ n, n < c.N → Best c (fun m => Po c n m ∧ plN c n < k) ((srcO c k).src n)
  | 0, _ => by
    refine ⟨fun x => Best.nil c (fun m ⟨h1, h2⟩ => ?_), fun n hn => Best.nil c (fun m ⟨h1, h2⟩ => ?_)⟩
    · obtain ⟨p, _, hp, _⟩ := place_of hm m h1.1 (mem_writes h1.2.1); omega
    · obtain ⟨p, _, hp, _⟩ := place_of hm n hn (mem_reads h1.1); omega
  | k + 1, hk => by
    obtain ⟨ih1, ih2⟩ := srcO_is hm k (by omega)
    obtain ⟨n0, hN, hod, hmem, hpl⟩ := place_at hm k (by omega)
    have hst : srcO c (k + 1) = meetN c n0 (srcO c k) := by
      show meetN c (atI c.od k).toNat (srcO c k) = _
      rw [hod]; simp
    have huniq : ∀ m, m < c.N → memE (c.at m).1 = true → plN c m = k → m = n0 := fun m hmN hmm hp => by
      obtain ⟨p, h1, h2, h3⟩ := place_of hm m hmN hmm
      obtain rfl : p = k := by omega
      omega
    have hle : ∀ m, m < c.N → memE (c.at m).1 = true → (plN c m < (k + 1 : Nat) ↔ plN c m < k ∨ m = n0) := fun m hmN hmm => by
      constructor
      · intro h
        by_cases e : plN c m = k
        · exact .inr (huniq m hmN hmm e)
        · exact .inl (by omega)
      · rintro (h | h)
        · omega
        · subst h; omega
    rw [hst]
    constructor
    · intro x
      show Best c _ (if writesE (c.at n0).1 = true ∧ x = (c.at n0).1.addr then latN c ((srcO c k).met x) n0 else (srcO c k).met x)
      by_cases hw : writesE (c.at n0).1 = true ∧ x = (c.at n0).1.addr
      · rw [if_pos hw]
        refine ((ih1 x).or (Best.one c n0)).iff (fun m => ?_)
        constructor
        · rintro (⟨h1, h2⟩ | h)
          · exact ⟨h1, by omega⟩
          · subst h; exact ⟨⟨hN, hw.1, hw.2.symm⟩, by omega⟩
        · rintro ⟨h1, h2⟩
          rcases (hle m h1.1 (mem_writes h1.2.1)).1 h2 with h | h
          · exact .inl ⟨h1, h⟩
          · exact .inr h
      · rw [if_neg hw]
        refine (ih1 x).iff (fun m => ?_)
        constructor
        · rintro ⟨h1, h2⟩; exact ⟨h1, by omega⟩
        · rintro ⟨h1, h2⟩
          rcases (hle m h1.1 (mem_writes h1.2.1)).1 h2 with h | h
          · exact ⟨h1, h⟩
          · subst h; exact absurd ⟨h1.2.1, h1.2.2.symm⟩ hw
    · intro n hn
      show Best c _ (if readsE (c.at n0).1 = true ∧ n = n0 then latN c ((srcO c k).src n) ((srcO c k).met (c.at n0).1.addr) else (srcO c k).src n)
      by_cases hr : readsE (c.at n0).1 = true ∧ n = n0
      · rw [if_pos hr]
        obtain ⟨hr, rfl⟩ := hr
        refine ((ih2 n hn).or (ih1 (c.at n).1.addr)).iff (fun m => ?_)
        constructor
        · rintro (⟨h1, h2⟩ | ⟨h1, h2⟩)
          · omega
          · exact ⟨⟨hr, h1, by omega⟩, by omega⟩
        · rintro ⟨⟨_, h1, h2⟩, _⟩
          exact .inr ⟨h1, by omega⟩
      · rw [if_neg hr]
        refine (ih2 n hn).iff (fun m => ?_)
        constructor
        · rintro ⟨h1, h2⟩; exact ⟨h1, by omega⟩
        · rintro ⟨h1, h2⟩
          rcases (hle n hn (mem_reads h1.1)).1 h2 with h | h
          · exact ⟨h1, h⟩
          · subst h; exact absurd ⟨h1.1, rfl⟩ hr
/-- a number's hart is the next one's, or that one is the first of its hart -/
theorem hart_next {c : Cd} (hm : c.may = true) (n : Nat) (hn : n + 1 < c.N) : if (c.at (n + 1)).1.pos = 0 then (c.at n).1.hart < (c.at (n + 1)).1.hart else (c.at n).1.hart = (c.at (n + 1)).1.hart := by
  obtain ⟨h, j, hh, hj, en, _, eh, ep, _⟩ := may_num hm n (by omega)
  obtain ⟨h', j', hh', hj', en', _, eh', ep', _⟩ := may_num hm (n + 1) hn
  rw [eh, eh', ep']
  rcases Nat.lt_trichotomy h h' with h1 | h1 | h1
  · have := baseL_lt c.len h h' h1
    rw [if_pos (by omega)]; omega
  · subst h1
    rw [if_neg (by omega)]
  · have := baseL_lt c.len h' h h1
    omega
theorem srcN_is {c : Cd} (hm : c.may = true) : ∀ (k : Nat), k ≤ c.N → (∀ x, k < c.N → Best c (fun m => Wr c x m ∧ m < k ∧ (c.at m).1.hart = (c.at k).1.hart) ((clrN c k (srcN c k)).met x)) ∧ ∀ n, n < c.N → Best c (fun m => Po c n m ∨ (Ho c n m ∧ n < k)) ((srcN c k).src n)
  | 0, _ => by
    obtain ⟨h1, h2⟩ := srcO_is hm c.od.length (Nat.le_refl _)
    constructor
    · intro x h0
      obtain ⟨h, j, hh, hj, en, _, eh, ep, _⟩ := may_num hm 0 h0
      show Best c _ ((if (c.at 0).1.pos = 0 then fun _ => -1 else (srcN c 0).met) x)
      rw [if_pos (by rw [ep]; omega)]
      exact Best.nil c (fun m ⟨_, h, _⟩ => by omega)
    · intro n hn
      refine (h2 n hn).iff (fun m => ?_)
      constructor
      · rintro ⟨h, _⟩; exact .inl h
      · rintro (h | ⟨_, h⟩)
        · obtain ⟨p, hp1, hp2, _⟩ := place_of hm n hn (mem_reads h.1)
          exact ⟨h, by omega⟩
        · omega
  | k + 1, hk => by
    obtain ⟨ih1, ih2⟩ := srcN_is hm k (by omega)
    have hmet : ∀ x, Best c (fun m => Wr c x m ∧ m < k + 1 ∧ (c.at m).1.hart = (c.at k).1.hart) ((srcN c (k + 1)).met x) := fun x => by
      show Best c _ (if writesE (c.at k).1 = true ∧ x = (c.at k).1.addr then latN c ((clrN c k (srcN c k)).met x) k else (clrN c k (srcN c k)).met x)
      by_cases hw : writesE (c.at k).1 = true ∧ x = (c.at k).1.addr
      · rw [if_pos hw]
        refine ((ih1 x (by omega)).or (Best.one c k)).iff (fun m => ?_)
        constructor
        · rintro (⟨h1, h2, h3⟩ | h)
          · exact ⟨h1, by omega, h3⟩
          · subst h; exact ⟨⟨by omega, hw.1, hw.2.symm⟩, by omega, rfl⟩
        · rintro ⟨h1, h2, h3⟩
          by_cases e : m = k
          · exact .inr e
          · exact .inl ⟨h1, by omega, h3⟩
      · rw [if_neg hw]
        refine (ih1 x (by omega)).iff (fun m => ?_)
        constructor
        · rintro ⟨h1, h2, h3⟩; exact ⟨h1, by omega, h3⟩
        · rintro ⟨h1, h2, h3⟩
          by_cases e : m = k
          · subst e; exact absurd ⟨h1.2.1, h1.2.2.symm⟩ hw
          · exact ⟨h1, by omega, h3⟩
    constructor
    · intro x hx
      have hn := hart_next hm k hx
      show Best c _ ((if (c.at (k + 1)).1.pos = 0 then fun _ => -1 else (srcN c (k + 1)).met) x)
      by_cases hp : (c.at (k + 1)).1.pos = 0
      · rw [if_pos hp] at hn
        rw [if_pos hp]
        refine Best.nil c (fun m ⟨_, h1, h2⟩ => ?_)
        have := hart_mono hm (show m ≤ k by omega) (by omega)
        omega
      · rw [if_neg hp] at hn
        rw [if_neg hp]
        refine (hmet x).iff (fun m => by rw [hn])
    · intro n hn
      show Best c _ (if readsE (c.at k).1 = true ∧ n = k then latN c ((srcN c k).src n) ((clrN c k (srcN c k)).met (c.at k).1.addr) else (srcN c k).src n)
      by_cases hr : readsE (c.at k).1 = true ∧ n = k
      · rw [if_pos hr]
        obtain ⟨hr, rfl⟩ := hr
        refine ((ih2 n hn).or (ih1 (c.at n).1.addr hn)).iff (fun m => ?_)
        constructor
        · rintro ((h | ⟨h, h2⟩) | ⟨h1, h2, h3⟩)
          · exact .inl h
          · omega
          · exact .inr ⟨⟨hr, h1, h2, h3⟩, by omega⟩
        · rintro (h | ⟨⟨_, h1, h2, h3⟩, _⟩)
          · exact .inl (.inl h)
          · exact .inr ⟨h1, h2, h3⟩
      · rw [if_neg hr]
        refine (ih2 n hn).iff (fun m => ?_)
        constructor
        · rintro (h | ⟨h, h2⟩)
          · exact .inl h
          · exact .inr ⟨h, by omega⟩
        · rintro (h | ⟨h, h2⟩)
          · exact .inl h
          · by_cases e : n = k
            · subst e; exact absurd ⟨h.1, rfl⟩ hr
            · exact .inr ⟨h, by omega⟩
/-- a number's source: the latest of those that stand ahead of it, in the order or on its own hart -/
theorem srcW_is {c : Cd} (hm : c.may = true) (n : Nat) (hn : n < c.N) : Best c (fun m => Po c n m ∨ Ho c n m) (srcW c n) := by
  refine ((srcN_is hm c.N (Nat.le_refl _)).2 n hn).iff (fun m => ?_)
  constructor
  · rintro (h | ⟨h, _⟩)
    · exact .inl h
    · exact .inr h
  · rintro (h | h)
    · exact .inl h
    · exact .inr ⟨h, hn⟩

/-! ### the axioms -/
/-- what is between in an order: from place k on, so many, the first of another hart that writes where n does -/
def amidF (c : Cd) (n : Nat) : Nat → Nat → Int
  | _, 0 => -1
  | k, j + 1 => if (c.at (atI c.od k).toNat).1.addr = (c.at n).1.addr ∧ (c.at (atI c.od k).toNat).1.hart ≠ (c.at n).1.hart ∧ writesE (c.at (atI c.od k).toNat).1 = true then atI c.od k else amidF c n (k + 1) j
/-- who breaks the pair axiom for n, of which the pair reads from s -/
def partN (c : Cd) (s : Int) (n : Nat) : Int := if plN c n ≤ plN c s then s else amidF c n (plN c s + 1).toNat (plN c n - (plN c s + 1)).toNat
def lrN (c : Cd) (n : Nat) : Int := (n : Int) - (c.at n).1.pos + (c.at n).1.pair
def ordB (c : Cd) (p : Nat × Nat) : Bool := decide (latN c p.1 p.2 = p.1)
def valB (c : Cd) (n : Nat) : Bool := decide (atI c.fr n ≠ srcW c n)
def parB (c : Cd) (n : Nat) : Bool := decide ((c.at n).1.kind = 4) && decide (partN c (atI c.fr (lrN c n).toNat) n ≠ -1)
/-- an answer: allowed, why not, by which two -/
structure Jd where
  ok : Bool
  why : Int
  a : Int
  b : Int
def ordJ (c : Cd) : Option Jd := ((pairsW c).find? (ordB c)).map fun (p : Nat × Nat) => ⟨false, 2, p.1, p.2⟩
def valJ (c : Cd) : Option Jd := ((List.range c.N).find? (valB c)).map fun (n : Nat) => ⟨false, 3, n, srcW c n⟩
def parJ (c : Cd) : Option Jd := ((List.range c.N).find? (parB c)).map fun (n : Nat) => ⟨false, 4, lrN c n, partN c (atI c.fr (lrN c n).toNat) n⟩
def keptJ : Jd := ⟨true, 0, -1, -1⟩
def judgeW (c : Cd) : Jd := if c.may then (ordJ c).getD ((valJ c).getD ((parJ c).getD keptJ)) else ⟨false, 1, -1, -1⟩
theorem find_none {α : Type} {l : List α} {f : α → Bool} : l.find? f = none ↔ ∀ x, x ∈ l → f x = false := by
  rw [List.find?_eq_none]
  constructor
  · intro h x hx; simpa using h x hx
  · intro h x hx; simpa using h x hx
end Go.Proofs.YtcbfokbdiefdeaaGreatDoor
namespace Go.Proofs.YtcbfokbdiefdeaaGreatDoor
set_option linter.unusedVariables false
set_option linter.unusedSimpArgs false
open Go.RowKit Go.Maps Go.ChangeMaps

theorem lawS : Keyed Tryz.prog 28 := int_keyed Tryz.underlying28
theorem zeroS (w : World) : (zeroValue 3).run Tryz.prog w = .ok (.int .i64 0) w := by kernel_rfl
abbrev OMs (b n : Nat) (D : DataW Unit) (w : World) : Prop := w.ownsMap Tryz.prog 28 (plainElem (H := Unit) Tryz.prog 3) b n D
theorem OMs.on {b n : Nat} {D : DataW Unit} {w w' : World} (h : OMs b n D w) (hb : Below w.heap.size w w') : OMs b n D w' := by
  obtain ⟨es, clock, h1, h2⟩ := h
  exact ⟨es, clock, (hb.block b (Array.getElem?_eq_some_iff.1 h1).1).trans h1, h2⟩
/-- the map holds just that; none where it holds nothing -/
structure MetS (f : Int → Int) (D : DataW Unit) : Prop where
  map : IsMap D
  at_ : ∀ x, Maps.has D (.int .u64 x) = true → ∀ zd, D.atKey (.int .u64 x) zd = .lit (.int .i64 (f x))
  no : ∀ x, Maps.has D (.int .u64 x) = false → f x = -1
theorem MetS.start : MetS (fun _ => -1) (.map []) := ⟨⟨_, rfl⟩, (fun _ h => by cases h), fun _ _ => rfl⟩
theorem MetS.ext {f f2 : Int → Int} {D : DataW Unit} (h : MetS f D) (he : ∀ x, f x = f2 x) : MetS f2 D := by
  obtain rfl : f = f2 := funext he
  exact h
theorem MetS.put {f : Int → Int} {D : DataW Unit} (h : MetS f D) (a v : Int) : MetS (fun x => if x = a then v else f x) (D.put (.int .u64 a) (.lit (.int .i64 v))) := by
  refine ⟨?_, fun x hx zd => ?_, fun x hx => ?_⟩
  · obtain ⟨l, rfl⟩ := h.map
    exact ⟨_, rfl⟩
  · by_cases ha : x = a
    · subst ha
      rw [if_pos rfl]
      exact atKey_put_same h.map (by unfold WideAt.IsKeyLit; trivial) _ _
    · rw [if_neg ha]
      rw [has_put_other (by simpa using ha)] at hx
      rw [atKey_put_other (by simpa using ha)]
      exact h.at_ x hx zd
  · by_cases ha : x = a
    · subst ha
      rw [has_put_same h.map (by unfold WideAt.IsKeyLit; trivial)] at hx
      cases hx
    · rw [if_neg ha]
      rw [has_put_other (by simpa using ha)] at hx
      exact h.no x hx
theorem int_inv64 {P : Program} {e : TypeId} (he : P.underlying e = some (.int .i64)) {v : Value} {z : DataW Unit × List MemPlace} {r : Int} (h : plainElem (H := Unit) P e v = some z) (hz : z.1 = .lit (.int .i64 r)) : v = .int .i64 r := by
  obtain ⟨a, rfl, rfl, _⟩ := plainElem_int_inv he h
  injection hz with hz
  injection hz with _ hz
  rw [hz]
/-- a look: there it is, or there is nothing -/
theorem OMs.look {f : Int → Int} {D : DataW Unit} {b n : Nat} {w : World} (h : OMs b n D w) (M : MetS f D) {x : Int} (hx : (Lit.int .u64 x).wf = true) : ∃ v r, (Instr.lookup 94 (.map (some b)) (.int .u64 x) true).run Tryz.prog w = .ok (.tuple #[v, .bool r]) w ∧ (r = true → v = .int .i64 (f x)) ∧ (r = false → f x = -1) := by
  obtain ⟨v, ps, hrun, hv⟩ := World.ownsMap.look_ok h lawS Tryz.underlying94 (zeroS w) (plainElem_int Tryz.underlying3 (a := 0) (by decide)) (keyOf_int_mk Tryz.underlying28 hx)
  exact ⟨v, _, hrun, fun hr => int_inv64 Tryz.underlying3 hv (M.at_ x hr _), fun hr => M.no x hr⟩
theorem OMs.put {f : Int → Int} {D : DataW Unit} {b n : Nat} {w : World} (h : OMs b n D w) (M : MetS f D) (hn : n < 100000) {x v : Int} (hx : (Lit.int .u64 x).wf = true) (hv : (Lit.int .i64 v).wf = true) : ∃ w', (Instr.mapUpdate 94 (.map (some b)) (.int .u64 x) (.int .i64 v)).run Tryz.prog w = .ok () w' ∧ (OMs b (n + 1) (D.put (.int .u64 x) (.lit (.int .i64 v))) w' ∧ MetS (fun y => if y = x then v else f y) (D.put (.int .u64 x) (.lit (.int .i64 v)))) ∧ w.grownBy w' (some b) := by
  obtain ⟨w', h1, h2, h3⟩ := World.ownsMap.update h lawS Tryz.underlying94 (by unfold maxLen; omega) (keyOf_int_mk Tryz.underlying28 hx) (plainElem_int Tryz.underlying3 hv)
  exact ⟨w', h1, ⟨h2, M.put x v⟩, h3⟩
theorem OMs.clear {D : DataW Unit} {b n : Nat} {w : World} (h : OMs b n D w) : ∃ w', (∀ ty, (Builtin.clear_ #[94] ty #[.map (some b)]).run Tryz.prog w = .ok (.tuple #[]) w') ∧ OMs b n (.map []) w' ∧ w.grownBy w' (some b) := by
  obtain ⟨es, clock, hb, F, hs, rfl⟩ := h
  refine ⟨_, ?_, ⟨#[], clock, heap_setBlock_same hb (.map #[] clock), ⟨by simp, MapKept.stamped_empty clock, by simp⟩, Nat.zero_le _, rfl⟩, ⟨rfl, rfl, rfl, by simp [setBlock], fun i _ hi => heap_setBlock_other hb _ (fun e => hi (by rw [e]))⟩⟩
  intro ty
  simp [Builtin.clear_, run_underlying Tryz.underlying94, MapKept.run_getObj_map hb, MapKept.run_setObj_map _ hb, Result.andThen, setBlock]
end Go.Proofs.YtcbfokbdiefdeaaGreatDoor
namespace Go.Proofs.YtcbfokbdiefdeaaGreatDoor
set_option linter.unusedVariables false
set_option linter.unusedSimpArgs false
open Go.RowKit Go.Maps
attribute [local go_sem ↓] fold_E fold_SE
attribute [local irreducible] wpStill

/-- where a view lies -/
structure Ap where
  q : Cv
  aA : Option Addr
  cA : Nat
  b : Nat
  off : Nat
  gP : Nat
  g : Nat
  W0 : World
/-- a view of a candidate: it, its events by number, the place of each -/
structure Ax (c : Cd) (p : Ap) (w : World) : Prop where
  box : w.heap[p.g]? = some (.cells #[.slice p.q.aF c.fs.length p.q.cF, .slice p.q.aH c.nh p.q.cH, .slice p.q.aR c.fr.length p.q.cR, .slice p.q.aO c.od.length p.q.cO, .slice p.aA c.N p.cA, .slice (some ⟨p.gP, 0, none⟩) c.N c.N] 69 (0, 0))
  bel : Below p.W0.heap.size p.W0 w
  hg : p.W0.heap.size ≤ p.g
  hA : 0 < c.N → p.aA = some ⟨p.b, p.off, none⟩
  ev0 : ∀ n, n < c.N → EvIn (c.at n).1 p.b (p.off + n * 14) p.W0
  rd0 : ∀ n, n < c.N → EReads p.W0 (c.at n).1 (c.at n).2
  lt0 : 0 < c.N → p.b < p.W0.heap.size
  pl0 : IntsAt (plcL c c.od.length) c.N p.gP p.W0
  ca0 : CAt c p.q p.W0
theorem Ax.lt {c : Cd} {p : Ap} {w : World} (h : Ax c p w) : p.g < w.heap.size := (Array.getElem?_eq_some_iff.1 h.box).1
theorem Ax.on' {c : Cd} {p : Ap} {w w2 : World} (h : Ax c p w) {n0 : Nat} (hn : p.g < n0) (hb : Below n0 w w2) : Ax c p w2 :=
  ⟨(hb.block _ hn).trans h.box, h.bel.trans (hb.mono (by have := h.hg; omega)), h.hg, h.hA, h.ev0, h.rd0, h.lt0, h.pl0, h.ca0⟩
theorem Ax.on {c : Cd} {p : Ap} {w w2 : World} (h : Ax c p w) (hb : Below w.heap.size w w2) : Ax c p w2 := h.on' h.lt hb
theorem Ax.six {c : Cd} {p : Ap} {w : World} (h : Ax c p w) : w.cell? ⟨p.g, 0, none⟩ = some (.slice p.q.aF c.fs.length p.q.cF) ∧ w.cell? ⟨p.g, 1, none⟩ = some (.slice p.q.aH c.nh p.q.cH) ∧ w.cell? ⟨p.g, 2, none⟩ = some (.slice p.q.aR c.fr.length p.q.cR) ∧ w.cell? ⟨p.g, 3, none⟩ = some (.slice p.q.aO c.od.length p.q.cO) ∧ w.cell? ⟨p.g, 4, none⟩ = some (.slice p.aA c.N p.cA) ∧ w.cell? ⟨p.g, 5, none⟩ = some (.slice (some ⟨p.gP, 0, none⟩) c.N c.N) :=
  ⟨by rw [cell_of_row w p.g 0 _ _ _ h.box]; rfl, by rw [cell_of_row w p.g 1 _ _ _ h.box]; rfl, by rw [cell_of_row w p.g 2 _ _ _ h.box]; rfl, by rw [cell_of_row w p.g 3 _ _ _ h.box]; rfl, by rw [cell_of_row w p.g 4 _ _ _ h.box]; rfl, by rw [cell_of_row w p.g 5 _ _ _ h.box]; rfl⟩
theorem Ax.ev {c : Cd} {p : Ap} {w : World} (h : Ax c p w) (n : Nat) (hn : n < c.N) : EvIn (c.at n).1 p.b (p.off + n * 14) w := (h.ev0 n hn).below h.bel (h.lt0 (by omega))
theorem Ax.rd {c : Cd} {p : Ap} {w : World} (h : Ax c p w) (n : Nat) (hn : n < c.N) : EReads w (c.at n).1 (c.at n).2 := (h.rd0 n hn).below h.bel
theorem Ax.pl {c : Cd} {p : Ap} {w : World} (h : Ax c p w) : IntsAt (plcL c c.od.length) c.N p.gP w := h.pl0.on h.bel
theorem Ax.ca {c : Cd} {p : Ap} {w : World} (h : Ax c p w) : CAt c p.q w := h.ca0.below h.bel
/-- a number, or none -/
def InN (c : Cd) (n : Int) : Prop := n = -1 ∨ (0 ≤ n ∧ n < (c.N : Int))
theorem InN.at {c : Cd} {n : Nat} (h : n < c.N) : InN c n := .inr ⟨by omega, by omega⟩
theorem latN_in {c : Cd} {a b : Int} (ha : InN c a) (hb : InN c b) : InN c (latN c a b) := by
  unfold latN; split
  · exact hb
  · exact ha
def GivesI (w : World) (v : Int) (e : Ending) (w' : World) : Prop := e = .returned (.int .i64 v) ∧ Below w.heap.size w w'
set_option maxRecDepth 100000 in
theorem place_a (c : Cd) (p : Ap) (w : World) (h : Ax c p w) (n : Int) (hn : InN c n) (v : Int) (hv : plN c n = v) : Calls Tryz.prog 80 #[.pointer (some ⟨p.g, 0, none⟩), .int .i64 n] w fun e w' => GivesI w v e w' := by
  rcases hn with rfl | ⟨h0, h1⟩
  · have hv1 : v = -1 := by rw [← hv]; rfl
    subst hv1
    clear h hv
    go_enter Tryz.func80, Tryz.ntmps80
    go_wp2
    go_ret
    exact ⟨rfl, Below.refl _ _⟩
  · obtain ⟨k, rfl⟩ : ∃ k : Nat, n = k := ⟨n.toNat, by omega⟩
    obtain ⟨_, _, _, _, _, f5⟩ := h.six
    have hc := h.pl.cell k (by omega)
    rw [plN_nat] at hv
    rw [hv] at hc
    have hne : ¬ ((k : Int) = -1) := by omega
    clear h hv
    go_enter Tryz.func80, Tryz.ntmps80
    go_wp2
    go_ret
    exact ⟨rfl, Below.refl _ _⟩
set_option maxRecDepth 100000 in
theorem later_a (c : Cd) (p : Ap) (w : World) (h : Ax c p w) (a b : Int) (ha : InN c a) (hb : InN c b) (v : Int) (hv : latN c a b = v) : Calls Tryz.prog 62 #[.pointer (some ⟨p.g, 0, none⟩), .int .i64 a, .int .i64 b] w fun e w' => GivesI w v e w' := by
  obtain ⟨va, hva⟩ : ∃ va, plN c a = va := ⟨_, rfl⟩
  obtain ⟨vb, hvb⟩ : ∃ vb, plN c b = vb := ⟨_, rfl⟩
  have KA := Lib.hid (fun w0 h0 => place_a c p w0 h0 a ha va hva)
  have KB := Lib.hid (fun w0 h0 => place_a c p w0 h0 b hb vb hvb)
  have HV : Hid ((if va < vb then b else a) = v) := Lib.hid (by rw [← hv, ← hva, ← hvb]; rfl)
  have S := Lib.hid (show Ax c p w ∧ Below w.heap.size w w from ⟨h, Below.refl _ _⟩)
  clear h ha hb hva hvb hv
  by_cases hlt : va < vb
  · rw [if_pos hlt] at HV
    go_enter Tryz.func62, Tryz.ntmps62
    go_wp2_with (go_at_call 80; (with_reducible (first | refine (KA.out _ S.out.1).mono ?_ | refine (KB.out _ S.out.1).mono ?_)); rintro e' w1 ⟨rfl, hb⟩; replace S := Lib.hid (show Ax c p w1 ∧ Below w.heap.size w w1 from ⟨S.out.1.on hb, S.out.2.trans (hb.mono S.out.2.size)⟩); clear hb)
    go_ret
    exact ⟨by rw [HV.out]; rfl, S.out.2⟩
  · rw [if_neg hlt] at HV
    go_enter Tryz.func62, Tryz.ntmps62
    go_wp2_with (go_at_call 80; (with_reducible (first | refine (KA.out _ S.out.1).mono ?_ | refine (KB.out _ S.out.1).mono ?_)); rintro e' w1 ⟨rfl, hb⟩; replace S := Lib.hid (show Ax c p w1 ∧ Below w.heap.size w w1 from ⟨S.out.1.on hb, S.out.2.trans (hb.mono S.out.2.size)⟩); clear hb)
    go_ret
    exact ⟨by rw [HV.out]; rfl, S.out.2⟩
end Go.Proofs.YtcbfokbdiefdeaaGreatDoor
