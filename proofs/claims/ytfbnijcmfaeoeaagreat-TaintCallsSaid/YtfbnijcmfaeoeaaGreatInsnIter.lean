/-
  Proved here: contracts of slices.Values, slices.AppendSeq, slices.Collect over a slice of ints: the collected slice is the caller's own and holds the same ints. Condition: the argument's slice is not nil.
-/
import Derived.RangeFuncBox
import Derived.RangeFuncLeaves
import Derived.Shelf.Abstract
import Derived.WalkKit
import Derived.OwnWalkIn
import Derived.TacticsInMore
import Derived.LoopNIn
import Derived.LoopIn
import Derived.Maps.AppendAt
import Derived.Test.YtfbnijcmfaeoeaaGreatShelf
import Derived.LoopTactic
import Derived.Lib.Hide
namespace Go.Proofs.YtfbnijcmfaeoeaaGreat
open Go.RowKit Go.Shelf
attribute [local go_sem] Oper.semAt_some
def uptoF {α : Type} (f : Nat → α) (k : Nat) : List α := (List.range k).map f
theorem uptoF_succ {α : Type} (f : Nat → α) (k : Nat) : uptoF f (k + 1) = uptoF f k ++ [f k] := by simp [uptoF, List.range_succ]
theorem uptoF_length {α : Type} (f : Nat → α) (k : Nat) : (uptoF f k).length = k := by simp [uptoF]
theorem uptoF_all (zs : List Int) : uptoF (fun j => zs[j]?.getD 0) zs.length = zs := by
  apply List.ext_getElem
  · simp [uptoF]
  · intro i h1 h2
    simp [uptoF, h2]
theorem uptoF_take (zs : List Int) {k : Nat} (hk : k ≤ zs.length) : uptoF (fun j => zs[j]?.getD 0) k = zs.take k := by
  apply List.ext_getElem
  · simp [uptoF, hk]
  · intro i h1 h2
    have : i < zs.length := by simp [uptoF] at h1; omega
    simp [uptoF, this]
set_option maxRecDepth 100000 in
set_option maxHeartbeats 2000000 in
theorem values1_in (F : Fence) (n : Nat) (h7 : F.fn 83) (hro : F.round = none) (hn : 1 ≤ n) (l Bs n₀ b off len cap : Nat) (zs : List Int) (hreach : len * 8 ≤ 140737488351232) (hb : b < n₀) (J Jx : List Int → World → Prop)
    (hY : ∀ pre x W, J pre W → pre.length < len → YieldAt F (n - 1) Tryz.prog l #[.int .i64 x] W fun e W' =>
      (e = .returned (.bool true) ∧ J (pre ++ [x]) W' ∧ Below n₀ W W') ∨ (e = .returned (.bool false) ∧ Jx (pre ++ [x]) W'))
    (W : World) (hBs : W.cell? ⟨Bs, 0, none⟩ = some (.slice (some ⟨b, off, none⟩) len cap)) (hc : ∀ j, j < len → W.cell? ⟨b, off + j, none⟩ = some (.int .i64 (zs[j]?.getD 0))) (h0 : J [] W) :
    CallsIn F n Tryz.prog 83 #[.func (.yield l) #[] #[], .pointer (some ⟨Bs, 0, none⟩)] W fun e W' => (∃ v, e = .returned v) ∧
      ((∃ ys, ys = uptoF (fun j => zs[j]?.getD 0) len ∧ J ys W') ∨ (∃ pre, (∃ k, k ≤ len ∧ pre = uptoF (fun j => zs[j]?.getD 0) k) ∧ Jx pre W')) := by
  refine callsIn_of_wp Tryz.func83 rfl h7 ?_ hro
  simp only [Tryz.ntmps83, List.size_toArray, List.length_cons, List.length_nil, Nat.reduceAdd, Nat.reduceSub, Array.replicate_succ, Array.replicate_zero, List.push_toArray, List.append_toArray, List.nil_append, List.cons_append]
  gi_wp2
  gi_loopw [7] (fun i wr => ∃ k : Nat, k ≤ len ∧ i = .int .i64 k ∧ J (uptoF (fun j => zs[j]?.getD 0) k) wr ∧ Below n₀ W wr)
    (fun i _ => len - (intOf i).toNat)
  case atStart => exact ⟨0, Nat.zero_le _, rfl, h0, Below.refl _ _⟩
  case round =>
    obtain ⟨k, hk, rfl, hJs, hnx⟩ := hrel
    have hcx : k < len → wr.cell? ⟨b, off + k, none⟩ = some (.int .i64 (zs[k]?.getD 0)) := fun h => (hnx.cell (p := ⟨b, off + k, none⟩) hb).trans (hc k h)
    by_cases hlt : k < len
    · obtain ⟨fn, tmps, assign, body, hy, hR⟩ := hY _ (zs[k]?.getD 0) wr hJs (by rw [uptoF_length]; exact hlt)
      have hcx' := hcx hlt
      gi_wp2
      refine hR.mono ?_
      rintro e W3 (⟨rfl, hJ3, hk3⟩ | ⟨rfl, hJx3⟩)
      · gi_wp2
        go_roundw
        case rel => exact ⟨k + 1, by omega, by simp, by rw [uptoF_succ]; exact hJ3, hnx.trans hk3⟩
        case measure => simp [intOf]; omega
      · gi_wp2
        refine bodyPost_ret (results_none rfl _ _ _) rfl ?_
        exact ⟨⟨_, rfl⟩, .inr ⟨_, ⟨k + 1, by omega, (uptoF_succ _ _).symm⟩, hJx3⟩⟩
    · obtain rfl : k = len := by omega
      gi_wp2
      go_end0
      exact ⟨⟨_, rfl⟩, .inl ⟨_, rfl, hJs⟩⟩
theorem values_stops (F : Fence) (n : Nat) (h7 : F.fn 83) (hro : F.round = none) (hn : 1 ≤ n) (Bs n₀ b off cap : Nat) (zs : List Int) (hreach : zs.length * 8 ≤ 140737488351232) (w : World) (hBs : Bs < w.heap.size) (hn₀ : n₀ ≤ w.heap.size) (hb : b < n₀)
    (hc : w.cell? ⟨Bs, 0, none⟩ = some (.slice (some ⟨b, off, none⟩) zs.length cap)) (hI : ∀ j, j < zs.length → w.cell? ⟨b, off + j, none⟩ = some (.int .i64 (zs[j]?.getD 0))) :
    SeqStopsK F n Tryz.prog 83 #[.pointer (some ⟨Bs, 0, none⟩)] (fun x : Int => #[Value.int .i64 x]) (Below n₀) (fun ys => ys = zs) (fun pre => pre <+: zs) zs.length w := fun l J Jx W hW _ _ hY h0 => by
  have hc' := (hW.cell (p := ⟨Bs, 0, none⟩) hBs).trans hc
  have hW' := hW.mono hn₀
  refine (values1_in F n h7 hro hn l Bs n₀ b off zs.length cap zs hreach hb J Jx hY W hc' (fun j hj => (hW'.cell (p := ⟨b, off + j, none⟩) hb).trans (hI j hj)) h0).mono ?_
  rintro e W' ⟨he, ⟨ys, rfl, hj⟩ | ⟨pre, ⟨k, hk, rfl⟩, hj⟩⟩
  · exact ⟨he, .inl ⟨_, uptoF_all zs, hj⟩⟩
  · exact ⟨he, .inr ⟨_, by rw [uptoF_take zs hk]; exact List.take_prefix _ _, hj⟩⟩
theorem info_int : (Tryz.prog.info? 3).map (fun i => (i.zero, i.size, i.bytes)) = some (some (.int .i64 0), 1, 8) := by kernel_rfl
set_option maxRecDepth 100000 in
set_option maxHeartbeats 2000000 in
theorem appendSeq_in (F : Fence) (n : Nat) (h81 : F.fn 85) (h67 : F.fn 83) (hro : F.round = none) (hn : 3 ≤ n) (Bs b off cap : Nat) (zs : List Int) (hlen : zs.length ≤ maxLen) (hbytes : zs.length * 8 ≤ 140737488351232)
    (w : World) (hBs : Bs < w.heap.size) (hb : b < w.heap.size) (hcB : w.cell? ⟨Bs, 0, none⟩ = some (.slice (some ⟨b, off, none⟩) zs.length cap)) (hI : ∀ j, j < zs.length → w.cell? ⟨b, off + j, none⟩ = some (.int .i64 (zs[j]?.getD 0))) :
    CallsIn F n Tryz.prog 85 #[.slice none 0 0, .func (.func 83) #[] #[.pointer (some ⟨Bs, 0, none⟩)]] w fun e W' => ∃ v, e = .returned v ∧ W'.ownsRow w.heap.size 3 1 v zs.length (zs.map (Value.int .i64)) ∧ Below w.heap.size w W' := by
  have h1 : 1 ≤ n := by omega
  obtain ⟨i0, hi, hz0, hz1, hz2⟩ := info_parts info_int
  refine callsIn_of_wp_marks Tryz.func85 rfl h81 ?_ hro
  simp only [Tryz.ntmps85, List.size_toArray, List.length_cons, List.length_nil, Nat.reduceAdd, Nat.reduceSub, Array.replicate_succ, Array.replicate_zero, List.push_toArray, List.append_toArray, List.nil_append, List.cons_append]
  gi_wp2
  have bO := Boxed.new w 22 (.slice none 0 0)
  have hB0 : Below w.heap.size w (w.alloc (.cells #[.slice none 0 0] 22)) := (Below.refl _ w).alloc (Nat.le_refl _) _
  refine wpIn_rangeFunc_ownG hro h1 (gf := 83) (lb := #[.pointer (some ⟨Bs, 0, none⟩)]) rfl h67 (enters_of Tryz.func83 (by kernel_rfl) rfl)
    (values_stops F (n - 1) h67 hro (by omega) Bs w.heap.size b off cap zs hbytes _ (by simp; omega) (by simp) hb ((hB0.cell (p := ⟨Bs, 0, none⟩) hBs).trans hcB) (fun j hj => (hB0.cell (p := ⟨b, off + j, none⟩) hb).trans (hI j hj))) belowK_t (belowK_b (by simp)) (Below.refl _ _) (fun _ => rfl)
    (fun (pre : List Int) (W : World) => (∃ v, Boxed W w.heap.size 22 v ∧ W.ownsRow w.heap.size 3 1 v pre.length (pre.map (Value.int .i64)) ∧ True) ∧ Below w.heap.size w W)
    (fun _ _ _ => False)
    (OwnFrom.and (Own.from (holdsRow_own w.heap.size w.heap.size 22 3 1 (fun pre : List Int => pre.length) (fun pre : List Int => pre.map (Value.int .i64)) (fun (_ : List Int) _ => True)) _) (ownFrom_below (Nat.le_refl _) (by simp)))
    (fun _ _ _ _ _ hs _ _ => hs)
    ⟨⟨_, bO, World.ownsRow_nil _ _ _ _, trivial⟩, hB0⟩
    (fun x => { tmps := #[.slice none 0 0, .func (.func 83) #[] #[.pointer (some ⟨Bs, 0, none⟩)], .pointer (some ⟨w.heap.size, 0, none⟩), undef, .slice none 0 0, .int .i64 x, .func (.func 83) #[] #[.pointer (some ⟨Bs, 0, none⟩)], .int .i64 x, undef, undef, undef, undef, undef], defers := [] }) ?assign ?body ?done ?stop
  case assign =>
    intro l x W K hK
    gi_wp2
    exact hK
  case body =>
    rintro l pre x W ⟨⟨v, hv, hrow, _⟩, hB⟩ hlt
    have hc := hv.cell
    gi_wp2_with (gi_at_builtin; refine wpListIn_append_own _ rfl _ _ 22 rfl w.heap.size 3 i0 (.int .i64 0) 1 8 Tryz.underlying22 hi hz0 hz1 hz2 rfl (by decide) _ _ _ rfl (hrow.alloc _) ⟨W.heap.size, 0, none⟩ 1 1 [.int .i64 x] rfl rfl (cell_one_new _ _ _) (by simp [Value.oneCell']) (by omega) (by omega) (by have := hB.size; simp; omega) ?_; intro v' w1 hown' hgrow _; obtain ⟨g', cap', rfl⟩ := ownsRow_succ hown'; obtain ⟨hv1, hv2, hr2, hk2, hb2⟩ := hv.appended (by decide) hrow hB.size (Nat.le_refl _) hown' hgrow; have hc1 := hv1.cell; have hf1 := hv1.frozen)
    exact ⟨hk2.from _, hb2, ⟨_, hv2, by simpa using hr2, trivial⟩, hB.trans hb2⟩
  case done =>
    rintro D ys W hD rfl ⟨⟨v, hv, hrow, _⟩, hB⟩ hK
    have hc := hv.cell
    gi_wp2
    refine ⟨by simp, .inl ⟨_, _, rfl, run_takeDeferred hK, ?_⟩⟩
    exact ⟨_, results_tmp rfl _ _ _, v, rfl, ownsRow_putObj hrow _ hK rfl, hB.trans (belowK_b (w := w) (Nat.le_refl _) W D _ _ (by simp at hD; omega) hK rfl rfl)⟩
  case stop =>
    rintro D c pre W _ _ h _
    exact h.elim
theorem appendSeq_any (Bs b off cap : Nat) (zs : List Int) (hlen : zs.length ≤ 100)
    (w : World) (hBs : Bs < w.heap.size) (hb : b < w.heap.size) (hcB : w.cell? ⟨Bs, 0, none⟩ = some (.slice (some ⟨b, off, none⟩) zs.length cap)) (hI : ∀ j, j < zs.length → w.cell? ⟨b, off + j, none⟩ = some (.int .i64 (zs[j]?.getD 0))) :
    Calls Tryz.prog 85 #[.slice none 0 0, .func (.func 83) #[] #[.pointer (some ⟨Bs, 0, none⟩)]] w fun e W' => ∃ v, e = .returned v ∧ W'.ownsRow w.heap.size 3 1 v zs.length (zs.map (Value.int .i64)) ∧ Below w.heap.size w W' :=
  callsIn_wide.1 (appendSeq_in Fence.wide 3 trivial trivial rfl (by omega) Bs b off cap zs (by unfold maxLen; omega) (by omega) w hBs hb hcB hI)
theorem Values_any (a : Option Addr) (len cap : Nat) (w : World) :
    Calls Tryz.prog 74 #[.slice a len cap] w fun e w' => e = .returned (.func (.func 83) #[] #[.pointer (some ⟨w.heap.size, 0, none⟩)]) ∧ w' = w.alloc (.cells #[.slice a len cap] 22) := by
  go_enter Tryz.func74, Tryz.ntmps74
  go_wp2
  go_ret
  exact ⟨rfl, rfl⟩
/-- a new slice of ints, its cells held, in a block from n on -/
def NewRow (n : Nat) (w' : World) (g cap : Nat) (zs : List Int) : Prop := n ≤ g ∧ g < w'.heap.size ∧ zs.length ≤ cap ∧ Sort.Holds (Value.int .i64) w' g 0 zs.toArray
theorem NewRow.low {n : Nat} {w' : World} {g cap : Nat} {zs : List Int} (h : NewRow n w' g cap zs) : n ≤ g := h.1
theorem NewRow.lt {n : Nat} {w' : World} {g cap : Nat} {zs : List Int} (h : NewRow n w' g cap zs) : g < w'.heap.size := h.2.1
theorem NewRow.room {n : Nat} {w' : World} {g cap : Nat} {zs : List Int} (h : NewRow n w' g cap zs) : zs.length ≤ cap := h.2.2.1
theorem NewRow.holds {n : Nat} {w' : World} {g cap : Nat} {zs : List Int} (h : NewRow n w' g cap zs) : Sort.Holds (Value.int .i64) w' g 0 zs.toArray := h.2.2.2
theorem newRow_of {w' : World} {n : Nat} {v : Value} {zs : List Int} (h : w'.ownsRow n 3 1 v zs.length (zs.map (Value.int .i64))) (hz : 0 < zs.length) : ∃ g cap, v = .slice (some ⟨g, 0, none⟩) zs.length cap ∧ NewRow n w' g cap zs := by
  have h' := h
  rcases h.2 with ⟨_, h0⟩ | ⟨g, cap, cur, rfl, hn, hgg, hcap, _, hs, ht⟩
  · omega
  · refine ⟨g, cap, rfl, hn, (Array.getElem?_eq_some_iff.1 hgg).1, hcap, fun j hj => ?_⟩
    have hj' : j < zs.length := by simpa using hj
    have hc := h'.cells (g := g) (by simp [Value.ownBlock]) j (.int .i64 zs[j]) (by simp [hj'])
    have ha : (⟨g, 0, none⟩ : Addr).add j = ⟨g, 0 + j, none⟩ := by unfold Addr.add; split <;> simp_all
    rw [ha] at hc
    refine ⟨by rw [hc]; simp [hj'], ?_⟩
    simp [World.frozen?, hgg]
theorem Collect_any (Bs b off cap : Nat) (zs : List Int) (hz : 0 < zs.length) (hlen : zs.length ≤ 100)
    (w : World) (hBs : Bs < w.heap.size) (hb : b < w.heap.size) (hcB : w.cell? ⟨Bs, 0, none⟩ = some (.slice (some ⟨b, off, none⟩) zs.length cap)) (hI : ∀ j, j < zs.length → w.cell? ⟨b, off + j, none⟩ = some (.int .i64 (zs[j]?.getD 0))) :
    Calls Tryz.prog 81 #[.func (.func 83) #[] #[.pointer (some ⟨Bs, 0, none⟩)]] w fun e w' => ∃ g c, e = .returned (.slice (some ⟨g, 0, none⟩) zs.length c) ∧ NewRow w.heap.size w' g c zs ∧ Below w.heap.size w w' := by
  have H := Lib.hid (appendSeq_any Bs b off cap zs hlen w hBs hb hcB hI)
  clear hI hcB hBs hb
  go_enter Tryz.func81, Tryz.ntmps81
  go_wp2_with (go_at_call 85; (with_reducible refine (H.out).mono ?_); rintro e w1 ⟨v, rfl, hr, hb1⟩; obtain ⟨g, c, rfl, hn⟩ := newRow_of hr hz; clear hr; have HN := Lib.hid hn; have HB := Lib.hid hb1; clear hn hb1)
  go_ret
  exact ⟨g, c, rfl, HN.out, HB.out⟩
def sortL (zs : List Int) : List Int := zs.mergeSort fun x y => decide (x ≤ y)
theorem sortL_length (zs : List Int) : (sortL zs).length = zs.length := by simp [sortL]
theorem below_sorted {n g : Nat} {w : World} {d : Array Int} (hg : n ≤ g) (hn : n ≤ w.heap.size) (k : Nat) (os : Array Obj) : Below n w (Sort.grow (Sort.putRow (Value.int .i64) (Sort.ahead w k) g 0 d) os) :=
  ⟨rfl, rfl, rfl, by simp [Sort.ahead], fun j hj => by
    rw [Sort.heap_grow_old _ _ (by simp [Sort.ahead]; omega)]
    show (w.heap.modify g _)[j]? = _
    rw [Array.getElem?_modify, if_neg (by omega)]⟩
theorem newRow_sorted {n g c : Nat} {w : World} {zs ys : List Int} (hr : NewRow n w g c zs) (hl : ys.length = zs.length) (k : Nat) (os : Array Obj) : NewRow n (Sort.grow (Sort.putRow (Value.int .i64) (Sort.ahead w k) g 0 ys.toArray) os) g c ys :=
  ⟨hr.low, by have := hr.lt; simp [Sort.ahead]; omega, by have := hr.room; omega, Sort.holds_grow _ _ _ _ _ _ (by have := hr.lt; simpa [Sort.ahead] using this)
    (Sort.holds_putRow _ _ _ _ zs.toArray ys.toArray (Sort.holds_ahead _ w k _ _ _ hr.holds) (by simp [hl]))⟩
theorem Sorted_any (Bs b off cap : Nat) (zs : List Int) (hz : 0 < zs.length) (hlen : zs.length ≤ 100)
    (w : World) (hBs : Bs < w.heap.size) (hb : b < w.heap.size) (hcB : w.cell? ⟨Bs, 0, none⟩ = some (.slice (some ⟨b, off, none⟩) zs.length cap)) (hI : ∀ j, j < zs.length → w.cell? ⟨b, off + j, none⟩ = some (.int .i64 (zs[j]?.getD 0))) :
    Calls Tryz.prog 73 #[.func (.func 83) #[] #[.pointer (some ⟨Bs, 0, none⟩)]] w fun e w' => ∃ g c, e = .returned (.slice (some ⟨g, 0, none⟩) (sortL zs).length c) ∧ NewRow w.heap.size w' g c (sortL zs) ∧ Below w.heap.size w w' := by
  have H := Lib.hid (Collect_any Bs b off cap zs hz hlen w hBs hb hcB hI)
  clear hI hcB hBs hb
  rw [sortL_length]
  go_enter Tryz.func73, Tryz.ntmps73
  go_wp2_with (go_at_call 81; (with_reducible refine (H.out).mono ?_); rintro e w1 ⟨g, c, rfl, hn, hb1⟩; have HN := Lib.hid hn; have HB := Lib.hid hb1; clear hn hb1)
  go_wp2_with (go_at_call 82; (with_reducible refine (Tryz.slices_Sort_int g 0 c zs _ (NewRow.holds HN.out) (NewRow.lt HN.out) (by omega)).mono ?_); rintro e w2 ⟨rfl, k, os, hw2⟩; have HW := Lib.hid hw2; clear hw2)
  go_ret
  refine ⟨g, c, rfl, ?_, ?_⟩
  · rw [HW.out]; exact newRow_sorted HN.out (sortL_length zs) k os
  · rw [HW.out]; exact HB.out.trans (below_sorted HN.out.1 HB.out.size k os)
theorem isZero_any (x : Int) (w : World) : Calls Tryz.prog 76 #[.int .i64 x] w fun e w' => e = .returned (.bool (x == 0)) ∧ w' = w := by
  go_enter Tryz.func76, Tryz.ntmps76
  go_wp2
  go_ret
  exact ⟨rfl, rfl⟩
theorem isZero_not (x : Int) (h : Hid (x ≠ 0)) (w : World) : Calls Tryz.prog 76 #[.int .i64 x] w fun e w' => e = .returned (.bool false) ∧ w' = w := by
  have h1 : (x == 0) = false := beq_eq_false_iff_ne.2 h.out
  have h2 := isZero_any x w
  rw [h1] at h2; exact h2
theorem isZero_0 (w : World) : Calls Tryz.prog 76 #[.int .i64 0] w fun e w' => e = .returned (.bool true) ∧ w' = w := isZero_any 0 w
set_option maxHeartbeats 1000000 in
theorem IndexFunc_none (zs : List Int) (hl : zs.length ≤ 100) (hz : ∀ j, j < zs.length → zs.getD j 0 ≠ 0) (g cap : Nat) (w : World) (hc : ∀ j, j < zs.length → w.cell? ⟨g, j, none⟩ = some (.int .i64 (zs.getD j 0))) :
    Calls Tryz.prog 84 #[.slice (some ⟨g, 0, none⟩) zs.length cap, .func (.func 76) #[] #[]] w fun e w' => e = .returned (.int .i64 (-1)) ∧ w' = w := by
  have HC := Lib.hid hc
  have HZ := Lib.hid hz
  clear hc hz
  go_enter Tryz.func84, Tryz.ntmps84
  go_wp2
  go_loop [5, 8] (fun j i => ∃ k : Nat, k ≤ zs.length ∧ i = .int .i64 k) (fun _ i => zs.length - (intOf i).toNat)
  case atStart => exact ⟨0, Nat.zero_le _, rfl⟩
  case round =>
    obtain ⟨k, hk, rfl⟩ := hrel
    by_cases hlt : k < zs.length
    · have hcell := HC.out k hlt
      have hne := HZ.out k hlt
      generalize zs.getD k 0 = x at hcell hne
      have HN := Lib.hid hne
      clear hne
      go_wp2_with (go_at_call 76; (with_reducible refine (isZero_not _ HN _).mono ?_); rintro e w' ⟨rfl, rfl⟩)
      go_round
      case rel => exact ⟨k + 1, by omega, by go_num⟩
      case measure => simp [intOf]; omega
    · obtain rfl : k = zs.length := by omega
      go_wp2
      go_ret
      exact ⟨rfl, rfl⟩
set_option maxHeartbeats 1000000 in
theorem IndexFunc_0 (n : Nat) (hn : 0 < n) (hl : n ≤ 100) (g cap : Nat) (w : World) (hc : w.cell? ⟨g, 0, none⟩ = some (.int .i64 0)) :
    Calls Tryz.prog 84 #[.slice (some ⟨g, 0, none⟩) n cap, .func (.func 76) #[] #[]] w fun e w' => e = .returned (.int .i64 0) ∧ w' = w := by
  go_enter Tryz.func84, Tryz.ntmps84
  go_wp2
  go_loop [5, 8] (fun j i => i = .int .i64 0) (fun _ i => 0)
  case atStart => rfl
  case round =>
    obtain rfl := hrel
    have h0 : (0 : Int) < (n : Int) := by omega
    go_wp2_with (go_at_call 76; (with_reducible refine (isZero_0 _).mono ?_); rintro e w' ⟨rfl, rfl⟩)
    go_ret
    exact ⟨rfl, rfl⟩
theorem DeleteFunc_none (zs : List Int) (hl : zs.length ≤ 100) (hz : ∀ j, j < zs.length → zs.getD j 0 ≠ 0) (g cap : Nat) (w : World) (hc : ∀ j, j < zs.length → w.cell? ⟨g, j, none⟩ = some (.int .i64 (zs.getD j 0))) :
    Calls Tryz.prog 75 #[.slice (some ⟨g, 0, none⟩) zs.length cap, .func (.func 76) #[] #[]] w fun e w' => e = .returned (.slice (some ⟨g, 0, none⟩) zs.length cap) ∧ w' = w := by
  have HC := Lib.hid (fun w (hc : ∀ j, j < zs.length → w.cell? ⟨g, j, none⟩ = some (.int .i64 (zs.getD j 0))) => IndexFunc_none zs hl hz g cap w hc)
  have HI := Lib.hid (IndexFunc_none zs hl hz g cap w hc)
  clear hc hz HC
  go_enter Tryz.func75, Tryz.ntmps75
  go_wp2_with (go_at_call 84; (with_reducible refine HI.out.mono ?_); rintro e w' ⟨rfl, rfl⟩)
  go_ret
  exact ⟨rfl, rfl⟩
theorem clear_one (w : World) (g o cap : Nat) (hc : (w.cell? ⟨g, o, none⟩).isSome = true) (hf : w.frozen? ⟨g, o, none⟩ = false) (ty : TypeId) :
    (Builtin.clear_ #[22] ty #[.slice (some ⟨g, o, none⟩) 1 cap]).run Tryz.prog w = .ok (.tuple #[]) (w.setCells g o [.int .i64 0]) :=
  Lib.run_clear_slice w _ _ ty _ Tryz.underlying22 Tryz.zeroValue3 rfl rfl g o 1 cap (by omega) (fun j hj => by rw [show j = 0 from by omega]; exact hc) (fun j hj => by rw [show j = 0 from by omega]; exact hf)
theorem setCells_below {n g : Nat} (hg : n ≤ g) (w : World) (o : Nat) (v : Value) : Below n w (w.setCells g o [v]) := (Below.refl n w).setCell (p := ⟨g, o, none⟩) hg v
set_option maxHeartbeats 1000000 in
theorem DeleteFunc_0 (n₀ g cap : Nat) (hg : n₀ ≤ g) (hcap : 1 ≤ cap) (w : World) (hc : w.cell? ⟨g, 0, none⟩ = some (.int .i64 0)) (hf : w.frozen? ⟨g, 0, none⟩ = false) :
    Calls Tryz.prog 75 #[.slice (some ⟨g, 0, none⟩) 1 cap, .func (.func 76) #[] #[]] w fun e w' => e = .returned (.slice (some ⟨g, 0, none⟩) 0 cap) ∧ Below n₀ w w' := by
  have HI := Lib.hid (IndexFunc_0 1 (by omega) (by omega) g cap w hc)
  have hcl := clear_one w g 0 cap (by rw [hc]; rfl) hf
  have HS := Lib.hid (setCells_below hg w 0 (.int .i64 0))
  clear hc hf hg
  go_enter Tryz.func75, Tryz.ntmps75
  go_wp2_with (go_at_call 84; (with_reducible refine HI.out.mono ?_); rintro e w' ⟨rfl, hw'⟩; subst w')
  go_loop [5, 6, 7] (fun i j v => i = .int .i64 0 ∧ j = .int .i64 1) (fun _ _ _ => 0)
  case atStart => exact ⟨rfl, rfl⟩
  case round =>
    obtain ⟨rfl, rfl⟩ := hrel
    go_wp2
    go_ret
    exact ⟨rfl, HS.out⟩
set_option maxHeartbeats 1000000 in
theorem DeleteFunc_0y (y : Int) (hy : y ≠ 0) (n₀ g cap : Nat) (hg : n₀ ≤ g) (hcap : 2 ≤ cap) (w : World) (hc : w.cell? ⟨g, 0, none⟩ = some (.int .i64 0)) (hf : w.frozen? ⟨g, 0, none⟩ = false) (hc1 : w.cell? ⟨g, 1, none⟩ = some (.int .i64 y)) (hf1 : w.frozen? ⟨g, 1, none⟩ = false) :
    Calls Tryz.prog 75 #[.slice (some ⟨g, 0, none⟩) 2 cap, .func (.func 76) #[] #[]] w fun e w' => e = .returned (.slice (some ⟨g, 0, none⟩) 1 cap) ∧ Below n₀ w w' ∧ w'.cell? ⟨g, 0, none⟩ = some (.int .i64 y) := by
  have HI := Lib.hid (IndexFunc_0 2 (by omega) (by omega) g cap w hc)
  have HN := Lib.hid hy
  obtain ⟨w2, hw2⟩ : ∃ w2, w.setCell ⟨g, 0, none⟩ (.int .i64 y) = w2 := ⟨_, rfl⟩
  have hc2 : w2.cell? ⟨g, 1, none⟩ = some (.int .i64 y) := by rw [← hw2, World.cell?_setCell_other _ _ _ _ (by simp)]; exact hc1
  have hc20 : w2.cell? ⟨g, 0, none⟩ = some (.int .i64 y) := by rw [← hw2]; exact World.cell?_setCell_same' _ _ _ (by rw [hc]; rfl)
  have hf2 : w2.frozen? ⟨g, 1, none⟩ = false := by rw [← hw2, World.frozen?_setCell]; exact hf1
  have hcl := clear_one w2 g 1 (cap - 1) (by rw [hc2]; rfl) hf2
  have HS := Lib.hid (setCells_below hg w2 1 (.int .i64 0))
  have HB : Hid (Below n₀ w w2) := Lib.hid (by rw [← hw2]; exact (Below.refl n₀ w).setCell (p := ⟨g, 0, none⟩) hg _)
  have HC : Hid ((w2.setCells g 1 [.int .i64 0]).cell? ⟨g, 0, none⟩ = some (.int .i64 y)) := Lib.hid ((World.cell?_setCell_other w2 ⟨g, 1, none⟩ ⟨g, 0, none⟩ (.int .i64 0) (by simp)).trans hc20)
  have HW := Lib.hid hw2
  clear hw2 hc20 hy hg hf2
  go_enter Tryz.func75, Tryz.ntmps75
  go_wp2_with (go_at_call 84; (with_reducible refine HI.out.mono ?_); rintro e w' ⟨rfl, hw'⟩; subst w')
  go_loopw [5, 6, 7] (fun i j v wr => (i = .int .i64 0 ∧ j = .int .i64 1 ∧ wr = w) ∨ (i = .int .i64 1 ∧ j = .int .i64 2 ∧ wr = w2)) (fun i _ _ _ => 1 - (intOf i).toNat)
  case atStart => exact .inl ⟨rfl, rfl, rfl⟩
  case round =>
    rcases hrel with ⟨rfl, rfl, rfl⟩ | ⟨rfl, rfl, rfl⟩
    · go_wp2_with (go_at_call 76; (with_reducible refine (isZero_not _ HN _).mono ?_); rintro e w' ⟨rfl, hw'⟩; subst w')
      go_roundw
      case rel => exact .inr ⟨rfl, rfl, HW.out⟩
      case measure => simp [intOf]
    · go_wp2
      go_ret
      exact ⟨rfl, HB.out.trans HS.out, HC.out⟩
theorem sortL_two (a b : Int) : sortL [a, b] = if a ≤ b then [a, b] else [b, a] := by
  by_cases h : a ≤ b
  · simp [sortL, List.mergeSort, List.MergeSort.Internal.splitInTwo, h]
  · simp [sortL, List.mergeSort, List.MergeSort.Internal.splitInTwo, h]
def regsL (a b : Int) : List Int := (Lib.compact (sortL [a, b])).filter fun x => x != 0
theorem compact_two (x y : Int) : Lib.compact [x, y] = if x = y then [x] else [x, y] := by
  by_cases h : x = y
  · subst h; simp [Lib.compact, Lib.compactUpTo, Lib.keeps, List.range_succ]
  · simp [Lib.compact, Lib.compactUpTo, Lib.keeps, List.range_succ, h, Ne.symm h]
theorem compact_form (a b : Int) (ha : 0 ≤ a) (hb : 0 ≤ b) : (∃ x, Lib.compact (sortL [a, b]) = [x]) ∨ ∃ x y, Lib.compact (sortL [a, b]) = [x, y] ∧ y ≠ 0 := by
  rw [sortL_two]
  by_cases h : a ≤ b
  · rw [if_pos h, compact_two]
    by_cases e : a = b
    · exact .inl ⟨a, by rw [if_pos e]⟩
    · exact .inr ⟨a, b, by rw [if_neg e], by omega⟩
  · rw [if_neg h, compact_two, if_neg (by omega)]
    exact .inr ⟨b, a, rfl, by omega⟩
theorem regsL_is (a b : Int) : regsL a b = (if a ≤ b then (if a = b then [a] else [a, b]) else [b, a]).filter fun x => x != 0 := by
  unfold regsL
  rw [sortL_two]
  by_cases h : a ≤ b
  · rw [if_pos h, if_pos h, compact_two]
  · rw [if_neg h, if_neg h, compact_two, if_neg (by omega)]
theorem below_put {n g : Nat} {w : World} {d : Array Int} (hg : n ≤ g) (k : Nat) : Below n w (Sort.putRow (Value.int .i64) (Sort.ahead w k) g 0 d) := by
  refine ⟨rfl, rfl, rfl, by simp [Sort.ahead], fun j hj => ?_⟩
  show (w.heap.modify g _)[j]? = _
  rw [Array.getElem?_modify, if_neg (by omega)]
theorem newRow_cut {n g c : Nat} {w : World} {zs ys r : List Int} (hr : NewRow n w g c zs) (hl : (ys ++ r).length = zs.length) (k : Nat) : NewRow n (Sort.putRow (Value.int .i64) (Sort.ahead w k) g 0 (ys ++ r).toArray) g c ys := by
  have hh := Sort.holds_putRow _ _ _ _ zs.toArray (ys ++ r).toArray (Sort.holds_ahead _ w k _ _ _ hr.holds) (by simpa using hl)
  refine ⟨hr.low, by have := hr.lt; simpa [Sort.ahead] using this, by have := hr.room; simp at hl; omega, fun j hj => ?_⟩
  have hj' : j < ys.length := by simpa using hj
  obtain ⟨h1, h2⟩ := hh j (by simp; omega)
  refine ⟨h1.trans ?_, h2⟩
  rw [getElem!_pos _ j (by simp; omega), getElem!_pos _ j hj]
  simp [hj']
theorem NewRow.cell {n : Nat} {w' : World} {g cap : Nat} {zs : List Int} (h : NewRow n w' g cap zs) (j : Nat) (hj : j < zs.length) : w'.cell? ⟨g, j, none⟩ = some (.int .i64 (zs.getD j 0)) := by
  have := (h.holds j (by simpa using hj)).1
  rw [Nat.zero_add] at this
  rw [this, getElem!_pos _ j (by simpa using hj)]
  simp [hj]
theorem NewRow.loose {n : Nat} {w' : World} {g cap : Nat} {zs : List Int} (h : NewRow n w' g cap zs) (j : Nat) (hj : j < zs.length) : w'.frozen? ⟨g, j, none⟩ = false := by
  have := (h.holds j (by simpa using hj)).2
  rwa [Nat.zero_add] at this
/-- what reads as the ints zs in a block from n on -/
def ReadRow (n : Nat) (w' : World) (g : Nat) (zs : List Int) : Prop := n ≤ g ∧ ∀ j, j < zs.length → w'.cell? ⟨g, j, none⟩ = some (.int .i64 (zs.getD j 0))
theorem DeleteFunc_any (zs : List Int) (hz : (∃ x, zs = [x]) ∨ ∃ x y, zs = [x, y] ∧ y ≠ 0) (n g c : Nat) (w : World) (hr : NewRow n w g c zs) :
    Calls Tryz.prog 75 #[.slice (some ⟨g, 0, none⟩) zs.length c, .func (.func 76) #[] #[]] w fun e w' => e = .returned (.slice (some ⟨g, 0, none⟩) (zs.filter fun x => x != 0).length c) ∧ Below n w w' ∧ ReadRow n w' g (zs.filter fun x => x != 0) := by
  rcases hz with ⟨x, rfl⟩ | ⟨x, y, rfl, hy⟩
  · by_cases hx : x = 0
    · subst hx
      refine (DeleteFunc_0 n g c hr.low hr.room w (hr.cell 0 (by simp)) (hr.loose 0 (by simp))).mono ?_
      rintro e w' ⟨rfl, hb⟩
      exact ⟨rfl, hb, hr.low, fun j hj => by simp at hj⟩
    · have hf : ([x].filter fun x => x != 0) = [x] := by simp [hx]
      rw [hf]
      have hn : ∀ j, j < [x].length → [x].getD j 0 ≠ 0 := fun j hj => by
        obtain rfl : j = 0 := by simp at hj; omega
        simpa using hx
      refine (DeleteFunc_none [x] (by simp) hn g c w (fun j hj => hr.cell j hj)).mono ?_
      rintro e w' ⟨rfl, rfl⟩
      exact ⟨rfl, Below.refl _ _, hr.low, fun j hj => hr.cell j hj⟩
  · by_cases hx : x = 0
    · subst hx
      have hf : ([0, y].filter fun x => x != 0) = [y] := by simp [hy]
      rw [hf]
      refine (DeleteFunc_0y y hy n g c hr.low hr.room w (hr.cell 0 (by simp)) (hr.loose 0 (by simp)) (hr.cell 1 (by simp)) (hr.loose 1 (by simp))).mono ?_
      rintro e w' ⟨rfl, hb, hc⟩
      exact ⟨rfl, hb, hr.low, fun j hj => by
        obtain rfl : j = 0 := by simp at hj; omega
        exact hc⟩
    · have hf : ([x, y].filter fun x => x != 0) = [x, y] := by simp [hx, hy]
      rw [hf]
      refine (DeleteFunc_none [x, y] (by simp) (fun j hj => by
        have : j = 0 ∨ j = 1 := by simp at hj; omega
        rcases this with rfl | rfl
        · simpa using hx
        · simpa using hy) g c w (fun j hj => hr.cell j hj)).mono ?_
      rintro e w' ⟨rfl, rfl⟩
      exact ⟨rfl, Below.refl _ _, hr.low, fun j hj => hr.cell j hj⟩
theorem NewRow.holds' {n : Nat} {w' : World} {g cap : Nat} {zs : List Int} (h : Hid (NewRow n w' g cap zs)) : Sort.Holds (Value.int .i64) w' g 0 zs.toArray := h.out.2.2.2
theorem Compact_row (zs : List Int) (hl : zs.length ≤ 100) (hcl : (Lib.compact zs).length ≤ zs.length) (n g c : Nat) (w : World) (hr : Hid (NewRow n w g c zs)) :
    Calls Tryz.prog 72 #[.slice (some ⟨g, 0, none⟩) zs.length c] w fun e w' => e = .returned (.slice (some ⟨g, 0, none⟩) (Lib.compact zs).length c) ∧ NewRow n w' g c (Lib.compact zs) ∧ Below n w w' := by
  refine (Tryz.slices_Compact_int g 0 c zs w hr.out.holds (by omega) hr.out.room).mono ?_
  rintro e w' ⟨rfl, k, rfl⟩
  exact ⟨rfl, newRow_cut hr.out (by simp; omega) k, below_put hr.out.low k⟩
theorem compact_le (a b : Int) : (Lib.compact (sortL [a, b])).length ≤ (sortL [a, b]).length := by
  rw [sortL_two]
  by_cases h : a ≤ b
  · rw [if_pos h, compact_two]; by_cases e : a = b
    · rw [if_pos e]; simp
    · rw [if_neg e]; simp
  · rw [if_neg h, compact_two, if_neg (by omega)]; simp
theorem NewRow.lower {n m : Nat} {w' : World} {g cap : Nat} {zs : List Int} (hm : m ≤ n) (h : NewRow n w' g cap zs) : NewRow m w' g cap zs := ⟨Nat.le_trans hm h.low, h.2⟩
theorem DeleteFunc_regs (a b : Int) (ha : 0 ≤ a) (hb : 0 ≤ b) (n g c : Nat) (w : World) (hr : Hid (NewRow n w g c (Lib.compact (sortL [a, b])))) :
    Calls Tryz.prog 75 #[.slice (some ⟨g, 0, none⟩) (Lib.compact (sortL [a, b])).length c, .func (.func 76) #[] #[]] w fun e w' => e = .returned (.slice (some ⟨g, 0, none⟩) (regsL a b).length c) ∧ Below n w w' ∧ ReadRow n w' g (regsL a b) :=
  DeleteFunc_any _ (compact_form a b ha hb) n g c w hr.out
set_option maxHeartbeats 1000000 in
theorem registers_any (a b : Int) (ha : 0 ≤ a) (hb : 0 ≤ b) (g0 cap : Nat) (w : World) (hg : g0 < w.heap.size) (h0 : w.cell? ⟨g0, 0, none⟩ = some (.int .i64 a)) (h1 : w.cell? ⟨g0, 1, none⟩ = some (.int .i64 b)) :
    Calls Tryz.prog 68 #[.slice (some ⟨g0, 0, none⟩) 2 cap] w fun e w' => ∃ g c, e = .returned (.slice (some ⟨g, 0, none⟩) (regsL a b).length c) ∧ ReadRow w.heap.size w' g (regsL a b) ∧ Below w.heap.size w w' := by
  have hbA : Below w.heap.size w (w.alloc (.cells #[.slice (some ⟨g0, 0, none⟩) 2 cap] 22)) := (Below.refl _ _).alloc (Nat.le_refl _) _
  have H := Lib.hid (Sorted_any w.heap.size g0 0 cap [a, b] (by simp) (by simp) (w.alloc (.cells #[.slice (some ⟨g0, 0, none⟩) 2 cap] 22)) (by simp) (by simp; omega) (by simp) (fun j hj => by
    have hc := hbA.cell (p := ⟨g0, 0 + j, none⟩) hg
    rw [hc, Nat.zero_add]
    have : j = 0 ∨ j = 1 := by simp at hj; omega
    rcases this with rfl | rfl
    · simpa using h0
    · simpa using h1))
  have HA := Lib.hid hbA
  clear hbA h0 h1 hg
  go_enter Tryz.func68, Tryz.ntmps68
  go_wp2_with (first
    | (go_at_call 74; (with_reducible refine (Values_any _ _ _ _).mono ?_); rintro e w1 ⟨rfl, rfl⟩)
    | (go_at_call 73; (with_reducible refine H.out.mono ?_); rintro e w2 ⟨g, c, rfl, hn, hb2⟩; have HN := Lib.hid hn; have HB2 := Lib.hid hb2; clear hn hb2)
    | (go_at_call 72; (with_reducible refine (Compact_row _ (by rw [sortL_length]; simp) (compact_le a b) _ g c _ HN).mono ?_); rintro e w3 ⟨rfl, hn3, hb3⟩; have HN3 := Lib.hid hn3; have HB3 := Lib.hid hb3; clear hn3 hb3)
    | (go_at_call 75; (with_reducible refine (DeleteFunc_regs a b ha hb _ g c _ HN3).mono ?_); rintro e w4 ⟨rfl, hb4, hr4⟩; have HB4 := Lib.hid hb4; have HR4 := Lib.hid hr4; clear hb4 hr4))
  go_ret
  have hs := HA.out.size
  refine ⟨g, c, rfl, ⟨Nat.le_trans hs HR4.out.1, HR4.out.2⟩, ?_⟩
  exact HA.out.trans (((HB2.out.trans HB3.out).trans HB4.out).mono hs)
end Go.Proofs.YtfbnijcmfaeoeaaGreat
