/-
  Proved here: the law's start (event 3 is on register 5, event 4 on register 6), comparing deps, and what is left in the boxes behind a step. Condition: lists of at most 100,000 numbers.
-/
import Derived.Test.YtfbnijcmfaeoeaaGreatTaintKit
namespace Go.Proofs.YtfbnijcmfaeoeaaGreat
open Go.RowKit
attribute [local go_sem ↓] fold_T fold_I

def startL : Tl := (zeroTl.put 5 [3]).put 6 [4]
theorem short_of (l : Tl) (h : (List.range 32).all (fun k => decide ((l.x k).length ≤ 10000)) = true) (hw : l.way.length ≤ 10000) : l.short :=
  ⟨fun k hk => by simpa using List.all_eq_true.1 h k (List.mem_range.2 hk), hw⟩
theorem start_short : startL.short := short_of _ (by decide +kernel) (by decide +kernel)
theorem reads_cell1 (w : World) (b n : Nat) (z : Int) (hn : n ≤ b) (hb : w.heap[b]? = some (.cells #[.int .i64 z] 3 (0, 0))) : ReadsN n w (.slice (some ⟨b, 0, none⟩) 1 1) [z] := by
  refine ⟨.inr ⟨b, 0, 1, rfl, by simp, by omega, (Array.getElem?_eq_some_iff.1 hb).1, fun j hj => ?_⟩, fun k hk => by simp [Value.ownBlock] at hk; omega⟩
  have : j = 0 := by simpa using hj
  subst this
  rw [cell_of_row w b _ _ _ _ hb]
  rfl
/-- what start has made ahead of the last copy -/
theorem start_made (w w2 : World) (g : Nat) (hg : w.heap.size < g) (hg2 : g < w2.heap.size) (D : TAt 25 zeroTa g w2) (R : TAt 25 zeroTa w.heap.size w2) (hb : Below w.heap.size w w2) (W : World)
    (hW : W = ((((w2.setCell ⟨g, 5, none⟩ (.slice (some ⟨w2.heap.size, 0, none⟩) 1 1)).setCell ⟨g, 6, none⟩ (.slice (some ⟨w2.heap.size + 1, 0, none⟩) 1 1)).alloc (.cells #[.int .i64 3] 3)).alloc (.cells #[.int .i64 4] 3))) :
    TAt 25 ((zeroTa.put 5 (.slice (some ⟨w2.heap.size, 0, none⟩) 1 1)).put 6 (.slice (some ⟨w2.heap.size + 1, 0, none⟩) 1 1)) g W ∧ TAt 25 zeroTa w.heap.size W ∧ TReadsN (w.heap.size + 1) W ((zeroTa.put 5 (.slice (some ⟨w2.heap.size, 0, none⟩) 1 1)).put 6 (.slice (some ⟨w2.heap.size + 1, 0, none⟩) 1 1)) startL ∧ Below w.heap.size w W := by
  have hsz : ((w2.setCell ⟨g, 5, none⟩ (.slice (some ⟨w2.heap.size, 0, none⟩) 1 1)).setCell ⟨g, 6, none⟩ (.slice (some ⟨w2.heap.size + 1, 0, none⟩) 1 1)).heap.size = w2.heap.size := by simp [World.setCell]
  have D2 := (D.setX 5 (by omega) (.slice (some ⟨w2.heap.size, 0, none⟩) 1 1)).setX 6 (by omega) (.slice (some ⟨w2.heap.size + 1, 0, none⟩) 1 1)
  have R2 := (R.far (k := 5) (.slice (some ⟨w2.heap.size, 0, none⟩) 1 1) (show w.heap.size ≠ g by omega)).far (k := 6) (.slice (some ⟨w2.heap.size + 1, 0, none⟩) 1 1) (show w.heap.size ≠ g by omega)
  have B2 := ((hb.setCell (p := ⟨g, 5, none⟩) (by show w.heap.size ≤ g; omega) (.slice (some ⟨w2.heap.size, 0, none⟩) 1 1)).setCell (p := ⟨g, 6, none⟩) (by show w.heap.size ≤ g; omega) (.slice (some ⟨w2.heap.size + 1, 0, none⟩) 1 1))
  generalize ((w2.setCell ⟨g, 5, none⟩ (.slice (some ⟨w2.heap.size, 0, none⟩) 1 1)).setCell ⟨g, 6, none⟩ (.slice (some ⟨w2.heap.size + 1, 0, none⟩) 1 1)) = V at *
  have hb0 : ((V.alloc (.cells #[.int .i64 3] 3)).alloc (.cells #[.int .i64 4] 3)).heap[w2.heap.size]? = some (.cells #[.int .i64 3] 3 (0, 0)) := by
    rw [← hsz]
    exact (Below.heap_alloc _ _ _ (by simp)).trans (heap_new _ _)
  have hb1 : ((V.alloc (.cells #[.int .i64 3] 3)).alloc (.cells #[.int .i64 4] 3)).heap[w2.heap.size + 1]? = some (.cells #[.int .i64 4] 3 (0, 0)) := by
    rw [← hsz]
    have := heap_new (V.alloc (.cells #[.int .i64 3] 3)) (.cells #[.int .i64 4] 3)
    simp only [World.size_alloc] at this
    exact this
  rw [← hW] at hb0 hb1
  refine ⟨by rw [hW]; exact (D2.alloc _).alloc _, by rw [hW]; exact (R2.alloc _).alloc _, ⟨fun k hk => ?_, ReadsN.nil _ _⟩, by rw [hW]; exact (B2.alloc (by omega) _).alloc (by simp; omega) _⟩
  unfold startL
  rw [Ta.put_v _ 6 _ (by omega), Tl.put_x _ 6 _ (by omega)]
  by_cases h6 : k = 6
  · rw [if_pos h6, if_pos h6]; exact reads_cell1 _ _ _ _ (by omega) hb1
  · rw [if_neg h6, if_neg h6, Ta.put_v _ 5 _ (by omega), Tl.put_x _ 5 _ (by omega)]
    by_cases h5 : k = 5
    · rw [if_pos h5, if_pos h5]; exact reads_cell1 _ _ _ _ (by omega) hb0
    · rw [if_neg h5, if_neg h5, zeroTa_v k hk, zeroTl_x]; exact ReadsN.nil _ _
/-- what reads from above n reads so still where block n alone was written -/
theorem reads_but {n : Nat} {W w9 : World} {v : Value} {zs : List Int} (hv : ReadsN (n + 1) W v zs) (ho : ∀ j, j ≠ n → w9.heap[j]? = W.heap[j]?) (hz : w9.heap.size = W.heap.size) : ReadsN n w9 v zs := by
  refine ⟨?_, fun k hk => by have := hv.2 k hk; omega⟩
  rcases hv.1 with h0 | ⟨b, off, c, e, h2, h3, h4, h5⟩
  · exact .inl h0
  · subst e
    have hbn := hv.2 b rfl
    refine .inr ⟨b, off, c, rfl, h2, h3, by omega, fun j hj => ?_⟩
    rw [← h5 j hj]
    exact World.cell?_of_block (ho b (by omega))
theorem two_flat (a b : Option Addr) (n m c d : Nat) : ((zeroTa.put 5 (.slice a n c)).put 6 (.slice b m d)).flat := by
  unfold Ta.flat
  rw [Array.all_eq_true]
  intro i hi
  rw [tC_size] at hi
  by_cases hk : i < 32
  · have e := tC_x ((zeroTa.put 5 (.slice a n c)).put 6 (.slice b m d)) i hk
    rw [Array.getElem?_eq_getElem (by rw [tC_size]; omega)] at e
    rw [Option.some.inj e, Ta.put_v _ 6 _ (by omega)]
    split
    · rfl
    · rw [Ta.put_v _ 5 _ (by omega)]
      split
      · rfl
      · rw [zeroTa_v i hk]; rfl
  · obtain rfl : i = 32 := by omega
    have e := tC_way ((zeroTa.put 5 (.slice a n c)).put 6 (.slice b m d))
    rw [Array.getElem?_eq_getElem (by rw [tC_size]; omega)] at e
    rw [Option.some.inj e]
    rfl
set_option maxRecDepth 100000 in
set_option maxHeartbeats 4000000 in
theorem start_any (w : World) : Calls Tryz.prog 20 #[] w fun e w' => TaintOk w startL e w' := by
  have HZ := Lib.hid (zero_at w)
  have HB := Lib.hid (box_below w (.cells #[.slice none 0 0, .slice none 0 0, .slice none 0 0, .slice none 0 0, .slice none 0 0, .slice none 0 0, .slice none 0 0, .slice none 0 0, .slice none 0 0, .slice none 0 0, .slice none 0 0, .slice none 0 0, .slice none 0 0, .slice none 0 0, .slice none 0 0, .slice none 0 0, .slice none 0 0, .slice none 0 0, .slice none 0 0, .slice none 0 0, .slice none 0 0, .slice none 0 0, .slice none 0 0, .slice none 0 0, .slice none 0 0, .slice none 0 0, .slice none 0 0, .slice none 0 0, .slice none 0 0, .slice none 0 0, .slice none 0 0, .slice none 0 0, .slice none 0 0] 25))
  have hz0 : (w.alloc (.cells #[.slice none 0 0, .slice none 0 0, .slice none 0 0, .slice none 0 0, .slice none 0 0, .slice none 0 0, .slice none 0 0, .slice none 0 0, .slice none 0 0, .slice none 0 0, .slice none 0 0, .slice none 0 0, .slice none 0 0, .slice none 0 0, .slice none 0 0, .slice none 0 0, .slice none 0 0, .slice none 0 0, .slice none 0 0, .slice none 0 0, .slice none 0 0, .slice none 0 0, .slice none 0 0, .slice none 0 0, .slice none 0 0, .slice none 0 0, .slice none 0 0, .slice none 0 0, .slice none 0 0, .slice none 0 0, .slice none 0 0, .slice none 0 0, .slice none 0 0] 25)).heap.size = w.heap.size + 1 := by simp
  go_enter Tryz.func20, Tryz.ntmps20
  go_upto_region 1 with fail
  obtain ⟨W, HW⟩ : ∃ W, Hid (w.alloc (.cells #[.slice none 0 0, .slice none 0 0, .slice none 0 0, .slice none 0 0, .slice none 0 0, .slice none 0 0, .slice none 0 0, .slice none 0 0, .slice none 0 0, .slice none 0 0, .slice none 0 0, .slice none 0 0, .slice none 0 0, .slice none 0 0, .slice none 0 0, .slice none 0 0, .slice none 0 0, .slice none 0 0, .slice none 0 0, .slice none 0 0, .slice none 0 0, .slice none 0 0, .slice none 0 0, .slice none 0 0, .slice none 0 0, .slice none 0 0, .slice none 0 0, .slice none 0 0, .slice none 0 0, .slice none 0 0, .slice none 0 0, .slice none 0 0, .slice none 0 0] 25) = W) := ⟨_, Lib.hid rfl⟩
  rw [HW.out] at HZ HB hz0 ⊢
  go_upto_region 3 with (first
    | (go_at_call 33; (with_reducible refine (New_any _).mono ?_); rintro e w1 ⟨rfl, hb1⟩; have HZ1 := Lib.hid (HZ.out.below hb1 HZ.out.lt); have HB1 := Lib.hid (HB.out.trans (hb1.mono HB.out.size)); have hz1 := hb1.size; rw [hz0] at hz1; clear hb1)
    | (refine store_ta (zero_at w1) zeroTa zeroFlat rfl (.tmp 1) (.tmp 2) rfl rfl rfl ?_; intro w2 D2 ho2 hb2 hz2; have HD2 := Lib.hid D2; have HZ2 := Lib.hid (TAt.below HZ1.out ((box_below w1 _).trans hb2) (by omega)); have HB2 := Lib.hid (HB1.out.trans (((box_below w1 _).trans hb2).mono (by omega))); have hlt2 : w1.heap.size < w2.heap.size := D2.lt; clear D2 ho2 hb2 hz2; have d5 := HD2.out.cx 5 (by omega); have d6 := HD2.out.cx 6 (by omega); have z5 := HD2.out.frozen 5; have z6 := HD2.out.frozen 6))
  obtain ⟨W3, HW3⟩ : ∃ W3, Hid (W3 = ((((w2.setCell ⟨w1.heap.size, 5, none⟩ (.slice (some ⟨w2.heap.size, 0, none⟩) 1 1)).setCell ⟨w1.heap.size, 6, none⟩ (.slice (some ⟨w2.heap.size + 1, 0, none⟩) 1 1)).alloc (.cells #[.int .i64 3] 3)).alloc (.cells #[.int .i64 4] 3))) := ⟨_, Lib.hid rfl⟩
  obtain ⟨f1, f2, f3, f4⟩ := start_made w w2 w1.heap.size (by omega) hlt2 HD2.out HZ2.out HB2.out W3 HW3.out
  have F1 := Lib.hid f1
  have F2 := Lib.hid f2
  have F3 := Lib.hid f3
  have F4 := Lib.hid f4
  rw [← HW3.out]
  clear f1 f2 f3 f4 d5 d6 z5 z6
  go_wp2_with (first
    | (refine load_ta F1.out rfl (.tmp 1) rfl rfl ?_)
    | (refine store_ta F2.out _ (two_flat _ _ _ _ _ _) rfl (.tmp 0) (.tmp 9) rfl rfl rfl ?_; intro w9 D9 ho9 hb9 hz9))
  refine bodyPost_ret (ta_end rfl rfl D9) rfl ?_
  exact ⟨_, rfl, ⟨fun k hk => reads_but (F3.out.1 k hk) ho9 hz9, reads_but F3.out.2 ho9 hz9⟩, F4.out.trans hb9⟩
end Go.Proofs.YtfbnijcmfaeoeaaGreat
