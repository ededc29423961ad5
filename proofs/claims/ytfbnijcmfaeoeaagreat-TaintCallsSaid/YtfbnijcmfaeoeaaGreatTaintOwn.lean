/-
  Proved here: the kit's Own and OwnTaint: a taint of lists of its own; nothing that was there is changed. Condition: lists of at most 10,000 numbers.
-/
import Derived.Test.YtfbnijcmfaeoeaaGreatTaintBehindWalk
namespace Go.Proofs.YtfbnijcmfaeoeaaGreat
open Go.RowKit

set_option maxRecDepth 100000 in
set_option maxHeartbeats 2000000 in
theorem own_any (v : Value) (zs : List Int) (w : World) (h : ReadsI w v zs) (hlen : zs.length ≤ 100000) : Calls Tryz.prog 18 #[v] w fun e w' => Merged w zs e w' := by
  have HR := Lib.hid (h.alloc (.cells #[] 3))
  have HO := Lib.hid (World.ownsRow_made (base := w.heap.size) (e := 3) (size := 1) w #[] 0 (Nat.le_refl _) (by unfold maxLen; omega) (by simp))
  have HB := Lib.hid (box_below w (.cells #[] 3))
  clear h
  go_enter Tryz.func18, Tryz.ntmps18
  go_wp2_with (refine append_reads rfl (.tmp 3) (.tmp 4) rfl w.heap.size _ [] zs rfl HO.out _ rfl HR.out (by simp; omega) HB.out.size ?_; intro v1 w1 hw1 hg1; have H1 := Lib.hid hw1; have HB1 := Lib.hid (HB.out.grown hg1 HB.out.size (fun k hk => (HO.out.lt k hk).1)); clear hw1 hg1)
  go_ret
  exact ⟨_, rfl, readsN_of_own H1.out, HB1.out⟩
theorem tC_way_put (t : Ta) (v : Value) : (tC t).setIfInBounds 32 v = tC (t.atWay v) := by
  have hl := t.len
  unfold tC Ta.atWay
  apply Array.toList_inj.1
  rw [Array.toList_setIfInBounds]
  simp only [List.set_append, hl]
  simp
theorem TAt.setW {T : TypeId} {t : Ta} {n : Nat} {w : World} (H : TAt T t n w) (v : Value) : TAt T (t.atWay v) n (w.setCell ⟨n, 32, none⟩ v) := by
  unfold TAt; rw [set_at _ _ _ _ _ _ _ H, tC_way_put t v]
theorem two_belowT (w : World) (o p : Obj) : Below w.heap.size w ((w.alloc o).alloc p) := ((Below.refl _ _).alloc (Nat.le_refl _) _).alloc (by simp) _
structure Ot (t : Ta) (l : Tl) (k : Nat) (t2 : Ta) (w W : World) : Prop where
  box : TAt 25 t2 w.heap.size W
  res : TAt 25 zeroTa (w.heap.size + 1) W
  done : ∀ j, j < k → ReadsN (w.heap.size + 2) W (t2.v j) (l.x j)
  rest : ∀ j, k ≤ j → j < 32 → t2.v j = t.v j
  way : t2.way = t.way
  below : Below w.heap.size w W
theorem Ot.on {t : Ta} {l : Tl} {k : Nat} {t2 : Ta} {w W W2 : World} (h : Ot t l k t2 w W) (hb : Below W.heap.size W W2) : Ot t l k t2 w W2 :=
  ⟨h.box.below hb h.box.lt, h.res.below hb h.res.lt, fun j hj => (h.done j hj).on hb, h.rest, h.way, h.below.trans (hb.mono h.below.size)⟩
theorem Ot.put {t : Ta} {l : Tl} {k : Nat} {t2 : Ta} {w W : World} (h : Ot t l k t2 w W) (hk : k < 32) (v : Value) (hv : ReadsN (w.heap.size + 2) W v (l.x k)) : Ot t l (k + 1) (t2.put k v) w (W.setCell ⟨w.heap.size, k, none⟩ v) := by
  refine ⟨h.box.setX k hk v, h.res.far v (by omega), fun j hj => ?_, fun j hj h32 => ?_, h.way, h.below.setCell (p := ⟨w.heap.size, k, none⟩) (Nat.le_refl _) v⟩
  · rw [Ta.put_v t2 k v hk j]
    by_cases e : j = k
    · subst e; rw [if_pos rfl]; exact hv.set v (by omega)
    · rw [if_neg e]; exact (h.done j (by omega)).set v (by omega)
  · rw [Ta.put_v t2 k v hk j, if_neg (by omega)]
    exact h.rest j (by omega) h32
theorem Ot.start (t : Ta) (l : Tl) (w : World) : Ot t l 0 t w ((w.alloc (.cells (tC t) 25)).alloc (.cells #[.slice none 0 0, .slice none 0 0, .slice none 0 0, .slice none 0 0, .slice none 0 0, .slice none 0 0, .slice none 0 0, .slice none 0 0, .slice none 0 0, .slice none 0 0, .slice none 0 0, .slice none 0 0, .slice none 0 0, .slice none 0 0, .slice none 0 0, .slice none 0 0, .slice none 0 0, .slice none 0 0, .slice none 0 0, .slice none 0 0, .slice none 0 0, .slice none 0 0, .slice none 0 0, .slice none 0 0, .slice none 0 0, .slice none 0 0, .slice none 0 0, .slice none 0 0, .slice none 0 0, .slice none 0 0, .slice none 0 0, .slice none 0 0, .slice none 0 0] 25)) :=
  ⟨(TAt.new _ t w).alloc _, by have := zero_at (w.alloc (.cells (tC t) 25)); simp only [World.size_alloc] at this; exact this, fun j hj => absurd hj (by omega), fun _ _ _ => rfl, rfl, two_belowT _ _ _⟩
theorem reads_after {n : Nat} {W w1 : World} {v : Value} {zs : List Int} (hv : ReadsN (n + 2) W v zs) (ho : ∀ j, j ≠ n + 1 → w1.heap[j]? = W.heap[j]?) (hz : w1.heap.size = W.heap.size) : ReadsN n w1 v zs := by
  refine ⟨?_, fun k hk => by have := hv.2 k hk; omega⟩
  rcases hv.1 with h0 | ⟨b, off, c, e, h2, h3, h4, h5⟩
  · exact .inl h0
  · subst e
    have hbn := hv.2 b rfl
    refine .inr ⟨b, off, c, rfl, h2, h3, by omega, fun j hj => ?_⟩
    rw [← h5 j hj]
    exact World.cell?_of_block (ho b (by omega))
set_option maxRecDepth 100000 in
set_option maxHeartbeats 4000000 in
theorem ownTaint_any (t : Ta) (l : Tl) (w : World) (h : TReads w t l) (hs : l.short) : Calls Tryz.prog 7 #[t.V] w fun e w' => TaintOk w l e w' := by
  have S0 := Lib.hid (Ot.start t l w)
  have KO := Lib.hid (fun k (hk : k < 32) w0 (hb : Below w.heap.size w w0) => own_any (t.v k) (l.x k) w0 ((h.below hb).x k hk) (by have := hs.x k hk; omega))
  have KW := Lib.hid (fun w0 (hb : Below w.heap.size w w0) => own_any t.way l.way w0 ((h.below hb).w) (by have := hs.w; omega))
  clear h hs
  go_enter Tryz.func7, Tryz.ntmps7
  go_wp2
  go_loopw [3] (fun vi wr => ∃ (k : Nat) (t2 : Ta), k ≤ 32 ∧ vi = .int .i64 k ∧ Ot t l k t2 w wr) (fun vi _ => 32 - (intOf vi).toNat)
  case atStart => exact ⟨0, t, Nat.zero_le _, rfl, S0.out⟩
  case round =>
    obtain ⟨k, t2, hk, rfl, hot⟩ := hrel
    have HK := Lib.hid hot
    clear hot S0
    by_cases hlt : k < 32
    · have d0 := HK.out.box.cx k hlt
      rw [HK.out.rest k (Nat.le_refl _) hlt] at d0
      go_wp2_with (go_at_call 18; (with_reducible refine (KO.out k hlt _ HK.out.below).mono ?_); rintro e w4 ⟨v4, rfl, hw4, hb4⟩; obtain ⟨a4, e4, rfl⟩ := hw4.1.len; have A4 := Lib.hid (hw4.mono (show w.heap.size + 2 ≤ _ from HK.out.res.lt)); have H4 := Lib.hid (HK.out.on hb4); clear hw4 hb4 d0; have d0 := H4.out.box.cx k hlt; have z0 := H4.out.box.frozen k)
      have H5 := Lib.hid (H4.out.put hlt (.slice a4 (l.x k).length e4) A4.out)
      go_roundw
      case rel => exact ⟨k + 1, _, by omega, by go_num, H5.out⟩
      case measure => simp [intOf]; omega
    · obtain rfl : k = 32 := by omega
      have dw := HK.out.box.cw
      rw [HK.out.way] at dw
      go_upto_region 6 with (go_at_call 18; (with_reducible refine (KW.out _ HK.out.below).mono ?_); rintro e w5 ⟨v5, rfl, hw5, hb5⟩; obtain ⟨a5, e5, rfl⟩ := hw5.1.len; have A5 := Lib.hid (hw5.mono (show w.heap.size + 2 ≤ _ from HK.out.res.lt)); have H5 := Lib.hid (HK.out.on hb5); clear hw5 hb5 dw; have dw := H5.out.box.cw; have z0 := H5.out.box.frozen 32)
      have B6 := Lib.hid (H5.out.box.setW (.slice a5 l.way.length e5))
      have R6 := Lib.hid (H5.out.res.far (g := w.heap.size) (k := 32) (.slice a5 l.way.length e5) (by omega))
      have N6 := Lib.hid (show TReadsN (w.heap.size + 2) (w5.setCell ⟨w.heap.size, 32, none⟩ (.slice a5 l.way.length e5)) (t2.atWay (.slice a5 l.way.length e5)) l from ⟨fun k hk => (H5.out.done k hk).set _ (by omega), A5.out.set _ (by omega)⟩)
      have L6 := Lib.hid (H5.out.below.setCell (p := ⟨w.heap.size, 32, none⟩) (Nat.le_refl _) (.slice a5 l.way.length e5))
      go_wp2_with (first
        | (refine load_ta B6.out rfl (.tmp 1) rfl rfl ?_)
        | (refine store_ta R6.out _ N6.out.reads.flat rfl (.tmp 2) (.tmp 20) rfl rfl rfl ?_; intro w9 D9 ho9 hb9 hz9))
      refine bodyPost_ret (ta_end rfl rfl D9) rfl ⟨_, rfl, ⟨fun k hk => reads_after (N6.out.1 k hk) ho9 hz9, reads_after N6.out.2 ho9 hz9⟩, L6.out.trans (hb9.mono (by omega))⟩
end Go.Proofs.YtfbnijcmfaeoeaaGreat
