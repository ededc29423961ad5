/-
  Proved here: the package taint's merge answers a new list of all of two that rise; nothing that was there is changed. Condition: at most 100,000 numbers.
-/
import Derived.Test.YtfbnijcmfaeoeaaGreatTaintMerge
namespace Go.Proofs.YtfbnijcmfaeoeaaGreat
open Go.RowKit

theorem compare_lt (x y : Int) (h : x < y) (w : World) : Calls Tryz.prog 51 #[.int .i64 x, .int .i64 y] w fun e w' => e = .returned (.int .i64 (-1)) ∧ w' = w := by
  refine (Tryz.cmp_Compare_int x y w).mono ?_
  rintro e w' ⟨rfl, rfl⟩
  exact ⟨by unfold Lib.compareInt; simp [h], rfl⟩
theorem compare_gt (x y : Int) (h : y < x) (w : World) : Calls Tryz.prog 51 #[.int .i64 x, .int .i64 y] w fun e w' => e = .returned (.int .i64 1) ∧ w' = w := by
  refine (Tryz.cmp_Compare_int x y w).mono ?_
  rintro e w' ⟨rfl, rfl⟩
  have h1 : ¬ x < y := by omega
  exact ⟨by unfold Lib.compareInt; simp [h, h1], rfl⟩
theorem compare_eq (x : Int) (w : World) : Calls Tryz.prog 51 #[.int .i64 x, .int .i64 x] w fun e w' => e = .returned (.int .i64 0) ∧ w' = w := by
  refine (Tryz.cmp_Compare_int x x w).mono ?_
  rintro e w' ⟨rfl, rfl⟩
  exact ⟨by unfold Lib.compareInt; simp, rfl⟩
theorem len_of_reads {w : World} {v : Value} {zs : List Int} (h : ReadsI w v zs) : lenOf v = zs.length := by
  obtain ⟨a, c, rfl⟩ := h.len
  rfl
set_option maxRecDepth 100000 in
set_option maxHeartbeats 4000000 in
theorem merge_any (va vb : Value) (a b : List Int) (w : World) (ha : ReadsI w va a) (hb : ReadsI w vb b) (hlen : a.length + b.length ≤ 100000) :
    Calls Tryz.prog 32 #[va, vb] w fun e w' => Merged w (mergeL a b) e w' := by
  obtain ⟨M, hM⟩ : ∃ M, Hid (mergeL a b = M) := ⟨_, Lib.hid rfl⟩
  rw [hM.out]
  have H0 : Hid (∀ vo wr, wr.ownsRow w.heap.size 3 1 vo 0 [] → Below w.heap.size w wr → Merging w M va vb vo wr) :=
    Lib.hid (fun vo wr h1 h2 => ⟨a, b, [], ha, hb, h1, h2, hM.out, by simpa using hlen⟩)
  obtain ⟨aa, ca, rfl⟩ := ha.len
  obtain ⟨ab, cb, rfl⟩ := hb.len
  clear ha hb hM
  have hg0 := fun w0 => grow_any (a.length + b.length) (by omega) w0
  rw [Int.natCast_add] at hg0
  have hG := Lib.hid hg0
  clear hg0
  obtain ⟨i0, hi0, hq0, hq1, hq2⟩ := info_parts infoInt
  go_enter Tryz.func32, Tryz.ntmps32
  go_wp2_with (go_at_call 50; (with_reducible refine (hG.out _).mono ?_); rintro e w1 ⟨v1, rfl, hw1, hb1⟩; have HW := Lib.hid hw1; have HB := Lib.hid hb1; clear hw1 hb1)
  go_loopw [0, 1, 5] (fun va vb vo wr => Merging w M va vb vo wr) (fun va vb _ _ => lenOf va + lenOf vb)
  case atStart => exact H0.out _ _ HW.out HB.out
  case round =>
    obtain ⟨A, B, o, hA, hB, hown, hbel, hMM, hL⟩ := hrel
    have HO := Lib.hid hown
    have HL := Lib.hid hbel
    have HM := Lib.hid hMM
    clear hown hbel hMM
    cases A with
    | nil =>
      obtain ⟨a1, c1, rfl⟩ := reads_none hA
      obtain ⟨a2, c2, rfl⟩ := hB.len
      have HA := Lib.hid hA
      have HB2 := Lib.hid hB
      clear hA hB
      go_wp2_with (first
        | (refine append_reads rfl (.tmp 46) (.tmp 47) rfl w.heap.size _ o [] rfl HO.out _ rfl (HA.out.below HL.out) (by simp; omega) HL.out.size ?_; intro v1 w1 hw1 hg1; have HO1 := Lib.hid hw1; have HL1 := Lib.hid (HL.out.grown hg1 HL.out.size (fun k hk => (HO.out.lt k hk).1)); clear hw1 hg1)
        | (refine append_reads rfl (.tmp 48) (.tmp 49) rfl w.heap.size _ (o ++ []) B rfl HO1.out _ rfl (HB2.out.below HL1.out) (by simp; simp at hL; omega) HL1.out.size ?_; intro v2 w2 hw2 hg2; have HO2 := Lib.hid hw2; have HL2 := Lib.hid (HL1.out.grown hg2 HL1.out.size (fun k hk => (HO1.out.lt k hk).1)); clear hw2 hg2))
      go_ret
      exact Merged.mk HM.out (.inl rfl) HO2.out HL2.out
    | cons x A =>
      cases B with
      | nil =>
        obtain ⟨a1, c1, rfl⟩ := hA.len
        obtain ⟨a2, c2, rfl⟩ := reads_none hB
        have HA := Lib.hid hA
        have HB2 := Lib.hid hB
        clear hA hB
        go_wp2_with (first
          | (refine append_reads rfl (.tmp 46) (.tmp 47) rfl w.heap.size _ o (x :: A) rfl HO.out _ rfl (HA.out.below HL.out) (by simp at hL ⊢; omega) HL.out.size ?_; intro v1 w1 hw1 hg1; have HO1 := Lib.hid hw1; have HL1 := Lib.hid (HL.out.grown hg1 HL.out.size (fun k hk => (HO.out.lt k hk).1)); clear hw1 hg1)
          | (refine append_reads rfl (.tmp 48) (.tmp 49) rfl w.heap.size _ (o ++ (x :: A)) [] rfl HO1.out _ rfl (HB2.out.below HL1.out) (by simp at hL ⊢; omega) HL1.out.size ?_; intro v2 w2 hw2 hg2; have HO2 := Lib.hid hw2; have HL2 := Lib.hid (HL1.out.grown hg2 HL1.out.size (fun k hk => (HO1.out.lt k hk).1)); clear hw2 hg2))
        go_ret
        exact Merged.mk HM.out (.inr rfl) HO2.out HL2.out
      | cons y B =>
        obtain ⟨b1, o1, c1, va2, rfl, hlt1, hx, hva, hA2⟩ := reads_cons hA
        obtain ⟨b2, o2, c2, vb2, rfl, hlt2, hy, hvb, hB2⟩ := reads_cons hB
        have hx' := (HL.out.cell (p := ⟨b1, o1, none⟩) hlt1).trans hx
        have hy' := (HL.out.cell (p := ⟨b2, o2, none⟩) hlt2).trans hy
        clear hx hy
        have HA := Lib.hid hA
        have HB := Lib.hid hB
        have HA2 := Lib.hid hA2
        have HB2 := Lib.hid hB2
        have hz := HL.out.size
        clear hA hB hA2 hB2
        rcases Int.lt_trichotomy x y with hxy | hxy | hxy
        · have HJ := Lib.hid (mergeL_lt x y A B hxy)
          have HC := Lib.hid (compare_lt x y hxy)
          have hmin : min x y = x := by omega
          go_upto_region 3 with fail
          go_quiet ((go_at_call 51; exact Calls.quiet_of_same (HC.out _)))
          obtain ⟨W2, HW2⟩ : ∃ W2, Hid (wr.drewN nq = W2) := ⟨_, Lib.hid rfl⟩
          rw [HW2.out]
          have e2 : W2 = wr.drewN nq := HW2.out.symm
          have HL2 : Hid (Below w.heap.size w W2) := Lib.hid (e2 ▸ ⟨HL.out.os, HL.out.tape, HL.out.output, HL.out.size, HL.out.block⟩)
          have HO2 : Hid (W2.ownsRow w.heap.size 3 1 u5 o.length (o.map (Value.int .i64))) := Lib.hid (e2 ▸ HO.out)
          have hx2 : W2.cell? ⟨b1, o1, none⟩ = some (.int .i64 x) := e2 ▸ hx'
          have hy2 : W2.cell? ⟨b2, o2, none⟩ = some (.int .i64 y) := e2 ▸ hy'
          have hz2 : w.heap.size ≤ W2.heap.size := HL2.out.size
          have hf1 : some b1 ≠ u5.ownBlock := fun h => absurd (HO2.out.lt b1 h.symm).1 (by omega)
          have hf2 : some b2 ≠ u5.ownBlock := fun h => absurd (HO2.out.lt b2 h.symm).1 (by omega)
          clear hx' hy' e2 HL HO hz HW2
          go_wp2_with fail
          go_region_held3 (fun w' => w'.cell? ⟨b1, o1, none⟩ = some (.int .i64 x) ∧ w'.cell? ⟨b2, o2, none⟩ = some (.int .i64 y))
            (first
              | go_keep
              | (go_split_ands
                 refine ⟨?_, ?_⟩
                 · (rw [hgrow.cell_far _ (by simp; omega) hf1]; assumption)
                 · (rw [hgrow.cell_far _ (by simp; omega) hf2]; assumption)))
            ((refine step_append_lies _ (by rfl) _ _ _ (by rfl) w.heap.size 3 i0 _ 1 8 Tryz.underlying22 hi0 hq0 hq1 hq2 rfl (by omega) u5 o.length (o.map (Value.int .i64)) (by rfl) ((HO2.out.alloc _).drew)
                ⟨W2.heap.size, 0, none⟩ 1 1 [.int .i64 x] (by rfl) (by rfl) (World.news_of_block (cs := #[.int .i64 x]) (t := 3) (fr := (0, 0)) (heap_alloc_new W2 _)) (by simp [Value.oneCell'])
                (by omega) (by unfold maxLen; simp at hL; omega) (by simp at hL; omega) (by simp; omega) (W2.heap.size + 1) (by simp) ?_; intro gg cap w3 hown3 hgrow hat hlt))
          have HL3 := Lib.hid (((HL2.out.alloc hz2 _).drew).grown hgrow (by simp; omega) (fun k hk => (HO2.out.lt k hk).1))
          have HO3 := Lib.hid hown3
          have HM3 : Hid (Merging w M va2 (.slice (some ⟨b2, o2, none⟩) (B.length + 1) c2) (.slice (some ⟨gg, 0, none⟩) (o.length + 1) cap) w3) :=
            Lib.hid ⟨A, (y :: B), o ++ [x], HA2.out, HB.out, by simpa using HO3.out, HL3.out, by rw [← HM.out, HJ.out]; simp, by simp at hL ⊢; omega⟩
          have hn1 := len_of_reads HA2.out
          have hn2 := len_of_reads HB.out
          clear hown3 hgrow hat hlt hx2 hy2 HO3 HL3 hmin
          go_wp2
          go_roundw
          case rel => exact HM3.out
          case measure => simp [lenOf] at hn1 hn2 ⊢; omega
        · subst hxy
          have HJ := Lib.hid (mergeL_eq x A B)
          have HC := Lib.hid (compare_eq x)
          have hmin : min x x = x := by omega
          go_upto_region 3 with fail
          go_quiet ((go_at_call 51; exact Calls.quiet_of_same (HC.out _)))
          obtain ⟨W2, HW2⟩ : ∃ W2, Hid (wr.drewN nq = W2) := ⟨_, Lib.hid rfl⟩
          rw [HW2.out]
          have e2 : W2 = wr.drewN nq := HW2.out.symm
          have HL2 : Hid (Below w.heap.size w W2) := Lib.hid (e2 ▸ ⟨HL.out.os, HL.out.tape, HL.out.output, HL.out.size, HL.out.block⟩)
          have HO2 : Hid (W2.ownsRow w.heap.size 3 1 u5 o.length (o.map (Value.int .i64))) := Lib.hid (e2 ▸ HO.out)
          have hx2 : W2.cell? ⟨b1, o1, none⟩ = some (.int .i64 x) := e2 ▸ hx'
          have hy2 : W2.cell? ⟨b2, o2, none⟩ = some (.int .i64 x) := e2 ▸ hy'
          have hz2 : w.heap.size ≤ W2.heap.size := HL2.out.size
          have hf1 : some b1 ≠ u5.ownBlock := fun h => absurd (HO2.out.lt b1 h.symm).1 (by omega)
          have hf2 : some b2 ≠ u5.ownBlock := fun h => absurd (HO2.out.lt b2 h.symm).1 (by omega)
          clear hx' hy' e2 HL HO hz HW2
          go_wp2_with fail
          go_region_held3 (fun w' => w'.cell? ⟨b1, o1, none⟩ = some (.int .i64 x) ∧ w'.cell? ⟨b2, o2, none⟩ = some (.int .i64 x))
            (first
              | go_keep
              | (go_split_ands
                 refine ⟨?_, ?_⟩
                 · (rw [hgrow.cell_far _ (by simp; omega) hf1]; assumption)
                 · (rw [hgrow.cell_far _ (by simp; omega) hf2]; assumption)))
            ((refine step_append_lies _ (by rfl) _ _ _ (by rfl) w.heap.size 3 i0 _ 1 8 Tryz.underlying22 hi0 hq0 hq1 hq2 rfl (by omega) u5 o.length (o.map (Value.int .i64)) (by rfl) ((HO2.out.alloc _).drew)
                ⟨W2.heap.size, 0, none⟩ 1 1 [.int .i64 x] (by rfl) (by rfl) (World.news_of_block (cs := #[.int .i64 x]) (t := 3) (fr := (0, 0)) (heap_alloc_new W2 _)) (by simp [Value.oneCell'])
                (by omega) (by unfold maxLen; simp at hL; omega) (by simp at hL; omega) (by simp; omega) (W2.heap.size + 1) (by simp) ?_; intro gg cap w3 hown3 hgrow hat hlt))
          have HL3 := Lib.hid (((HL2.out.alloc hz2 _).drew).grown hgrow (by simp; omega) (fun k hk => (HO2.out.lt k hk).1))
          have HO3 := Lib.hid hown3
          have HM3 : Hid (Merging w M va2 vb2 (.slice (some ⟨gg, 0, none⟩) (o.length + 1) cap) w3) :=
            Lib.hid ⟨A, B, o ++ [x], HA2.out, HB2.out, by simpa using HO3.out, HL3.out, by rw [← HM.out, HJ.out]; simp, by simp at hL ⊢; omega⟩
          have hn1 := len_of_reads HA2.out
          have hn2 := len_of_reads HB2.out
          clear hown3 hgrow hat hlt hx2 hy2 HO3 HL3 hmin
          go_wp2
          go_roundw
          case rel => exact HM3.out
          case measure => simp [lenOf] at hn1 hn2 ⊢; omega
        · have HJ := Lib.hid (mergeL_gt x y A B hxy)
          have HC := Lib.hid (compare_gt x y hxy)
          have hmin : min x y = y := by omega
          go_upto_region 3 with fail
          go_quiet ((go_at_call 51; exact Calls.quiet_of_same (HC.out _)))
          obtain ⟨W2, HW2⟩ : ∃ W2, Hid (wr.drewN nq = W2) := ⟨_, Lib.hid rfl⟩
          rw [HW2.out]
          have e2 : W2 = wr.drewN nq := HW2.out.symm
          have HL2 : Hid (Below w.heap.size w W2) := Lib.hid (e2 ▸ ⟨HL.out.os, HL.out.tape, HL.out.output, HL.out.size, HL.out.block⟩)
          have HO2 : Hid (W2.ownsRow w.heap.size 3 1 u5 o.length (o.map (Value.int .i64))) := Lib.hid (e2 ▸ HO.out)
          have hx2 : W2.cell? ⟨b1, o1, none⟩ = some (.int .i64 x) := e2 ▸ hx'
          have hy2 : W2.cell? ⟨b2, o2, none⟩ = some (.int .i64 y) := e2 ▸ hy'
          have hz2 : w.heap.size ≤ W2.heap.size := HL2.out.size
          have hf1 : some b1 ≠ u5.ownBlock := fun h => absurd (HO2.out.lt b1 h.symm).1 (by omega)
          have hf2 : some b2 ≠ u5.ownBlock := fun h => absurd (HO2.out.lt b2 h.symm).1 (by omega)
          clear hx' hy' e2 HL HO hz HW2
          go_wp2_with fail
          go_region_held3 (fun w' => w'.cell? ⟨b1, o1, none⟩ = some (.int .i64 x) ∧ w'.cell? ⟨b2, o2, none⟩ = some (.int .i64 y))
            (first
              | go_keep
              | (go_split_ands
                 refine ⟨?_, ?_⟩
                 · (rw [hgrow.cell_far _ (by simp; omega) hf1]; assumption)
                 · (rw [hgrow.cell_far _ (by simp; omega) hf2]; assumption)))
            ((refine step_append_lies _ (by rfl) _ _ _ (by rfl) w.heap.size 3 i0 _ 1 8 Tryz.underlying22 hi0 hq0 hq1 hq2 rfl (by omega) u5 o.length (o.map (Value.int .i64)) (by rfl) ((HO2.out.alloc _).drew)
                ⟨W2.heap.size, 0, none⟩ 1 1 [.int .i64 y] (by rfl) (by rfl) (World.news_of_block (cs := #[.int .i64 y]) (t := 3) (fr := (0, 0)) (heap_alloc_new W2 _)) (by simp [Value.oneCell'])
                (by omega) (by unfold maxLen; simp at hL; omega) (by simp at hL; omega) (by simp; omega) (W2.heap.size + 1) (by simp) ?_; intro gg cap w3 hown3 hgrow hat hlt))
          have HL3 := Lib.hid (((HL2.out.alloc hz2 _).drew).grown hgrow (by simp; omega) (fun k hk => (HO2.out.lt k hk).1))
          have HO3 := Lib.hid hown3
          have HM3 : Hid (Merging w M (.slice (some ⟨b1, o1, none⟩) (A.length + 1) c1) vb2 (.slice (some ⟨gg, 0, none⟩) (o.length + 1) cap) w3) :=
            Lib.hid ⟨(x :: A), B, o ++ [y], HA.out, HB2.out, by simpa using HO3.out, HL3.out, by rw [← HM.out, HJ.out]; simp, by simp at hL ⊢; omega⟩
          have hn1 := len_of_reads HA.out
          have hn2 := len_of_reads HB2.out
          clear hown3 hgrow hat hlt hx2 hy2 HO3 HL3 hmin
          go_wp2
          go_roundw
          case rel => exact HM3.out
          case measure => simp [lenOf] at hn1 hn2 ⊢; omega
end Go.Proofs.YtfbnijcmfaeoeaaGreat
