/-
  Proved here: the package taint's way: on what the way hangs behind an instruction; nothing that was there is changed. Condition: at most 10,000 numbers a list.
-/
import Derived.Test.YtfbnijcmfaeoeaaGreatTaintRead
import Derived.Test.YtfbnijcmfaeoeaaGreatInsnTables
namespace Go.Proofs.YtfbnijcmfaeoeaaGreat
open Go.RowKit

theorem ta_load {T : TypeId} {t : Ta} {n : Nat} {w : World} (H : TAt T t n w) : (loadVar 25 ⟨n, 0, none⟩).run Tryz.prog w = .ok t.V w :=
  run_loadVar_row w n T 25 (tC t) (0, 0) _ H Tryz.underlying25 rfl (by rw [tC_size]; as_aux_lemma => kernel_rfl)
/-- a load of a whole taint, of a whole instruction: folded, so that the walk takes it by what is said of it -/
def LoadT (x : Value) : Sem Value := Instr.loadAt 25 x
theorem fold_T (x : Value) : Instr.loadAt 25 x = LoadT x := rfl
def LoadI (x : Value) : Sem Value := Instr.loadAt 27 x
theorem fold_I (x : Value) : Instr.loadAt 27 x = LoadI x := rfl
attribute [local go_sem ↓] fold_T fold_I
theorem run_LoadT {T : TypeId} {t : Ta} {n : Nat} {w : World} (H : TAt T t n w) : (LoadT (.pointer (some ⟨n, 0, none⟩))).run Tryz.prog w = .ok t.V w := by
  unfold LoadT Instr.loadAt Instr.sureAddr
  simp only [Sem.run_bind, Sem.run_pure, Result.andThen_ok, ta_load H]
theorem run_LoadI {i : Ins} {n : Nat} {w : World} (H : InsAt i n w) : (LoadI (.pointer (some ⟨n, 0, none⟩))).run Tryz.prog w = .ok i.V w := by
  unfold LoadI Instr.loadAt Instr.sureAddr
  simp only [Sem.run_bind, Sem.run_pure, Result.andThen_ok, run_loadVar_row w n _ 27 (insCells i) (0, 0) _ H Tryz.underlying27 rfl (by as_aux_lemma => kernel_rfl)]
/-- a taint and an instruction in boxes of the call's own -/
structure Both (t : Ta) (l : Tl) (i : Ins) (w W : World) : Prop where
  at0 : TAt 25 t w.heap.size W
  at1 : InsAt i (w.heap.size + 1) W
  here : TReads w t l
  below : Below w.heap.size w W
theorem Both.start (t : Ta) (l : Tl) (i : Ins) (w : World) (h : TReads w t l) : Both t l i w ((w.alloc (.cells (tC t) 25)).alloc (.cells (insCells i) 27)) := by
  refine ⟨(TAt.new _ t w).alloc _, ?_, h, ((Below.refl _ _).alloc (Nat.le_refl _) _).alloc (by simp) _⟩
  have := heap_new (w.alloc (.cells (tC t) 25)) (.cells (insCells i) 27)
  simp only [World.size_alloc] at this
  exact this
theorem Both.on {t : Ta} {l : Tl} {i : Ins} {w W W2 : World} (h : Both t l i w W) (hb : Below W.heap.size W W2) : Both t l i w W2 :=
  ⟨h.at0.below hb h.at0.lt, h.at1.below hb (Array.getElem?_eq_some_iff.1 h.at1).1, h.here, h.below.trans (hb.mono h.below.size)⟩
theorem Both.reads {t : Ta} {l : Tl} {i : Ins} {w W : World} (h : Both t l i w W) : TReads W t l := h.here.below h.below
theorem Both.drew {t : Ta} {l : Tl} {i : Ins} {w W : World} (h : Both t l i w W) : Both t l i w W.drew := h.on ((Below.refl _ _).drew)
theorem Both.load {t : Ta} {l : Tl} {i : Ins} {w W : World} (h : Both t l i w W) : (LoadT (.pointer (some ⟨w.heap.size, 0, none⟩))).run Tryz.prog W = .ok t.V W := run_LoadT h.at0
theorem Both.loadI {t : Ta} {l : Tl} {i : Ins} {w W : World} (h : Both t l i w W) : (LoadI (.pointer (some ⟨w.heap.size + 1, 0, none⟩))).run Tryz.prog W = .ok i.V W := run_LoadI h.at1
theorem Both.cw {t : Ta} {l : Tl} {i : Ins} {w W : World} (h : Both t l i w W) : W.cell? ⟨w.heap.size, 32, none⟩ = some t.way := h.at0.cw
/-- what such a region reads -/
def Said (t : Ta) (i : Ins) (w w' : World) : Prop := w'.cell? ⟨w.heap.size, 32, none⟩ = some t.way ∧ w'.cell? ⟨w.heap.size + 1, 2, none⟩ = some (.int .i64 i.rs1) ∧ w'.cell? ⟨w.heap.size + 1, 3, none⟩ = some (.int .i64 i.rs2) ∧ (LoadT (.pointer (some ⟨w.heap.size, 0, none⟩))).run Tryz.prog w' = .ok t.V w'
theorem Both.said {t : Ta} {l : Tl} {i : Ins} {w W : World} (h : Both t l i w W) : Said t i w W := by
  obtain ⟨hz, c0, c1, c2, c3, c4, c5, c6, c7, c8⟩ := h.at1.facts
  exact ⟨h.cw, c2, c3, h.load⟩
theorem hang_len (l : Tl) (hs : l.short) (rs : List Int) (hr : ∀ k, k < rs.length → 0 ≤ atI rs k ∧ atI rs k < 32) (h2 : rs.length ≤ 4) : (hangL l rs).length ≤ 40000 := by
  have := hangL_len l hs rs hr rs.length (Nat.le_refl _)
  rw [List.take_length] at this
  omega
def wayL (l : Tl) (i : Ins) : List Int := if formOf i.op = 6 then mergeL l.way (hangL l [i.rs1, i.rs2]) else if i.op = 4 then mergeL l.way (hangL l [i.rs1]) else l.way
theorem atI_two (a b : Int) (h1 : 0 ≤ a ∧ a < 32) (h2 : 0 ≤ b ∧ b < 32) : ∀ k, k < [a, b].length → 0 ≤ atI [a, b] k ∧ atI [a, b] k < 32 := by
  intro k hk
  rcases k with _ | _ | k
  · exact h1
  · exact h2
  · simp at hk; omega
theorem atI_one (a : Int) (h1 : 0 ≤ a ∧ a < 32) : ∀ k, k < [a].length → 0 ≤ atI [a] k ∧ atI [a] k < 32 := by
  intro k hk
  rcases k with _ | k
  · exact h1
  · simp at hk
theorem reads_two (w : World) (a b : Int) : ReadsI (w.alloc (.cells #[.int .i64 a, .int .i64 b] 3)) (.slice (some ⟨w.heap.size, 0, none⟩) 2 2) [a, b] := by
  refine .inr ⟨w.heap.size, 0, 2, rfl, by simp, by omega, by simp, fun j hj => ?_⟩
  rcases j with _ | _ | j
  · simp [atI]
  · simp [atI]
  · simp at hj; omega
theorem reads_one (w : World) (a : Int) : ReadsI (w.alloc (.cells #[.int .i64 a] 3)) (.slice (some ⟨w.heap.size, 0, none⟩) 1 1) [a] := by
  refine .inr ⟨w.heap.size, 0, 1, rfl, by simp, by omega, by simp, fun j hj => ?_⟩
  rcases j with _ | j
  · simp [atI]
  · simp at hj
set_option maxRecDepth 100000 in
set_option maxHeartbeats 4000000 in
theorem way_branch (t : Ta) (l : Tl) (i : Ins) (w : World) (h : TReads w t l) (hs : l.short) (h1 : 0 ≤ i.rs1 ∧ i.rs1 < 32) (h2 : 0 ≤ i.rs2 ∧ i.rs2 < 32) (hf : formOf i.op = 6) :
    Calls Tryz.prog 41 #[t.V, i.V] w fun e w' => Merged w (mergeL l.way (hangL l [i.rs1, i.rs2])) e w' := by
  have B0 := Lib.hid (Both.start t l i w h)
  have hFo := Lib.hid (fun w0 => Form_any i.op w0)
  rw [hf] at hFo
  have hS := Lib.hid hs
  have h1' := Lib.hid h1
  have h2' := Lib.hid h2
  have HRD := Lib.hid (fun (vr : Value) (w0 : World) (b : Both t l i w w0) (hr : ReadsI w0 vr [i.rs1, i.rs2]) => read_any t l vr [i.rs1, i.rs2] w0 b.reads hs hr.any (atI_two _ _ h1 h2) (by simp))
  have HMG := Lib.hid (fun (vb : Value) (bl : List Int) (w0 : World) (b : Both t l i w w0) (hr : ReadsI w0 vb bl) (hbl : bl.length ≤ 50000) => merge_any t.way vb l.way bl w0 b.reads.w hr (by have := hs.w; omega))
  clear h hs h1 h2 hf
  go_enter Tryz.func41, Tryz.ntmps41
  go_upto_region 1 with fail
  obtain ⟨W, HW⟩ : ∃ W, Hid ((w.alloc (.cells (tC t) 25)).alloc (.cells (insCells i) 27) = W) := ⟨_, Lib.hid rfl⟩
  rw [HW.out] at B0 ⊢
  obtain ⟨hz, c0, c1, c2, c3, c4, c5, c6, c7, c8⟩ := B0.out.at1.facts
  go_wp2_with (go_at_call 57; (with_reducible refine (hFo.out _).mono ?_); rintro e w1 ⟨rfl, hb1⟩; have B1 := Lib.hid (B0.out.on hb1); clear hb1)
  clear hz c0 c1 c2 c3 c4 c5 c6 c7 c8
  obtain ⟨hz, c0, c1, c2, c3, c4, c5, c6, c7, c8⟩ := B1.out.at1.facts
  have cw := B1.out.cw
  have cl := B1.out.load
  have HN := Lib.hid (hang_len l hS.out [i.rs1, i.rs2] (atI_two _ _ h1'.out h2'.out) (by simp))
  go_region_held3 (fun w' => w'.cell? ⟨w.heap.size, 32, none⟩ = some t.way ∧ w'.cell? ⟨w.heap.size + 1, 2, none⟩ = some (.int .i64 i.rs1) ∧ w'.cell? ⟨w.heap.size + 1, 3, none⟩ = some (.int .i64 i.rs2) ∧ (LoadT (.pointer (some ⟨w.heap.size, 0, none⟩))).run Tryz.prog w' = .ok t.V w')
    (first | exact Both.said (Both.drew B1.out) | exact Both.said (Both.drew (B1.out.on (box_below _ _))) | exact Both.said B3.out | exact Both.said B2.out)
    ((first
      | (go_at_call 46; (with_reducible refine (HRD.out _ _ (Both.drew (B1.out.on (box_below _ _))) (ReadsI.drew (reads_two _ _ _))).mono ?_); rintro e w2 ⟨v2, rfl, hw2, hb2⟩; have R2 := Lib.hid hw2.1; have B2 := Lib.hid ((Both.drew (B1.out.on (box_below _ _))).on hb2); clear hw2 hb2)
      | (go_at_call 32; (with_reducible refine (HMG.out _ _ _ B2.out R2.out (by have := HN.out; omega)).mono ?_); rintro e w3 ⟨v3, rfl, hw3, hb3⟩; have R3 := Lib.hid hw3; have B3 := Lib.hid (B2.out.on hb3); clear hw3 hb3)))
  go_wp2
  go_ret
  exact ⟨_, rfl, R3.out.mono B2.out.below.size, B3.out.below⟩
set_option maxRecDepth 100000 in
set_option maxHeartbeats 4000000 in
theorem way_jalr (t : Ta) (l : Tl) (i : Ins) (w : World) (h : TReads w t l) (hs : l.short) (h1 : 0 ≤ i.rs1 ∧ i.rs1 < 32) (hf : (formOf i.op == 6) = false) (ho : i.op = 4) :
    Calls Tryz.prog 41 #[t.V, i.V] w fun e w' => Merged w (mergeL l.way (hangL l [i.rs1])) e w' := by
  have B0 := Lib.hid (Both.start t l i w h)
  have hFo := Lib.hid (fun w0 => Form_any i.op w0)
  have hS := Lib.hid hs
  have h1' := Lib.hid h1
  have HRD := Lib.hid (fun (vr : Value) (w0 : World) (b : Both t l i w w0) (hr : ReadsI w0 vr [i.rs1]) => read_any t l vr [i.rs1] w0 b.reads hs hr.any (atI_one _ h1) (by simp))
  have HMG := Lib.hid (fun (vb : Value) (bl : List Int) (w0 : World) (b : Both t l i w w0) (hr : ReadsI w0 vb bl) (hbl : bl.length ≤ 50000) => merge_any t.way vb l.way bl w0 b.reads.w hr (by have := hs.w; omega))
  clear h hs h1
  go_enter Tryz.func41, Tryz.ntmps41
  go_upto_region 1 with fail
  obtain ⟨W, HW⟩ : ∃ W, Hid ((w.alloc (.cells (tC t) 25)).alloc (.cells (insCells i) 27) = W) := ⟨_, Lib.hid rfl⟩
  rw [HW.out] at B0 ⊢
  obtain ⟨hz, c0, c1, c2, c3, c4, c5, c6, c7, c8⟩ := B0.out.at1.facts
  have HO := Lib.hid ho
  clear ho
  go_wp2_with (go_at_call 57; (with_reducible refine (hFo.out _).mono ?_); rintro e w1 ⟨rfl, hb1⟩; have B1 := Lib.hid (B0.out.on hb1); clear hb1; clear hz c0 c1 c2 c3 c4 c5 c6 c7 c8; obtain ⟨hz, c0, c1, c2, c3, c4, c5, c6, c7, c8⟩ := B1.out.at1.facts; rw [HO.out] at c0)
  have cw := B1.out.cw
  have cl := B1.out.load
  have HN := Lib.hid (hang_len l hS.out [i.rs1] (atI_one _ h1'.out) (by simp))
  go_region_held3 (fun w' => w'.cell? ⟨w.heap.size, 32, none⟩ = some t.way ∧ w'.cell? ⟨w.heap.size + 1, 2, none⟩ = some (.int .i64 i.rs1) ∧ w'.cell? ⟨w.heap.size + 1, 3, none⟩ = some (.int .i64 i.rs2) ∧ (LoadT (.pointer (some ⟨w.heap.size, 0, none⟩))).run Tryz.prog w' = .ok t.V w')
    (first | exact Both.said (Both.drew B1.out) | exact Both.said (Both.drew (B1.out.on (box_below _ _))) | exact Both.said B3.out | exact Both.said B2.out)
    ((first
      | (go_at_call 46; (with_reducible refine (HRD.out _ _ (Both.drew (B1.out.on (box_below _ _))) (ReadsI.drew (reads_one _ _))).mono ?_); rintro e w2 ⟨v2, rfl, hw2, hb2⟩; have R2 := Lib.hid hw2.1; have B2 := Lib.hid ((Both.drew (B1.out.on (box_below _ _))).on hb2); clear hw2 hb2)
      | (go_at_call 32; (with_reducible refine (HMG.out _ _ _ B2.out R2.out (by have := HN.out; omega)).mono ?_); rintro e w3 ⟨v3, rfl, hw3, hb3⟩; have R3 := Lib.hid hw3; have B3 := Lib.hid (B2.out.on hb3); clear hw3 hb3)))
  go_wp2
  go_ret
  exact ⟨_, rfl, R3.out.mono B2.out.below.size, B3.out.below⟩
set_option maxRecDepth 100000 in
set_option maxHeartbeats 4000000 in
theorem way_else (t : Ta) (l : Tl) (i : Ins) (w : World) (h : TReads w t l) (hs : l.short) (hf : (formOf i.op == 6) = false) (ho : (i.op == 4) = false) :
    Calls Tryz.prog 41 #[t.V, i.V] w fun e w' => Merged w l.way e w' := by
  have B0 := Lib.hid (Both.start t l i w h)
  have hFo := Lib.hid (fun w0 => Form_any i.op w0)
  have HMG := Lib.hid (fun (w0 : World) (b : Both t l i w w0) => fresh_any t.way l.way w0 b.reads.w (by have := hs.w; omega))
  clear h hs
  go_enter Tryz.func41, Tryz.ntmps41
  go_upto_region 1 with fail
  obtain ⟨W, HW⟩ : ∃ W, Hid ((w.alloc (.cells (tC t) 25)).alloc (.cells (insCells i) 27) = W) := ⟨_, Lib.hid rfl⟩
  rw [HW.out] at B0 ⊢
  obtain ⟨hz, c0, c1, c2, c3, c4, c5, c6, c7, c8⟩ := B0.out.at1.facts
  go_wp2_with (first
    | (go_at_call 57; (with_reducible refine (hFo.out _).mono ?_); rintro e w1 ⟨rfl, hb1⟩; have B1 := Lib.hid (B0.out.on hb1); clear hb1; clear hz c0 c1 c2 c3 c4 c5 c6 c7 c8; obtain ⟨hz, c0, c1, c2, c3, c4, c5, c6, c7, c8⟩ := B1.out.at1.facts; have cw := B1.out.cw)
    | (go_at_call 42; (with_reducible refine (HMG.out _ B1.out).mono ?_); rintro e w3 ⟨v3, rfl, hw3, hb3⟩; have R3 := Lib.hid hw3; have B3 := Lib.hid (B1.out.on hb3); clear hw3 hb3))
  go_ret
  exact ⟨_, rfl, R3.out.mono B1.out.below.size, B3.out.below⟩
theorem way_any (t : Ta) (l : Tl) (i : Ins) (w : World) (h : TReads w t l) (hs : l.short) (h1 : 0 ≤ i.rs1 ∧ i.rs1 < 32) (h2 : 0 ≤ i.rs2 ∧ i.rs2 < 32) :
    Calls Tryz.prog 41 #[t.V, i.V] w fun e w' => Merged w (wayL l i) e w' := by
  unfold wayL
  by_cases hf : formOf i.op = 6
  · rw [if_pos hf]; exact way_branch t l i w h hs h1 h2 hf
  · rw [if_neg hf]
    have hf' : (formOf i.op == 6) = false := by simpa using hf
    by_cases ho : i.op = 4
    · rw [if_pos ho]; exact way_jalr t l i w h hs h1 hf' ho
    · rw [if_neg ho]; exact way_else t l i w h hs hf' (by simpa using ho)
end Go.Proofs.YtfbnijcmfaeoeaaGreat
