/-
  Proved here: the package taint's Step answers the taint behind an instruction and on what it hung, or ErrArg; all lists are new, nothing that was there is changed. Condition: at most 10,000 numbers a list.
-/
import Derived.Test.YtfbnijcmfaeoeaaGreatTaintBehindWalk
namespace Go.Proofs.YtfbnijcmfaeoeaaGreat
open Go.RowKit
/-- stores of a whole taint, of whole deps: folded -/
def StoreT (x y : Value) : Sem Unit := Instr.storeAt 25 x y
theorem fold_ST (x y : Value) : Instr.storeAt 25 x y = StoreT x y := rfl
def StoreD (x y : Value) : Sem Unit := Instr.storeAt 31 x y
theorem fold_SD (x y : Value) : Instr.storeAt 31 x y = StoreD x y := rfl
attribute [local go_sem ↓] fold_T fold_I fold_ST fold_SD
theorem run_StoreT {t0 t : Ta} {n : Nat} {w : World} (H : TAt 25 t0 n w) (hf : t.flat) : (StoreT (.pointer (some ⟨n, 0, none⟩)) t.V).run Tryz.prog w = .ok () (w.setRow n (tC t)) := by
  unfold StoreT Instr.storeAt Instr.sureAddr
  simp only [Sem.run_bind, Sem.run_pure, Result.andThen_ok]
  exact run_storeVar_row w n _ _ _ _ H (by rw [tC_size]; as_aux_lemma => kernel_rfl) (by rw [tC_size, tC_size]) hf
theorem run_StoreD {x0 x1 x2 y0 y1 y2 : Value} {n : Nat} {w : World} (H : DAt x0 x1 x2 n w) (h0 : y0.oneCell' = true) (h1 : y1.oneCell' = true) (h2 : y2.oneCell' = true) : (StoreD (.pointer (some ⟨n, 0, none⟩)) (.agg #[y0, y1, y2])).run Tryz.prog w = .ok () (w.setRow n #[y0, y1, y2]) := by
  unfold StoreD Instr.storeAt Instr.sureAddr
  simp only [Sem.run_bind, Sem.run_pure, Result.andThen_ok]
  exact run_storeVar_row w n _ _ _ _ H (by as_aux_lemma => kernel_rfl) rfl (by simp [h0, h1, h2])
/-- what Step answers -/
def StepOk (w : World) (l2 : Tl) (al dl yl : List Int) (err : Int) (e : Ending) (w' : World) : Prop := ∃ t a d y, e = .returned (.tuple #[t.V, .agg #[a, d, y], .int .i64 err]) ∧ TReadsN w.heap.size w' t l2 ∧ DepsN w.heap.size w' a d y al dl yl ∧ Below w.heap.size w w'
theorem step_end {fn : Func} {tmps : Array Value} {p q r : Tmp} {t : Ta} {a d y v : Value} {n m : Nat} {w : World} (h : fn.results = #[.cell p 25, .cell q 31, .tmp r]) (hp : tmps.getD p undef = .pointer (some ⟨n, 0, none⟩)) (hq : tmps.getD q undef = .pointer (some ⟨m, 0, none⟩)) (hv : tmps.getD r undef = v)
    (H : TAt 25 t n w) (D : DAt a d y m w) : (results fn tmps).run Tryz.prog w = .ok (.tuple #[t.V, .agg #[a, d, y], v]) w := by
  have hp' : tmps[p]?.getD undef = .pointer (some ⟨n, 0, none⟩) := by simpa using hp
  have hq' : tmps[q]?.getD undef = .pointer (some ⟨m, 0, none⟩) := by simpa using hq
  have hv' : tmps[r]?.getD undef = v := by simpa using hv
  have e1 := ta_load H
  have e2 := run_loadVar_row (P := Tryz.prog) w m _ 31 _ (0, 0) _ D Tryz.underlying31 rfl (by as_aux_lemma => kernel_rfl)
  simp [results, h, hp', hq', hv', asAddr, e1, e2]
/-- the boxes of a step: what came in, and both results, nothing as yet -/
structure Stepping (t : Ta) (l : Tl) (i : Ins) (w W : World) : Prop where
  both : Both t l i w W
  rt : TAt 25 zeroTa (w.heap.size + 2) W
  rd : DAt (.slice none 0 0) (.slice none 0 0) (.slice none 0 0) (w.heap.size + 3) W
  size : w.heap.size + 4 ≤ W.heap.size
theorem Stepping.on {t : Ta} {l : Tl} {i : Ins} {w W W2 : World} (h : Stepping t l i w W) (hb : Below W.heap.size W W2) : Stepping t l i w W2 :=
  ⟨h.both.on hb, h.rt.below hb h.rt.lt, h.rd.below hb h.rd.lt, Nat.le_trans h.size hb.size⟩
theorem Stepping.drew {t : Ta} {l : Tl} {i : Ins} {w W : World} (h : Stepping t l i w W) : Stepping t l i w W.drew := h.on ((Below.refl _ _).drew)
theorem Stepping.start (t : Ta) (l : Tl) (i : Ins) (w : World) (h : TReads w t l) : Stepping t l i w ((((w.alloc (.cells (tC t) 25)).alloc (.cells (insCells i) 27)).alloc (.cells (tC zeroTa) 25)).alloc (.cells #[.slice none 0 0, .slice none 0 0, .slice none 0 0] 31)) := by
  have D0 := TAt.new 25 zeroTa ((w.alloc (.cells (tC t) 25)).alloc (.cells (insCells i) 27))
  have D1 := DAt.new (.slice none 0 0) (.slice none 0 0) (.slice none 0 0) (((w.alloc (.cells (tC t) 25)).alloc (.cells (insCells i) 27)).alloc (.cells (tC zeroTa) 25))
  simp only [World.size_alloc] at D0 D1
  exact ⟨((Both.start t l i w h).alloc _).alloc _, D0.alloc _, D1, by simp⟩
theorem TAt.setRow {T : TypeId} {t t2 : Ta} {n : Nat} {w : World} (H : TAt T t n w) : TAt T t2 n (w.setRow n (tC t2)) := setRow_heap w n _ _ _ _ H
theorem below_setRow {w : World} {n : Nat} {cs : Array Value} : Below n w (w.setRow n cs) := ⟨rfl, rfl, rfl, by simp, fun j hj => setRow_other _ _ _ _ (by omega)⟩
/-- behind both stores -/
theorem step_reads {W : World} {n : Nat} {v : Value} {zs : List Int} {cs ds : Array Value} (h : ReadsN (n + 4) W v zs) : ReadsN n ((W.setRow (n + 2) cs).setRow (n + 3) ds) v zs := by
  refine ⟨?_, fun k hk => by have := h.2 k hk; omega⟩
  rcases h.1 with h0 | ⟨b, off, c, e, h2, h3, h4, h5⟩
  · exact .inl h0
  · subst e
    have hbn := h.2 b rfl
    refine .inr ⟨b, off, c, rfl, h2, h3, by simpa using h4, fun j hj => ?_⟩
    rw [← h5 j hj]
    exact World.cell?_of_block ((setRow_other _ _ _ _ (by show b ≠ n + 3; omega)).trans (setRow_other _ _ _ _ (by show b ≠ n + 2; omega)))
theorem stepped {t : Ta} {l l2 : Tl} {i : Ins} {w W : World} {t2 : Ta} {a d y : Value} {al dl yl : List Int} {err : Int} (h : Stepping t l i w W) (ht : TReadsN (w.heap.size + 4) W t2 l2) (hd : DepsN (w.heap.size + 4) W a d y al dl yl) :
    StepOk w l2 al dl yl err (.returned (.tuple #[t2.V, .agg #[a, d, y], .int .i64 err])) ((W.setRow (w.heap.size + 2) (tC t2)).setRow (w.heap.size + 3) #[a, d, y]) ∧
    TAt 25 t2 (w.heap.size + 2) ((W.setRow (w.heap.size + 2) (tC t2)).setRow (w.heap.size + 3) #[a, d, y]) ∧ DAt a d y (w.heap.size + 3) ((W.setRow (w.heap.size + 2) (tC t2)).setRow (w.heap.size + 3) #[a, d, y]) := by
  refine ⟨⟨t2, a, d, y, rfl, ⟨fun k hk => step_reads (ht.1 k hk), step_reads ht.2⟩, ⟨step_reads hd.1, step_reads hd.2.1, step_reads hd.2.2⟩, ?_⟩, ?_, ?_⟩
  · exact h.both.below.trans ((below_setRow.mono (by omega)).trans (below_setRow.mono (by omega)))
  · exact (setRow_other _ _ _ _ (by omega)).trans (TAt.setRow h.rt)
  · exact setRow_heap _ _ _ _ _ _ ((setRow_other _ _ _ _ (by omega)).trans h.rd)
theorem stepping_runs {t : Ta} {l l2 : Tl} {i : Ins} {w W : World} {t2 : Ta} {a d y : Value} {al dl yl : List Int} (h : Stepping t l i w W) (ht : TReadsN (w.heap.size + 4) W t2 l2) (hd : DepsN (w.heap.size + 4) W a d y al dl yl) :
    (StoreT (.pointer (some ⟨w.heap.size + 2, 0, none⟩)) t2.V).run Tryz.prog W = .ok () (W.setRow (w.heap.size + 2) (tC t2)) ∧
    (StoreD (.pointer (some ⟨w.heap.size + 3, 0, none⟩)) (.agg #[a, d, y])).run Tryz.prog (W.setRow (w.heap.size + 2) (tC t2)) = .ok () ((W.setRow (w.heap.size + 2) (tC t2)).setRow (w.heap.size + 3) #[a, d, y]) :=
  ⟨run_StoreT h.rt ht.reads.flat, run_StoreD ((setRow_other _ _ _ _ (by omega)).trans h.rd) hd.1.one hd.2.1.one hd.2.2.one⟩
theorem tCheck_b (t : Ta) (l : Tl) (b : Bool) (hb : l.ok = b) (w : World) (h : TReads w t l) (hs : l.short) : Calls Tryz.prog 11 #[t.V] w fun e w' => e = .returned (.int .i64 (errI b)) ∧ Below w.heap.size w w' := by
  rw [← hb]; exact tCheck_any t l w h hs
end Go.Proofs.YtfbnijcmfaeoeaaGreat
