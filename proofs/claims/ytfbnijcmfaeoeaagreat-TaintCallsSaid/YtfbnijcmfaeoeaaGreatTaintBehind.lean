/-
  Words: a taint in the making, in a box of the call's own, list by list; whole taints stored and read. No condition.
-/
import Derived.Test.YtfbnijcmfaeoeaaGreatTaintHungWalk
namespace Go.Proofs.YtfbnijcmfaeoeaaGreat
open Go.RowKit
attribute [local go_sem ↓] fold_T fold_I

def Ta.put (t : Ta) (k : Nat) (v : Value) : Ta := { t with vs := t.vs.set k v, len := by rw [List.length_set]; exact t.len }
def Ta.atWay (t : Ta) (v : Value) : Ta := { t with way := v }
def Tl.put (l : Tl) (k : Nat) (zs : List Int) : Tl := { l with xs := l.xs.set k zs, len := by rw [List.length_set]; exact l.len }
def Tl.atWay (l : Tl) (zs : List Int) : Tl := { l with way := zs }
theorem Ta.put_v (t : Ta) (k : Nat) (v : Value) (hk : k < 32) (j : Nat) : (t.put k v).v j = if j = k then v else t.v j := by
  have hl := t.len
  unfold Ta.put Ta.v
  simp only [List.getD_eq_getElem?_getD, List.getElem?_set]
  by_cases h : j = k
  · subst h; simp [hl, hk]
  · rw [if_neg h, if_neg (Ne.symm h)]
theorem Tl.put_x (l : Tl) (k : Nat) (zs : List Int) (hk : k < 32) (j : Nat) : (l.put k zs).x j = if j = k then zs else l.x j := by
  have hl := l.len
  unfold Tl.put Tl.x
  simp only [List.getD_eq_getElem?_getD, List.getElem?_set]
  by_cases h : j = k
  · subst h; simp [hl, hk]
  · rw [if_neg h, if_neg (Ne.symm h)]
theorem tC_put (t : Ta) (k : Nat) (v : Value) (hk : k < 32) : (tC t).setIfInBounds k v = tC (t.put k v) := by
  have hl := t.len
  unfold tC Ta.put
  simp only [List.setIfInBounds_toArray]
  rw [List.set_append_left _ _ (by omega)]
theorem TAt.setX {T : TypeId} {t : Ta} {n : Nat} {w : World} (H : TAt T t n w) (k : Nat) (hk : k < 32) (v : Value) : TAt T (t.put k v) n (w.setCell ⟨n, k, none⟩ v) := by
  unfold TAt; rw [set_at _ _ _ _ _ _ _ H, tC_put t k v hk]
theorem TAt.far {T : TypeId} {t : Ta} {n g k : Nat} {w : World} (h : TAt T t n w) (v : Value) (hn : n ≠ g) : TAt T t n (w.setCell ⟨g, k, none⟩ v) := (Below.heap_setCell w _ v n hn).trans h
/-- all of one cell -/
def Ta.flat (t : Ta) : Prop := (tC t).all (·.oneCell') = true
theorem store_ta {ops : Array Oper} {rest : List Oper} {o : Oper} {a : Act} {w : World} {Q : Exit → Act → World → Prop} {t0 : Ta} {n : Nat} (H : TAt 25 t0 n w) (t : Ta) (hf : t.flat) (hgd : o.guard = none) (x y : Operand) (ho : o.op = .store 25 x y)
    (hx : a.eval x = .pointer (some ⟨n, 0, none⟩)) (hy : a.eval y = .agg (tC t))
    (k : ∀ w1, TAt 25 t n w1 → (∀ j, j ≠ n → w1.heap[j]? = w.heap[j]?) → Below n w w1 → w1.heap.size = w.heap.size → wpList Tryz.prog ops Q rest (a.put o.dst undef) w1) : wpList Tryz.prog ops Q (o :: rest) a w := by
  refine wpList_store_row hgd _ x y ho n (tC t) hx hy _ _ H (by rw [tC_size]; as_aux_lemma => kernel_rfl) (by rw [tC_size, tC_size]) hf (k _ ?_ ?_ ?_ (by simp))
  · exact setRow_heap w n _ _ _ _ H
  · exact fun j hj => setRow_other w n j _ hj
  · exact (Below.refl _ _).trans ⟨rfl, rfl, rfl, by simp, fun j hj => setRow_other _ _ _ _ (by omega)⟩
theorem ta_end {fn : Func} {tmps : Array Value} {p : Tmp} {t : Ta} {n : Nat} {w : World} (h : fn.results = #[.cell p 25]) (hp : tmps.getD p undef = .pointer (some ⟨n, 0, none⟩)) (H : TAt 25 t n w) :
    (results fn tmps).run Tryz.prog w = .ok t.V w :=
  results_cell_row h tmps w n _ _ (0, 0) _ hp H Tryz.underlying25 rfl (by rw [tC_size]; as_aux_lemma => kernel_rfl)
/-- a taint that reads so, all new -/
def TReadsN (n : Nat) (w : World) (t : Ta) (l : Tl) : Prop := (∀ k, k < 32 → ReadsN n w (t.v k) (l.x k)) ∧ ReadsN n w t.way l.way
theorem TReadsN.reads {n : Nat} {w : World} {t : Ta} {l : Tl} (h : TReadsN n w t l) : TReads w t l := ⟨fun k hk => (h.1 k hk).1, h.2.1⟩
theorem TReadsN.mono {n m : Nat} {w : World} {t : Ta} {l : Tl} (h : TReadsN n w t l) (hm : m ≤ n) : TReadsN m w t l := ⟨fun k hk => (h.1 k hk).mono hm, h.2.mono hm⟩
theorem TReads.flat {w : World} {t : Ta} {l : Tl} (h : TReads w t l) : t.flat := by
  unfold Ta.flat
  rw [Array.all_eq_true]
  intro i hi
  rw [tC_size] at hi
  by_cases hk : i < 32
  · have e := tC_x t i hk
    rw [Array.getElem?_eq_getElem (by rw [tC_size]; omega)] at e
    rw [Option.some.inj e]
    exact (h.x i hk).one
  · obtain rfl : i = 32 := by omega
    have e := tC_way t
    rw [Array.getElem?_eq_getElem (by rw [tC_size]; omega)] at e
    rw [Option.some.inj e]
    exact h.w.one
/-- a call that answers a new taint -/
def TaintOk (w : World) (l : Tl) (e : Ending) (w' : World) : Prop := ∃ t, e = .returned t.V ∧ TReadsN w.heap.size w' t l ∧ Below w.heap.size w w'
/-- the boxes while the taint behind is made: what came in, the result (nothing as yet), the new one in box g -/
structure Making (t : Ta) (l : Tl) (i : Ins) (w : World) (g : Nat) (t2 : Ta) (W : World) : Prop where
  both : Both t l i w W
  res : TAt 25 zeroTa (w.heap.size + 2) W
  box : TAt 25 t2 g W
  far : w.heap.size + 2 < g
theorem Making.on {t : Ta} {l : Tl} {i : Ins} {w W W2 : World} {g : Nat} {t2 : Ta} (h : Making t l i w g t2 W) (hb : Below W.heap.size W W2) : Making t l i w g t2 W2 :=
  ⟨h.both.on hb, h.res.below hb h.res.lt, h.box.below hb h.box.lt, h.far⟩
theorem Making.put {t : Ta} {l : Tl} {i : Ins} {w W : World} {g : Nat} {t2 : Ta} (h : Making t l i w g t2 W) (k : Nat) (hk : k < 32) (v : Value) : Making t l i w g (t2.put k v) (W.setCell ⟨g, k, none⟩ v) :=
  ⟨h.both.far v (by have := h.far; omega), h.res.far v (by have := h.far; omega), h.box.setX k hk v, h.far⟩
/-- the first k lists are there, and the way's -/
structure Filled (l : Tl) (wl : List Int) (m g k : Nat) (t2 : Ta) (W : World) : Prop where
  xs : ∀ j, j < k → ReadsN (g + 1) W (t2.v j) (l.x j)
  way : ReadsN m W t2.way wl
  off : wl = [] ∨ t2.way.ownBlock ≠ some g
theorem Filled.on {l : Tl} {wl : List Int} {m g k : Nat} {t2 : Ta} {W W2 : World} (h : Filled l wl m g k t2 W) (hb : Below W.heap.size W W2) : Filled l wl m g k t2 W2 := ⟨fun j hj => (h.xs j hj).on hb, h.way.on hb, h.off⟩
theorem Filled.put {l : Tl} {wl : List Int} {m g k : Nat} {t2 : Ta} {W : World} (h : Filled l wl m g k t2 W) (hk : k < 32) (v : Value) (hv : ReadsN (g + 1) W v (l.x k)) : Filled l wl m g (k + 1) (t2.put k v) (W.setCell ⟨g, k, none⟩ v) := by
  refine ⟨fun j hj => ?_, h.way.far v h.off, h.off⟩
  rw [Ta.put_v t2 k v hk j]
  by_cases e : j = k
  · subst e; rw [if_pos rfl]; exact hv.set v (Nat.lt_succ_self _)
  · rw [if_neg e]; exact (h.xs j (by omega)).set v (Nat.lt_succ_self _)
theorem Filled.turn {l : Tl} {wl : List Int} {m g : Nat} {t2 : Ta} {W : World} (h : Filled l wl m g 32 t2 W) (x : Nat) (hx : x < 32) (v : Value) (zs : List Int) (hv : ReadsN (g + 1) W v zs) : Filled (l.put x zs) wl m g 32 (t2.put x v) (W.setCell ⟨g, x, none⟩ v) := by
  refine ⟨fun j hj => ?_, h.way.far v h.off, h.off⟩
  rw [Ta.put_v t2 x v hx j, Tl.put_x l x zs hx j]
  by_cases e : j = x
  · subst e; rw [if_pos rfl, if_pos rfl]; exact hv.set v (Nat.lt_succ_self _)
  · rw [if_neg e, if_neg e]; exact (h.xs j hj).set v (Nat.lt_succ_self _)
theorem Filled.whole {l : Tl} {wl : List Int} {m g : Nat} {t2 : Ta} {W : World} (h : Filled l wl m g 32 t2 W) (hm : m ≤ g + 1) : TReadsN m W t2 (l.atWay wl) := ⟨fun k hk => (h.xs k hk).mono hm, h.way⟩
theorem made_start {t : Ta} {l : Tl} {i : Ins} {w w1 w2 : World} {v1 : Value} {zs : List Int} {o : Obj} (h : Both t l i w w1) (hr : TAt 25 zeroTa (w.heap.size + 2) w1) (hz : w.heap.size + 3 ≤ w1.heap.size) (hv : ReadsN (w.heap.size + 3) w1 v1 zs) (hn : zs = [] ∨ v1.ownBlock ≠ some w1.heap.size)
    (D : TAt 25 (zeroTa.atWay v1) w1.heap.size w2) (hb : Below w1.heap.size (w1.alloc o) w2) : Making t l i w w1.heap.size (zeroTa.atWay v1) w2 ∧ Filled l zs (w.heap.size + 3) w1.heap.size 0 (zeroTa.atWay v1) w2 := by
  have hb' : Below w1.heap.size w1 w2 := (box_below w1 o).trans hb
  exact ⟨⟨h.under hb' (by omega), hr.below hb' (by omega), D, by omega⟩, ⟨fun j hj => absurd hj (by omega), hv.on hb', hn⟩⟩
def behindL (l : Tl) (i : Ins) (event : Int) : Tl := (if i.rd = 0 then l else l.put i.rd.toNat (writtenL l i event)).atWay (wayL l i)
/-- behind the last store -/
theorem made_done {t : Ta} {l l2 : Tl} {i : Ins} {w W w1 : World} {g : Nat} {t2 : Ta} (h : Making t l i w g t2 W) (hr : TReadsN (w.heap.size + 3) W t2 l2)
    (ho : ∀ j, j ≠ w.heap.size + 2 → w1.heap[j]? = W.heap[j]?) (hb : Below (w.heap.size + 2) W w1) (hz : w1.heap.size = W.heap.size) : TaintOk w l2 (.returned t2.V) w1 := by
  have one : ∀ v zs, ReadsN (w.heap.size + 3) W v zs → ReadsN w.heap.size w1 v zs := by
    intro v zs hv
    refine ⟨?_, fun k hk => by have := hv.2 k hk; omega⟩
    rcases hv.1 with h0 | ⟨b, off, c, e, h2, h3, h4, h5⟩
    · exact .inl h0
    · subst e
      have hbn := hv.2 b rfl
      refine .inr ⟨b, off, c, rfl, h2, h3, by omega, fun j hj => ?_⟩
      rw [← h5 j hj]
      exact World.cell?_of_block (ho b (by omega))
  exact ⟨t2, rfl, ⟨fun k hk => one _ _ (hr.1 k hk), one _ _ hr.2⟩, h.both.below.trans (hb.mono (by omega))⟩
end Go.Proofs.YtfbnijcmfaeoeaaGreat
