/-
  Proved here: the package taint's hung: on what an instruction hangs, by address, by data, by the way; nothing that was there is changed. Condition: at most 10,000 numbers a list; registers from 0 to 31.
-/
import Derived.Test.YtfbnijcmfaeoeaaGreatTaintWritten
namespace Go.Proofs.YtfbnijcmfaeoeaaGreat
open Go.RowKit
attribute [local go_sem ↓] fold_T fold_I

/-- three lists in a box -/
def DAt (a d y : Value) (n : Nat) (w : World) : Prop := w.heap[n]? = some (.cells #[a, d, y] 31 (0, 0))
theorem DAt.lt {a d y : Value} {n : Nat} {w : World} (h : DAt a d y n w) : n < w.heap.size := (Array.getElem?_eq_some_iff.1 h).1
theorem DAt.facts {a d y : Value} {n : Nat} {w : World} (h : DAt a d y n w) : n < w.heap.size ∧ w.cell? ⟨n, 0, none⟩ = some a ∧ w.cell? ⟨n, 1, none⟩ = some d ∧ w.cell? ⟨n, 2, none⟩ = some y ∧ w.frozen? ⟨n, 0, none⟩ = false ∧ w.frozen? ⟨n, 1, none⟩ = false ∧ w.frozen? ⟨n, 2, none⟩ = false :=
  ⟨h.lt, by rw [cell_of_row w n 0 _ _ _ h]; rfl, by rw [cell_of_row w n 1 _ _ _ h]; rfl, by rw [cell_of_row w n 2 _ _ _ h]; rfl, frozen_of_row w n 0 _ _ h, frozen_of_row w n 1 _ _ h, frozen_of_row w n 2 _ _ h⟩
theorem DAt.below {a d y : Value} {n B : Nat} {w w' : World} (h : DAt a d y n w) (hb : Below B w w') (hn : n < B) : DAt a d y n w' := (hb.block n hn).trans h
theorem DAt.alloc {a d y : Value} {n : Nat} {w : World} (h : DAt a d y n w) (o : Obj) : DAt a d y n (w.alloc o) := (Below.heap_alloc w o n h.lt).trans h
theorem DAt.far {a d y : Value} {n g k : Nat} {w : World} (h : DAt a d y n w) (v : Value) (hn : n ≠ g) : DAt a d y n (w.setCell ⟨g, k, none⟩ v) := (Below.heap_setCell w _ v n hn).trans h
theorem set_at (w : World) (n k : Nat) (v : Value) (cs : Array Value) (T : TypeId) (fr : Nat × Nat) (h : w.heap[n]? = some (.cells cs T fr)) : (w.setCell ⟨n, k, none⟩ v).heap[n]? = some (.cells (cs.setIfInBounds k v) T fr) := by
  have hl : n < w.heap.size := (Array.getElem?_eq_some_iff.1 h).1
  unfold World.setCell
  simp only [Array.getElem?_modify, if_true, h, Option.map_some]
  simp
theorem DAt.set0 {a d y : Value} {n : Nat} {w : World} (h : DAt a d y n w) (v : Value) : DAt v d y n (w.setCell ⟨n, 0, none⟩ v) := set_at _ _ _ _ _ _ _ h
theorem DAt.set1 {a d y : Value} {n : Nat} {w : World} (h : DAt a d y n w) (v : Value) : DAt a v y n (w.setCell ⟨n, 1, none⟩ v) := set_at _ _ _ _ _ _ _ h
theorem DAt.new (a d y : Value) (w : World) : DAt a d y w.heap.size (w.alloc (.cells #[a, d, y] 31)) := heap_new _ _
/-- Deps of lists: whole in, whole out -/
theorem load_d {ops : Array Oper} {rest : List Oper} {o : Oper} {a : Act} {w : World} {Q : Exit → Act → World → Prop} {x0 x1 x2 : Value} {n : Nat} (H : DAt x0 x1 x2 n w) (hgd : o.guard = none) (x : Operand) (ho : o.op = .load 31 x)
    (hx : a.eval x = .pointer (some ⟨n, 0, none⟩)) (k : wpList Tryz.prog ops Q rest (a.put o.dst (.agg #[x0, x1, x2])) w) : wpList Tryz.prog ops Q (o :: rest) a w :=
  wpList_load_row hgd _ x ho n hx _ _ (0, 0) _ H Tryz.underlying31 rfl (by as_aux_lemma => kernel_rfl) k
theorem store_d {ops : Array Oper} {rest : List Oper} {o : Oper} {a : Act} {w : World} {Q : Exit → Act → World → Prop} {x0 x1 x2 : Value} {n : Nat} (H : DAt x0 x1 x2 n w) (hgd : o.guard = none) (x y : Operand) (ho : o.op = .store 31 x y) (y0 y1 y2 : Value)
    (h0 : y0.oneCell' = true) (h1 : y1.oneCell' = true) (h2 : y2.oneCell' = true) (hx : a.eval x = .pointer (some ⟨n, 0, none⟩)) (hy : a.eval y = .agg #[y0, y1, y2])
    (k : ∀ w1, DAt y0 y1 y2 n w1 → (∀ j, j ≠ n → w1.heap[j]? = w.heap[j]?) → Below n w w1 → w1.heap.size = w.heap.size → wpList Tryz.prog ops Q rest (a.put o.dst undef) w1) : wpList Tryz.prog ops Q (o :: rest) a w := by
  refine wpList_store_row hgd _ x y ho n #[y0, y1, y2] hx hy _ _ H (by as_aux_lemma => kernel_rfl) rfl (by simp [h0, h1, h2]) (k _ ?_ ?_ ?_ (by simp))
  · exact setRow_heap w n _ _ _ _ H
  · exact fun j hj => setRow_other w n j _ hj
  · exact (Below.refl _ _).trans ⟨rfl, rfl, rfl, by simp, fun j hj => setRow_other _ _ _ _ (by omega)⟩
theorem ReadsI.one {w : World} {v : Value} {zs : List Int} (h : ReadsI w v zs) : v.oneCell' = true := by
  obtain ⟨a, c, rfl⟩ := h.len
  rfl
theorem ReadsN.one {n : Nat} {w : World} {v : Value} {zs : List Int} (h : ReadsN n w v zs) : v.oneCell' = true := h.1.one
/-- a store into a block from g on does not touch what reads from blocks from g + 1 on, or from ahead of g -/
theorem ReadsN.set {n g k : Nat} {w : World} {v : Value} {zs : List Int} (h : ReadsN n w v zs) (x : Value) (hg : g < n) : ReadsN n (w.setCell ⟨g, k, none⟩ x) v zs :=
  ⟨h.1.set g k x (.inr fun e => absurd (h.2 g e) (by omega)), h.2⟩
theorem Below.into {B g k : Nat} {w w1 : World} (h : Below B w w1) (v : Value) (hg : B ≤ g) : Below B w (w1.setCell ⟨g, k, none⟩ v) := h.setCell hg v
/-- the boxes while an instruction's deps are made: the taint, the instruction, the result (nothing as yet), the deps in box g -/
structure Hung (t : Ta) (l : Tl) (i : Ins) (w : World) (g : Nat) (a d y : Value) (W : World) : Prop where
  both : Both t l i w W
  res : DAt (.slice none 0 0) (.slice none 0 0) (.slice none 0 0) (w.heap.size + 2) W
  box : DAt a d y g W
  far : w.heap.size + 2 < g
theorem Hung.on {t : Ta} {l : Tl} {i : Ins} {w W W2 : World} {g : Nat} {a d y : Value} (h : Hung t l i w g a d y W) (hb : Below W.heap.size W W2) : Hung t l i w g a d y W2 :=
  ⟨h.both.on hb, h.res.below hb h.res.lt, h.box.below hb h.box.lt, h.far⟩
theorem Both.far {t : Ta} {l : Tl} {i : Ins} {w W : World} {g k : Nat} (h : Both t l i w W) (v : Value) (hg : w.heap.size + 1 < g) : Both t l i w (W.setCell ⟨g, k, none⟩ v) :=
  ⟨(Below.heap_setCell W _ v _ (by show w.heap.size ≠ g; omega)).trans h.at0, (Below.heap_setCell W _ v _ (by show w.heap.size + 1 ≠ g; omega)).trans h.at1, h.here, h.below.setCell (by show w.heap.size ≤ g; omega) v⟩
theorem Hung.set0 {t : Ta} {l : Tl} {i : Ins} {w W : World} {g : Nat} {a d y : Value} (h : Hung t l i w g a d y W) (v : Value) : Hung t l i w g v d y (W.setCell ⟨g, 0, none⟩ v) :=
  ⟨h.both.far v (by have := h.far; omega), h.res.far v (by have := h.far; omega), h.box.set0 v, h.far⟩
theorem Hung.set1 {t : Ta} {l : Tl} {i : Ins} {w W : World} {g : Nat} {a d y : Value} (h : Hung t l i w g a d y W) (v : Value) : Hung t l i w g a v y (W.setCell ⟨g, 1, none⟩ v) :=
  ⟨h.both.far v (by have := h.far; omega), h.res.far v (by have := h.far; omega), h.box.set1 v, h.far⟩
theorem Both.alloc {t : Ta} {l : Tl} {i : Ins} {w W : World} (h : Both t l i w W) (o : Obj) : Both t l i w (W.alloc o) := h.on (box_below _ _)
def addrL (l : Tl) (i : Ins) : List Int := if loadsB i.op || storesB i.op then hangL l [i.rs1] else []
def dataL (l : Tl) (i : Ins) : List Int := if storesB i.op then hangL l [i.rs2] else []
/-- deps that read so, all new -/
def DepsN (n : Nat) (w : World) (a d y : Value) (al dl yl : List Int) : Prop := ReadsN n w a al ∧ ReadsN n w d dl ∧ ReadsN n w y yl
def HungOk (w : World) (al dl yl : List Int) (e : Ending) (w' : World) : Prop := ∃ a d y, e = .returned (.agg #[a, d, y]) ∧ DepsN w.heap.size w' a d y al dl yl ∧ Below w.heap.size w w'
end Go.Proofs.YtfbnijcmfaeoeaaGreat
