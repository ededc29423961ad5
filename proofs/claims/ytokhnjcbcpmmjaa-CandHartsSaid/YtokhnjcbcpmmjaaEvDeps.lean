/-
  Proved here: the kit's OwnDeps and Deps, event's kept: deps in new lists, compared; nothing that was there is changed. Condition: lists of at most 100,000 numbers.
  (With it: Proved here: appending what a slice reads as; the kit's Own, Same, OwnDeps, Deps, LightDeps and Pick; slices.Equal; nothing that was there is changed. Condition: lists of at most 100,000 numbers.)
-/
import Derived.Test.YtokhnjcbcpmmjaaEvAhead
import Derived.Test.YtokhnjcbcpmmjaaShelf
import Derived.Laws.AppendOwn
import Derived.Laws.AppendOwnNone
import Derived.Deep.QuietTactic
import Derived.BigQuiet
import Derived.Deep.RegionHeld3
namespace Go.Proofs.Ytokhnjcbcpmmjaa
set_option linter.unusedVariables false
set_option linter.unusedSimpArgs false
open Go.RowKit
attribute [local go_sem ↓] fold_E fold_SE

/-- append of what a slice reads as, to a row of the call's own -/
theorem append_reads {ops : Array Oper} {rest : List Oper} {o : Oper} {a : Act} {w : World} {Q : Exit → Act → World → Prop} (hgd : o.guard = none) (s x : Operand)
    (ho : o.op = .call { callee := .builtin .append, args := #[s, x], argTypes := #[24, 24] }) (base : Nat) (v : Value) (xs zs : List Int) (hs : a.eval s = v) (hown : w.ownsRow base 3 1 v xs.length (xs.map (Value.int .i64)))
    (vx : Value) (hx : a.eval x = vx) (hr : ReadsI w vx zs) (hlen : xs.length + zs.length ≤ 1000000) (hbase : base ≤ w.heap.size)
    (h : ∀ v' w', w'.ownsRow base 3 1 v' (xs ++ zs).length ((xs ++ zs).map (Value.int .i64)) → w.grownBy w' v.ownBlock → wpList Try.prog ops Q rest (a.put o.dst v') w') : wpList Try.prog ops Q (o :: rest) a w := by
  obtain ⟨i0, hi, hz0, hz1, hz2⟩ := info_parts infoInt
  rcases hr with ⟨⟨ad, c, rfl, hc0⟩, rfl⟩ | ⟨b, off, c, rfl, h1, h2, h3, h4⟩
  · cases ad with
    | none =>
      obtain rfl := hc0 rfl
      refine wpList_append_own_none hgd s x _ ho base 3 i0 1 Try.underlying24 hi v _ _ hs hown hx ?_
      exact h v w (by simpa using hown) (World.grownBy.refl _ _)
    | some ad =>
      refine wpList_append_own w hgd s x _ ho base 3 i0 (.int .i64 0) 1 8 Try.underlying24 hi hz0 hz1 hz2 rfl (by decide) v _ _ hs hown ad 0 c [] hx (by simp) ?_ ?_ (by unfold maxLen; simp at hlen; omega) (by simp at hlen; omega) hbase ?_
      · intro j u hu; simp at hu
      · intro u hu; simp at hu
      · intro v' w' h5 h6 _
        exact h v' w' (by simpa using h5) h6
  · refine wpList_append_own w hgd s x _ ho base 3 i0 (.int .i64 0) 1 8 Try.underlying24 hi hz0 hz1 hz2 rfl (by decide) v _ _ hs hown ⟨b, off, none⟩ zs.length c (zs.map (Value.int .i64)) hx (by simp) ?_ ?_ (by unfold maxLen; omega) (by omega) hbase ?_
    · intro j u hu
      have hj : j < zs.length := by
        have := (List.getElem?_eq_some_iff.1 hu).1
        simpa using this
      have ha : (⟨b, off, none⟩ : Addr).add j = ⟨b, off + j, none⟩ := by unfold Addr.add; split <;> simp_all
      rw [ha, h4 j hj]
      rw [← hu]
      simp [atI, hj]
    · exact ints_oneCell .i64 zs
    · intro v' w' h5 h6 _
      exact h v' w' (by simpa using h5) h6
def SameOk (w : World) (b : Bool) (e : Ending) (w' : World) : Prop := e = .returned (.bool b) ∧ Below w.heap.size w w'
theorem SameOk.mk {w w' : World} {b c : Bool} (h : b = c) (hb : Below w.heap.size w w') : SameOk w c (.returned (.bool b)) w' := ⟨by rw [h], hb⟩
theorem below_drewW {B : Nat} {a w : World} (h : Below B a w) (n : Nat) : Below B a (w.drewN n) := ⟨h.os, h.tape, h.output, h.size, h.block⟩
end Go.Proofs.Ytokhnjcbcpmmjaa
namespace Go.Proofs.Ytokhnjcbcpmmjaa
set_option linter.unusedVariables false
set_option linter.unusedSimpArgs false
open Go.RowKit
attribute [local go_sem ↓] fold_E fold_SE

/-- three lists in a box -/
def DAt (a d y : Value) (n : Nat) (w : World) : Prop := w.heap[n]? = some (.cells #[a, d, y] 40 (0, 0))
theorem DAt.lt {a d y : Value} {n : Nat} {w : World} (h : DAt a d y n w) : n < w.heap.size := (Array.getElem?_eq_some_iff.1 h).1
theorem DAt.facts {a d y : Value} {n : Nat} {w : World} (h : DAt a d y n w) : n < w.heap.size ∧ w.cell? ⟨n, 0, none⟩ = some a ∧ w.cell? ⟨n, 1, none⟩ = some d ∧ w.cell? ⟨n, 2, none⟩ = some y ∧ w.frozen? ⟨n, 0, none⟩ = false ∧ w.frozen? ⟨n, 1, none⟩ = false ∧ w.frozen? ⟨n, 2, none⟩ = false :=
  ⟨h.lt, by rw [cell_of_row w n 0 _ _ _ h]; rfl, by rw [cell_of_row w n 1 _ _ _ h]; rfl, by rw [cell_of_row w n 2 _ _ _ h]; rfl, frozen_of_row w n 0 _ _ h, frozen_of_row w n 1 _ _ h, frozen_of_row w n 2 _ _ h⟩
theorem DAt.below {a d y : Value} {n B : Nat} {w w' : World} (h : DAt a d y n w) (hb : Below B w w') (hn : n < B) : DAt a d y n w' := (hb.block n hn).trans h
theorem DAt.alloc {a d y : Value} {n : Nat} {w : World} (h : DAt a d y n w) (o : Obj) : DAt a d y n (w.alloc o) := (Below.heap_alloc w o n h.lt).trans h
theorem DAt.far {a d y : Value} {n g k : Nat} {w : World} (h : DAt a d y n w) (v : Value) (hn : n ≠ g) : DAt a d y n (w.setCell ⟨g, k, none⟩ v) := (Below.heap_setCell w _ v n hn).trans h
theorem DAt.set1 {a d y : Value} {n : Nat} {w : World} (h : DAt a d y n w) (v : Value) : DAt a v y n (w.setCell ⟨n, 1, none⟩ v) := set_at _ _ _ _ _ _ _ h
theorem DAt.new (a d y : Value) (w : World) : DAt a d y w.heap.size (w.alloc (.cells #[a, d, y] 40)) := Array.getElem?_push_size
theorem DAt.on {a d y : Value} {n : Nat} {w w' : World} (h : DAt a d y n w) (hb : Below w.heap.size w w') : DAt a d y n w' := h.below hb h.lt
theorem ReadsI.one {w : World} {v : Value} {zs : List Int} (h : ReadsI w v zs) : v.oneCell' = true := by
  obtain ⟨a, c, rfl⟩ := h.len
  rfl
theorem ReadsN.one {n : Nat} {w : World} {v : Value} {zs : List Int} (h : ReadsN n w v zs) : v.oneCell' = true := h.1.one
def DepsN (n : Nat) (w : World) (a d y : Value) (al dl yl : List Int) : Prop := ReadsN n w a al ∧ ReadsN n w d dl ∧ ReadsN n w y yl
def DepsOk (w : World) (al dl yl : List Int) (e : Ending) (w' : World) : Prop := ∃ a d y, e = .returned (.agg #[a, d, y]) ∧ DepsN w.heap.size w' a d y al dl yl ∧ Below w.heap.size w w'
def StoreD (x y : Value) : Sem Unit := Instr.storeAt 40 x y
theorem fold_SD (x y : Value) : Instr.storeAt 40 x y = StoreD x y := rfl
attribute [local go_sem ↓] fold_SD
theorem run_StoreD {x0 x1 x2 y0 y1 y2 : Value} {n : Nat} {w : World} (H : DAt x0 x1 x2 n w) (h0 : y0.oneCell' = true) (h1 : y1.oneCell' = true) (h2 : y2.oneCell' = true) : (StoreD (.pointer (some ⟨n, 0, none⟩)) (.agg #[y0, y1, y2])).run Try.prog w = .ok () (w.setRow n #[y0, y1, y2]) := by
  unfold StoreD Instr.storeAt Instr.sureAddr
  simp only [Sem.run_bind, Sem.run_pure, Result.andThen_ok]
  exact run_storeVar_row w n _ _ _ _ H (by as_aux_lemma => kernel_rfl) rfl (by simp [h0, h1, h2])
theorem below_setRow {w : World} {n : Nat} {cs : Array Value} : Below n w (w.setRow n cs) := ⟨rfl, rfl, rfl, by simp, fun j hj => setRow_other _ _ _ _ (by omega)⟩
theorem deps_end {fn : Func} {tmps : Array Value} {p : Tmp} {a d y : Value} {n : Nat} {w : World} (h : fn.results = #[.cell p 40]) (hp : tmps.getD p undef = .pointer (some ⟨n, 0, none⟩)) (H : DAt a d y n w) :
    (results fn tmps).run Try.prog w = .ok (.agg #[a, d, y]) w :=
  results_cell_row h tmps w n _ _ (0, 0) _ hp H Try.underlying40 rfl (by as_aux_lemma => kernel_rfl)
/-- the boxes of a call that makes deps of deps: the deps in box n, the result in box n + 1 -/
structure Ow (a d y : Value) (al dl yl : List Int) (n : Nat) (w W : World) : Prop where
  box : DAt a d y n W
  res : DAt (.slice none 0 0) (.slice none 0 0) (.slice none 0 0) (n + 1) W
  below : Below w.heap.size w W
  here : ReadsI w a al ∧ ReadsI w d dl ∧ ReadsI w y yl
  low : w.heap.size ≤ n
theorem Ow.on {a d y : Value} {al dl yl : List Int} {n : Nat} {w W W2 : World} (h : Ow a d y al dl yl n w W) (hb : Below W.heap.size W W2) : Ow a d y al dl yl n w W2 := ⟨h.box.on hb, h.res.on hb, h.below.trans (hb.mono h.below.size), h.here, h.low⟩
theorem Ow.drew {a d y : Value} {al dl yl : List Int} {n : Nat} {w W : World} (h : Ow a d y al dl yl n w W) : Ow a d y al dl yl n w W.drew := h.on (Below.refl _ _).drew
theorem Ow.f3 {a d y : Value} {al dl yl : List Int} {n : Nat} {w W : World} (h : Ow a d y al dl yl n w W) : W.cell? ⟨n, 0, none⟩ = some a ∧ W.cell? ⟨n, 1, none⟩ = some d ∧ W.cell? ⟨n, 2, none⟩ = some y := ⟨h.box.facts.2.1, h.box.facts.2.2.1, h.box.facts.2.2.2.1⟩
theorem Ow.f3set {a d y : Value} {al dl yl : List Int} {n : Nat} {w W : World} (h : Ow a d y al dl yl n w W) (cs : Array Value) : (W.setRow (n + 1) cs).cell? ⟨n, 0, none⟩ = some a ∧ (W.setRow (n + 1) cs).cell? ⟨n, 1, none⟩ = some d ∧ (W.setRow (n + 1) cs).cell? ⟨n, 2, none⟩ = some y := by
  have hb : DAt a d y n (W.setRow (n + 1) cs) := (setRow_other _ _ _ _ (by omega)).trans h.box
  exact ⟨hb.facts.2.1, hb.facts.2.2.1, hb.facts.2.2.2.1⟩
theorem Ow.ra {a d y : Value} {al dl yl : List Int} {n : Nat} {w W : World} (h : Ow a d y al dl yl n w W) : ReadsI W a al := h.here.1.below h.below
theorem Ow.rd {a d y : Value} {al dl yl : List Int} {n : Nat} {w W : World} (h : Ow a d y al dl yl n w W) : ReadsI W d dl := h.here.2.1.below h.below
theorem Ow.ry {a d y : Value} {al dl yl : List Int} {n : Nat} {w W : World} (h : Ow a d y al dl yl n w W) : ReadsI W y yl := h.here.2.2.below h.below
theorem reads_row {W : World} {n g : Nat} {v : Value} {zs : List Int} {cs : Array Value} (h : ReadsN n W v zs) (hg : g < n) (m : Nat) (hm : m ≤ n) : ReadsN m (W.setRow g cs) v zs := by
  refine ⟨?_, fun k hk => by have := h.2 k hk; omega⟩
  rcases h.1 with h0 | ⟨b, off, c, e, h2, h3, h4, h5⟩
  · exact .inl h0
  · subst e
    have hbn := h.2 b rfl
    refine .inr ⟨b, off, c, rfl, h2, h3, by simpa using h4, fun j hj => ?_⟩
    rw [← h5 j hj]
    exact World.cell?_of_block (setRow_other _ _ _ _ (by show b ≠ g; omega))
theorem Ow.done {a d y : Value} {al dl yl : List Int} {n : Nat} {w W : World} (h : Ow a d y al dl yl n w W) {a2 d2 y2 : Value} {al2 dl2 yl2 : List Int} (hd : DepsN (n + 2) W a2 d2 y2 al2 dl2 yl2) :
    DepsOk w al2 dl2 yl2 (.returned (.agg #[a2, d2, y2])) (W.setRow (n + 1) #[a2, d2, y2]) ∧ DAt a2 d2 y2 (n + 1) (W.setRow (n + 1) #[a2, d2, y2]) :=
  ⟨⟨a2, d2, y2, rfl, ⟨reads_row hd.1 (by omega) _ (by have := h.low; omega), reads_row hd.2.1 (by omega) _ (by have := h.low; omega), reads_row hd.2.2 (by omega) _ (by have := h.low; omega)⟩, h.below.trans (below_setRow.mono (by have := h.low; omega))⟩, setRow_heap _ _ _ _ _ _ h.res⟩
theorem Ow.start (a d y : Value) (al dl yl : List Int) (w : World) (ha : ReadsI w a al) (hd : ReadsI w d dl) (hy : ReadsI w y yl) : Ow a d y al dl yl w.heap.size w ((w.alloc (.cells #[a, d, y] 40)).alloc (.cells #[.slice none 0 0, .slice none 0 0, .slice none 0 0] 40)) := by
  refine ⟨(DAt.new a d y w).alloc _, ?_, two_below _ _ _, ⟨ha, hd, hy⟩, Nat.le_refl _⟩
  have := DAt.new (.slice none 0 0) (.slice none 0 0) (.slice none 0 0) (w.alloc (.cells #[a, d, y] 40))
  simp only [World.size_alloc] at this
  exact this
theorem Ow.lt {a d y : Value} {al dl yl : List Int} {n : Nat} {w W : World} (h : Ow a d y al dl yl n w W) : n + 2 ≤ W.heap.size := h.res.lt
end Go.Proofs.Ytokhnjcbcpmmjaa
