/-
  Proved here: the kit's OwnDeps and Deps, event's kept: deps in new lists, compared; nothing that was there is changed. Condition: lists of at most 100,000 numbers.
  (With it: Proved here: appending what a slice reads as; the kit's Own, Same, OwnDeps, Deps, LightDeps and Pick; slices.Equal; nothing that was there is changed. Condition: lists of at most 100,000 numbers.)
-/
import Derived.Test.YtgkiaeddlahngaaGreatDoorEvAhead
import Derived.Test.YtgkiaeddlahngaaGreatDoorShelf
import Derived.Laws.AppendOwn
import Derived.Laws.AppendOwnNone
import Derived.Deep.QuietTactic
import Derived.BigQuiet
import Derived.Deep.RegionHeld3
namespace Go.Proofs.YtgkiaeddlahngaaGreatDoor
set_option linter.unusedVariables false
set_option linter.unusedSimpArgs false
open Go.RowKit
attribute [local go_sem ↓] fold_E fold_SE

/-- append of what a slice reads as, to a row of the call's own -/
theorem append_reads {ops : Array Oper} {rest : List Oper} {o : Oper} {a : Act} {w : World} {Q : Exit → Act → World → Prop} (hgd : o.guard = none) (s x : Operand)
    (ho : o.op = .call { callee := .builtin .append, args := #[s, x], argTypes := #[24, 24] }) (base : Nat) (v : Value) (xs zs : List Int) (hs : a.eval s = v) (hown : w.ownsRow base 3 1 v xs.length (xs.map (Value.int .i64)))
    (vx : Value) (hx : a.eval x = vx) (hr : ReadsI w vx zs) (hlen : xs.length + zs.length ≤ 1000000) (hbase : base ≤ w.heap.size)
    (h : ∀ v' w', w'.ownsRow base 3 1 v' (xs ++ zs).length ((xs ++ zs).map (Value.int .i64)) → w.grownBy w' v.ownBlock → wpList Tryz.prog ops Q rest (a.put o.dst v') w') : wpList Tryz.prog ops Q (o :: rest) a w := by
  obtain ⟨i0, hi, hz0, hz1, hz2⟩ := info_parts infoInt
  rcases hr with ⟨⟨ad, c, rfl, hc0⟩, rfl⟩ | ⟨b, off, c, rfl, h1, h2, h3, h4⟩
  · cases ad with
    | none =>
      obtain rfl := hc0 rfl
      refine wpList_append_own_none hgd s x _ ho base 3 i0 1 Tryz.underlying24 hi v _ _ hs hown hx ?_
      exact h v w (by simpa using hown) (World.grownBy.refl _ _)
    | some ad =>
      refine wpList_append_own w hgd s x _ ho base 3 i0 (.int .i64 0) 1 8 Tryz.underlying24 hi hz0 hz1 hz2 rfl (by decide) v _ _ hs hown ad 0 c [] hx (by simp) ?_ ?_ (by unfold maxLen; simp at hlen; omega) (by simp at hlen; omega) hbase ?_
      · intro j u hu; simp at hu
      · intro u hu; simp at hu
      · intro v' w' h5 h6 _
        exact h v' w' (by simpa using h5) h6
  · refine wpList_append_own w hgd s x _ ho base 3 i0 (.int .i64 0) 1 8 Tryz.underlying24 hi hz0 hz1 hz2 rfl (by decide) v _ _ hs hown ⟨b, off, none⟩ zs.length c (zs.map (Value.int .i64)) hx (by simp) ?_ ?_ (by unfold maxLen; omega) (by omega) hbase ?_
    · intro j u hu
      have hj : j < zs.length := by
        have := (List.getElem?_eq_some_iff.1 hu).1
        simpa using this
      have ha : (⟨b, off, none⟩ : Addr).add j = ⟨b, off + j, none⟩ := by unfold Addr.add; split <;> simp_all
      rw [ha, h4 j hj]
      rw [← hu]
      simp [atI, hj]
    · exact ints_oneCell .i64 zs
    · intro v' w' h5 h6 _
      exact h v' w' (by simpa using h5) h6
/-- a new list -/
def Merged (w : World) (M : List Int) (e : Ending) (w' : World) : Prop := ∃ v, e = .returned v ∧ ReadsN w.heap.size w' v M ∧ Below w.heap.size w w'
set_option maxRecDepth 100000 in
set_option maxHeartbeats 2000000 in
theorem own_any (v : Value) (zs : List Int) (w : World) (h : ReadsI w v zs) (hlen : zs.length ≤ 100000) : Calls Tryz.prog 33 #[v] w fun e w' => Merged w zs e w' := by
  have HR := Lib.hid (h.alloc (.cells #[] 3))
  have HO := Lib.hid (World.ownsRow_made (base := w.heap.size) (e := 3) (size := 1) w #[] 0 (Nat.le_refl _) (by unfold maxLen; omega) (by simp))
  have HB := Lib.hid (box_below w (.cells #[] 3))
  clear h
  go_enter Tryz.func33, Tryz.ntmps33
  go_wp2_with (refine append_reads rfl (.tmp 3) (.tmp 4) rfl w.heap.size _ [] zs rfl HO.out _ rfl HR.out (by simp; omega) HB.out.size ?_; intro v1 w1 hw1 hg1; have H1 := Lib.hid hw1; have HB1 := Lib.hid (HB.out.grown hg1 HB.out.size (fun k hk => (HO.out.lt k hk).1)); clear hw1 hg1)
  go_ret
  exact ⟨_, rfl, readsN_of_own H1.out, HB1.out⟩
theorem take_more (a b : List Int) (k : Nat) (ha : k < a.length) (hb : k < b.length) (h : a.take k = b.take k) : (a.take (k + 1) = b.take (k + 1)) ↔ atI a k = atI b k := by
  rw [List.take_succ_eq_append_getElem ha, List.take_succ_eq_append_getElem hb, h]
  unfold atI
  rw [List.getD_eq_getElem?_getD, List.getD_eq_getElem?_getD, List.getElem?_eq_getElem ha, List.getElem?_eq_getElem hb]
  simp only [List.append_cancel_left_eq, List.cons.injEq, and_true, Option.getD_some]
theorem take_ne (a b : List Int) (k : Nat) (h : a.take k ≠ b.take k) : a ≠ b := fun e => h (by rw [e])
def SameOk (w : World) (b : Bool) (e : Ending) (w' : World) : Prop := e = .returned (.bool b) ∧ Below w.heap.size w w'
theorem SameOk.mk {w w' : World} {b c : Bool} (h : b = c) (hb : Below w.heap.size w w') : SameOk w c (.returned (.bool b)) w' := ⟨by rw [h], hb⟩
theorem below_drewW {B : Nat} {a w : World} (h : Below B a w) (n : Nat) : Below B a (w.drewN n) := ⟨h.os, h.tape, h.output, h.size, h.block⟩
/-- a bool, and draws alone -/
def SameQ (w : World) (b : Bool) (e : Ending) (w' : World) : Prop := e = .returned (.bool b) ∧ ∃ m, w' = w.drewN m
theorem SameQ.mk {w w' : World} {b c : Bool} (h : b = c) (hb : ∃ m, w' = w.drewN m) : SameQ w c (.returned (.bool b)) w' := ⟨by rw [h], hb⟩
theorem drewN_none (w : World) : ∃ m, w = w.drewN m := ⟨0, by cases w; rfl⟩
theorem drewN_more {w w1 w2 : World} (h1 : ∃ m, w1 = w.drewN m) (h2 : ∃ m, w2 = w1.drewN m) : ∃ m, w2 = w.drewN m := by
  obtain ⟨m, rfl⟩ := h1
  obtain ⟨n, rfl⟩ := h2
  exact ⟨m + n, World.drewN_drewN ..⟩
theorem drewN_under {w w1 : World} (h : ∃ m, w1 = w.drewN m) : Below w.heap.size w w1 := by
  obtain ⟨m, rfl⟩ := h
  exact below_drewW (Below.refl _ _) m
end Go.Proofs.YtgkiaeddlahngaaGreatDoor
namespace Go.Proofs.YtgkiaeddlahngaaGreatDoor
set_option linter.unusedVariables false
set_option linter.unusedSimpArgs false
open Go.RowKit
attribute [local go_sem ↓] fold_E fold_SE

/-- three lists in a box -/
def DAt (a d y : Value) (n : Nat) (w : World) : Prop := w.heap[n]? = some (.cells #[a, d, y] 46 (0, 0))
theorem DAt.lt {a d y : Value} {n : Nat} {w : World} (h : DAt a d y n w) : n < w.heap.size := (Array.getElem?_eq_some_iff.1 h).1
theorem DAt.facts {a d y : Value} {n : Nat} {w : World} (h : DAt a d y n w) : n < w.heap.size ∧ w.cell? ⟨n, 0, none⟩ = some a ∧ w.cell? ⟨n, 1, none⟩ = some d ∧ w.cell? ⟨n, 2, none⟩ = some y ∧ w.frozen? ⟨n, 0, none⟩ = false ∧ w.frozen? ⟨n, 1, none⟩ = false ∧ w.frozen? ⟨n, 2, none⟩ = false :=
  ⟨h.lt, by rw [cell_of_row w n 0 _ _ _ h]; rfl, by rw [cell_of_row w n 1 _ _ _ h]; rfl, by rw [cell_of_row w n 2 _ _ _ h]; rfl, frozen_of_row w n 0 _ _ h, frozen_of_row w n 1 _ _ h, frozen_of_row w n 2 _ _ h⟩
theorem DAt.below {a d y : Value} {n B : Nat} {w w' : World} (h : DAt a d y n w) (hb : Below B w w') (hn : n < B) : DAt a d y n w' := (hb.block n hn).trans h
theorem DAt.alloc {a d y : Value} {n : Nat} {w : World} (h : DAt a d y n w) (o : Obj) : DAt a d y n (w.alloc o) := (Below.heap_alloc w o n h.lt).trans h
theorem DAt.far {a d y : Value} {n g k : Nat} {w : World} (h : DAt a d y n w) (v : Value) (hn : n ≠ g) : DAt a d y n (w.setCell ⟨g, k, none⟩ v) := (Below.heap_setCell w _ v n hn).trans h
theorem DAt.set0 {a d y : Value} {n : Nat} {w : World} (h : DAt a d y n w) (v : Value) : DAt v d y n (w.setCell ⟨n, 0, none⟩ v) := set_at _ _ _ _ _ _ _ h
theorem DAt.set1 {a d y : Value} {n : Nat} {w : World} (h : DAt a d y n w) (v : Value) : DAt a v y n (w.setCell ⟨n, 1, none⟩ v) := set_at _ _ _ _ _ _ _ h
theorem DAt.new (a d y : Value) (w : World) : DAt a d y w.heap.size (w.alloc (.cells #[a, d, y] 46)) := Array.getElem?_push_size
theorem DAt.on {a d y : Value} {n : Nat} {w w' : World} (h : DAt a d y n w) (hb : Below w.heap.size w w') : DAt a d y n w' := h.below hb h.lt
theorem ReadsI.one {w : World} {v : Value} {zs : List Int} (h : ReadsI w v zs) : v.oneCell' = true := by
  obtain ⟨a, c, rfl⟩ := h.len
  rfl
theorem ReadsN.one {n : Nat} {w : World} {v : Value} {zs : List Int} (h : ReadsN n w v zs) : v.oneCell' = true := h.1.one
def DepsN (n : Nat) (w : World) (a d y : Value) (al dl yl : List Int) : Prop := ReadsN n w a al ∧ ReadsN n w d dl ∧ ReadsN n w y yl
def DepsOk (w : World) (al dl yl : List Int) (e : Ending) (w' : World) : Prop := ∃ a d y, e = .returned (.agg #[a, d, y]) ∧ DepsN w.heap.size w' a d y al dl yl ∧ Below w.heap.size w w'
def StoreD (x y : Value) : Sem Unit := Instr.storeAt 46 x y
theorem fold_SD (x y : Value) : Instr.storeAt 46 x y = StoreD x y := rfl
attribute [local go_sem ↓] fold_SD
theorem run_StoreD {x0 x1 x2 y0 y1 y2 : Value} {n : Nat} {w : World} (H : DAt x0 x1 x2 n w) (h0 : y0.oneCell' = true) (h1 : y1.oneCell' = true) (h2 : y2.oneCell' = true) : (StoreD (.pointer (some ⟨n, 0, none⟩)) (.agg #[y0, y1, y2])).run Tryz.prog w = .ok () (w.setRow n #[y0, y1, y2]) := by
  unfold StoreD Instr.storeAt Instr.sureAddr
  simp only [Sem.run_bind, Sem.run_pure, Result.andThen_ok]
  exact run_storeVar_row w n _ _ _ _ H (by as_aux_lemma => kernel_rfl) rfl (by simp [h0, h1, h2])
theorem below_setRow {w : World} {n : Nat} {cs : Array Value} : Below n w (w.setRow n cs) := ⟨rfl, rfl, rfl, by simp, fun j hj => setRow_other _ _ _ _ (by omega)⟩
theorem deps_end {fn : Func} {tmps : Array Value} {p : Tmp} {a d y : Value} {n : Nat} {w : World} (h : fn.results = #[.cell p 46]) (hp : tmps.getD p undef = .pointer (some ⟨n, 0, none⟩)) (H : DAt a d y n w) :
    (results fn tmps).run Tryz.prog w = .ok (.agg #[a, d, y]) w :=
  results_cell_row h tmps w n _ _ (0, 0) _ hp H Tryz.underlying46 rfl (by as_aux_lemma => kernel_rfl)
/-- the boxes of a call that makes deps of deps: the deps in box n, the result in box n + 1 -/
structure Ow (a d y : Value) (al dl yl : List Int) (n : Nat) (w W : World) : Prop where
  box : DAt a d y n W
  res : DAt (.slice none 0 0) (.slice none 0 0) (.slice none 0 0) (n + 1) W
  below : Below w.heap.size w W
  here : ReadsI w a al ∧ ReadsI w d dl ∧ ReadsI w y yl
  low : w.heap.size ≤ n
theorem Ow.on {a d y : Value} {al dl yl : List Int} {n : Nat} {w W W2 : World} (h : Ow a d y al dl yl n w W) (hb : Below W.heap.size W W2) : Ow a d y al dl yl n w W2 := ⟨h.box.on hb, h.res.on hb, h.below.trans (hb.mono h.below.size), h.here, h.low⟩
theorem Ow.drew {a d y : Value} {al dl yl : List Int} {n : Nat} {w W : World} (h : Ow a d y al dl yl n w W) : Ow a d y al dl yl n w W.drew := h.on (Below.refl _ _).drew
theorem Ow.f3 {a d y : Value} {al dl yl : List Int} {n : Nat} {w W : World} (h : Ow a d y al dl yl n w W) : W.cell? ⟨n, 0, none⟩ = some a ∧ W.cell? ⟨n, 1, none⟩ = some d ∧ W.cell? ⟨n, 2, none⟩ = some y := ⟨h.box.facts.2.1, h.box.facts.2.2.1, h.box.facts.2.2.2.1⟩
theorem Ow.f3set {a d y : Value} {al dl yl : List Int} {n : Nat} {w W : World} (h : Ow a d y al dl yl n w W) (cs : Array Value) : (W.setRow (n + 1) cs).cell? ⟨n, 0, none⟩ = some a ∧ (W.setRow (n + 1) cs).cell? ⟨n, 1, none⟩ = some d ∧ (W.setRow (n + 1) cs).cell? ⟨n, 2, none⟩ = some y := by
  have hb : DAt a d y n (W.setRow (n + 1) cs) := (setRow_other _ _ _ _ (by omega)).trans h.box
  exact ⟨hb.facts.2.1, hb.facts.2.2.1, hb.facts.2.2.2.1⟩
theorem Ow.ra {a d y : Value} {al dl yl : List Int} {n : Nat} {w W : World} (h : Ow a d y al dl yl n w W) : ReadsI W a al := h.here.1.below h.below
theorem Ow.rd {a d y : Value} {al dl yl : List Int} {n : Nat} {w W : World} (h : Ow a d y al dl yl n w W) : ReadsI W d dl := h.here.2.1.below h.below
theorem Ow.ry {a d y : Value} {al dl yl : List Int} {n : Nat} {w W : World} (h : Ow a d y al dl yl n w W) : ReadsI W y yl := h.here.2.2.below h.below
theorem reads_row {W : World} {n g : Nat} {v : Value} {zs : List Int} {cs : Array Value} (h : ReadsN n W v zs) (hg : g < n) (m : Nat) (hm : m ≤ n) : ReadsN m (W.setRow g cs) v zs := by
  refine ⟨?_, fun k hk => by have := h.2 k hk; omega⟩
  rcases h.1 with h0 | ⟨b, off, c, e, h2, h3, h4, h5⟩
  · exact .inl h0
  · subst e
    have hbn := h.2 b rfl
    refine .inr ⟨b, off, c, rfl, h2, h3, by simpa using h4, fun j hj => ?_⟩
    rw [← h5 j hj]
    exact World.cell?_of_block (setRow_other _ _ _ _ (by show b ≠ g; omega))
theorem Ow.done {a d y : Value} {al dl yl : List Int} {n : Nat} {w W : World} (h : Ow a d y al dl yl n w W) {a2 d2 y2 : Value} {al2 dl2 yl2 : List Int} (hd : DepsN (n + 2) W a2 d2 y2 al2 dl2 yl2) :
    DepsOk w al2 dl2 yl2 (.returned (.agg #[a2, d2, y2])) (W.setRow (n + 1) #[a2, d2, y2]) ∧ DAt a2 d2 y2 (n + 1) (W.setRow (n + 1) #[a2, d2, y2]) :=
  ⟨⟨a2, d2, y2, rfl, ⟨reads_row hd.1 (by omega) _ (by have := h.low; omega), reads_row hd.2.1 (by omega) _ (by have := h.low; omega), reads_row hd.2.2 (by omega) _ (by have := h.low; omega)⟩, h.below.trans (below_setRow.mono (by have := h.low; omega))⟩, setRow_heap _ _ _ _ _ _ h.res⟩
theorem Ow.start (a d y : Value) (al dl yl : List Int) (w : World) (ha : ReadsI w a al) (hd : ReadsI w d dl) (hy : ReadsI w y yl) : Ow a d y al dl yl w.heap.size w ((w.alloc (.cells #[a, d, y] 46)).alloc (.cells #[.slice none 0 0, .slice none 0 0, .slice none 0 0] 46)) := by
  refine ⟨(DAt.new a d y w).alloc _, ?_, two_below _ _ _, ⟨ha, hd, hy⟩, Nat.le_refl _⟩
  have := DAt.new (.slice none 0 0) (.slice none 0 0) (.slice none 0 0) (w.alloc (.cells #[a, d, y] 46))
  simp only [World.size_alloc] at this
  exact this
theorem Ow.lt {a d y : Value} {al dl yl : List Int} {n : Nat} {w W : World} (h : Ow a d y al dl yl n w W) : n + 2 ≤ W.heap.size := h.res.lt
set_option maxRecDepth 100000 in
set_option maxHeartbeats 4000000 in
theorem ownDeps_any (a d y : Value) (al dl yl : List Int) (w : World) (ha : ReadsI w a al) (hd : ReadsI w d dl) (hy : ReadsI w y yl) (na : al.length ≤ 100000) (nd : dl.length ≤ 100000) (ny : yl.length ≤ 100000) :
    Calls Tryz.prog 80 #[.agg #[a, d, y]] w fun e w' => DepsOk w al dl yl e w' := by
  have S0 := Lib.hid (Ow.start a d y al dl yl w ha hd hy)
  clear ha hd hy
  go_enter Tryz.func80, Tryz.ntmps80
  go_upto_region 1 with fail
  obtain ⟨W, hW⟩ : ∃ W, Hid ((w.alloc (.cells #[a, d, y] 46)).alloc (.cells #[.slice none 0 0, .slice none 0 0, .slice none 0 0] 46) = W) := ⟨_, Lib.hid rfl⟩
  rw [hW.out] at S0 ⊢
  clear hW
  obtain ⟨f0, f1, f2⟩ := S0.out.f3
  go_region_held3 (fun w' => w'.cell? ⟨w.heap.size, 0, none⟩ = some a ∧ w'.cell? ⟨w.heap.size, 1, none⟩ = some d ∧ w'.cell? ⟨w.heap.size, 2, none⟩ = some y)
    (first | exact S0.out.drew.f3 | exact S3.out.f3set _ | exact S3.out.f3 | exact S2.out.f3 | exact S1.out.f3)
    ((first
      | (go_at_call 33; (with_reducible refine (own_any a al _ S0.out.drew.ra na).mono ?_); rintro e w1 ⟨v1, rfl, h1, hb⟩; obtain ⟨a1, c1, rfl⟩ := h1.1.len; have V1 := Lib.hid (h1.mono S0.out.drew.lt); have S1 := Lib.hid (S0.out.drew.on hb); clear h1 hb)
      | (go_at_call 33; (with_reducible refine (own_any d dl _ S1.out.rd nd).mono ?_); rintro e w2 ⟨v2, rfl, h2, hb⟩; obtain ⟨a2, c2, rfl⟩ := h2.1.len; have V2 := Lib.hid (h2.mono S1.out.lt); have S2 := Lib.hid (S1.out.on hb); have V12 := Lib.hid (V1.out.on hb); clear h2 hb)
      | (go_at_call 33; (with_reducible refine (own_any y yl _ S2.out.ry ny).mono ?_); rintro e w3 ⟨v3, rfl, h3, hb⟩; obtain ⟨a3, c3, rfl⟩ := h3.1.len; have V3 := Lib.hid (h3.mono S2.out.lt); have S3 := Lib.hid (S2.out.on hb); have V13 := Lib.hid (V12.out.on hb); have V23 := Lib.hid (V2.out.on hb); clear h3 hb; have run1 := run_StoreD S3.out.res V13.out.one V23.out.one V3.out.one)))
  have hst := Lib.hid (S3.out.done ⟨V13.out, V23.out, V3.out⟩)
  go_wp2
  exact bodyPost_ret (deps_end rfl rfl hst.out.2) rfl hst.out.1
/-- the box of the set, ahead of the boxes of the deps -/
def FAt (F : Nat) (n : Nat) (w : World) : Prop := w.heap[n]? = some (.cells #[.int .u16 (F : Int)] 114 (0, 0))
theorem FAt.cell {F n : Nat} {w : World} (h : FAt F n w) : w.cell? ⟨n, 0, none⟩ = some (.int .u16 (F : Int)) := by rw [cell_of_row w n _ _ _ _ h]; rfl
theorem FAt.on {F n : Nat} {w w' : World} (h : FAt F n w) (hb : Below w.heap.size w w') : FAt F n w' := (hb.block n (Array.getElem?_eq_some_iff.1 h).1).trans h
theorem Ow.start1 (F : Nat) (a d y : Value) (al dl yl : List Int) (w : World) (ha : ReadsI w a al) (hd : ReadsI w d dl) (hy : ReadsI w y yl) :
    Ow a d y al dl yl (w.heap.size + 1) w (((w.alloc (.cells #[.int .u16 (F : Int)] 114)).alloc (.cells #[a, d, y] 46)).alloc (.cells #[.slice none 0 0, .slice none 0 0, .slice none 0 0] 46)) ∧
    FAt F w.heap.size (((w.alloc (.cells #[.int .u16 (F : Int)] 114)).alloc (.cells #[a, d, y] 46)).alloc (.cells #[.slice none 0 0, .slice none 0 0, .slice none 0 0] 46)) := by
  have h0 : FAt F w.heap.size (w.alloc (.cells #[.int .u16 (F : Int)] 114)) := Array.getElem?_push_size
  have h1 := Ow.start a d y al dl yl (w.alloc (.cells #[.int .u16 (F : Int)] 114)) (ha.alloc _) (hd.alloc _) (hy.alloc _)
  simp only [World.size_alloc] at h1
  exact ⟨⟨h1.box, h1.res, (box_below w _).trans (h1.below.mono (by simp)), ⟨ha, hd, hy⟩, by omega⟩, h0.on (two_below _ _ _)⟩
end Go.Proofs.YtgkiaeddlahngaaGreatDoor
