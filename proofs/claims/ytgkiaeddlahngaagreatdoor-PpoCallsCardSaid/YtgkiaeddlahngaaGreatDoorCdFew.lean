/-
  Proved here: a few small facts that many texts want: maps of words, a look-up among skipped operations, a block just made, cells in a row. No condition.
  (With it: Proved here: the document's Reads, Writes, Memory of an event tell what event's do; nothing that was there is changed. No condition.)
  (With it: Proved here: cand's All answers all events by number, their lists in new memory; nothing that was there is changed. Condition: a light candidate that may be.)
-/
import Derived.Test.YtgkiaeddlahngaaGreatDoorCdLook
import Derived.Deep.RegionLaw
import Derived.Test.YtgkiaeddlahngaaGreatDoorCdPlain
import Derived.Test.YtgkiaeddlahngaaGreatDoorCdNumber
import Derived.Maps.OwnOps
import Derived.Maps.OwnSet
import Derived.Maps.RangeWalk
namespace Go.Proofs.YtgkiaeddlahngaaGreatDoor
set_option linter.unusedVariables false
set_option linter.unusedSimpArgs false
open Go.RowKit
attribute [local go_sem ↓] fold_E fold_SE

theorem small_at {c : Cd} (h : Lt c) (n : Nat) (hn : n < c.N) : small (c.at n).2 := by
  obtain ⟨k, j, hk, hj, rfl⟩ := num_of c.len c.nh n hn
  rw [c.at_is k j hk hj]
  exact (h.small k hk).2 j hj
/-- the events: those of es have lists of their own, the others are as they were -/
structure Fr (c : Cd) (es : List Ev) (g : Nat) (w W : World) : Prop where
  blk : W.heap[g]? = some (.cells (flat (es ++ ((allP c c.nh).map (·.1)).drop es.length)).toArray 48 (0, 0))
  cp : Cp (fun n => (c.at n).1) (fun n => (c.at n).2) es W
  new : w.heap.size ≤ g
  below : Below w.heap.size w W
  old : ∀ n, n < c.N → EReads w (c.at n).1 (c.at n).2
theorem Fr.reads {c : Cd} {es : List Ev} {g : Nat} {w W : World} (h : Fr c es g w W) (n : Nat) (hn : n < c.N) : EReads W (c.at n).1 (c.at n).2 := (h.old n hn).below h.below
theorem Fr.lt {c : Cd} {es : List Ev} {g : Nat} {w W : World} (h : Fr c es g w W) : g < W.heap.size := (Array.getElem?_eq_some_iff.1 h.blk).1
theorem Fr.on {c : Cd} {es : List Ev} {g : Nat} {w W W2 : World} (h : Fr c es g w W) (hb : Below W.heap.size W W2) : Fr c es g w W2 := ⟨(hb.block g h.lt).trans h.blk, h.cp.on hb, h.new, h.below.trans (hb.mono h.below.size), h.old⟩
theorem Fr.three {c : Cd} {es : List Ev} {g : Nat} {w W : World} (h : Fr c es g w W) (k : Nat) (hk : es.length = k) (hn : k < c.N) : W.cell? ⟨g, k * 14 + 11, none⟩ = some (c.at k).1.a ∧ W.cell? ⟨g, k * 14 + 12, none⟩ = some (c.at k).1.d ∧ W.cell? ⟨g, k * 14 + 13, none⟩ = some (c.at k).1.y := by
  have he : (es ++ ((allP c c.nh).map (·.1)).drop es.length)[k]? = some (c.at k).1 := by
    rw [List.getElem?_append_right (by omega), hk, List.getElem?_drop, Nat.sub_self, Nat.add_zero, List.getElem?_map, c.at_mem k hn]; rfl
  refine ⟨?_, ?_, ?_⟩
  · rw [cell_of_row W g _ _ _ _ h.blk]; simpa using flat_at _ k 11 _ (c.at k).1.a he rfl
  · rw [cell_of_row W g _ _ _ _ h.blk]; simpa using flat_at _ k 12 _ (c.at k).1.d he rfl
  · rw [cell_of_row W g _ _ _ _ h.blk]; simpa using flat_at _ k 13 _ (c.at k).1.y he rfl
theorem Cp.store {ev : Nat → Ev} {el : Nat → El} {es : List Ev} {w : World} (h : Cp ev el es w) {g i : Nat} {u : Value} (hg : IsRow g w) : Cp ev el es (w.setCell ⟨g, i, none⟩ u) :=
  ⟨h.like, fun j e hj => ereads_store (h.reads j e hj) (h.typed j e hj) hg, fun j e hj => ⟨typed_store (h.typed j e hj).1 hg, typed_store (h.typed j e hj).2.1 hg, typed_store (h.typed j e hj).2.2 hg⟩⟩
theorem flat_put (es rest : List Ev) (e : Ev) (va vd vy : Value) : (((flat (es ++ e :: rest)).set (es.length * 14 + 11) va).set (es.length * 14 + 12) vd).set (es.length * 14 + 13) vy = flat ((es ++ [e.lists va vd vy]) ++ rest) := by
  have hl := flat_len es
  have h1 : flat (es ++ e :: rest) = flat es ++ (e.row ++ flat rest) := by rw [flat_app]; rfl
  have h2 : flat ((es ++ [e.lists va vd vy]) ++ rest) = flat es ++ ((e.lists va vd vy).row ++ flat rest) := by rw [List.append_assoc, flat_app]; rfl
  rw [h1, h2, List.set_append, if_neg (by omega), List.set_append, if_neg (by omega), List.set_append, if_neg (by omega), hl]
  congr 1
  rw [show es.length * 14 + 11 - es.length * 14 = 11 by omega, show es.length * 14 + 12 - es.length * 14 = 12 by omega, show es.length * 14 + 13 - es.length * 14 = 13 by omega]
  simp [Ev.row, Ev.lists]
theorem Fr.put {c : Cd} {es : List Ev} {g : Nat} {w W : World} (h : Fr c es g w W) (k : Nat) (hk : es.length = k) (hn : k < c.N) (va vd vy : Value) (hr : EReads W ((c.at k).1.lists va vd vy) (c.at k).2) (ht : TypedD W va vd vy) :
    Fr c (es ++ [(c.at k).1.lists va vd vy]) g w (((W.setCell ⟨g, k * 14 + 11, none⟩ va).setCell ⟨g, k * 14 + 12, none⟩ vd).setCell ⟨g, k * 14 + 13, none⟩ vy) := by
  have hd : ((allP c c.nh).map (·.1)).drop es.length = (c.at k).1 :: ((allP c c.nh).map (·.1)).drop (es.length + 1) := by
    have he : ((allP c c.nh).map (·.1))[es.length]? = some (c.at k).1 := by rw [hk, List.getElem?_map, c.at_mem k hn]; rfl
    have hlt := (List.getElem?_eq_some_iff.1 he).1
    rw [List.drop_eq_getElem_cons hlt, (List.getElem?_eq_some_iff.1 he).2]
  have hb0 := h.blk
  rw [hd] at hb0
  have i0 : IsRow g W := ⟨_, hb0⟩
  have i1 : IsRow g (W.setCell ⟨g, k * 14 + 11, none⟩ va) := i0.set _ _ _
  have i2 : IsRow g ((W.setCell ⟨g, k * 14 + 11, none⟩ va).setCell ⟨g, k * 14 + 12, none⟩ vd) := i1.set _ _ _
  have hcp := ((h.cp.add k hk hr ht).store (i := k * 14 + 11) (u := va) i0).store (i := k * 14 + 12) (u := vd) i1
  refine ⟨?_, hcp.store i2, h.new, ((h.below.setCell (p := ⟨g, _, none⟩) h.new _).setCell (p := ⟨g, _, none⟩) h.new _).setCell (p := ⟨g, _, none⟩) h.new _, h.old⟩
  have s1 := set_at _ _ (k * 14 + 11) va _ _ _ hb0
  have s2 := set_at _ _ (k * 14 + 12) vd _ _ _ s1
  have s3 := set_at _ _ (k * 14 + 13) vy _ _ _ s2
  rw [s3]
  simp only [List.setIfInBounds_toArray]
  subst hk
  rw [flat_put, List.length_append]
  rfl
def AllIs (c : Cd) (w : World) (e : Ending) (w' : World) : Prop := ∃ g es, e = .returned (.slice (some ⟨g, 0, none⟩) c.N c.N) ∧ es.length = c.N ∧ w.heap.size ≤ g ∧ w'.heap[g]? = some (.cells (flat es).toArray 48 (0, 0)) ∧ Cp (fun n => (c.at n).1) (fun n => (c.at n).2) es w' ∧ Below w.heap.size w w'
end Go.Proofs.YtgkiaeddlahngaaGreatDoor
namespace Go.Proofs.YtgkiaeddlahngaaGreatDoor
set_option linter.unusedVariables false
set_option linter.unusedSimpArgs false
open Go.RowKit
attribute [local go_sem ↓] fold_E fold_SE

theorem reads_kind (e : Ev) : readsE e = (decide (e.kind = 1) || (decide (e.kind = 3) || decide (e.kind = 5))) := by
  unfold readsE fieldsOf
  by_cases h1 : e.kind = 1
  · rw [if_pos h1, decide_eq_true h1]; rfl
  · rw [if_neg h1, decide_eq_false h1]
    by_cases h2 : e.kind = 2
    · rw [if_pos h2, decide_eq_false (show ¬ e.kind = 3 by omega), decide_eq_false (show ¬ e.kind = 5 by omega)]; rfl
    · rw [if_neg h2]
      by_cases h3 : e.kind = 3
      · rw [if_pos h3, decide_eq_true h3]; rfl
      · rw [if_neg h3, decide_eq_false h3]
        by_cases h4 : e.kind = 4
        · rw [if_pos h4, decide_eq_false (show ¬ e.kind = 5 by omega)]; rfl
        · rw [if_neg h4]
          by_cases h5 : e.kind = 5
          · rw [if_pos h5, decide_eq_true h5]; rfl
          · rw [if_neg h5, decide_eq_false h5]
            split <;> rfl
theorem writes_kind (e : Ev) : writesE e = (decide (e.kind = 2) || (decide (e.kind = 4) || decide (e.kind = 5))) := by
  unfold writesE fieldsOf
  by_cases h1 : e.kind = 1
  · rw [if_pos h1, decide_eq_false (show ¬ e.kind = 2 by omega), decide_eq_false (show ¬ e.kind = 4 by omega), decide_eq_false (show ¬ e.kind = 5 by omega)]; rfl
  · rw [if_neg h1]
    by_cases h2 : e.kind = 2
    · rw [if_pos h2, decide_eq_true h2]; rfl
    · rw [if_neg h2, decide_eq_false h2]
      by_cases h3 : e.kind = 3
      · rw [if_pos h3, decide_eq_false (show ¬ e.kind = 4 by omega), decide_eq_false (show ¬ e.kind = 5 by omega)]; rfl
      · rw [if_neg h3]
        by_cases h4 : e.kind = 4
        · rw [if_pos h4, decide_eq_true h4]; rfl
        · rw [if_neg h4, decide_eq_false h4]
          by_cases h5 : e.kind = 5
          · rw [if_pos h5, decide_eq_true h5]; rfl
          · rw [if_neg h5, decide_eq_false h5]
            split <;> rfl
theorem mem_kind (e : Ev) : memE e = (readsE e || writesE e) := by
  rw [reads_kind, writes_kind]
  unfold memE fieldsOf
  by_cases h1 : e.kind = 1
  · rw [if_pos h1, decide_eq_true h1]; rfl
  · rw [if_neg h1]
    by_cases h2 : e.kind = 2
    · rw [if_pos h2, decide_eq_true h2]; simp; decide
    · rw [if_neg h2]
      by_cases h3 : e.kind = 3
      · rw [if_pos h3, decide_eq_true h3]; simp; decide
      · rw [if_neg h3]
        by_cases h4 : e.kind = 4
        · rw [if_pos h4, decide_eq_true h4]; simp; decide
        · rw [if_neg h4]
          by_cases h5 : e.kind = 5
          · rw [if_pos h5, decide_eq_true h5]; simp; decide
          · rw [if_neg h5, decide_eq_false h1, decide_eq_false h2, decide_eq_false h3, decide_eq_false h4, decide_eq_false h5]
            split <;> rfl
set_option maxHeartbeats 2000000 in
theorem rReads_b (e : Ev) (r : Bool) (hr : readsE e = r) (w : World) : Calls Tryz.prog 46 #[e.V] w fun e' w' => AskIs w r e' w' := by
  have H0 := Lib.hid (EvAt.new e w)
  have HB := Lib.hid (box_below w (.cells #[.int .i64 e.hart, .int .i64 e.pos, .int .i64 e.kind, .int .u64 e.addr, .int .u64 e.load, .int .u64 e.store, .bool e.aq, .bool e.rl, .int .i64 e.pred, .int .i64 e.succ, .int .i64 e.pair, e.a, e.d, e.y] 48))
  have HR : Hid ((decide (e.kind = 1) || (decide (e.kind = 3) || decide (e.kind = 5))) = r) := Lib.hid (by rw [← reads_kind]; exact hr)
  obtain ⟨_, _, _, g2, _⟩ := H0.out.facts
  obtain ⟨k, hk⟩ : ∃ k, Hid (e.kind = k) := ⟨_, Lib.hid rfl⟩
  rw [hk.out] at HR
  have g3 : (w.alloc (.cells #[.int .i64 e.hart, .int .i64 e.pos, .int .i64 k, .int .u64 e.addr, .int .u64 e.load, .int .u64 e.store, .bool e.aq, .bool e.rl, .int .i64 e.pred, .int .i64 e.succ, .int .i64 e.pair, e.a, e.d, e.y] 48)).cell? ⟨w.heap.size, 2, none⟩ = some (.int .i64 k) := by rw [← hk.out]; exact g2
  rw [hk.out] at HB
  clear hr g2
  unfold Ev.V
  rw [hk.out]
  by_cases q1 : k = 1
  · have q1b : (k == 1) = true := by simpa using q1
    rw [decide_eq_true q1] at HR
    clear q1
    go_enter Tryz.func46, Tryz.ntmps46
    go_wp2
    go_ret
    exact ⟨by rw [← HR.out]; rfl, HB.out⟩
  have q1b : (k == 1) = false := by simpa using q1
  rw [decide_eq_false q1] at HR
  clear q1
  by_cases q3 : k = 3
  · have q3b : (k == 3) = true := by simpa using q3
    rw [decide_eq_true q3] at HR
    clear q3
    go_enter Tryz.func46, Tryz.ntmps46
    go_wp2
    go_ret
    exact ⟨by rw [← HR.out]; rfl, HB.out⟩
  have q3b : (k == 3) = false := by simpa using q3
  rw [decide_eq_false q3] at HR
  clear q3
  by_cases q5 : k = 5
  · have q5b : (k == 5) = true := by simpa using q5
    rw [decide_eq_true q5] at HR
    clear q5
    go_enter Tryz.func46, Tryz.ntmps46
    go_wp2
    go_ret
    exact ⟨by rw [← HR.out]; rfl, HB.out⟩
  have q5b : (k == 5) = false := by simpa using q5
  rw [decide_eq_false q5] at HR
  clear q5
  go_enter Tryz.func46, Tryz.ntmps46
  go_wp2
  go_ret
  exact ⟨by rw [← HR.out]; rfl, HB.out⟩
set_option maxHeartbeats 2000000 in
theorem rWrites_b (e : Ev) (r : Bool) (hr : writesE e = r) (w : World) : Calls Tryz.prog 47 #[e.V] w fun e' w' => AskIs w r e' w' := by
  have H0 := Lib.hid (EvAt.new e w)
  have HB := Lib.hid (box_below w (.cells #[.int .i64 e.hart, .int .i64 e.pos, .int .i64 e.kind, .int .u64 e.addr, .int .u64 e.load, .int .u64 e.store, .bool e.aq, .bool e.rl, .int .i64 e.pred, .int .i64 e.succ, .int .i64 e.pair, e.a, e.d, e.y] 48))
  have HR : Hid ((decide (e.kind = 2) || (decide (e.kind = 4) || decide (e.kind = 5))) = r) := Lib.hid (by rw [← writes_kind]; exact hr)
  obtain ⟨_, _, _, g2, _⟩ := H0.out.facts
  obtain ⟨k, hk⟩ : ∃ k, Hid (e.kind = k) := ⟨_, Lib.hid rfl⟩
  rw [hk.out] at HR
  have g3 : (w.alloc (.cells #[.int .i64 e.hart, .int .i64 e.pos, .int .i64 k, .int .u64 e.addr, .int .u64 e.load, .int .u64 e.store, .bool e.aq, .bool e.rl, .int .i64 e.pred, .int .i64 e.succ, .int .i64 e.pair, e.a, e.d, e.y] 48)).cell? ⟨w.heap.size, 2, none⟩ = some (.int .i64 k) := by rw [← hk.out]; exact g2
  rw [hk.out] at HB
  clear hr g2
  unfold Ev.V
  rw [hk.out]
  by_cases q2 : k = 2
  · have q2b : (k == 2) = true := by simpa using q2
    rw [decide_eq_true q2] at HR
    clear q2
    go_enter Tryz.func47, Tryz.ntmps47
    go_wp2
    go_ret
    exact ⟨by rw [← HR.out]; rfl, HB.out⟩
  have q2b : (k == 2) = false := by simpa using q2
  rw [decide_eq_false q2] at HR
  clear q2
  by_cases q4 : k = 4
  · have q4b : (k == 4) = true := by simpa using q4
    rw [decide_eq_true q4] at HR
    clear q4
    go_enter Tryz.func47, Tryz.ntmps47
    go_wp2
    go_ret
    exact ⟨by rw [← HR.out]; rfl, HB.out⟩
  have q4b : (k == 4) = false := by simpa using q4
  rw [decide_eq_false q4] at HR
  clear q4
  by_cases q5 : k = 5
  · have q5b : (k == 5) = true := by simpa using q5
    rw [decide_eq_true q5] at HR
    clear q5
    go_enter Tryz.func47, Tryz.ntmps47
    go_wp2
    go_ret
    exact ⟨by rw [← HR.out]; rfl, HB.out⟩
  have q5b : (k == 5) = false := by simpa using q5
  rw [decide_eq_false q5] at HR
  clear q5
  go_enter Tryz.func47, Tryz.ntmps47
  go_wp2
  go_ret
  exact ⟨by rw [← HR.out]; rfl, HB.out⟩
set_option maxHeartbeats 2000000 in
theorem rMemory_b (e : Ev) (r : Bool) (hr : memE e = r) (w : World) : Calls Tryz.prog 23 #[e.V] w fun e' w' => AskIs w r e' w' := by
  have H0 := Lib.hid (EvAt.new e w)
  have HB := Lib.hid (box_below w (.cells #[.int .i64 e.hart, .int .i64 e.pos, .int .i64 e.kind, .int .u64 e.addr, .int .u64 e.load, .int .u64 e.store, .bool e.aq, .bool e.rl, .int .i64 e.pred, .int .i64 e.succ, .int .i64 e.pair, e.a, e.d, e.y] 48))
  have HR : Hid ((readsE e || writesE e) = r) := Lib.hid (by rw [← mem_kind]; exact hr)
  obtain ⟨r1, h1⟩ : ∃ r1, Hid (readsE e = r1) := ⟨_, Lib.hid rfl⟩
  obtain ⟨r2, h2⟩ : ∃ r2, Hid (writesE e = r2) := ⟨_, Lib.hid rfl⟩
  have K1 := Lib.hid (fun w0 => rReads_b e r1 h1.out w0)
  have K2 := Lib.hid (fun w0 => rWrites_b e r2 h2.out w0)
  rw [h1.out, h2.out] at HR
  clear hr h1 h2
  have cl := run_LoadE H0.out
  cases r1 with
  | true =>
    go_enter Tryz.func23, Tryz.ntmps23
    go_wp2_with (go_at_call 46; (with_reducible refine (K1.out _).mono ?_); rintro e' w1 ⟨rfl, hb⟩; have B1 := Lib.hid (HB.out.trans (hb.mono HB.out.size)); clear hb)
    go_ret
    exact ⟨by rw [← HR.out]; rfl, B1.out⟩
  | false =>
    go_enter Tryz.func23, Tryz.ntmps23
    go_wp2_with (first
      | (go_at_call 46; (with_reducible refine (K1.out _).mono ?_); rintro e' w1 ⟨rfl, hb⟩; have B1 := Lib.hid (HB.out.trans (hb.mono HB.out.size)); have cl1 := run_LoadE (H0.out.on hb); clear hb cl)
      | (go_at_call 47; (with_reducible refine (K2.out _).mono ?_); rintro e' w2 ⟨rfl, hb⟩; have B2 := Lib.hid (B1.out.trans (hb.mono B1.out.size)); clear hb))
    go_ret
    exact ⟨by rw [← HR.out]; rfl, B2.out⟩
end Go.Proofs.YtgkiaeddlahngaaGreatDoor
namespace Go.Proofs.YtgkiaeddlahngaaGreatDoor
set_option linter.unusedVariables false
set_option linter.unusedSimpArgs false
open Go.RowKit Go.Maps
attribute [local go_sem ↓] fold_E fold_SE

theorem law_u64 : Keyed Tryz.prog 44 := int_keyed Tryz.underlying44
theorem zero_u64 (w : World) : (zeroValue 44).run Tryz.prog w = .ok (.int .u64 0) w := by kernel_rfl
theorem wpStill_lookup {P : Program} {ops : Array Oper} {w : World} {Q : Act → Prop} {a : Act} {o : Oper} {rest : List Oper} {t : TypeId} (m x : Operand) (mv xv v : Value) (hw : Region.wanted o (yielded ops a.tmps) = true) (ho : o.op = .lookup t m x false) (hm : a.eval m = mv) (hx : a.eval x = xv)
    (hr : (Instr.lookup t mv xv false).run P w = .ok v w) (k : wpStill P ops w Q rest (a.put o.dst v)) : wpStill P ops w Q (o :: rest) a := by
  refine wpStill_val v hw ?_ k
  unfold execOp
  rw [ho]
  simp only [hm, hx, Sem.run_bind, hr, Result.andThen_ok]
  rfl
theorem push_old (w : World) (o : Obj) (n : Nat) (x : Obj) (h : w.heap[n]? = some x) : (w.alloc o).heap[n]? = some x := (Below.heap_alloc w o n (Array.getElem?_eq_some_iff.1 h).1).trans h
theorem push_new (w : World) (o : Obj) (n : Nat) (hn : w.heap.size = n) : (w.alloc o).heap[n]? = some o := by subst hn; exact Array.getElem?_push_size
theorem store_cand {ops : Array Oper} {rest : List Oper} {o : Oper} {a : Act} {w : World} {Q : Exit → Act → World → Prop} {n : Nat} {cs0 : Array Value} (H : w.heap[n]? = some (.cells cs0 26 (0, 0))) (hcs : cs0.size = 4) (a0 a1 a2 a3 : Option Addr) (n0 n1 n2 n3 c0 c1 c2 c3 : Nat) (hgd : o.guard = none) (x y : Operand) (ho : o.op = .store 26 x y)
    (hx : a.eval x = .pointer (some ⟨n, 0, none⟩)) (hy : a.eval y = .agg #[.slice a0 n0 c0, .slice a1 n1 c1, .slice a2 n2 c2, .slice a3 n3 c3])
    (k : ∀ w1, w1.heap[n]? = some (.cells #[.slice a0 n0 c0, .slice a1 n1 c1, .slice a2 n2 c2, .slice a3 n3 c3] 26 (0, 0)) → (∀ j, j ≠ n → w1.heap[j]? = w.heap[j]?) → Below n w w1 → w1.heap.size = w.heap.size → wpList Tryz.prog ops Q rest (a.put o.dst undef) w1) : wpList Tryz.prog ops Q (o :: rest) a w := by
  refine wpList_store_row hgd _ x y ho n #[.slice a0 n0 c0, .slice a1 n1 c1, .slice a2 n2 c2, .slice a3 n3 c3] hx hy _ _ H (by as_aux_lemma => kernel_rfl) (by rw [hcs]; rfl) (by simp [Value.oneCell']) (k _ ?_ ?_ ?_ (by simp))
  · exact setRow_heap w n _ _ _ _ H
  · exact fun j hj => setRow_other w n j _ hj
  · exact (Below.refl _ _).trans ⟨rfl, rfl, rfl, by simp, fun j hj => setRow_other _ _ _ _ (by omega)⟩
theorem may_found {c : Cd} (h : c.may = true) : c.fr.length = c.N ∧ foundL c c.N = true := by
  rw [may_is] at h
  simp only [Bool.and_eq_true] at h
  have := h.2.2.2.2.2.1
  unfold foundB at this
  rw [Bool.and_eq_true, decide_eq_true_eq] at this
  exact this
def encC (x : Int × Int) : List Value := [.int .u64 x.1, .int .u64 x.2]
def flatC (l : List (Int × Int)) : List Value := l.flatMap encC
theorem flatC_len (l : List (Int × Int)) : (flatC l).length = l.length * 2 := by
  induction l with
  | nil => rfl
  | cons e es ih => unfold flatC at *; rw [List.flatMap_cons, List.length_append, ih]; simp [encC]; omega
theorem flatC_at : ∀ (l : List (Int × Int)) (j i : Nat), j < l.length → i < 2 → (flatC l)[j * 2 + i]? = some (if i = 0 then .int .u64 (fA l j) else .int .u64 (fV l j))
  | [], j, i, h, _ => by simp at h
  | p :: r, 0, i, _, hi => by
    unfold flatC
    rw [List.flatMap_cons, List.getElem?_append_left (by simp [encC]; omega)]
    rcases i with _ | _ | i
    · simp [encC, fA]
    · simp [encC, fV]
    · omega
  | p :: r, j + 1, i, hj, hi => by
    have ih := flatC_at r j i (by simpa using hj) hi
    unfold flatC at ih ⊢
    rw [List.flatMap_cons, List.getElem?_append_right (by simp [encC]; omega), show (j + 1) * 2 + i - (encC p).length = j * 2 + i by simp [encC]; omega, ih]
    simp [fA, fV]
theorem infoCell : (Tryz.prog.info? 59).map (fun i => (i.zero, i.size, i.bytes)) = some (some (.agg #[.int .u64 0, .int .u64 0]), 2, 16) := by kernel_rfl
theorem Lw.lt {c : Cd} (h : Lw c) (he : ∀ h, h < c.nh → ∀ k, k < c.len h → WordE (c.ev h k)) (hf : ∀ j, j < c.fs.length → (0 ≤ fA c.fs j ∧ fA c.fs j < 18446744073709551616) ∧ (0 ≤ fV c.fs j ∧ fV c.fs j < 18446744073709551616)) : Lt c :=
  ⟨he, h.nh, h.n, h.small, h.fs, h.fr, h.od, hf⟩
end Go.Proofs.YtgkiaeddlahngaaGreatDoor
