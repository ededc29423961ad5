/-
  Proved here: a few small facts that many texts want: maps of words, a look-up among skipped operations, a block just made, cells in a row. No condition.
  (With it: Proved here: the document's Reads, Writes, Memory of an event tell what event's do; nothing that was there is changed. No condition.)
-/
import Derived.Test.YtokhnjcbcpmmjaaGreatRf07Pure
import Derived.Test.YtokhnjcbcpmmjaaGreatCdNumber2
import Derived.Test.YtokhnjcbcpmmjaaGreatCdFresh
import Derived.Maps.OwnOps
import Derived.Maps.OwnSet
import Derived.Maps.RangeWalk
namespace Go.Proofs.YtokhnjcbcpmmjaaGreat
set_option linter.unusedVariables false
set_option linter.unusedSimpArgs false
open Go.RowKit
attribute [local go_sem ↓] fold_E fold_SE

theorem reads_kind (e : Ev) : readsE e = (decide (e.kind = 1) || (decide (e.kind = 3) || decide (e.kind = 5))) := by
  unfold readsE fieldsOf
  by_cases h1 : e.kind = 1
  · rw [if_pos h1, decide_eq_true h1]; rfl
  · rw [if_neg h1, decide_eq_false h1]
    by_cases h2 : e.kind = 2
    · rw [if_pos h2, decide_eq_false (show ¬ e.kind = 3 by omega), decide_eq_false (show ¬ e.kind = 5 by omega)]; rfl
    · rw [if_neg h2]
      by_cases h3 : e.kind = 3
      · rw [if_pos h3, decide_eq_true h3]; rfl
      · rw [if_neg h3, decide_eq_false h3]
        by_cases h4 : e.kind = 4
        · rw [if_pos h4, decide_eq_false (show ¬ e.kind = 5 by omega)]; rfl
        · rw [if_neg h4]
          by_cases h5 : e.kind = 5
          · rw [if_pos h5, decide_eq_true h5]; rfl
          · rw [if_neg h5, decide_eq_false h5]
            split <;> rfl
theorem writes_kind (e : Ev) : writesE e = (decide (e.kind = 2) || (decide (e.kind = 4) || decide (e.kind = 5))) := by
  unfold writesE fieldsOf
  by_cases h1 : e.kind = 1
  · rw [if_pos h1, decide_eq_false (show ¬ e.kind = 2 by omega), decide_eq_false (show ¬ e.kind = 4 by omega), decide_eq_false (show ¬ e.kind = 5 by omega)]; rfl
  · rw [if_neg h1]
    by_cases h2 : e.kind = 2
    · rw [if_pos h2, decide_eq_true h2]; rfl
    · rw [if_neg h2, decide_eq_false h2]
      by_cases h3 : e.kind = 3
      · rw [if_pos h3, decide_eq_false (show ¬ e.kind = 4 by omega), decide_eq_false (show ¬ e.kind = 5 by omega)]; rfl
      · rw [if_neg h3]
        by_cases h4 : e.kind = 4
        · rw [if_pos h4, decide_eq_true h4]; rfl
        · rw [if_neg h4, decide_eq_false h4]
          by_cases h5 : e.kind = 5
          · rw [if_pos h5, decide_eq_true h5]; rfl
          · rw [if_neg h5, decide_eq_false h5]
            split <;> rfl
theorem mem_kind (e : Ev) : memE e = (readsE e || writesE e) := by
  rw [reads_kind, writes_kind]
  unfold memE fieldsOf
  by_cases h1 : e.kind = 1
  · rw [if_pos h1, decide_eq_true h1]; rfl
  · rw [if_neg h1]
    by_cases h2 : e.kind = 2
    · rw [if_pos h2, decide_eq_true h2]; simp; decide
    · rw [if_neg h2]
      by_cases h3 : e.kind = 3
      · rw [if_pos h3, decide_eq_true h3]; simp; decide
      · rw [if_neg h3]
        by_cases h4 : e.kind = 4
        · rw [if_pos h4, decide_eq_true h4]; simp; decide
        · rw [if_neg h4]
          by_cases h5 : e.kind = 5
          · rw [if_pos h5, decide_eq_true h5]; simp; decide
          · rw [if_neg h5, decide_eq_false h1, decide_eq_false h2, decide_eq_false h3, decide_eq_false h4, decide_eq_false h5]
            split <;> rfl
set_option maxHeartbeats 2000000 in
theorem rReads_b (e : Ev) (r : Bool) (hr : readsE e = r) (w : World) : Calls Tryz.prog 60 #[e.V] w fun e' w' => AskIs w r e' w' := by
  have H0 := Lib.hid (EvAt.new e w)
  have HB := Lib.hid (box_below w (.cells #[.int .i64 e.hart, .int .i64 e.pos, .int .i64 e.kind, .int .u64 e.addr, .int .u64 e.load, .int .u64 e.store, .bool e.aq, .bool e.rl, .int .i64 e.pred, .int .i64 e.succ, .int .i64 e.pair, e.a, e.d, e.y] 60))
  have HR : Hid ((decide (e.kind = 1) || (decide (e.kind = 3) || decide (e.kind = 5))) = r) := Lib.hid (by rw [← reads_kind]; exact hr)
  obtain ⟨_, _, _, g2, _⟩ := H0.out.facts
  obtain ⟨k, hk⟩ : ∃ k, Hid (e.kind = k) := ⟨_, Lib.hid rfl⟩
  rw [hk.out] at HR
  have g3 : (w.alloc (.cells #[.int .i64 e.hart, .int .i64 e.pos, .int .i64 k, .int .u64 e.addr, .int .u64 e.load, .int .u64 e.store, .bool e.aq, .bool e.rl, .int .i64 e.pred, .int .i64 e.succ, .int .i64 e.pair, e.a, e.d, e.y] 60)).cell? ⟨w.heap.size, 2, none⟩ = some (.int .i64 k) := by rw [← hk.out]; exact g2
  rw [hk.out] at HB
  clear hr g2
  unfold Ev.V
  rw [hk.out]
  by_cases q1 : k = 1
  · have q1b : (k == 1) = true := by simpa using q1
    rw [decide_eq_true q1] at HR
    clear q1
    go_enter Tryz.func60, Tryz.ntmps60
    go_wp2
    go_ret
    exact ⟨by rw [← HR.out]; rfl, HB.out⟩
  have q1b : (k == 1) = false := by simpa using q1
  rw [decide_eq_false q1] at HR
  clear q1
  by_cases q3 : k = 3
  · have q3b : (k == 3) = true := by simpa using q3
    rw [decide_eq_true q3] at HR
    clear q3
    go_enter Tryz.func60, Tryz.ntmps60
    go_wp2
    go_ret
    exact ⟨by rw [← HR.out]; rfl, HB.out⟩
  have q3b : (k == 3) = false := by simpa using q3
  rw [decide_eq_false q3] at HR
  clear q3
  by_cases q5 : k = 5
  · have q5b : (k == 5) = true := by simpa using q5
    rw [decide_eq_true q5] at HR
    clear q5
    go_enter Tryz.func60, Tryz.ntmps60
    go_wp2
    go_ret
    exact ⟨by rw [← HR.out]; rfl, HB.out⟩
  have q5b : (k == 5) = false := by simpa using q5
  rw [decide_eq_false q5] at HR
  clear q5
  go_enter Tryz.func60, Tryz.ntmps60
  go_wp2
  go_ret
  exact ⟨by rw [← HR.out]; rfl, HB.out⟩
set_option maxHeartbeats 2000000 in
theorem rWrites_b (e : Ev) (r : Bool) (hr : writesE e = r) (w : World) : Calls Tryz.prog 46 #[e.V] w fun e' w' => AskIs w r e' w' := by
  have H0 := Lib.hid (EvAt.new e w)
  have HB := Lib.hid (box_below w (.cells #[.int .i64 e.hart, .int .i64 e.pos, .int .i64 e.kind, .int .u64 e.addr, .int .u64 e.load, .int .u64 e.store, .bool e.aq, .bool e.rl, .int .i64 e.pred, .int .i64 e.succ, .int .i64 e.pair, e.a, e.d, e.y] 60))
  have HR : Hid ((decide (e.kind = 2) || (decide (e.kind = 4) || decide (e.kind = 5))) = r) := Lib.hid (by rw [← writes_kind]; exact hr)
  obtain ⟨_, _, _, g2, _⟩ := H0.out.facts
  obtain ⟨k, hk⟩ : ∃ k, Hid (e.kind = k) := ⟨_, Lib.hid rfl⟩
  rw [hk.out] at HR
  have g3 : (w.alloc (.cells #[.int .i64 e.hart, .int .i64 e.pos, .int .i64 k, .int .u64 e.addr, .int .u64 e.load, .int .u64 e.store, .bool e.aq, .bool e.rl, .int .i64 e.pred, .int .i64 e.succ, .int .i64 e.pair, e.a, e.d, e.y] 60)).cell? ⟨w.heap.size, 2, none⟩ = some (.int .i64 k) := by rw [← hk.out]; exact g2
  rw [hk.out] at HB
  clear hr g2
  unfold Ev.V
  rw [hk.out]
  by_cases q2 : k = 2
  · have q2b : (k == 2) = true := by simpa using q2
    rw [decide_eq_true q2] at HR
    clear q2
    go_enter Tryz.func46, Tryz.ntmps46
    go_wp2
    go_ret
    exact ⟨by rw [← HR.out]; rfl, HB.out⟩
  have q2b : (k == 2) = false := by simpa using q2
  rw [decide_eq_false q2] at HR
  clear q2
  by_cases q4 : k = 4
  · have q4b : (k == 4) = true := by simpa using q4
    rw [decide_eq_true q4] at HR
    clear q4
    go_enter Tryz.func46, Tryz.ntmps46
    go_wp2
    go_ret
    exact ⟨by rw [← HR.out]; rfl, HB.out⟩
  have q4b : (k == 4) = false := by simpa using q4
  rw [decide_eq_false q4] at HR
  clear q4
  by_cases q5 : k = 5
  · have q5b : (k == 5) = true := by simpa using q5
    rw [decide_eq_true q5] at HR
    clear q5
    go_enter Tryz.func46, Tryz.ntmps46
    go_wp2
    go_ret
    exact ⟨by rw [← HR.out]; rfl, HB.out⟩
  have q5b : (k == 5) = false := by simpa using q5
  rw [decide_eq_false q5] at HR
  clear q5
  go_enter Tryz.func46, Tryz.ntmps46
  go_wp2
  go_ret
  exact ⟨by rw [← HR.out]; rfl, HB.out⟩
set_option maxHeartbeats 2000000 in
theorem rMemory_b (e : Ev) (r : Bool) (hr : memE e = r) (w : World) : Calls Tryz.prog 33 #[e.V] w fun e' w' => AskIs w r e' w' := by
  have H0 := Lib.hid (EvAt.new e w)
  have HB := Lib.hid (box_below w (.cells #[.int .i64 e.hart, .int .i64 e.pos, .int .i64 e.kind, .int .u64 e.addr, .int .u64 e.load, .int .u64 e.store, .bool e.aq, .bool e.rl, .int .i64 e.pred, .int .i64 e.succ, .int .i64 e.pair, e.a, e.d, e.y] 60))
  have HR : Hid ((readsE e || writesE e) = r) := Lib.hid (by rw [← mem_kind]; exact hr)
  obtain ⟨r1, h1⟩ : ∃ r1, Hid (readsE e = r1) := ⟨_, Lib.hid rfl⟩
  obtain ⟨r2, h2⟩ : ∃ r2, Hid (writesE e = r2) := ⟨_, Lib.hid rfl⟩
  have K1 := Lib.hid (fun w0 => rReads_b e r1 h1.out w0)
  have K2 := Lib.hid (fun w0 => rWrites_b e r2 h2.out w0)
  rw [h1.out, h2.out] at HR
  clear hr h1 h2
  have cl := run_LoadE H0.out
  cases r1 with
  | true =>
    go_enter Tryz.func33, Tryz.ntmps33
    go_wp2_with (go_at_call 60; (with_reducible refine (K1.out _).mono ?_); rintro e' w1 ⟨rfl, hb⟩; have B1 := Lib.hid (HB.out.trans (hb.mono HB.out.size)); clear hb)
    go_ret
    exact ⟨by rw [← HR.out]; rfl, B1.out⟩
  | false =>
    go_enter Tryz.func33, Tryz.ntmps33
    go_wp2_with (first
      | (go_at_call 60; (with_reducible refine (K1.out _).mono ?_); rintro e' w1 ⟨rfl, hb⟩; have B1 := Lib.hid (HB.out.trans (hb.mono HB.out.size)); have cl1 := run_LoadE (H0.out.on hb); clear hb cl)
      | (go_at_call 46; (with_reducible refine (K2.out _).mono ?_); rintro e' w2 ⟨rfl, hb⟩; have B2 := Lib.hid (B1.out.trans (hb.mono B1.out.size)); clear hb))
    go_ret
    exact ⟨by rw [← HR.out]; rfl, B2.out⟩
end Go.Proofs.YtokhnjcbcpmmjaaGreat
namespace Go.Proofs.YtokhnjcbcpmmjaaGreat
set_option linter.unusedVariables false
set_option linter.unusedSimpArgs false
open Go.RowKit Go.Maps
attribute [local go_sem ↓] fold_E fold_SE

theorem law_u64 : Keyed Tryz.prog 27 := int_keyed Tryz.underlying27
theorem zero_u64 (w : World) : (zeroValue 27).run Tryz.prog w = .ok (.int .u64 0) w := by kernel_rfl
theorem push_old (w : World) (o : Obj) (n : Nat) (x : Obj) (h : w.heap[n]? = some x) : (w.alloc o).heap[n]? = some x := (Below.heap_alloc w o n (Array.getElem?_eq_some_iff.1 h).1).trans h
theorem push_new (w : World) (o : Obj) (n : Nat) (hn : w.heap.size = n) : (w.alloc o).heap[n]? = some o := by subst hn; exact Array.getElem?_push_size
theorem store_cand {ops : Array Oper} {rest : List Oper} {o : Oper} {a : Act} {w : World} {Q : Exit → Act → World → Prop} {n : Nat} {cs0 : Array Value} (H : w.heap[n]? = some (.cells cs0 26 (0, 0))) (hcs : cs0.size = 4) (a0 a1 a2 a3 : Option Addr) (n0 n1 n2 n3 c0 c1 c2 c3 : Nat) (hgd : o.guard = none) (x y : Operand) (ho : o.op = .store 26 x y)
    (hx : a.eval x = .pointer (some ⟨n, 0, none⟩)) (hy : a.eval y = .agg #[.slice a0 n0 c0, .slice a1 n1 c1, .slice a2 n2 c2, .slice a3 n3 c3])
    (k : ∀ w1, w1.heap[n]? = some (.cells #[.slice a0 n0 c0, .slice a1 n1 c1, .slice a2 n2 c2, .slice a3 n3 c3] 26 (0, 0)) → (∀ j, j ≠ n → w1.heap[j]? = w.heap[j]?) → Below n w w1 → w1.heap.size = w.heap.size → wpList Tryz.prog ops Q rest (a.put o.dst undef) w1) : wpList Tryz.prog ops Q (o :: rest) a w := by
  refine wpList_store_row hgd _ x y ho n #[.slice a0 n0 c0, .slice a1 n1 c1, .slice a2 n2 c2, .slice a3 n3 c3] hx hy _ _ H (by as_aux_lemma => kernel_rfl) (by rw [hcs]; rfl) (by simp [Value.oneCell']) (k _ ?_ ?_ ?_ (by simp))
  · exact setRow_heap w n _ _ _ _ H
  · exact fun j hj => setRow_other w n j _ hj
  · exact (Below.refl _ _).trans ⟨rfl, rfl, rfl, by simp, fun j hj => setRow_other _ _ _ _ (by omega)⟩
def encC (x : Int × Int) : List Value := [.int .u64 x.1, .int .u64 x.2]
def flatC (l : List (Int × Int)) : List Value := l.flatMap encC
theorem flatC_len (l : List (Int × Int)) : (flatC l).length = l.length * 2 := by
  induction l with
  | nil => rfl
  | cons e es ih => unfold flatC at *; rw [List.flatMap_cons, List.length_append, ih]; simp [encC]; omega
theorem flatC_at : ∀ (l : List (Int × Int)) (j i : Nat), j < l.length → i < 2 → (flatC l)[j * 2 + i]? = some (if i = 0 then .int .u64 (fA l j) else .int .u64 (fV l j))
  | [], j, i, h, _ => by simp at h
  | p :: r, 0, i, _, hi => by
    unfold flatC
    rw [List.flatMap_cons, List.getElem?_append_left (by simp [encC]; omega)]
    rcases i with _ | _ | i
    · simp [encC, fA]
    · simp [encC, fV]
    · omega
  | p :: r, j + 1, i, hj, hi => by
    have ih := flatC_at r j i (by simpa using hj) hi
    unfold flatC at ih ⊢
    rw [List.flatMap_cons, List.getElem?_append_right (by simp [encC]; omega), show (j + 1) * 2 + i - (encC p).length = j * 2 + i by simp [encC]; omega, ih]
    simp [fA, fV]
theorem infoCell : (Tryz.prog.info? 43).map (fun i => (i.zero, i.size, i.bytes)) = some (some (.agg #[.int .u64 0, .int .u64 0]), 2, 16) := by kernel_rfl
theorem Lw.lt {c : Cd} (h : Lw c) (he : ∀ h, h < c.nh → ∀ k, k < c.len h → WordE (c.ev h k)) (hf : ∀ j, j < c.fs.length → (0 ≤ fA c.fs j ∧ fA c.fs j < 18446744073709551616) ∧ (0 ≤ fV c.fs j ∧ fV c.fs j < 18446744073709551616)) : Lt c :=
  ⟨he, h.nh, h.n, h.small, h.fs, h.fr, h.od, hf⟩
end Go.Proofs.YtokhnjcbcpmmjaaGreat
