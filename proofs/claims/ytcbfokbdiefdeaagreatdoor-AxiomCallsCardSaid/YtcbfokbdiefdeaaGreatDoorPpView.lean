/-
  Proved here: what a view's small questions answer: writes, reads, memory, oneHart, oneAddr; nothing that was there is changed. Condition: numbers that there are. (With it: Words: what package ppo knows of each event of a candidate; its rules, as plain functions. No condition.) (With it: Proved here: a candidate that comes in as an argument is its cells, and reads as what they hold. No condition.)
  (With it: Proved here: a few small facts that many texts want: maps of words, a look-up among skipped operations, a block just made, cells in a row. No condition. (With it: Proved here: the document's Reads, Writes, Memory of an event tell what event's do; nothing that was there is changed. No condition.) (With it: Proved here: cand's All answers all events by number, their lists in new memory; nothing that was there is changed. Condition: a light candidate that may be.))
-/
import Derived.Test.YtcbfokbdiefdeaaGreatDoorCdNumber
import Derived.Deep.RegionLaw
import Derived.Test.YtcbfokbdiefdeaaGreatDoorRf07Pure
import Derived.Maps.OwnOps
import Derived.Maps.OwnSet
import Derived.Maps.RangeWalk
import Derived.Test.YtcbfokbdiefdeaaGreatDoorEvRowsArg
namespace Go.Proofs.YtcbfokbdiefdeaaGreatDoor
set_option linter.unusedVariables false
set_option linter.unusedSimpArgs false
open Go.RowKit
attribute [local go_sem ↓] fold_E fold_SE

theorem small_at {c : Cd} (h : Lt c) (n : Nat) (hn : n < c.N) : small (c.at n).2 := by
  obtain ⟨k, j, hk, hj, rfl⟩ := num_of c.len c.nh n hn
  rw [c.at_is k j hk hj]
  exact (h.small k hk).2 j hj
theorem Cp.store {ev : Nat → Ev} {el : Nat → El} {es : List Ev} {w : World} (h : Cp ev el es w) {g i : Nat} {u : Value} (hg : IsRow g w) : Cp ev el es (w.setCell ⟨g, i, none⟩ u) :=
  ⟨h.like, fun j e hj => ereads_store (h.reads j e hj) (h.typed j e hj) hg, fun j e hj => ⟨typed_store (h.typed j e hj).1 hg, typed_store (h.typed j e hj).2.1 hg, typed_store (h.typed j e hj).2.2 hg⟩⟩
end Go.Proofs.YtcbfokbdiefdeaaGreatDoor
namespace Go.Proofs.YtcbfokbdiefdeaaGreatDoor
set_option linter.unusedVariables false
set_option linter.unusedSimpArgs false
open Go.RowKit
attribute [local go_sem ↓] fold_E fold_SE

theorem reads_kind (e : Ev) : readsE e = (decide (e.kind = 1) || (decide (e.kind = 3) || decide (e.kind = 5))) := by
  unfold readsE fieldsOf
  by_cases h1 : e.kind = 1
  · rw [if_pos h1, decide_eq_true h1]; rfl
  · rw [if_neg h1, decide_eq_false h1]
    by_cases h2 : e.kind = 2
    · rw [if_pos h2, decide_eq_false (show ¬ e.kind = 3 by omega), decide_eq_false (show ¬ e.kind = 5 by omega)]; rfl
    · rw [if_neg h2]
      by_cases h3 : e.kind = 3
      · rw [if_pos h3, decide_eq_true h3]; rfl
      · rw [if_neg h3, decide_eq_false h3]
        by_cases h4 : e.kind = 4
        · rw [if_pos h4, decide_eq_false (show ¬ e.kind = 5 by omega)]; rfl
        · rw [if_neg h4]
          by_cases h5 : e.kind = 5
          · rw [if_pos h5, decide_eq_true h5]; rfl
          · rw [if_neg h5, decide_eq_false h5]
            split <;> rfl
theorem writes_kind (e : Ev) : writesE e = (decide (e.kind = 2) || (decide (e.kind = 4) || decide (e.kind = 5))) := by
  unfold writesE fieldsOf
  by_cases h1 : e.kind = 1
  · rw [if_pos h1, decide_eq_false (show ¬ e.kind = 2 by omega), decide_eq_false (show ¬ e.kind = 4 by omega), decide_eq_false (show ¬ e.kind = 5 by omega)]; rfl
  · rw [if_neg h1]
    by_cases h2 : e.kind = 2
    · rw [if_pos h2, decide_eq_true h2]; rfl
    · rw [if_neg h2, decide_eq_false h2]
      by_cases h3 : e.kind = 3
      · rw [if_pos h3, decide_eq_false (show ¬ e.kind = 4 by omega), decide_eq_false (show ¬ e.kind = 5 by omega)]; rfl
      · rw [if_neg h3]
        by_cases h4 : e.kind = 4
        · rw [if_pos h4, decide_eq_true h4]; rfl
        · rw [if_neg h4, decide_eq_false h4]
          by_cases h5 : e.kind = 5
          · rw [if_pos h5, decide_eq_true h5]; rfl
          · rw [if_neg h5, decide_eq_false h5]
            split <;> rfl
theorem mem_kind (e : Ev) : memE e = (readsE e || writesE e) := by
  rw [reads_kind, writes_kind]
  unfold memE fieldsOf
  by_cases h1 : e.kind = 1
  · rw [if_pos h1, decide_eq_true h1]; rfl
  · rw [if_neg h1]
    by_cases h2 : e.kind = 2
    · rw [if_pos h2, decide_eq_true h2]; simp; decide
    · rw [if_neg h2]
      by_cases h3 : e.kind = 3
      · rw [if_pos h3, decide_eq_true h3]; simp; decide
      · rw [if_neg h3]
        by_cases h4 : e.kind = 4
        · rw [if_pos h4, decide_eq_true h4]; simp; decide
        · rw [if_neg h4]
          by_cases h5 : e.kind = 5
          · rw [if_pos h5, decide_eq_true h5]; simp; decide
          · rw [if_neg h5, decide_eq_false h1, decide_eq_false h2, decide_eq_false h3, decide_eq_false h4, decide_eq_false h5]
            split <;> rfl
set_option maxHeartbeats 2000000 in
theorem rReads_b (e : Ev) (r : Bool) (hr : readsE e = r) (w : World) : Calls Tryz.prog 28 #[e.V] w fun e' w' => AskIs w r e' w' := by
  have H0 := Lib.hid (EvAt.new e w)
  have HB := Lib.hid (box_below w (.cells #[.int .i64 e.hart, .int .i64 e.pos, .int .i64 e.kind, .int .u64 e.addr, .int .u64 e.load, .int .u64 e.store, .bool e.aq, .bool e.rl, .int .i64 e.pred, .int .i64 e.succ, .int .i64 e.pair, e.a, e.d, e.y] 32))
  have HR : Hid ((decide (e.kind = 1) || (decide (e.kind = 3) || decide (e.kind = 5))) = r) := Lib.hid (by rw [← reads_kind]; exact hr)
  obtain ⟨_, _, _, g2, _⟩ := H0.out.facts
  obtain ⟨k, hk⟩ : ∃ k, Hid (e.kind = k) := ⟨_, Lib.hid rfl⟩
  rw [hk.out] at HR
  have g3 : (w.alloc (.cells #[.int .i64 e.hart, .int .i64 e.pos, .int .i64 k, .int .u64 e.addr, .int .u64 e.load, .int .u64 e.store, .bool e.aq, .bool e.rl, .int .i64 e.pred, .int .i64 e.succ, .int .i64 e.pair, e.a, e.d, e.y] 32)).cell? ⟨w.heap.size, 2, none⟩ = some (.int .i64 k) := by rw [← hk.out]; exact g2
  rw [hk.out] at HB
  clear hr g2
  unfold Ev.V
  rw [hk.out]
  by_cases q1 : k = 1
  · have q1b : (k == 1) = true := by simpa using q1
    rw [decide_eq_true q1] at HR
    clear q1
    go_enter Tryz.func28, Tryz.ntmps28
    go_wp2
    go_ret
    exact ⟨by rw [← HR.out]; rfl, HB.out⟩
  have q1b : (k == 1) = false := by simpa using q1
  rw [decide_eq_false q1] at HR
  clear q1
  by_cases q3 : k = 3
  · have q3b : (k == 3) = true := by simpa using q3
    rw [decide_eq_true q3] at HR
    clear q3
    go_enter Tryz.func28, Tryz.ntmps28
    go_wp2
    go_ret
    exact ⟨by rw [← HR.out]; rfl, HB.out⟩
  have q3b : (k == 3) = false := by simpa using q3
  rw [decide_eq_false q3] at HR
  clear q3
  by_cases q5 : k = 5
  · have q5b : (k == 5) = true := by simpa using q5
    rw [decide_eq_true q5] at HR
    clear q5
    go_enter Tryz.func28, Tryz.ntmps28
    go_wp2
    go_ret
    exact ⟨by rw [← HR.out]; rfl, HB.out⟩
  have q5b : (k == 5) = false := by simpa using q5
  rw [decide_eq_false q5] at HR
  clear q5
  go_enter Tryz.func28, Tryz.ntmps28
  go_wp2
  go_ret
  exact ⟨by rw [← HR.out]; rfl, HB.out⟩
set_option maxHeartbeats 2000000 in
theorem rWrites_b (e : Ev) (r : Bool) (hr : writesE e = r) (w : World) : Calls Tryz.prog 29 #[e.V] w fun e' w' => AskIs w r e' w' := by
  have H0 := Lib.hid (EvAt.new e w)
  have HB := Lib.hid (box_below w (.cells #[.int .i64 e.hart, .int .i64 e.pos, .int .i64 e.kind, .int .u64 e.addr, .int .u64 e.load, .int .u64 e.store, .bool e.aq, .bool e.rl, .int .i64 e.pred, .int .i64 e.succ, .int .i64 e.pair, e.a, e.d, e.y] 32))
  have HR : Hid ((decide (e.kind = 2) || (decide (e.kind = 4) || decide (e.kind = 5))) = r) := Lib.hid (by rw [← writes_kind]; exact hr)
  obtain ⟨_, _, _, g2, _⟩ := H0.out.facts
  obtain ⟨k, hk⟩ : ∃ k, Hid (e.kind = k) := ⟨_, Lib.hid rfl⟩
  rw [hk.out] at HR
  have g3 : (w.alloc (.cells #[.int .i64 e.hart, .int .i64 e.pos, .int .i64 k, .int .u64 e.addr, .int .u64 e.load, .int .u64 e.store, .bool e.aq, .bool e.rl, .int .i64 e.pred, .int .i64 e.succ, .int .i64 e.pair, e.a, e.d, e.y] 32)).cell? ⟨w.heap.size, 2, none⟩ = some (.int .i64 k) := by rw [← hk.out]; exact g2
  rw [hk.out] at HB
  clear hr g2
  unfold Ev.V
  rw [hk.out]
  by_cases q2 : k = 2
  · have q2b : (k == 2) = true := by simpa using q2
    rw [decide_eq_true q2] at HR
    clear q2
    go_enter Tryz.func29, Tryz.ntmps29
    go_wp2
    go_ret
    exact ⟨by rw [← HR.out]; rfl, HB.out⟩
  have q2b : (k == 2) = false := by simpa using q2
  rw [decide_eq_false q2] at HR
  clear q2
  by_cases q4 : k = 4
  · have q4b : (k == 4) = true := by simpa using q4
    rw [decide_eq_true q4] at HR
    clear q4
    go_enter Tryz.func29, Tryz.ntmps29
    go_wp2
    go_ret
    exact ⟨by rw [← HR.out]; rfl, HB.out⟩
  have q4b : (k == 4) = false := by simpa using q4
  rw [decide_eq_false q4] at HR
  clear q4
  by_cases q5 : k = 5
  · have q5b : (k == 5) = true := by simpa using q5
    rw [decide_eq_true q5] at HR
    clear q5
    go_enter Tryz.func29, Tryz.ntmps29
    go_wp2
    go_ret
    exact ⟨by rw [← HR.out]; rfl, HB.out⟩
  have q5b : (k == 5) = false := by simpa using q5
  rw [decide_eq_false q5] at HR
  clear q5
  go_enter Tryz.func29, Tryz.ntmps29
  go_wp2
  go_ret
  exact ⟨by rw [← HR.out]; rfl, HB.out⟩
set_option maxHeartbeats 2000000 in
theorem rMemory_b (e : Ev) (r : Bool) (hr : memE e = r) (w : World) : Calls Tryz.prog 27 #[e.V] w fun e' w' => AskIs w r e' w' := by
  have H0 := Lib.hid (EvAt.new e w)
  have HB := Lib.hid (box_below w (.cells #[.int .i64 e.hart, .int .i64 e.pos, .int .i64 e.kind, .int .u64 e.addr, .int .u64 e.load, .int .u64 e.store, .bool e.aq, .bool e.rl, .int .i64 e.pred, .int .i64 e.succ, .int .i64 e.pair, e.a, e.d, e.y] 32))
  have HR : Hid ((readsE e || writesE e) = r) := Lib.hid (by rw [← mem_kind]; exact hr)
  obtain ⟨r1, h1⟩ : ∃ r1, Hid (readsE e = r1) := ⟨_, Lib.hid rfl⟩
  obtain ⟨r2, h2⟩ : ∃ r2, Hid (writesE e = r2) := ⟨_, Lib.hid rfl⟩
  have K1 := Lib.hid (fun w0 => rReads_b e r1 h1.out w0)
  have K2 := Lib.hid (fun w0 => rWrites_b e r2 h2.out w0)
  rw [h1.out, h2.out] at HR
  clear hr h1 h2
  have cl := run_LoadE H0.out
  cases r1 with
  | true =>
    go_enter Tryz.func27, Tryz.ntmps27
    go_wp2_with (go_at_call 28; (with_reducible refine (K1.out _).mono ?_); rintro e' w1 ⟨rfl, hb⟩; have B1 := Lib.hid (HB.out.trans (hb.mono HB.out.size)); clear hb)
    go_ret
    exact ⟨by rw [← HR.out]; rfl, B1.out⟩
  | false =>
    go_enter Tryz.func27, Tryz.ntmps27
    go_wp2_with (first
      | (go_at_call 28; (with_reducible refine (K1.out _).mono ?_); rintro e' w1 ⟨rfl, hb⟩; have B1 := Lib.hid (HB.out.trans (hb.mono HB.out.size)); have cl1 := run_LoadE (H0.out.on hb); clear hb cl)
      | (go_at_call 29; (with_reducible refine (K2.out _).mono ?_); rintro e' w2 ⟨rfl, hb⟩; have B2 := Lib.hid (B1.out.trans (hb.mono B1.out.size)); clear hb))
    go_ret
    exact ⟨by rw [← HR.out]; rfl, B2.out⟩
end Go.Proofs.YtcbfokbdiefdeaaGreatDoor
namespace Go.Proofs.YtcbfokbdiefdeaaGreatDoor
set_option linter.unusedVariables false
set_option linter.unusedSimpArgs false
open Go.RowKit Go.Maps
attribute [local go_sem ↓] fold_E fold_SE

theorem law_u64 : Keyed Tryz.prog 28 := int_keyed Tryz.underlying28
theorem wpStill_lookup {P : Program} {ops : Array Oper} {w : World} {Q : Act → Prop} {a : Act} {o : Oper} {rest : List Oper} {t : TypeId} (m x : Operand) (mv xv v : Value) (hw : Region.wanted o (yielded ops a.tmps) = true) (ho : o.op = .lookup t m x false) (hm : a.eval m = mv) (hx : a.eval x = xv)
    (hr : (Instr.lookup t mv xv false).run P w = .ok v w) (k : wpStill P ops w Q rest (a.put o.dst v)) : wpStill P ops w Q (o :: rest) a := by
  refine wpStill_val v hw ?_ k
  unfold execOp
  rw [ho]
  simp only [hm, hx, Sem.run_bind, hr, Result.andThen_ok]
  rfl
theorem push_old (w : World) (o : Obj) (n : Nat) (x : Obj) (h : w.heap[n]? = some x) : (w.alloc o).heap[n]? = some x := (Below.heap_alloc w o n (Array.getElem?_eq_some_iff.1 h).1).trans h
theorem push_new (w : World) (o : Obj) (n : Nat) (hn : w.heap.size = n) : (w.alloc o).heap[n]? = some o := by subst hn; exact Array.getElem?_push_size
theorem may_found {c : Cd} (h : c.may = true) : c.fr.length = c.N ∧ foundL c c.N = true := by
  rw [may_is] at h
  simp only [Bool.and_eq_true] at h
  have := h.2.2.2.2.2.1
  unfold foundB at this
  rw [Bool.and_eq_true, decide_eq_true_eq] at this
  exact this
def encC (x : Int × Int) : List Value := [.int .u64 x.1, .int .u64 x.2]
def flatC (l : List (Int × Int)) : List Value := l.flatMap encC
theorem flatC_len (l : List (Int × Int)) : (flatC l).length = l.length * 2 := by
  induction l with
  | nil => rfl
  | cons e es ih => unfold flatC at *; rw [List.flatMap_cons, List.length_append, ih]; simp [encC]; omega
theorem flatC_at : ∀ (l : List (Int × Int)) (j i : Nat), j < l.length → i < 2 → (flatC l)[j * 2 + i]? = some (if i = 0 then .int .u64 (fA l j) else .int .u64 (fV l j))
  | [], j, i, h, _ => by simp at h
  | p :: r, 0, i, _, hi => by
    unfold flatC
    rw [List.flatMap_cons, List.getElem?_append_left (by simp [encC]; omega)]
    rcases i with _ | _ | i
    · simp [encC, fA]
    · simp [encC, fV]
    · omega
  | p :: r, j + 1, i, hj, hi => by
    have ih := flatC_at r j i (by simpa using hj) hi
    unfold flatC at ih ⊢
    rw [List.flatMap_cons, List.getElem?_append_right (by simp [encC]; omega), show (j + 1) * 2 + i - (encC p).length = j * 2 + i by simp [encC]; omega, ih]
    simp [fA, fV]
theorem infoCell : (Tryz.prog.info? 59).map (fun i => (i.zero, i.size, i.bytes)) = some (some (.agg #[.int .u64 0, .int .u64 0]), 2, 16) := by kernel_rfl
theorem Lw.lt {c : Cd} (h : Lw c) (he : ∀ h, h < c.nh → ∀ k, k < c.len h → WordE (c.ev h k)) (hf : ∀ j, j < c.fs.length → (0 ≤ fA c.fs j ∧ fA c.fs j < 18446744073709551616) ∧ (0 ≤ fV c.fs j ∧ fV c.fs j < 18446744073709551616)) : Lt c :=
  ⟨he, h.nh, h.n, h.small, h.fs, h.fr, h.od, hf⟩
end Go.Proofs.YtcbfokbdiefdeaaGreatDoor
namespace Go.Proofs.YtcbfokbdiefdeaaGreatDoor
set_option linter.unusedVariables false
set_option linter.unusedSimpArgs false
open Go.ChangeShapes Go.WideShapes Go.ChangeAt Go.RowKit Go.Deep

theorem cells_cell : Tryz.prog.cellsOf 59 = 2 := by kernel_rfl
theorem cells_rows : Tryz.prog.cellsOf 33 = 1 := by kernel_rfl
theorem cells_cand : Tryz.prog.cellsOf 26 = 4 := by kernel_rfl
theorem two_xs {α : Type} {l : List α} (h : l.length = 2) : ∃ x0 x1, l = [x0, x1] := by
  match l, h with
  | [x0, x1], _ => exact ⟨x0, x1, rfl⟩
theorem two_of {l : List Value} (h : l.length = 2) (v0 v1 : Value) (h0 : (l.drop 0).take 1 = [v0]) (h1 : (l.drop 1).take 1 = [v1]) : l = [v0, v1] := by
  match l, h with
  | [a0, a1], _ =>
    simp at h0 h1
    subst h0 h1
    rfl
theorem four_xs {α : Type} {l : List α} (h : l.length = 4) : ∃ x0 x1 x2 x3, l = [x0, x1, x2, x3] := by
  match l, h with
  | [x0, x1, x2, x3], _ => exact ⟨x0, x1, x2, x3, rfl⟩
theorem four_of {l : List Value} (h : l.length = 4) (v0 v1 v2 v3 : Value) (h0 : (l.drop 0).take 1 = [v0]) (h1 : (l.drop 1).take 1 = [v1]) (h2 : (l.drop 2).take 1 = [v2]) (h3 : (l.drop 3).take 1 = [v3]) : l = [v0, v1, v2, v3] := by
  match l, h with
  | [a0, a1, a2, a3], _ =>
    simp at h0 h1 h2 h3
    subst h0 h1 h2 h3
    rfl
def wordP (p : Int × Int) : Prop := (0 ≤ p.1 ∧ p.1 < 18446744073709551616) ∧ (0 ≤ p.2 ∧ p.2 < 18446744073709551616)
/-- an event's numbers are words, its pair an int -/
def WordX (e : Ev) : Prop := WordE e ∧ PairFits e
theorem fits_of {n : Int} (h : (Lit.int .i64 n).wf = true) : -9223372036854775808 ≤ n ∧ n < 9223372036854775808 := by
  have := bounds_i64 h
  omega
section
variable {H : Type} {enc : TypeId × Value → H} {w : World} {base : Nat} {held : Bool}
set_option maxRecDepth 100000 in
theorem probe_cell {fuel : Nat} {cs : List Value} {x : DataW H × List MemPlace} (h : DataW.trod enc Tryz.prog w base (fun _ => true) held fuel 59 cs = some x) :
    ∃ p : Int × Int, cs = [.int .u64 p.1, .int .u64 p.2] ∧ wordP p := by
  obtain ⟨xs, n, _, hx, hcl, hl, hq⟩ := DataW.trod_struct Tryz.underlying59 h
  rw [cells_cell] at hcl
  obtain ⟨x0, x1, rfl⟩ := two_xs (show xs.length = 2 from hl)
  have q0 := hq 0 _ rfl; have q1 := hq 1 _ rfl
  simp only [List.getElem?_cons_zero, List.getElem?_cons_succ] at q0 q1
  obtain ⟨n0, e0, _, w0⟩ := DataW.trod_int Tryz.underlying28 q0
  obtain ⟨n1, e1, _, w1⟩ := DataW.trod_int Tryz.underlying28 q1
  exact ⟨(n0, n1), two_of hcl _ _ e0 e1, bounds_u64 w0, bounds_u64 w1⟩
set_option maxRecDepth 100000 in
theorem open_cells {fuel : Nat} {cs : List Value} {x : DataW H × List MemPlace} (h : DataW.trod enc Tryz.prog w base (fun _ => true) held fuel 22 cs = some x) :
    ∃ (a : Option Addr) (c : Nat) (fs : List (Int × Int)), cs = [.slice a fs.length c] ∧ ReadsF w (.slice a fs.length c) fs ∧ ∀ j, j < fs.length → (0 ≤ fA fs j ∧ fA fs j < 18446744073709551616) ∧ (0 ≤ fV fs j ∧ fV fs j < 18446744073709551616) := by
  rcases open_slice Tryz.underlying22 h with ⟨hcs, _⟩ | ⟨x, l, cp, m, n', D, Pl, hcs, _, hl, hmx, hm, _, hi⟩
  · exact ⟨none, 0, [], hcs, .inl ⟨⟨none, 0, rfl, fun _ => rfl⟩, rfl⟩, fun j hj => absurd hj (by simp)⟩
  · rcases Nat.eq_zero_or_pos l with h0 | hpos
    · subst h0
      exact ⟨some x, cp, [], hcs, .inl ⟨⟨some x, cp, rfl, fun e => by cases e⟩, rfl⟩, fun j hj => absurd hj (by simp)⟩
    have hlm : l ≤ m := by rw [hm]; split <;> omega
    have each : ∀ i, ∃ p : Int × Int, i < l → (∃ cs', w.cells? base (x.add (i * 2)) 2 = some cs' ∧ cs' = [.int .u64 p.1, .int .u64 p.2]) ∧ wordP p := by
      intro i
      by_cases hil : i < l
      · obtain ⟨cs', hc, ht⟩ := hi i (by omega)
        rw [cells_cell] at hc
        obtain ⟨p, h1, h2⟩ := probe_cell ht
        exact ⟨p, fun _ => ⟨⟨cs', hc, h1⟩, h2⟩⟩
      · exact ⟨(0, 0), fun h => absurd h hil⟩
    obtain ⟨f, hf2⟩ := Classical.axiomOfChoice each
    obtain ⟨b, off, spot⟩ := x
    have hcell : ∀ i, i < l → ∀ j v, (#[.int .u64 (f i).1, .int .u64 (f i).2] : Array Value)[j]? = some v → w.cell? ((⟨b, off, spot⟩ : Addr).add (i * 2 + j)) = some v := by
      intro i hin j v hv
      obtain ⟨⟨cs', hc, rfl⟩, _⟩ := hf2 i hin
      obtain ⟨_, hcl, hat⟩ := World.cells?_some hc
      have hj : j < 2 := by have := (Array.getElem?_eq_some_iff.1 hv).1; simpa using this
      have hx := hat j (by simpa using hj)
      rw [add_add] at hx
      rw [hx]
      have : [Value.int .u64 (f i).1, Value.int .u64 (f i).2][j]? = some v := by simpa using hv
      simpa using this
    have hspot : spot = none := by simpa [Addr.add] using World.cell?_spot (hcell 0 hpos 0 _ rfl)
    subst hspot
    have hA : ∀ j, j < l → fA ((List.range l).map f) j = (f j).1 := by intro j hj; simp [fA, hj]
    have hV : ∀ j, j < l → fV ((List.range l).map f) j = (f j).2 := by intro j hj; simp [fV, hj]
    refine ⟨some ⟨b, off, none⟩, cp, (List.range l).map f, by simpa using hcs, .inr ⟨b, off, cp, rfl, by simpa using hl, by unfold maxLen at hmx; omega, ?_, fun j hj => ?_⟩, fun j hj => ?_⟩
    · have := hcell 0 hpos 0 _ rfl
      rw [Addr.add_lit] at this
      exact World.block_lt_of_cell? w _ this
    · have hj' : j < l := by simpa using hj
      rw [hA j hj', hV j hj']
      have e0 := hcell j hj' 0 _ rfl
      have e1 := hcell j hj' 1 _ rfl
      rw [Addr.add_lit] at e0 e1
      exact ⟨e0, e1⟩
    · have hj' : j < l := by simpa using hj
      rw [hA j hj', hV j hj']
      exact (hf2 j hj').2
set_option maxRecDepth 100000 in
theorem probe_ev2 {fuel : Nat} {cs : List Value} {x : DataW H × List MemPlace} (h : DataW.trod enc Tryz.prog w base (fun _ => true) held fuel 32 cs = some x) :
    ∃ (e : Ev) (l : El), cs = [.int .i64 e.hart, .int .i64 e.pos, .int .i64 e.kind, .int .u64 e.addr, .int .u64 e.load, .int .u64 e.store, .bool e.aq, .bool e.rl, .int .i64 e.pred, .int .i64 e.succ, .int .i64 e.pair, e.a, e.d, e.y] ∧ EReads w e l ∧ 0 ≤ e.addr ∧ WordX e := by
  obtain ⟨xs, n, _, hx, hcl, hl, hq⟩ := DataW.trod_struct Tryz.underlying32 h
  rw [cells_ev] at hcl
  obtain ⟨x0, x1, x2, x3, x4, x5, x6, x7, x8, x9, x10, x11, rfl⟩ := fourteen_xs (show xs.length = 12 from hl)
  have q0 := hq 0 _ rfl; have q1 := hq 1 _ rfl; have q2 := hq 2 _ rfl; have q3 := hq 3 _ rfl; have q4 := hq 4 _ rfl; have q5 := hq 5 _ rfl; have q6 := hq 6 _ rfl; have q7 := hq 7 _ rfl; have q8 := hq 8 _ rfl; have q9 := hq 9 _ rfl; have q10 := hq 10 _ rfl; have q11 := hq 11 _ rfl
  simp only [List.getElem?_cons_zero, List.getElem?_cons_succ] at q0 q1 q2 q3 q4 q5 q6 q7 q8 q9 q10 q11
  clear hq h
  obtain ⟨n0, e0, _, w0⟩ := DataW.trod_int Tryz.underlying3 q0
  obtain ⟨n1, e1, _, w1⟩ := DataW.trod_int Tryz.underlying3 q1
  obtain ⟨n2, e2, _, w2⟩ := DataW.trod_int Tryz.underlying3 q2
  obtain ⟨n3, e3, _, w3⟩ := DataW.trod_int Tryz.underlying28 q3
  obtain ⟨n4, e4, _, w4⟩ := DataW.trod_int Tryz.underlying28 q4
  obtain ⟨n5, e5, _, w5⟩ := DataW.trod_int Tryz.underlying28 q5
  obtain ⟨n6, e6, _⟩ := DataW.trod_bool Tryz.underlying4 q6
  obtain ⟨n7, e7, _⟩ := DataW.trod_bool Tryz.underlying4 q7
  obtain ⟨n8, e8, _, w8⟩ := DataW.trod_int Tryz.underlying3 q8
  obtain ⟨n9, e9, _, w9⟩ := DataW.trod_int Tryz.underlying3 q9
  obtain ⟨n10, e10, _, w10⟩ := DataW.trod_int Tryz.underlying3 q10
  obtain ⟨ys, n', _, hy, _, hl', hq'⟩ := DataW.trod_struct Tryz.underlying30 q11
  obtain ⟨y0, y1, y2, rfl⟩ := three_xs (show ys.length = 3 from hl')
  have r0 := hq' 0 _ rfl; have r1 := hq' 1 _ rfl; have r2 := hq' 2 _ rfl
  simp only [List.getElem?_cons_zero, List.getElem?_cons_succ] at r0 r1 r2
  obtain ⟨a1, c1, al, f0, s0⟩ := open_list r0
  obtain ⟨a2, c2, dl, f1, s1⟩ := open_list r1
  obtain ⟨a3, c3, yl, f2, s2⟩ := open_list r2
  have f0' : (((cs.drop 11).take 3).drop 0).take 1 = [.slice a1 al.length c1] := f0
  have f1' : (((cs.drop 11).take 3).drop 1).take 1 = [.slice a2 dl.length c2] := f1
  have f2' : (((cs.drop 11).take 3).drop 2).take 1 = [.slice a3 yl.length c3] := f2
  have g0 : (cs.drop 11).take 1 = [.slice a1 al.length c1] := by rw [← f0', List.drop_zero, List.take_take]; rfl
  have g1 : (cs.drop 12).take 1 = [.slice a2 dl.length c2] := by rw [← f1', List.drop_take, List.take_take, List.drop_drop]; rfl
  have g2 : (cs.drop 13).take 1 = [.slice a3 yl.length c3] := by rw [← f2', List.drop_take, List.take_take, List.drop_drop]; rfl
  have hc := fourteen_of (l := cs) hcl _ _ _ _ _ _ _ _ _ _ _ _ _ _ e0 e1 e2 e3 e4 e5 e6 e7 e8 e9 e10 g0 g1 g2
  refine ⟨⟨n0, n1, n2, n3, n4, n5, n6, n7, n8, n9, n10, .slice a1 al.length c1, .slice a2 dl.length c2, .slice a3 yl.length c3⟩, ⟨al, dl, yl⟩, hc, ⟨s0, s1, s2⟩, (bounds_u64 w3).1, ⟨⟨w3, w5⟩, fits_of w10⟩⟩
theorem probe_row {fuel : Nat} {cs : List Value} {x : DataW H × List MemPlace} (hf : DataW.trod enc Tryz.prog w base (fun _ => true) held fuel 33 cs = some x) :
    ∃ (n : Nat) (ev : Nat → Ev) (el : Nat → El) (v : Value), cs = [v] ∧ RowV w v n ev el ∧ ∀ k, k < n → WordX (ev k) := by
  rcases open_slice Tryz.underlying33 hf with ⟨hcs, _⟩ | ⟨x, l, cp, m, n', D, Pl, hcs, _, hl, hmx, hm, _, hi⟩
  · exact ⟨0, fun _ => zeroEv, fun _ => ⟨[], [], []⟩, _, hcs, ⟨none, 0, rfl, Nat.le_refl _, .inl rfl⟩, fun k hk => absurd hk (by omega)⟩
  · rcases Nat.eq_zero_or_pos l with h0 | hpos
    · exact ⟨0, fun _ => zeroEv, fun _ => ⟨[], [], []⟩, _, hcs, ⟨some x, cp, by rw [h0], Nat.zero_le _, .inl rfl⟩, fun k hk => absurd hk (by omega)⟩
    have hlm : l ≤ m := by rw [hm]; split <;> omega
    have each : ∀ i, ∃ p : Ev × El, i < l → (∃ cs', w.cells? base (x.add (i * 14)) 14 = some cs' ∧ cs' = [.int .i64 p.1.hart, .int .i64 p.1.pos, .int .i64 p.1.kind, .int .u64 p.1.addr, .int .u64 p.1.load, .int .u64 p.1.store, .bool p.1.aq, .bool p.1.rl, .int .i64 p.1.pred, .int .i64 p.1.succ, .int .i64 p.1.pair, p.1.a, p.1.d, p.1.y]) ∧ EReads w p.1 p.2 ∧ 0 ≤ p.1.addr ∧ WordX p.1 := by
      intro i
      by_cases hil : i < l
      · obtain ⟨cs', hc, ht⟩ := hi i (by omega)
        rw [cells_ev] at hc
        obtain ⟨e, l, h1, h2, h3⟩ := probe_ev2 ht
        exact ⟨(e, l), fun _ => ⟨⟨cs', hc, h1⟩, h2, h3⟩⟩
      · exact ⟨(zeroEv, ⟨[], [], []⟩), fun h => absurd h hil⟩
    obtain ⟨f, hf2⟩ := Classical.axiomOfChoice each
    obtain ⟨b, off, spot⟩ := x
    have hcell : ∀ i, i < l → ∀ j v, (#[.int .i64 (f i).1.hart, .int .i64 (f i).1.pos, .int .i64 (f i).1.kind, .int .u64 (f i).1.addr, .int .u64 (f i).1.load, .int .u64 (f i).1.store, .bool (f i).1.aq, .bool (f i).1.rl, .int .i64 (f i).1.pred, .int .i64 (f i).1.succ, .int .i64 (f i).1.pair, (f i).1.a, (f i).1.d, (f i).1.y] : Array Value)[j]? = some v → w.cell? ((⟨b, off, spot⟩ : Addr).add (i * 14 + j)) = some v := by
      intro i hin j v hv
      obtain ⟨⟨cs', hc, rfl⟩, _, _⟩ := hf2 i hin
      obtain ⟨_, hcl, hat⟩ := World.cells?_some hc
      have hj : j < 14 := by have := (Array.getElem?_eq_some_iff.1 hv).1; simpa using this
      have hx := hat j (by simpa using hj)
      rw [add_add] at hx
      rw [hx]
      have : [Value.int .i64 (f i).1.hart, .int .i64 (f i).1.pos, .int .i64 (f i).1.kind, .int .u64 (f i).1.addr, .int .u64 (f i).1.load, .int .u64 (f i).1.store, .bool (f i).1.aq, .bool (f i).1.rl, .int .i64 (f i).1.pred, .int .i64 (f i).1.succ, .int .i64 (f i).1.pair, (f i).1.a, (f i).1.d, (f i).1.y][j]? = some v := by
        simpa using hv
      simpa using this
    have hspot : spot = none := by simpa [Addr.add] using World.cell?_spot (hcell 0 hpos 0 _ rfl)
    subst hspot
    refine ⟨l, fun i => (f i).1, fun i => (f i).2, _, hcs, ⟨_, cp, rfl, hl, .inr ⟨b, off, rfl, ⟨fun k hk j v hv => ?_, fun k hk => (hf2 k hk).2.1, fun k hk => (hf2 k hk).2.2.1, fun _ => ?_⟩⟩⟩, fun k hk => (hf2 k hk).2.2.2⟩
    · have := hcell k hk j v hv
      rw [Addr.add_lit, ← Nat.add_assoc] at this
      exact this
    · have := hcell 0 hpos 0 _ rfl
      rw [Addr.add_lit] at this
      exact World.block_lt_of_cell? w _ this
/-- a list of rows that came in -/
theorem open_rows {fuel : Nat} {cs : List Value} {x : DataW H × List MemPlace} (hf : DataW.trod enc Tryz.prog w base (fun _ => true) held fuel 23 cs = some x) :
    ∃ (a : Option Addr) (n cp : Nat) (len : Nat → Nat) (ev : Nat → Nat → Ev) (el : Nat → Nat → El), cs = [.slice a n cp] ∧ n ≤ cp ∧ (∀ fs fr od, HsAt ⟨n, len, ev, el, fs, fr, od⟩ n a w) ∧ ∀ h, h < n → ∀ k, k < len h → WordX (ev h k) := by
  rcases open_slice1 Tryz.underlying23 cells_rows hf with ⟨hcs, _⟩ | ⟨x, l, cp, m, n', V, D, Pl, hcs, _, hl, hmx, hm, _, hi⟩
  · exact ⟨none, 0, 0, fun _ => 0, fun _ _ => zeroEv, fun _ _ => ⟨[], [], []⟩, hcs, Nat.le_refl _, (fun _ _ _ => .inl rfl), fun h hh => absurd hh (by omega)⟩
  · rcases Nat.eq_zero_or_pos l with h0 | hpos
    · subst h0
      exact ⟨some x, 0, cp, fun _ => 0, fun _ _ => zeroEv, fun _ _ => ⟨[], [], []⟩, hcs, Nat.zero_le _, (fun _ _ _ => .inl rfl), fun h hh => absurd hh (by omega)⟩
    have hlm : l ≤ m := by rw [hm]; split <;> omega
    have each : ∀ i, ∃ p : Nat × (Nat → Ev) × (Nat → El), i < l → w.cell? (x.add i) = some (V i) ∧ RowV w (V i) p.1 p.2.1 p.2.2 ∧ ∀ k, k < p.1 → WordX (p.2.1 k) := by
      intro i
      by_cases hil : i < l
      · obtain ⟨hc, ht⟩ := hi i (by omega)
        obtain ⟨n, ev, el, v, h1, h2, h3⟩ := probe_row ht
        obtain rfl : V i = v := by injection h1
        exact ⟨(n, ev, el), fun _ => ⟨hc, h2, h3⟩⟩
      · exact ⟨(0, fun _ => zeroEv, fun _ => ⟨[], [], []⟩), fun h => absurd h hil⟩
    obtain ⟨f, hf2⟩ := Classical.axiomOfChoice each
    obtain ⟨b, off, spot⟩ := x
    have hspot : spot = none := by simpa [Addr.add] using World.cell?_spot (hf2 0 hpos).1
    subst hspot
    refine ⟨_, l, cp, fun i => (f i).1, fun i => (f i).2.1, fun i => (f i).2.2, hcs, hl, fun fs fr od => .inr ⟨b, off, rfl, ⟨fun h hh => ⟨V h, ?_, (hf2 h hh).2.1⟩, fun _ => ?_⟩⟩, fun h hh => (hf2 h hh).2.2⟩
    · have := (hf2 h hh).1
      rw [Addr.add_lit] at this
      exact this
    · have := (hf2 0 hpos).1
      rw [Addr.add_lit] at this
      exact World.block_lt_of_cell? w _ this
set_option maxRecDepth 100000 in
/-- a candidate that came in -/
theorem open_candX {r : Reach} {b0 : Nat} {v : Value} {d : DataW H} {p : List MemPlace} (hv : Value.okWide Tryz.prog w r b0 26 v) (h : DataW.Trod enc Tryz.prog w base (fun _ => true) held 26 v d p) :
    ∃ (c : Cd) (q : Cv), v = cdV c q ∧ CAt c q w ∧ (∀ h, h < c.nh → ∀ k, k < c.len h → WordX (c.ev h k)) ∧ ∀ j, j < c.fs.length → (0 ≤ fA c.fs j ∧ fA c.fs j < 18446744073709551616) ∧ (0 ≤ fV c.fs j ∧ fV c.fs j < 18446744073709551616) := by
  obtain ⟨cs, rfl, hsz⟩ := okWide_struct Tryz.underlying26 hv
  rw [cells_cand] at hsz
  obtain ⟨fuel, hf⟩ := h
  obtain ⟨xs, n, _, hx, _, hl, hq⟩ := DataW.trod_struct Tryz.underlying26 hf
  obtain ⟨x0, x1, x2, x3, rfl⟩ := four_xs (show xs.length = 4 from hl)
  have q0 := hq 0 _ rfl; have q1 := hq 1 _ rfl; have q2 := hq 2 _ rfl; have q3 := hq 3 _ rfl
  simp only [List.getElem?_cons_zero, List.getElem?_cons_succ] at q0 q1 q2 q3
  clear hq hf
  obtain ⟨a0, c0, fs, e0, r0, wf⟩ := open_cells q0
  obtain ⟨a1, n1, c1, len, ev, el, e1, hc1, r1, we⟩ := open_rows q1
  obtain ⟨a2, c2, fr, e2, r2⟩ := open_list q2
  obtain ⟨a3, c3, od, e3, r3⟩ := open_list q3
  have hc := four_of (l := cs.toList) (by simpa using hsz) _ _ _ _ e0 e1 e2 e3
  refine ⟨⟨n1, len, ev, el, fs, fr, od⟩, ⟨a0, c0, a1, c1, a2, c2, a3, c3⟩, ?_, ⟨r0, r1 fs fr od, hc1, r2, r3⟩, we, wf⟩
  congr 1
  exact Array.toList_inj.1 (by rw [hc])
end
end Go.Proofs.YtcbfokbdiefdeaaGreatDoor
namespace Go.Proofs.YtcbfokbdiefdeaaGreatDoor
set_option linter.unusedVariables false
set_option linter.unusedSimpArgs false
open Go.RowKit

/-- what an event does to memory: 1 writes, 2 reads -/
def sideE (e : Ev) : Nat := (if readsE e then 2 else 0) + (if writesE e then 1 else 0)
theorem sideE_lt (e : Ev) : sideE e < 4 := by unfold sideE; cases readsE e <;> cases writesE e <;> decide
/-- the last of the first n that writes somewhere -/
def wrL (c : Cd) (x : Int) : Nat → Nat
  | 0 => 0
  | n + 1 => if writesE (c.at n).1 = true ∧ (c.at n).1.addr = x then n else wrL c x n
/-- have two sets of sides one in common? -/
def meetS (x : Int) (s : Nat) : Bool := decide ((x.toNat &&& s) ≠ 0)
/-- the last fence of the first n at which those that do s wait for those that do p -/
def fnL (c : Cd) (s p : Nat) : Nat → Nat
  | 0 => 0
  | n + 1 => if sideE (c.at n).1 = 0 ∧ meetS (c.at n).1.succ s = true ∧ meetS (c.at n).1.pred p = true then n else fnL c s p n
/-- the number that a place of an event's hart has -/
def numAt (c : Cd) (n : Nat) (x : Int) : Int := (n : Int) - (c.at n).1.pos + x
/-- the first of the first n that hangs on a by its address, so many of the next one's list gone through -/
def hgL (c : Cd) (a : Int) : Nat → Int
  | 0 => 0
  | n + 1 => if hgL c a n = 0 ∧ a ∈ (c.at n).2.a.map (numAt c n) then n else hgL c a n
def hgP (c : Cd) (a : Int) (n k : Nat) : Int := if hgL c a n = 0 ∧ a ∈ ((c.at n).2.a.take k).map (numAt c n) then n else hgL c a n
theorem hgP_zero (c : Cd) (a : Int) (n : Nat) : hgP c a n 0 = hgL c a n := by unfold hgP; simp
theorem hgP_all (c : Cd) (a : Int) (n : Nat) : hgP c a n (c.at n).2.a.length = hgL c a (n + 1) := by unfold hgP; rw [List.take_length]; rfl
theorem take_at (l : List Int) (k : Nat) (hk : k < l.length) : l.take (k + 1) = l.take k ++ [atI l k] := by
  rw [List.take_add_one, List.getElem?_eq_getElem hk]; simp [atI, hk]
theorem hgP_next (c : Cd) (a : Int) (n k : Nat) (hk : k < (c.at n).2.a.length) : hgP c a n (k + 1) = if hgP c a n k = 0 ∧ a = numAt c n (atI (c.at n).2.a k) then (n : Int) else hgP c a n k := by
  have hm : (a ∈ ((c.at n).2.a.take (k + 1)).map (numAt c n)) = (a ∈ ((c.at n).2.a.take k).map (numAt c n) ∨ a = numAt c n (atI (c.at n).2.a k)) := by
    rw [take_at _ k hk, List.map_append, List.mem_append]; simp
  unfold hgP
  simp only [hm]
  by_cases h1 : hgL c a n = 0
  · by_cases h2 : a ∈ ((c.at n).2.a.take k).map (numAt c n)
    · simp only [h1, h2, true_and, true_or, if_true]
      split <;> rfl
    · simp only [h1, h2, true_and, false_or, if_false]
  · simp only [h1, false_and, if_false]
def betweenB (a n b : Int) : Bool := decide (a < n) && decide (n < b)
/-- both memory's, a ahead of b -/
def aheadP (c : Cd) (a b : Int) : Bool :=
  decide (0 ≤ a) && (decide (a < b) && (decide (b < (c.N : Int)) && (decide ((c.at a.toNat).1.hart = (c.at b.toNat).1.hart) && (memE (c.at a.toNat).1 && memE (c.at b.toNat).1))))
/-- rule r (from 0 on) of a and b -/
def ruleB (c : Cd) (a b : Nat) : Nat → Bool
  | 0 => writesE (c.at b).1 && decide ((c.at a).1.addr = (c.at b).1.addr)
  | 1 => readsE (c.at a).1 && (readsE (c.at b).1 && (decide ((c.at a).1.addr = (c.at b).1.addr) && (!betweenB a (wrL c (c.at b).1.addr b) b && decide (atI c.fr a ≠ atI c.fr b))))
  | 2 => (decide ((c.at a).1.kind = 4) || decide ((c.at a).1.kind = 5)) && (readsE (c.at b).1 && decide (atI c.fr b = (a : Int)))
  | 3 => betweenB a (fnL c (sideE (c.at b).1) (sideE (c.at a).1) b) b
  | 4 => (c.at a).1.aq
  | 5 => (c.at b).1.rl
  | 6 => ((c.at a).1.aq || (c.at a).1.rl) && ((c.at b).1.aq || (c.at b).1.rl)
  | 7 => decide ((c.at b).1.kind = 4) && decide ((c.at b).1.pair = (c.at a).1.pos)
  | 8 => decide ((c.at a).1.pos ∈ (c.at b).2.a)
  | 9 => decide ((c.at a).1.pos ∈ (c.at b).2.d)
  | 10 => writesE (c.at b).1 && decide ((c.at a).1.pos ∈ (c.at b).2.y)
  | 11 => readsE (c.at b).1 && (betweenB a (atI c.fr b) b && (decide ((c.at a).1.pos ∈ (c.at (atI c.fr b).toNat).2.a) || decide ((c.at a).1.pos ∈ (c.at (atI c.fr b).toNat).2.d)))
  | 12 => writesE (c.at b).1 && betweenB a (hgL c a c.N) b
  | _ => false
/-- the first of the rules from r on, so many of them -/
def firstFrom (f : Nat → Bool) : Nat → Nat → Nat
  | _, 0 => 0
  | r, k + 1 => if f r then r + 1 else firstFrom f (r + 1) k
def firstL (c : Cd) (a b : Nat) : Nat := firstFrom (ruleB c a b) 0 13
/-- what Rule answers -/
def ruleL (c : Cd) (a b : Int) : Nat := if aheadP c a b then firstL c a.toNat b.toNat else 0
theorem firstFrom_zero (f : Nat → Bool) : ∀ (k r : Nat), firstFrom f r k = 0 ↔ ∀ j, r ≤ j → j < r + k → f j = false
  | 0, r => by simp only [firstFrom, true_iff]; intro j h1 h2; omega
  | k + 1, r => by
    unfold firstFrom
    cases hf : f r with
    | true =>
      simp only [if_true]
      constructor
      · intro h; omega
      · intro h; have := h r (by omega) (by omega); rw [hf] at this; cases this
    | false =>
      simp only [Bool.false_eq_true, if_false]
      rw [firstFrom_zero f k (r + 1)]
      constructor
      · intro h j h1 h2
        by_cases e : j = r
        · subst e; exact hf
        · exact h j (by omega) (by omega)
      · intro h j h1 h2; exact h j (by omega) (by omega)
end Go.Proofs.YtcbfokbdiefdeaaGreatDoor
namespace Go.Proofs.YtcbfokbdiefdeaaGreatDoor
set_option linter.unusedVariables false
set_option linter.unusedSimpArgs false
open Go.RowKit
attribute [local go_sem ↓] fold_E fold_SE
attribute [local irreducible] wpStill

/-- what is known, in a row -/
def kCells (K : Nat → Nat → Int) (N : Nat) : List Value := (List.range (N * 7)).map fun i => .int .i64 (K (i / 7) (i % 7))
theorem kCells_len (K : Nat → Nat → Int) (N : Nat) : (kCells K N).length = N * 7 := by simp [kCells]
theorem kCells_at (K : Nat → Nat → Int) (N n j : Nat) (hn : n < N) (hj : j < 7) : (kCells K N)[n * 7 + j]? = some (.int .i64 (K n j)) := by
  unfold kCells
  rw [List.getElem?_map, List.getElem?_range (by omega)]
  simp only [Option.map_some]
  rw [show (n * 7 + j) / 7 = n by omega, show (n * 7 + j) % 7 = j by omega]
def updK (K : Nat → Nat → Int) (n j : Nat) (x : Int) : Nat → Nat → Int := fun a b => if a = n ∧ b = j then x else K a b
theorem kCells_set (K : Nat → Nat → Int) (N n j : Nat) (hn : n < N) (hj : j < 7) (x : Int) : (kCells K N).set (n * 7 + j) (.int .i64 x) = kCells (updK K n j x) N := by
  apply List.ext_getElem?
  intro i
  rw [List.getElem?_set]
  by_cases hi : i < N * 7
  · have e1 : (kCells K N)[i]? = some (.int .i64 (K (i / 7) (i % 7))) := by unfold kCells; rw [List.getElem?_map, List.getElem?_range hi]; rfl
    have e2 : (kCells (updK K n j x) N)[i]? = some (.int .i64 (updK K n j x (i / 7) (i % 7))) := by unfold kCells; rw [List.getElem?_map, List.getElem?_range hi]; rfl
    rw [e1, e2]
    unfold updK
    by_cases h : n * 7 + j = i
    · subst h
      rw [if_pos rfl, if_pos (by rw [kCells_len]; omega), if_pos ⟨by omega, by omega⟩]
    · rw [if_neg h, if_neg (by omega)]
  · have e1 : (kCells K N)[i]? = none := List.getElem?_eq_none (by rw [kCells_len]; omega)
    have e2 : (kCells (updK K n j x) N)[i]? = none := List.getElem?_eq_none (by rw [kCells_len]; omega)
    rw [e1, e2]
    by_cases h : n * 7 + j = i
    · omega
    · rw [if_neg h]
/-- where a view lies -/
structure Vp where
  aA : Option Addr
  cA : Nat
  b : Nat
  off : Nat
  aR : Option Addr
  cR : Nat
  gk : Nat
  g : Nat
  W0 : World
/-- a view -/
structure Vw (c : Cd) (K : Nat → Nat → Int) (p : Vp) (w : World) : Prop where
  box : w.heap[p.g]? = some (.cells #[.slice p.aA c.N p.cA, .slice p.aR c.fr.length p.cR, .slice (some ⟨p.gk, 0, none⟩) c.N c.N] 111 (0, 0))
  kn : w.heap[p.gk]? = some (.cells (kCells K c.N).toArray 152 (0, 0))
  bel : Below p.W0.heap.size p.W0 w
  hk : p.W0.heap.size ≤ p.gk
  hg : p.W0.heap.size ≤ p.g
  ne : p.g ≠ p.gk
  hA : 0 < c.N → p.aA = some ⟨p.b, p.off, none⟩
  ev0 : ∀ n, n < c.N → EvIn (c.at n).1 p.b (p.off + n * 14) p.W0
  rd0 : ∀ n, n < c.N → EReads p.W0 (c.at n).1 (c.at n).2
  lt0 : 0 < c.N → p.b < p.W0.heap.size
  fr0 : ReadsI p.W0 (.slice p.aR c.fr.length p.cR) c.fr
theorem Vw.on {c : Cd} {K : Nat → Nat → Int} {p : Vp} {w w2 : World} (h : Vw c K p w) (hb : Below w.heap.size w w2) : Vw c K p w2 :=
  ⟨(hb.block _ (Array.getElem?_eq_some_iff.1 h.box).1).trans h.box, (hb.block _ (Array.getElem?_eq_some_iff.1 h.kn).1).trans h.kn, h.bel.trans (hb.mono h.bel.size), h.hk, h.hg, h.ne, h.hA, h.ev0, h.rd0, h.lt0, h.fr0⟩
theorem Vw.set {c : Cd} {K : Nat → Nat → Int} {p : Vp} {w : World} (h : Vw c K p w) (n j : Nat) (hn : n < c.N) (hj : j < 7) (x : Int) : Vw c (updK K n j x) p (w.setCell ⟨p.gk, n * 7 + j, none⟩ (.int .i64 x)) :=
  ⟨(Below.heap_setCell w ⟨p.gk, n * 7 + j, none⟩ _ _ h.ne).trans h.box, by
    have := set_at w p.gk (n * 7 + j) (.int .i64 x) _ _ _ h.kn
    rw [this]
    congr 2
    rw [← kCells_set K c.N n j hn hj x]
    simp, h.bel.setCell h.hk _, h.hk, h.hg, h.ne, h.hA, h.ev0, h.rd0, h.lt0, h.fr0⟩
theorem Vw.k {c : Cd} {K : Nat → Nat → Int} {p : Vp} {w : World} (h : Vw c K p w) (n j : Nat) (hn : n < c.N) (hj : j < 7) : w.cell? ⟨p.gk, n * 7 + j, none⟩ = some (.int .i64 (K n j)) := by
  rw [cell_of_row w p.gk (n * 7 + j) _ _ _ h.kn]
  simpa using kCells_at K c.N n j hn hj
theorem Vw.free {c : Cd} {K : Nat → Nat → Int} {p : Vp} {w : World} (h : Vw c K p w) (i : Nat) : w.frozen? ⟨p.gk, i, none⟩ = false := frozen_of_row w p.gk i _ _ h.kn
theorem Vw.three {c : Cd} {K : Nat → Nat → Int} {p : Vp} {w : World} (h : Vw c K p w) : w.cell? ⟨p.g, 0, none⟩ = some (.slice p.aA c.N p.cA) ∧ w.cell? ⟨p.g, 1, none⟩ = some (.slice p.aR c.fr.length p.cR) ∧ w.cell? ⟨p.g, 2, none⟩ = some (.slice (some ⟨p.gk, 0, none⟩) c.N c.N) :=
  ⟨by rw [cell_of_row w p.g 0 _ _ _ h.box]; rfl, by rw [cell_of_row w p.g 1 _ _ _ h.box]; rfl, by rw [cell_of_row w p.g 2 _ _ _ h.box]; rfl⟩
theorem Vw.ev {c : Cd} {K : Nat → Nat → Int} {p : Vp} {w : World} (h : Vw c K p w) (n : Nat) (hn : n < c.N) : EvIn (c.at n).1 p.b (p.off + n * 14) w := (h.ev0 n hn).below h.bel (h.lt0 (by omega))
theorem Vw.rd {c : Cd} {K : Nat → Nat → Int} {p : Vp} {w : World} (h : Vw c K p w) (n : Nat) (hn : n < c.N) : EReads w (c.at n).1 (c.at n).2 := (h.rd0 n hn).below h.bel
theorem Vw.fr {c : Cd} {K : Nat → Nat → Int} {p : Vp} {w : World} (h : Vw c K p w) : ReadsI w (.slice p.aR c.fr.length p.cR) c.fr := h.fr0.below h.bel
/-- what it answers: a bool, the world as it was -/
def SaysB (w : World) (r : Bool) (e : Ending) (w' : World) : Prop := e = .returned (.bool r) ∧ Below w.heap.size w w'
set_option maxRecDepth 100000 in
theorem writes_v (c : Cd) (K : Nat → Nat → Int) (p : Vp) (w : World) (h : Vw c K p w) (n : Nat) (hn : n < c.N) (hs : K n 0 = (sideE (c.at n).1 : Nat)) (r : Bool) (hr : writesE (c.at n).1 = r) : Calls Tryz.prog 116 #[.pointer (some ⟨p.g, 0, none⟩), .int .i64 (n : Int)] w fun e w' => SaysB w r e w' := by
  obtain ⟨_, _, b2⟩ := h.three
  have k0 := h.k n 0 hn (by omega)
  have h0 : (0 : Int) ≤ (n : Int) := by omega
  have h1 : (n : Int) < (c.N : Int) := by omega
  rw [hs] at k0
  clear hs h hn
  revert hr k0
  unfold sideE
  cases readsE (c.at n).1 <;> cases writesE (c.at n).1 <;> intro hr k0 <;> subst hr <;> simp at k0
  all_goals
    go_enter Tryz.func116, Tryz.ntmps116
    go_wp2
    go_ret
    exact ⟨by rfl, Below.refl _ _⟩
set_option maxRecDepth 100000 in
theorem reads_v (c : Cd) (K : Nat → Nat → Int) (p : Vp) (w : World) (h : Vw c K p w) (n : Nat) (hn : n < c.N) (hs : K n 0 = (sideE (c.at n).1 : Nat)) (r : Bool) (hr : readsE (c.at n).1 = r) : Calls Tryz.prog 142 #[.pointer (some ⟨p.g, 0, none⟩), .int .i64 (n : Int)] w fun e w' => SaysB w r e w' := by
  obtain ⟨_, _, b2⟩ := h.three
  have k0 := h.k n 0 hn (by omega)
  have h0 : (0 : Int) ≤ (n : Int) := by omega
  have h1 : (n : Int) < (c.N : Int) := by omega
  rw [hs] at k0
  clear hs h hn
  revert hr k0
  unfold sideE
  cases readsE (c.at n).1 <;> cases writesE (c.at n).1 <;> intro hr k0 <;> subst hr <;> simp at k0
  all_goals
    go_enter Tryz.func142, Tryz.ntmps142
    go_wp2
    go_ret
    exact ⟨by rfl, Below.refl _ _⟩
set_option maxRecDepth 100000 in
theorem memory_v (c : Cd) (K : Nat → Nat → Int) (p : Vp) (w : World) (h : Vw c K p w) (n : Nat) (hn : n < c.N) (hs : K n 0 = (sideE (c.at n).1 : Nat)) (r : Bool) (hr : decide (sideE (c.at n).1 ≠ 0) = r) : Calls Tryz.prog 117 #[.pointer (some ⟨p.g, 0, none⟩), .int .i64 (n : Int)] w fun e w' => SaysB w r e w' := by
  obtain ⟨_, _, b2⟩ := h.three
  have k0 := h.k n 0 hn (by omega)
  have h0 : (0 : Int) ≤ (n : Int) := by omega
  have h1 : (n : Int) < (c.N : Int) := by omega
  rw [hs] at k0
  clear hs h hn
  revert hr k0
  unfold sideE
  cases readsE (c.at n).1 <;> cases writesE (c.at n).1 <;> intro hr k0 <;> subst hr <;> simp at k0
  all_goals
    go_enter Tryz.func117, Tryz.ntmps117
    go_wp2
    go_ret
    exact ⟨by rfl, Below.refl _ _⟩
set_option maxRecDepth 100000 in
theorem oneHart_v (c : Cd) (K : Nat → Nat → Int) (p : Vp) (w : World) (h : Vw c K p w) (a b : Nat) (ha : a < c.N) (hb : b < c.N) (r : Bool) (hr : decide ((c.at a).1.hart = (c.at b).1.hart) = r) : Calls Tryz.prog 78 #[.pointer (some ⟨p.g, 0, none⟩), .int .i64 (a : Int), .int .i64 (b : Int)] w fun e w' => SaysB w r e w' := by
  obtain ⟨b0, _, _⟩ := h.three
  have hAA := h.hA (by omega)
  rw [hAA] at b0
  have ca := h.ev a ha 0 _ rfl
  have cb := h.ev b hb 0 _ rfl
  have a0 : (0 : Int) ≤ (a : Int) := by omega
  have a1 : (a : Int) < (c.N : Int) := by omega
  have x0 : (0 : Int) ≤ (b : Int) := by omega
  have x1 : (b : Int) < (c.N : Int) := by omega
  have hrr : ((c.at a).1.hart == (c.at b).1.hart) = r := by rw [← hr]; rfl
  have HH : Hid (w.drew.cell? ⟨p.g, 0, none⟩ = some (.slice (some ⟨p.b, p.off, none⟩) c.N p.cA) ∧ w.drew.cell? ⟨p.b, p.off + a * 14, none⟩ = some (.int .i64 (c.at a).1.hart) ∧ w.drew.cell? ⟨p.b, p.off + b * 14, none⟩ = some (.int .i64 (c.at b).1.hart)) := Lib.hid ⟨b0, ca, cb⟩
  clear h ha hb hAA hr
  go_enter Tryz.func78, Tryz.ntmps78
  go_upto_region 1 with fail
  go_region_held3 (fun w' => w'.cell? ⟨p.g, 0, none⟩ = some (.slice (some ⟨p.b, p.off, none⟩) c.N p.cA) ∧ w'.cell? ⟨p.b, p.off + a * 14, none⟩ = some (.int .i64 (c.at a).1.hart) ∧ w'.cell? ⟨p.b, p.off + b * 14, none⟩ = some (.int .i64 (c.at b).1.hart)) (exact HH.out) (fail)
  go_wp2
  go_ret
  exact ⟨rfl, (Below.refl _ _).drew⟩
set_option maxRecDepth 100000 in
theorem oneAddr_v (c : Cd) (K : Nat → Nat → Int) (p : Vp) (w : World) (h : Vw c K p w) (a b : Nat) (ha : a < c.N) (hb : b < c.N) (r : Bool) (hr : decide ((c.at a).1.addr = (c.at b).1.addr) = r) : Calls Tryz.prog 141 #[.pointer (some ⟨p.g, 0, none⟩), .int .i64 (a : Int), .int .i64 (b : Int)] w fun e w' => SaysB w r e w' := by
  obtain ⟨b0, _, _⟩ := h.three
  have hAA := h.hA (by omega)
  rw [hAA] at b0
  have ca := h.ev a ha 3 _ rfl
  have cb := h.ev b hb 3 _ rfl
  have a0 : (0 : Int) ≤ (a : Int) := by omega
  have a1 : (a : Int) < (c.N : Int) := by omega
  have x0 : (0 : Int) ≤ (b : Int) := by omega
  have x1 : (b : Int) < (c.N : Int) := by omega
  have hrr : ((c.at a).1.addr == (c.at b).1.addr) = r := by rw [← hr]; rfl
  have HH : Hid (w.drew.cell? ⟨p.g, 0, none⟩ = some (.slice (some ⟨p.b, p.off, none⟩) c.N p.cA) ∧ w.drew.cell? ⟨p.b, p.off + a * 14 + 3, none⟩ = some (.int .u64 (c.at a).1.addr) ∧ w.drew.cell? ⟨p.b, p.off + b * 14 + 3, none⟩ = some (.int .u64 (c.at b).1.addr)) := Lib.hid ⟨b0, ca, cb⟩
  clear h ha hb hAA hr
  go_enter Tryz.func141, Tryz.ntmps141
  go_upto_region 1 with fail
  go_region_held3 (fun w' => w'.cell? ⟨p.g, 0, none⟩ = some (.slice (some ⟨p.b, p.off, none⟩) c.N p.cA) ∧ w'.cell? ⟨p.b, p.off + a * 14 + 3, none⟩ = some (.int .u64 (c.at a).1.addr) ∧ w'.cell? ⟨p.b, p.off + b * 14 + 3, none⟩ = some (.int .u64 (c.at b).1.addr)) (exact HH.out) (fail)
  go_wp2
  go_ret
  exact ⟨rfl, (Below.refl _ _).drew⟩
set_option maxRecDepth 100000 in
theorem between_v (a n b : Int) (w : World) (r : Bool) (hr : betweenB a n b = r) : Calls Tryz.prog 143 #[.int .i64 a, .int .i64 n, .int .i64 b] w fun e w' => SaysB w r e w' := by
  subst hr
  unfold betweenB
  by_cases h1 : a < n
  · have d1 : decide (a < n) = true := by simpa using h1
    rw [d1]
    by_cases h2 : n < b
    · have d2 : decide (n < b) = true := by simpa using h2
      rw [d2]
      clear h1 h2
      go_enter Tryz.func143, Tryz.ntmps143
      go_wp2
      go_ret
      exact ⟨rfl, Below.refl _ _⟩
    · have d2 : decide (n < b) = false := by simpa using h2
      rw [d2]
      clear h1 h2
      go_enter Tryz.func143, Tryz.ntmps143
      go_wp2
      go_ret
      exact ⟨rfl, Below.refl _ _⟩
  · have d1 : decide (a < n) = false := by simpa using h1
    rw [d1]
    clear h1
    go_enter Tryz.func143, Tryz.ntmps143
    go_wp2
    go_ret
    exact ⟨rfl, Below.refl _ _⟩
theorem mem_side (e : Ev) (hk : 1 ≤ e.kind ∧ e.kind ≤ 6) : decide (sideE e ≠ 0) = memE e := by
  obtain ⟨h1, h2⟩ := hk
  unfold sideE readsE writesE memE
  have : e.kind = 1 ∨ e.kind = 2 ∨ e.kind = 3 ∨ e.kind = 4 ∨ e.kind = 5 ∨ e.kind = 6 := by omega
  rcases this with h | h | h | h | h | h <;> rw [h] <;> decide
end Go.Proofs.YtcbfokbdiefdeaaGreatDoor
