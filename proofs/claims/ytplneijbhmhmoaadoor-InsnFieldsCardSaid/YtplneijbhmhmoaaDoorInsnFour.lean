/-
  Proved here: four variables made in one statement out of one instruction, in whatever order: four new boxes that hold it. Condition: the operations are those of that statement.
-/
import Derived.Test.YtplneijbhmhmoaaDoorRegionInv
import Derived.Test.YtplneijbhmhmoaaDoorInsnReads
namespace Go.Proofs.YtplneijbhmhmoaaDoor
open Go Go.RowKit

def upd (u : Nat → Value) (k : Nat) (x : Value) : Nat → Value := fun j => if j = k then x else u j
theorem upd_same (u : Nat → Value) (k : Nat) (x : Value) : upd u k x k = x := if_pos rfl
def updN (p : Nat → Nat) (k x : Nat) : Nat → Nat := fun j => if j = k then x else p j
theorem updN_same (p : Nat → Nat) (k x : Nat) : updN p k x k = x := if_pos rfl
theorem updN_other (p : Nat → Nat) {k j : Nat} (x : Nat) (h : j ≠ k) : updN p k x j = p j := if_neg h
theorem upd_other (u : Nat → Value) {k j : Nat} (x : Value) (h : j ≠ k) : upd u k x j = u j := if_neg h
def slots (a : Act) (u : Nat → Value) : Act := ((((((((a.put (some 27) (u 0)).put (some 28) (u 1)).put (some 29) (u 2)).put (some 30) (u 3)).put (some 5) (u 4)).put (some 6) (u 5)).put (some 7) (u 6)).put (some 8) (u 7))
theorem slots_put_0 (a : Act) (u : Nat → Value) (x : Value) : (slots a u).put (some 27) x = slots a (upd u 0 x) := by
  unfold slots
  rw [put_comm _ 8 27 _ _ (by decide), put_comm _ 7 27 _ _ (by decide), put_comm _ 6 27 _ _ (by decide), put_comm _ 5 27 _ _ (by decide), put_comm _ 30 27 _ _ (by decide), put_comm _ 29 27 _ _ (by decide), put_comm _ 28 27 _ _ (by decide), put_put _ 27]
  rfl
theorem slots_eval_0 (a : Act) (u : Nat → Value) (h : 30 < a.tmps.size) : (slots a u).eval (.tmp 27) = u 0 := by
  unfold slots
  rw [eval_put_other _ 8 27 _ (by decide), eval_put_other _ 7 27 _ (by decide), eval_put_other _ 6 27 _ (by decide), eval_put_other _ 5 27 _ (by decide), eval_put_other _ 30 27 _ (by decide), eval_put_other _ 29 27 _ (by decide), eval_put_other _ 28 27 _ (by decide), eval_put_same _ 27 _ (by (try simp only [put_size]); omega)]
theorem slots_put_1 (a : Act) (u : Nat → Value) (x : Value) : (slots a u).put (some 28) x = slots a (upd u 1 x) := by
  unfold slots
  rw [put_comm _ 8 28 _ _ (by decide), put_comm _ 7 28 _ _ (by decide), put_comm _ 6 28 _ _ (by decide), put_comm _ 5 28 _ _ (by decide), put_comm _ 30 28 _ _ (by decide), put_comm _ 29 28 _ _ (by decide), put_put _ 28]
  rfl
theorem slots_eval_1 (a : Act) (u : Nat → Value) (h : 30 < a.tmps.size) : (slots a u).eval (.tmp 28) = u 1 := by
  unfold slots
  rw [eval_put_other _ 8 28 _ (by decide), eval_put_other _ 7 28 _ (by decide), eval_put_other _ 6 28 _ (by decide), eval_put_other _ 5 28 _ (by decide), eval_put_other _ 30 28 _ (by decide), eval_put_other _ 29 28 _ (by decide), eval_put_same _ 28 _ (by (try simp only [put_size]); omega)]
theorem slots_put_2 (a : Act) (u : Nat → Value) (x : Value) : (slots a u).put (some 29) x = slots a (upd u 2 x) := by
  unfold slots
  rw [put_comm _ 8 29 _ _ (by decide), put_comm _ 7 29 _ _ (by decide), put_comm _ 6 29 _ _ (by decide), put_comm _ 5 29 _ _ (by decide), put_comm _ 30 29 _ _ (by decide), put_put _ 29]
  rfl
theorem slots_eval_2x (a : Act) (u : Nat → Value) (h : 30 < a.tmps.size) : (slots a u).eval (.tmp 29) = u 2 := by
  unfold slots
  rw [eval_put_other _ 8 29 _ (by decide), eval_put_other _ 7 29 _ (by decide), eval_put_other _ 6 29 _ (by decide), eval_put_other _ 5 29 _ (by decide), eval_put_other _ 30 29 _ (by decide), eval_put_same _ 29 _ (by (try simp only [put_size]); omega)]
theorem slots_put_3 (a : Act) (u : Nat → Value) (x : Value) : (slots a u).put (some 30) x = slots a (upd u 3 x) := by
  unfold slots
  rw [put_comm _ 8 30 _ _ (by decide), put_comm _ 7 30 _ _ (by decide), put_comm _ 6 30 _ _ (by decide), put_comm _ 5 30 _ _ (by decide), put_put _ 30]
  rfl
theorem slots_eval_3 (a : Act) (u : Nat → Value) (h : 30 < a.tmps.size) : (slots a u).eval (.tmp 30) = u 3 := by
  unfold slots
  rw [eval_put_other _ 8 30 _ (by decide), eval_put_other _ 7 30 _ (by decide), eval_put_other _ 6 30 _ (by decide), eval_put_other _ 5 30 _ (by decide), eval_put_same _ 30 _ (by (try simp only [put_size]); omega)]
theorem slots_put_4 (a : Act) (u : Nat → Value) (x : Value) : (slots a u).put (some 5) x = slots a (upd u 4 x) := by
  unfold slots
  rw [put_comm _ 8 5 _ _ (by decide), put_comm _ 7 5 _ _ (by decide), put_comm _ 6 5 _ _ (by decide), put_put _ 5]
  rfl
theorem slots_eval_4 (a : Act) (u : Nat → Value) (h : 30 < a.tmps.size) : (slots a u).eval (.tmp 5) = u 4 := by
  unfold slots
  rw [eval_put_other _ 8 5 _ (by decide), eval_put_other _ 7 5 _ (by decide), eval_put_other _ 6 5 _ (by decide), eval_put_same _ 5 _ (by (try simp only [put_size]); omega)]
theorem slots_put_5 (a : Act) (u : Nat → Value) (x : Value) : (slots a u).put (some 6) x = slots a (upd u 5 x) := by
  unfold slots
  rw [put_comm _ 8 6 _ _ (by decide), put_comm _ 7 6 _ _ (by decide), put_put _ 6]
  rfl
theorem slots_eval_5 (a : Act) (u : Nat → Value) (h : 30 < a.tmps.size) : (slots a u).eval (.tmp 6) = u 5 := by
  unfold slots
  rw [eval_put_other _ 8 6 _ (by decide), eval_put_other _ 7 6 _ (by decide), eval_put_same _ 6 _ (by (try simp only [put_size]); omega)]
theorem slots_put_6 (a : Act) (u : Nat → Value) (x : Value) : (slots a u).put (some 7) x = slots a (upd u 6 x) := by
  unfold slots
  rw [put_comm _ 8 7 _ _ (by decide), put_put _ 7]
  rfl
theorem slots_eval_6 (a : Act) (u : Nat → Value) (h : 30 < a.tmps.size) : (slots a u).eval (.tmp 7) = u 6 := by
  unfold slots
  rw [eval_put_other _ 8 7 _ (by decide), eval_put_same _ 7 _ (by (try simp only [put_size]); omega)]
theorem slots_put_7 (a : Act) (u : Nat → Value) (x : Value) : (slots a u).put (some 8) x = slots a (upd u 7 x) := by
  unfold slots
  rw [put_put _ 8]
  rfl
theorem slots_eval_7 (a : Act) (u : Nat → Value) (h : 30 < a.tmps.size) : (slots a u).eval (.tmp 8) = u 7 := by
  unfold slots
  rw [eval_put_same _ 8 _ (by (try simp only [put_size]); omega)]
theorem slots_eval_2 (a : Act) (u : Nat → Value) : (slots a u).eval (.tmp 2) = a.eval (.tmp 2) := by
  unfold slots
  rw [eval_put_other _ 8 2 _ (by decide), eval_put_other _ 7 2 _ (by decide), eval_put_other _ 6 2 _ (by decide), eval_put_other _ 5 2 _ (by decide), eval_put_other _ 30 2 _ (by decide), eval_put_other _ 29 2 _ (by decide), eval_put_other _ 28 2 _ (by decide), eval_put_other _ 27 2 _ (by decide)]
theorem slots_load (a : Act) (u : Nat → Value) (x : Value) : ∀ k, k < 4 → (slots a u).put (some (27 + k)) x = slots a (upd u k x)
  | 0, _ => slots_put_0 a u x
  | 1, _ => slots_put_1 a u x
  | 2, _ => slots_put_2 a u x
  | 3, _ => slots_put_3 a u x
  | n + 4, h => absurd h (Nat.not_lt_of_le (Nat.le_add_left 4 n))
theorem slots_new (a : Act) (u : Nat → Value) (x : Value) : ∀ k, k < 4 → (slots a u).put (some (5 + k)) x = slots a (upd u (4 + k) x)
  | 0, _ => slots_put_4 a u x
  | 1, _ => slots_put_5 a u x
  | 2, _ => slots_put_6 a u x
  | 3, _ => slots_put_7 a u x
  | n + 4, h => absurd h (Nat.not_lt_of_le (Nat.le_add_left 4 n))
theorem eval_load (a : Act) (u : Nat → Value) (h30 : 30 < a.tmps.size) : ∀ k, k < 4 → (slots a u).eval (.tmp (27 + k)) = u k
  | 0, _ => slots_eval_0 a u h30
  | 1, _ => slots_eval_1 a u h30
  | 2, _ => slots_eval_2x a u h30
  | 3, _ => slots_eval_3 a u h30
  | n + 4, h => absurd h (Nat.not_lt_of_le (Nat.le_add_left 4 n))
theorem eval_new (a : Act) (u : Nat → Value) (h30 : 30 < a.tmps.size) : ∀ k, k < 4 → (slots a u).eval (.tmp (5 + k)) = u (4 + k)
  | 0, _ => slots_eval_4 a u h30
  | 1, _ => slots_eval_5 a u h30
  | 2, _ => slots_eval_6 a u h30
  | 3, _ => slots_eval_7 a u h30
  | n + 4, h => absurd h (Nat.not_lt_of_le (Nat.le_add_left 4 n))
theorem put_self (a : Act) (d : Nat) (h : d < a.tmps.size) : a.put (some d) (a.eval (.tmp d)) = a := by
  unfold Act.put Act.eval
  obtain ⟨t, df⟩ := a
  simp only
  congr 1
  apply Array.ext
  · simp
  · intro j h1 h2
    have h' : d < t.size := h
    rw [Array.getElem_setIfInBounds h2]
    split
    · rename_i e; subst e; simp
    · rfl
def nowU (a : Act) : Nat → Value := fun j => match j with
  | 0 => a.eval (.tmp 27)
  | 1 => a.eval (.tmp 28)
  | 2 => a.eval (.tmp 29)
  | 3 => a.eval (.tmp 30)
  | 4 => a.eval (.tmp 5)
  | 5 => a.eval (.tmp 6)
  | 6 => a.eval (.tmp 7)
  | 7 => a.eval (.tmp 8)
  | _ => undef
theorem slots_now (a : Act) (h : 30 < a.tmps.size) : slots a (nowU a) = a := by
  unfold slots nowU
  simp only
  rw [put_self a 27 (by omega), put_self a 28 (by omega), put_self a 29 (by omega), put_self a 30 (by omega), put_self a 5 (by omega), put_self a 6 (by omega), put_self a 7 (by omega), put_self a 8 (by omega)]
/-- the operations of 'a, b, c, d := i, i, i, i' -/
structure Four4 (ops : Array Oper) : Prop where
  size : ops.size = 12
  load : ∀ k, k < 4 → ∃ o, ops[k]? = some o ∧ o.guard = none ∧ o.dst = some (27 + k) ∧ o.op = .load 23 (.tmp 2)
  alloc : ∀ k, k < 4 → ∃ o, ops[4 + k]? = some o ∧ o.guard = none ∧ o.dst = some (5 + k) ∧ o.op = .alloc 23
  store : ∀ k, k < 4 → ∃ o, ops[8 + k]? = some o ∧ o.guard = none ∧ o.dst = none ∧ o.op = .store 23 (.tmp (5 + k)) (.tmp (27 + k))
  need : ∀ l k, k < 4 → 8 + k ∈ Region.ready .any ops l → l.getD k false = true ∧ l.getD (4 + k) false = true
  done : ∀ l, l.size = 12 → Region.ready .any ops l = [] → ∀ k, k < 12 → l.getD k false = true
def Inv4 (i : Ins) (w : World) (a0 : Act) (l : Array Bool) (a : Act) (wx : World) : Prop :=
  l.size = 12 ∧ Stand i w wx ∧ ∃ (u : Nat → Value) (p : Nat → Nat), a = slots a0 u ∧
    (∀ k, k < 4 → l.getD k false = true → u k = i.V) ∧
    (∀ k, k < 4 → l.getD (4 + k) false = true → u (4 + k) = .pointer (some ⟨p k, 0, none⟩) ∧ w.heap.size < p k ∧ p k < wx.heap.size ∧
      ∃ cs, cs.size = 9 ∧ wx.heap[p k]? = some (.cells cs 23 (0, 0)) ∧ (l.getD (8 + k) false = true → cs = insCells i)) ∧
    (∀ j k, j < 4 → k < 4 → j ≠ k → l.getD (4 + j) false = true → l.getD (4 + k) false = true → p j ≠ p k) ∧
    (∀ k, k < 4 → l.getD (8 + k) false = true → l.getD (4 + k) false = true)
theorem put_none (a : Act) (v : Value) : a.put none v = a := rfl
theorem getD_set (l : Array Bool) (i j : Nat) (hi : i < l.size) : (l.setIfInBounds i true).getD j false = (decide (i = j) || l.getD j false) := by
  rw [Array.getD_eq_getD_getElem?, Array.getD_eq_getD_getElem?, Array.getElem?_setIfInBounds]
  by_cases h : i = j
  · subst h; simp [hi]
  · simp [h]
theorem on_set (l : Array Bool) (i j : Nat) (hi : i < l.size) (h : l.getD j false = true) : (l.setIfInBounds i true).getD j false = true := by
  rw [getD_set l i j hi, h]; simp
theorem was (l : Array Bool) (i j : Nat) (hi : i < l.size) (hn : i ≠ j) (h : (l.setIfInBounds i true).getD j false = true) : l.getD j false = true := by
  rw [getD_set l i j hi] at h; simpa [hn] using h
theorem Stand.box {i : Ins} {w wx : World} (h : Stand i w wx) : w.heap.size < wx.heap.size := (Array.getElem?_eq_some_iff.1 h.1).1
theorem ins_size (i : Ins) : (insCells i).size = 9 := rfl
theorem ins_info (i : Ins) : (Tryd.prog.info? 23).map (·.size) = some (insCells i).size := by
  rw [ins_size i]; kernel_rfl
theorem ins_one (i : Ins) : (insCells i).all (·.oneCell') = true := by
  unfold insCells
  simp [Value.oneCell']
theorem ins_V (i : Ins) : i.V = .agg (insCells i) := rfl
theorem step_load {Q : Exit → Act → World → Prop} {ops : Array Oper} (R : Four4 ops) (i : Ins) (w : World) (a0 : Act) (h2 : a0.eval (.tmp 2) = .pointer (some ⟨w.heap.size, 0, none⟩))
    (l : Array Bool) (a : Act) (wx : World) (k : Nat) (hk : k < 4) (hI : Inv4 i w a0 l a wx) : wpOp Tryd.prog ops Q k (fun a' w' => Inv4 i w a0 (l.setIfInBounds k true) a' w') a wx := by
  obtain ⟨hz, hs, u, p, rfl, hl, ha, hd, hst⟩ := hI
  obtain ⟨o, ho, hg, hdst, hop⟩ := R.load k hk
  have hkz : k < l.size := by omega
  unfold wpOp
  rw [ho]
  have hw : Region.wanted o (yielded ops (slots a0 u).tmps) = true := by unfold Region.wanted; rw [hg]
  show if Region.wanted o _ = true then _ else _
  rw [if_pos hw]
  refine .inl (wp_load_row 23 (.tmp 2) hop w.heap.size (by rw [slots_eval_2]; exact h2) 23 (insCells i) (0, 0) _ hs.1 Tryd.underlying23 rfl (by kernel_rfl) ?_)
  rw [hdst, slots_load a0 u _ k hk]
  refine ⟨by simpa using hz, hs, _, p, rfl, ?_, ?_, ?_, fun j hj h => on_set l k _ hkz (hst j hj (was l k (8 + j) hkz (by omega) h))⟩
  · intro j hj hlj
    by_cases e : j = k
    · subst e; rw [upd_same]
    · rw [upd_other _ _ e]; exact hl j hj (was l k j hkz (Ne.symm e) hlj)
  · intro j hj hlj
    rw [upd_other _ _ (show 4 + j ≠ k by omega)]
    obtain ⟨q1, q2, q3, cs, q4, q5, q6⟩ := ha j hj (was l k (4 + j) hkz (by omega) hlj)
    exact ⟨q1, q2, q3, cs, q4, q5, fun h => q6 (was l k (8 + j) hkz (by omega) h)⟩
  · intro j j' hj hj' hne h h'
    exact hd j j' hj hj' hne (was l k (4 + j) hkz (by omega) h) (was l k (4 + j') hkz (by omega) h')
def noughtIns : Array Value := #[.int .i64 0, .int .i64 0, .int .i64 0, .int .i64 0, .int .i64 0, .bool false, .bool false, .int .i64 0, .int .i64 0]
theorem zero_ins : ((Tryd.prog.info? 23).bind (·.zero)) = some (.agg noughtIns) := by kernel_rfl
theorem step_alloc {Q : Exit → Act → World → Prop} {ops : Array Oper} (R : Four4 ops) (i : Ins) (w : World) (a0 : Act)
    (l : Array Bool) (a : Act) (wx : World) (k : Nat) (hk : k < 4) (hI : Inv4 i w a0 l a wx) (hnot : l.getD (8 + k) false = false) : wpOp Tryd.prog ops Q (4 + k) (fun a' w' => Inv4 i w a0 (l.setIfInBounds (4 + k) true) a' w') a wx := by
  obtain ⟨hz, hs, u, p, rfl, hl, ha, hd, hst⟩ := hI
  obtain ⟨o, ho, hg, hdst, hop⟩ := R.alloc k hk
  have hkz : 4 + k < l.size := by omega
  unfold wpOp
  rw [ho]
  have hw : Region.wanted o (yielded ops (slots a0 u).tmps) = true := by unfold Region.wanted; rw [hg]
  show if Region.wanted o _ = true then _ else _
  rw [if_pos hw]
  refine .inl ?_
  obtain ⟨inf, hi, hzr⟩ := Option.bind_eq_some_iff.1 zero_ins
  have hr : (Instr.alloc 23 true (.tuple #[])).run Tryd.prog wx = .ok (.pointer (some ⟨wx.heap.size, 0, none⟩)) (wx.alloc (.cells noughtIns 23)) := by
    simp [Instr.alloc, zeroValue, typeInfo, hi, hzr, newVar, newRow, Value.cells, go_sem]
  unfold Oper.wp execOp
  simp only [hop, Sem.run_bind, hr, Result.andThen_ok]
  show Inv4 i w a0 _ ((slots a0 u).put o.dst _) _
  rw [hdst, slots_new a0 u _ k hk]
  have hbox := hs.box
  have hnew : (wx.alloc (.cells noughtIns 23)).heap[wx.heap.size]? = some (.cells noughtIns 23 (0, 0)) := heap_new wx _
  have hold : ∀ n, n < wx.heap.size → (wx.alloc (.cells noughtIns 23)).heap[n]? = wx.heap[n]? := fun n hn => Lib.alloc_old wx _ n hn
  have hsize : (wx.alloc (.cells noughtIns 23)).heap.size = wx.heap.size + 1 := by simp
  refine ⟨by simpa using hz, hs.on ((Below.refl _ _).alloc (Nat.le_refl _) _), _, updN p k wx.heap.size, rfl, ?_, ?_, ?_, fun j hj h => on_set l (4 + k) _ hkz (hst j hj (was l (4 + k) (8 + j) hkz (by omega) h))⟩
  · intro j hj hlj
    rw [upd_other _ _ (show j ≠ 4 + k by omega)]
    exact hl j hj (was l (4 + k) j hkz (by omega) hlj)
  · intro j hj hlj
    by_cases e : j = k
    · subst e
      rw [upd_same, updN_same]
      refine ⟨rfl, hbox, by rw [hsize]; omega, noughtIns, rfl, hnew, fun h => ?_⟩
      have := was l (4 + j) (8 + j) hkz (by omega) h
      rw [hnot] at this; cases this
    · rw [upd_other _ _ (show 4 + j ≠ 4 + k by omega), updN_other _ _ e]
      obtain ⟨q1, q2, q3, cs, q4, q5, q6⟩ := ha j hj (was l (4 + k) (4 + j) hkz (by omega) hlj)
      exact ⟨q1, q2, by rw [hsize]; omega, cs, q4, (hold _ q3).trans q5, fun h => q6 (was l (4 + k) (8 + j) hkz (by omega) h)⟩
  · intro j j' hj hj' hne h h'
    by_cases e : j = k
    · subst e
      have e' : j' ≠ j := Ne.symm hne
      obtain ⟨_, _, q3, _⟩ := ha j' hj' (was l (4 + j) (4 + j') hkz (by omega) h')
      rw [updN_same, updN_other _ _ e']; omega
    · by_cases e' : j' = k
      · subst e'
        obtain ⟨_, _, q3, _⟩ := ha j hj (was l (4 + j') (4 + j) hkz (by omega) h)
        rw [updN_same, updN_other _ _ e]; omega
      · rw [updN_other _ _ e, updN_other _ _ e']
        exact hd j j' hj hj' hne (was l (4 + k) (4 + j) hkz (by omega) h) (was l (4 + k) (4 + j') hkz (by omega) h')
theorem step_store {Q : Exit → Act → World → Prop} {ops : Array Oper} (R : Four4 ops) (i : Ins) (w : World) (a0 : Act) (h30 : 30 < a0.tmps.size)
    (l : Array Bool) (a : Act) (wx : World) (k : Nat) (hk : k < 4) (hI : Inv4 i w a0 l a wx) (hn1 : l.getD k false = true) (hn2 : l.getD (4 + k) false = true) : wpOp Tryd.prog ops Q (8 + k) (fun a' w' => Inv4 i w a0 (l.setIfInBounds (8 + k) true) a' w') a wx := by
  obtain ⟨hz, hs, u, p, rfl, hl, ha, hd, hst⟩ := hI
  obtain ⟨o, ho, hg, hdst, hop⟩ := R.store k hk
  have hkz : 8 + k < l.size := by omega
  unfold wpOp
  rw [ho]
  have hw : Region.wanted o (yielded ops (slots a0 u).tmps) = true := by unfold Region.wanted; rw [hg]
  show if Region.wanted o _ = true then _ else _
  rw [if_pos hw]
  obtain ⟨q1, q2, q3, cs, q4, q5, q6⟩ := ha k hk hn2
  have hx : (slots a0 u).eval (.tmp (5 + k)) = .pointer (some ⟨p k, 0, none⟩) := (eval_new a0 u h30 k hk).trans q1
  have hy : (slots a0 u).eval (.tmp (27 + k)) = .agg (insCells i) := (eval_load a0 u h30 k hk).trans (hl k hk hn1)
  have hcs : cs.size = (insCells i).size := q4.trans (ins_size i).symm
  refine .inl (wp_store_row 23 (.tmp (5 + k)) (.tmp (27 + k)) hop (p k) (insCells i) hx hy 23 cs q5 (ins_info i) hcs (ins_one i) ?_)
  rw [hdst, put_none]
  have hsame : (wx.setRow (p k) (insCells i)).heap[p k]? = some (.cells (insCells i) 23 (0, 0)) := setRow_heap wx (p k) cs _ _ _ q5
  have hoth : ∀ n, n ≠ p k → (wx.setRow (p k) (insCells i)).heap[n]? = wx.heap[n]? := fun n hn => setRow_other wx (p k) n _ hn
  have hsize : (wx.setRow (p k) (insCells i)).heap.size = wx.heap.size := by simp
  refine ⟨by simpa using hz, ⟨(hoth _ (by omega)).trans hs.1, below_row hs.2 (Nat.le_of_lt q2) _⟩, u, p, rfl, ?_, ?_, ?_, ?_⟩
  · intro j hj hlj
    exact hl j hj (was l (8 + k) j hkz (by omega) hlj)
  · intro j hj hlj
    by_cases e : j = k
    · subst e
      exact ⟨q1, q2, by rw [hsize]; exact q3, insCells i, rfl, hsame, fun _ => rfl⟩
    · have hlj' := was l (8 + k) (4 + j) hkz (by omega) hlj
      obtain ⟨r1, r2, r3, cs', r4, r5, r6⟩ := ha j hj hlj'
      exact ⟨r1, r2, by rw [hsize]; exact r3, cs', r4, (hoth _ (hd j k hj hk e hlj' hn2)).trans r5, fun h => r6 (was l (8 + k) (8 + j) hkz (by omega) h)⟩
  · intro j j' hj hj' hne h h'
    exact hd j j' hj hj' hne (was l (8 + k) (4 + j) hkz (by omega) h) (was l (8 + k) (4 + j') hkz (by omega) h')
  · intro j hj h
    by_cases e : j = k
    · subst e; exact on_set l _ _ hkz hn2
    · exact on_set l _ _ hkz (hst j hj (was l (8 + k) (8 + j) hkz (by omega) h))
theorem slots_congr (a : Act) (u v : Nat → Value) (h : ∀ j, j < 8 → u j = v j) : slots a u = slots a v := by
  unfold slots
  rw [h 0 (by decide), h 1 (by decide), h 2 (by decide), h 3 (by decide), h 4 (by decide), h 5 (by decide), h 6 (by decide), h 7 (by decide)]
def fourU (i : Ins) (p q r s : Nat) : Nat → Value := fun j => match j with
  | 0 => i.V
  | 1 => i.V
  | 2 => i.V
  | 3 => i.V
  | 4 => .pointer (some ⟨p, 0, none⟩)
  | 5 => .pointer (some ⟨q, 0, none⟩)
  | 6 => .pointer (some ⟨r, 0, none⟩)
  | 7 => .pointer (some ⟨s, 0, none⟩)
  | _ => undef
theorem getD_flip (l : Array Bool) (i : Nat) (h : l.getD i true = false) : l.getD i false = false := by
  rw [Array.getD_eq_getD_getElem?] at h ⊢
  cases hx : l[i]? with
  | none => rw [hx] at h; cases h
  | some b => rw [hx] at h; exact h
theorem wp_region_four {id : Nat} {ops : Array Oper} {Q : Exit → Act → World → Prop} (R : Four4 ops) (hm : Tryd.prog.follows .mixedOrders = true) (i : Ins) (w : World) (a0 : Act) (wx : World) (h30 : 30 < a0.tmps.size)
    (h2 : a0.eval (.tmp 2) = .pointer (some ⟨w.heap.size, 0, none⟩)) (hs : Stand i w wx)
    (hq : ∀ (p q r s : Nat) (wy : World), (w.heap.size < p ∧ w.heap.size < q ∧ w.heap.size < r ∧ w.heap.size < s) ∧ (p ≠ q ∧ p ≠ r ∧ p ≠ s ∧ q ≠ r ∧ q ≠ s ∧ r ≠ s) ∧ InsAt i p wy ∧ InsAt i q wy ∧ InsAt i r wy ∧ InsAt i s wy → Stand i w wy → Q .normal (slots a0 (fourU i p q r s)) wy) :
    (Code.region id ops true).wp Tryd.prog Q a0 wx := by
  refine wp_region_inv hm (Inv4 i w a0) (fun l a w' h => h.1.trans R.size.symm) ?_ ?_ ?_
  · intro l a wz j hI hj
    obtain ⟨h1, hnl, _⟩ := ready_of hj
    rw [R.size] at h1
    have hnl := getD_flip l j hnl
    by_cases c1 : j < 4
    · exact step_load R i w a0 h2 l a wz j c1 hI
    · by_cases c2 : j < 8
      · obtain ⟨k, rfl⟩ : ∃ k, j = 4 + k := ⟨j - 4, by omega⟩
        refine step_alloc R i w a0 l a wz k (by omega) hI ?_
        obtain ⟨_, _, _, _, _, _, _, _, hst⟩ := hI
        cases hb : l.getD (8 + k) false with
        | false => rfl
        | true => rw [hst k (by omega) hb] at hnl; cases hnl
      · obtain ⟨k, rfl⟩ : ∃ k, j = 8 + k := ⟨j - 8, by omega⟩
        obtain ⟨n1, n2⟩ := R.need l k (by omega) hj
        exact step_store R i w a0 h30 l a wz k (by omega) hI n1 n2
  · intro l a wz hI hr
    have hall := R.done l hI.1 hr
    obtain ⟨hz, hst, u, p, rfl, hl, ha, hd, _⟩ := hI
    have b : ∀ k, k < 4 → u (4 + k) = .pointer (some ⟨p k, 0, none⟩) ∧ w.heap.size < p k ∧ InsAt i (p k) wz := by
      intro k hk
      obtain ⟨q1, q2, _, cs, _, q5, q6⟩ := ha k hk (hall (4 + k) (by omega))
      refine ⟨q1, q2, ?_⟩
      rw [q6 (hall (8 + k) (by omega))] at q5
      exact q5
    have d : ∀ j k, j < 4 → k < 4 → j ≠ k → p j ≠ p k := fun j k hj hk hne => hd j k hj hk hne (hall (4 + j) (by omega)) (hall (4 + k) (by omega))
    rw [slots_congr a0 u (fourU i (p 0) (p 1) (p 2) (p 3)) (fun j hj => by
      match j, hj with
      | 0, _ => exact hl 0 (by decide) (hall 0 (by decide))
      | 1, _ => exact hl 1 (by decide) (hall 1 (by decide))
      | 2, _ => exact hl 2 (by decide) (hall 2 (by decide))
      | 3, _ => exact hl 3 (by decide) (hall 3 (by decide))
      | 4, _ => exact (b 0 (by decide)).1
      | 5, _ => exact (b 1 (by decide)).1
      | 6, _ => exact (b 2 (by decide)).1
      | 7, _ => exact (b 3 (by decide)).1)]
    refine hq _ _ _ _ wz ⟨⟨(b 0 (by decide)).2.1, (b 1 (by decide)).2.1, (b 2 (by decide)).2.1, (b 3 (by decide)).2.1⟩, ⟨d 0 1 (by decide) (by decide) (by decide), d 0 2 (by decide) (by decide) (by decide), d 0 3 (by decide) (by decide) (by decide), d 1 2 (by decide) (by decide) (by decide), d 1 3 (by decide) (by decide) (by decide), d 2 3 (by decide) (by decide) (by decide)⟩, (b 0 (by decide)).2.2, (b 1 (by decide)).2.2, (b 2 (by decide)).2.2, (b 3 (by decide)).2.2⟩ hst
  · have hf : ∀ j, (Array.replicate ops.size false).getD j false = false := by
      intro j
      rw [Array.getD_eq_getD_getElem?, Array.getElem?_replicate]
      split <;> rfl
    refine ⟨by rw [Array.size_replicate, R.size], hs.drew, nowU a0, fun _ => 0, (slots_now a0 h30).symm, ?_, ?_, ?_, ?_⟩
    · intro k _ h; rw [hf] at h; cases h
    · intro k _ h; rw [hf] at h; cases h
    · intro j k _ _ _ h; rw [hf] at h; cases h
    · intro k _ h; rw [hf] at h; cases h
end Go.Proofs.YtplneijbhmhmoaaDoor
