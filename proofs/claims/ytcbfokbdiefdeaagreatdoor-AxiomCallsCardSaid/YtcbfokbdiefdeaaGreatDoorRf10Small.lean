/-
  Proved here: the document's small questions of a view: in, side, ahead; nothing that was there is changed. Condition: a candidate that may be, its events in a row.
  (With it: Words: the document's rules of what is preserved, said of a candidate that may be, are package ppo's. No condition.)
-/
import Derived.Test.YtcbfokbdiefdeaaGreatDoorPpWhole
import Derived.Test.YtcbfokbdiefdeaaGreatDoorRf09Pure
import Derived.Test.YtcbfokbdiefdeaaGreatDoorPpOwn
import Derived.Test.YtcbfokbdiefdeaaGreatDoorRf09All
namespace Go.Proofs.YtcbfokbdiefdeaaGreatDoor
set_option linter.unusedVariables false
set_option linter.unusedSimpArgs false
open Go.RowKit Go.Maps

theorem two_same {c : Cd} (hm : c.may = true) {a b : Nat} (ha : a < c.N) (hb : b < c.N) (hh : (c.at a).1.hart = (c.at b).1.hart) : (b : Int) - a = (c.at b).1.pos - (c.at a).1.pos := by
  obtain ⟨h, j, _, _, e1, _, h1, p1, _⟩ := may_num hm a ha
  obtain ⟨h', j', _, _, e2, _, h2, p2, _⟩ := may_num hm b hb
  have hhh : h = h' := by omega
  subst hhh
  rw [p1, p2]; omega
/-- the document's ahead -/
def aheadR (c : Cd) (a b : Int) : Bool :=
  (!(decide (a < 0) || (decide (b < 0) || (decide ((c.N : Int) ≤ a) || decide ((c.N : Int) ≤ b))))) && (((c.at a.toNat).1.hart == (c.at b.toNat).1.hart) && (decide ((c.at a.toNat).1.pos < (c.at b.toNat).1.pos) && (memE (c.at a.toNat).1 && memE (c.at b.toNat).1)))
theorem aheadR_is {c : Cd} (hm : c.may = true) (a b : Int) : aheadR c a b = aheadP c a b := by
  unfold aheadR aheadP
  by_cases h0 : 0 ≤ a ∧ 0 ≤ b ∧ a < c.N ∧ b < c.N
  · obtain ⟨h1, h2, h3, h4⟩ := h0
    rw [decide_eq_false (show ¬ a < 0 by omega), decide_eq_false (show ¬ b < 0 by omega), decide_eq_false (show ¬ (c.N : Int) ≤ a by omega), decide_eq_false (show ¬ (c.N : Int) ≤ b by omega), decide_eq_true h1, decide_eq_true h4]
    by_cases hh : (c.at a.toNat).1.hart = (c.at b.toNat).1.hart
    · have := two_same hm (a := a.toNat) (b := b.toNat) (by omega) (by omega) hh
      have e : ((c.at a.toNat).1.pos < (c.at b.toNat).1.pos) = (a < b) := propext (by omega)
      simp only [e, hh, beq_self_eq_true, Bool.or_false, Bool.not_false, Bool.true_and, decide_true]
    · have : ((c.at a.toNat).1.hart == (c.at b.toNat).1.hart) = false := by simpa using hh
      rw [this, decide_eq_false hh]; simp
  · by_cases h1 : a < 0
    · rw [decide_eq_true h1, decide_eq_false (show ¬ 0 ≤ a by omega)]; simp
    by_cases h2 : b < 0
    · rw [decide_eq_true h2, decide_eq_false (show ¬ a < b by omega)]; simp
    by_cases h4 : (c.N : Int) ≤ b
    · rw [decide_eq_true h4, decide_eq_false (show ¬ b < (c.N : Int) by omega)]; simp
    have h3 : (c.N : Int) ≤ a := by omega
    rw [decide_eq_true h3, decide_eq_false (show ¬ a < b by omega)]; simp
theorem wrL_up (c : Cd) (x : Int) : ∀ n m, m < n → writesE (c.at m).1 = true → (c.at m).1.addr = x → m ≤ wrL c x n
  | 0, m, h, _, _ => by omega
  | n + 1, m, h, h1, h2 => by
    unfold wrL
    split
    · omega
    · rename_i hn
      have : m ≠ n := fun e => hn (e ▸ ⟨h1, h2⟩)
      exact wrL_up c x n m (by omega) h1 h2
theorem wrL_is (c : Cd) (x : Int) : ∀ n, wrL c x n = 0 ∨ (wrL c x n < n ∧ writesE (c.at (wrL c x n)).1 = true ∧ (c.at (wrL c x n)).1.addr = x)
  | 0 => .inl rfl
  | n + 1 => by
    unfold wrL
    split
    · rename_i h; exact .inr ⟨by omega, h⟩
    · rcases wrL_is c x n with h | ⟨h1, h2⟩
      · exact .inl h
      · exact .inr ⟨by omega, h2⟩
theorem fnL_is (c : Cd) (s p : Nat) : ∀ n, fnL c s p n = 0 ∨ (fnL c s p n < n ∧ sideE (c.at (fnL c s p n)).1 = 0 ∧ meetS (c.at (fnL c s p n)).1.succ s = true ∧ meetS (c.at (fnL c s p n)).1.pred p = true)
  | 0 => .inl rfl
  | n + 1 => by
    unfold fnL
    split
    · rename_i h; exact .inr ⟨by omega, h⟩
    · rcases fnL_is c s p n with h | ⟨h1, h2⟩
      · exact .inl h
      · exact .inr ⟨by omega, h2⟩
theorem fnL_up (c : Cd) (s p : Nat) : ∀ n m, m < n → sideE (c.at m).1 = 0 → meetS (c.at m).1.succ s = true → meetS (c.at m).1.pred p = true → m ≤ fnL c s p n
  | 0, m, h, _, _, _ => by omega
  | n + 1, m, h, h1, h2, h3 => by
    unfold fnL
    split
    · omega
    · rename_i hn
      have : m ≠ n := fun e => hn (e ▸ ⟨h1, h2, h3⟩)
      exact fnL_up c s p n m (by omega) h1 h2 h3
theorem between_iff (a n b : Int) : betweenB a n b = true ↔ a < n ∧ n < b := by unfold betweenB; simp
/-! rule 2 -/
theorem r2_some {c : Cd} {a b m : Nat} (h1 : a < m) (h2 : m < b) (hw : writesE (c.at m).1 = true) (hx : (c.at m).1.addr = (c.at a).1.addr) : ruleB c a b 1 = false := by
  show (readsE (c.at a).1 && (readsE (c.at b).1 && (decide ((c.at a).1.addr = (c.at b).1.addr) && (!betweenB a (wrL c (c.at b).1.addr b) b && decide (atI c.fr a ≠ atI c.fr b))))) = false
  by_cases he : (c.at a).1.addr = (c.at b).1.addr
  · have h3 := wrL_up c (c.at b).1.addr b m h2 hw (by rw [hx, he])
    have h4 := wrL_is c (c.at b).1.addr b
    have : betweenB a (wrL c (c.at b).1.addr b) b = true := by rw [between_iff]; omega
    rw [this]; simp
  · rw [decide_eq_false he]; simp
theorem r2_none {c : Cd} {a b : Nat} (h : ∀ m, a < m → m < b → (writesE (c.at m).1 && decide ((c.at m).1.addr = (c.at a).1.addr)) = false) :
    ruleB c a b 1 = (readsE (c.at a).1 && (readsE (c.at b).1 && (decide ((c.at a).1.addr = (c.at b).1.addr) && decide (atI c.fr a ≠ atI c.fr b)))) := by
  show (readsE (c.at a).1 && (readsE (c.at b).1 && (decide ((c.at a).1.addr = (c.at b).1.addr) && (!betweenB a (wrL c (c.at b).1.addr b) b && decide (atI c.fr a ≠ atI c.fr b))))) = _
  by_cases he : (c.at a).1.addr = (c.at b).1.addr
  · have : betweenB a (wrL c (c.at b).1.addr b) b = false := by
      cases hb : betweenB a (wrL c (c.at b).1.addr b) b with
      | false => rfl
      | true =>
        rw [between_iff] at hb
        rcases wrL_is c (c.at b).1.addr b with h4 | ⟨h4, h5, h6⟩
        · omega
        · have := h _ (by omega) h4
          rw [h5, h6, he] at this
          simp at this
    rw [this]; simp
  · rw [decide_eq_false he]; simp
/-! rule 4 -/
theorem side_kind {c : Cd} (hm : c.may = true) {m : Nat} (hb : m < c.N) : sideE (c.at m).1 = 0 ↔ (c.at m).1.kind = 6 := by
  have hk := may_kind hm m hb
  have hr := reads_kind (c.at m).1
  have hw := writes_kind (c.at m).1
  unfold sideE
  constructor
  · intro h
    by_cases h6 : (c.at m).1.kind = 6
    · exact h6
    · exfalso
      have : readsE (c.at m).1 = true ∨ writesE (c.at m).1 = true := by
        rw [hr, hw]; simp only [Bool.or_eq_true, decide_eq_true_eq]; omega
      rcases this with e | e <;> rw [e] at h <;> simp at h
  · intro h6
    have e1 : readsE (c.at m).1 = false := by rw [hr, h6]; rfl
    have e2 : writesE (c.at m).1 = false := by rw [hw, h6]; rfl
    rw [e1, e2]; rfl
def f4 (c : Cd) (a b m : Nat) : Bool := decide ((c.at m).1.kind = 6) && (meetS (c.at m).1.pred (sideE (c.at a).1) && meetS (c.at m).1.succ (sideE (c.at b).1))
theorem r4_some {c : Cd} (hm : c.may = true) {a b m : Nat} (hb : b < c.N) (h1 : a < m) (h2 : m < b) (hf : f4 c a b m = true) : ruleB c a b 3 = true := by
  unfold f4 at hf
  simp only [Bool.and_eq_true, decide_eq_true_eq] at hf
  obtain ⟨h3, h4, h5⟩ := hf
  show betweenB a (fnL c (sideE (c.at b).1) (sideE (c.at a).1) b) b = true
  have h6 := fnL_up c (sideE (c.at b).1) (sideE (c.at a).1) b m h2 ((side_kind hm (by omega)).2 h3) h5 h4
  have h7 := fnL_is c (sideE (c.at b).1) (sideE (c.at a).1) b
  rw [between_iff]; omega
theorem r4_none {c : Cd} (hm : c.may = true) {a b : Nat} (hb : b < c.N) (h : ∀ m, a < m → m < b → f4 c a b m = false) : ruleB c a b 3 = false := by
  show betweenB a (fnL c (sideE (c.at b).1) (sideE (c.at a).1) b) b = false
  cases hb2 : betweenB a (fnL c (sideE (c.at b).1) (sideE (c.at a).1) b) b with
  | false => rfl
  | true =>
    rw [between_iff] at hb2
    rcases fnL_is c (sideE (c.at b).1) (sideE (c.at a).1) b with h4 | ⟨h4, h5, h6, h7⟩
    · omega
    · have := h _ (by omega) h4
      unfold f4 at this
      rw [h6, h7, decide_eq_true ((side_kind hm (by omega)).1 h5)] at this
      cases this
/-! rule 12 -/
def f12 (c : Cd) (a b m : Nat) : Bool := readsE (c.at b).1 && (decide (atI c.fr b = (m : Int)) && (writesE (c.at m).1 && (decide ((c.at a).1.pos ∈ (c.at m).2.a) || decide ((c.at a).1.pos ∈ (c.at m).2.d))))
theorem r12_some {c : Cd} {a b m : Nat} (h1 : a < m) (h2 : m < b) (hf : f12 c a b m = true) : ruleB c a b 11 = true := by
  unfold f12 at hf
  simp only [Bool.and_eq_true, decide_eq_true_eq] at hf
  obtain ⟨h3, h4, h5, h6⟩ := hf
  show (readsE (c.at b).1 && (betweenB a (atI c.fr b) b && (decide ((c.at a).1.pos ∈ (c.at (atI c.fr b).toNat).2.a) || decide ((c.at a).1.pos ∈ (c.at (atI c.fr b).toNat).2.d)))) = true
  have hbt : betweenB a (atI c.fr b) b = true := by rw [between_iff]; omega
  rw [h3, hbt, h4, Int.toNat_natCast, h6]; rfl
theorem r12_none {c : Cd} (hm : c.may = true) {a b : Nat} (hb : b < c.N) (h : ∀ m, a < m → m < b → f12 c a b m = false) : ruleB c a b 11 = false := by
  show (readsE (c.at b).1 && (betweenB a (atI c.fr b) b && (decide ((c.at a).1.pos ∈ (c.at (atI c.fr b).toNat).2.a) || decide ((c.at a).1.pos ∈ (c.at (atI c.fr b).toNat).2.d)))) = false
  cases hr : readsE (c.at b).1 with
  | false => rfl
  | true =>
    cases hbt : betweenB a (atI c.fr b) b with
    | false => rfl
    | true =>
      rw [between_iff] at hbt
      have hf := all_at _ _ (may_found hm).2 b hb
      unfold findB at hf
      rw [hr, if_neg (by simp), if_neg (by omega)] at hf
      have hw : writesE (c.at (atI c.fr b).toNat).1 = true := by
        split at hf
        · cases hf
        · simp only [Bool.and_eq_true] at hf; exact hf.1
      have := h (atI c.fr b).toNat (by omega) (by omega)
      unfold f12 at this
      rw [hr, hw, decide_eq_true (show atI c.fr b = ((atI c.fr b).toNat : Int) by omega)] at this
      simpa using this
/-! rule 13 -/
def f13 (c : Cd) (a b m : Nat) : Bool := writesE (c.at b).1 && (memE (c.at m).1 && decide ((c.at a).1.pos ∈ (c.at m).2.a))
theorem hgL_is (c : Cd) (a : Int) (ha : 0 ≤ a) : ∀ n, hgL c a n = 0 ∨ (0 ≤ hgL c a n ∧ hgL c a n < n ∧ a ∈ (c.at (hgL c a n).toNat).2.a.map (numAt c (hgL c a n).toNat))
  | 0 => .inl rfl
  | n + 1 => by
    unfold hgL
    split
    · rename_i h; exact .inr ⟨by omega, by omega, by simpa using h.2⟩
    · rcases hgL_is c a ha n with h | ⟨h0, h1, h2⟩
      · exact .inl h
      · exact .inr ⟨h0, by omega, h2⟩
theorem hgL_low (c : Cd) (a : Int) : ∀ n m, m < n → 0 < m → a ∈ (c.at m).2.a.map (numAt c m) → hgL c a n ≠ 0 ∧ hgL c a n ≤ (m : Int)
  | 0, m, h, _, _ => by omega
  | n + 1, m, h, hp, h1 => by
    unfold hgL
    split
    · rename_i h2
      by_cases e : m = n
      · subst e; omega
      · have := hgL_low c a n m (by omega) hp h1
        omega
    · rename_i h2
      by_cases e : m = n
      · subst e
        have : hgL c a m ≠ 0 := fun h3 => h2 ⟨h3, h1⟩
        have h5 := hgL_lt c a m
        omega
      · exact hgL_low c a n m (by omega) hp h1
theorem fence_bare {e : Ev} {l : El} (h : chkE e l = true) (hl : l.n) (hk : e.kind = 6) : l.a = [] := by
  unfold chkE at h
  simp only [Bool.and_eq_true] at h
  have h2 := h.2.1
  rw [hk] at h2
  have h3 := all_at _ 14 h2 11 (by omega)
  have h4 : hasB (fieldsOf 6) (2 ^ 11) = false := by decide
  unfold okAt at h3
  rw [h4, Bool.or_false, decide_eq_true_eq] at h3
  have h5 : IntKind.u64.wrap (l.a.length : Int) = 0 := h3
  rw [IntKind.wrap_u64] at h5
  have := hl.1
  exact List.eq_nil_of_length_eq_zero (by omega)
theorem mem_six {e : Ev} (h1 : 1 ≤ e.kind) (h2 : e.kind ≤ 6) (h : e.kind ≠ 6) : memE e = true := by
  rw [mem_kind, reads_kind, writes_kind]
  simp only [Bool.or_eq_true, decide_eq_true_eq]
  omega
theorem hang_ahead {c : Cd} (hm : c.may = true) {a : Int} {n : Nat} (hn : n < c.N) (h : a ∈ (c.at n).2.a.map (numAt c n)) : a < (n : Int) := by
  obtain ⟨x, hx, rfl⟩ := List.mem_map.1 h
  obtain ⟨_, _, _, _, _, _, _, _, hk⟩ := may_num hm n hn
  have := ahead_in (chk_lists hk).1 x hx
  unfold numAt; omega
theorem r13_some {c : Cd} (hm : c.may = true) {a b m : Nat} (hb : b < c.N) (hh : (c.at a).1.hart = (c.at b).1.hart) (h1 : a < m) (h2 : m < b) (hf : f13 c a b m = true) : ruleB c a b 12 = true := by
  unfold f13 at hf
  simp only [Bool.and_eq_true, decide_eq_true_eq] at hf
  obtain ⟨h3, h4, h5⟩ := hf
  show (writesE (c.at b).1 && betweenB a (hgL c a c.N) b) = true
  have hs := two_same hm (a := a) (b := m) (by omega) (by omega) (hart_between hm (by omega) (by omega) hb hh)
  have h6 : (a : Int) ∈ (c.at m).2.a.map (numAt c m) := List.mem_map.2 ⟨_, h5, by unfold numAt; omega⟩
  have h7 := hgL_low c a c.N m (by omega) (by omega) h6
  rcases hgL_is c a (by omega) c.N with h8 | ⟨h8, h9, h10⟩
  · exact absurd h8 h7.1
  · have := hang_ahead hm (by omega) h10
    have hbt : betweenB a (hgL c a c.N) b = true := by rw [between_iff]; omega
    rw [h3, hbt]; rfl
theorem r13_none {c : Cd} (hm : c.may = true) (hL : Lt c) {a b : Nat} (hb : b < c.N) (hh : (c.at a).1.hart = (c.at b).1.hart) (h : ∀ m, a < m → m < b → f13 c a b m = false) : ruleB c a b 12 = false := by
  show (writesE (c.at b).1 && betweenB a (hgL c a c.N) b) = false
  cases hw : writesE (c.at b).1 with
  | false => rfl
  | true =>
    cases hbt : betweenB a (hgL c a c.N) b with
    | false => rfl
    | true =>
      rw [between_iff] at hbt
      rcases hgL_is c a (by omega) c.N with h8 | ⟨h8, h9, h10⟩
      · omega
      · obtain ⟨m, e⟩ : ∃ m : Nat, hgL c a c.N = m := ⟨(hgL c a c.N).toNat, by omega⟩
        rw [e] at hbt h9 h10
        rw [Int.toNat_natCast] at h10
        obtain ⟨x, hx, hxe⟩ := List.mem_map.1 h10
        have hs := two_same hm (a := a) (b := m) (by omega) (by omega) (hart_between hm (by omega) (by omega) hb hh)
        have hxp : x = (c.at a).1.pos := by unfold numAt at hxe; omega
        obtain ⟨_, _, _, _, _, _, _, _, hk⟩ := may_num hm m (by omega)
        have hkk := chk_kind hk
        have hmm : memE (c.at m).1 = true := by
          refine mem_six hkk.1 hkk.2 (fun h6 => ?_)
          rw [fence_bare hk (small_at hL m (by omega)).n h6] at hx
          cases hx
        have := h m (by omega) (by omega)
        unfold f13 at this
        rw [hw, hmm, decide_eq_true (by rw [← hxp]; exact hx)] at this
        cases this
end Go.Proofs.YtcbfokbdiefdeaaGreatDoor
namespace Go.Proofs.YtcbfokbdiefdeaaGreatDoor
set_option linter.unusedVariables false
set_option linter.unusedSimpArgs false
open Go.RowKit Go.Maps
attribute [local go_sem ↓] fold_E fold_SE

theorem reads_at {w : World} {a : Option Addr} {c : Nat} {zs : List Int} (h : ReadsI w (.slice a zs.length c) zs) {k : Nat} (hk : k < zs.length) : ∃ b off, a = some ⟨b, off, none⟩ ∧ w.cell? ⟨b, off + k, none⟩ = some (.int .i64 (atI zs k)) := by
  rcases h with ⟨_, rfl⟩ | ⟨b, off, c', e, h1, h2, h3, h4⟩
  · simp at hk
  · injection e with e1 e2 e3
    exact ⟨b, off, e1, h4 k hk⟩
theorem atI_mem {zs : List Int} {k : Nat} (hk : k < zs.length) : atI zs k ∈ zs := by
  unfold atI
  rw [List.getD_eq_getElem?_getD, List.getElem?_eq_getElem hk]
  exact List.getElem_mem hk
theorem mem_atI {zs : List Int} {n : Int} (h : n ∈ zs) : ∃ k, k < zs.length ∧ atI zs k = n := by
  obtain ⟨i, hi, e⟩ := List.getElem_of_mem h
  refine ⟨i, hi, ?_⟩
  unfold atI
  rw [List.getD_eq_getElem?_getD, List.getElem?_eq_getElem hi]
  exact e
set_option maxRecDepth 100000 in
set_option maxHeartbeats 2000000 in
theorem in_any (v : Value) (zs : List Int) (n : Int) (w : World) (h : ReadsI w v zs) (hlen : zs.length ≤ 100000) (r : Bool) (hr : decide (n ∈ zs) = r) : Calls Tryz.prog 89 #[v, .int .i64 n] w fun e w' => SaysB w r e w' := by
  obtain ⟨a, c, rfl⟩ := h.len
  have H := Lib.hid h
  have HR := Lib.hid hr
  clear h hr
  go_enter Tryz.func89, Tryz.ntmps89
  go_wp2
  go_loop [5] (fun vi => ∃ (k : Nat), k ≤ zs.length ∧ vi = .int .i64 k ∧ Hid (∀ j, j < k → atI zs j ≠ n)) (fun vi => zs.length - (intOf vi).toNat)
  case atStart => exact ⟨0, Nat.zero_le _, rfl, Lib.hid (fun j hj => absurd hj (by omega))⟩
  case round =>
    obtain ⟨k, hk, rfl, HN⟩ := hrel
    by_cases hlt : k < zs.length
    · obtain ⟨b, off, rfl, hc⟩ := reads_at H.out hlt
      have hki : (k : Int) < (zs.length : Int) := by omega
      have hk0 : (0 : Int) ≤ (k : Int) := by omega
      by_cases he : atI zs k = n
      · have g1 : (atI zs k == n) = true := by simpa using he
        have g2 : decide (atI zs k = n) = true := by simpa using he
        have HE : Hid (r = true) := Lib.hid (by rw [← HR.out, decide_eq_true_eq, ← he]; exact atI_mem hlt)
        clear he
        go_wp2
        go_ret
        exact ⟨by rw [HE.out]; rfl, Below.refl _ _⟩
      · have g1 : (atI zs k == n) = false := by simpa using he
        have g2 : decide (atI zs k = n) = false := by simpa using he
        have HN2 : Hid (∀ j, j < k + 1 → atI zs j ≠ n) := Lib.hid (fun j hj => by
          by_cases e : j = k
          · subst e; exact he
          · exact HN.out j (by omega))
        clear he
        go_wp2
        go_round
        case rel => exact ⟨k + 1, by omega, by go_num, HN2⟩
        case measure => simp [intOf]; omega
    · obtain rfl : k = zs.length := by omega
      have HE : Hid (r = false) := Lib.hid (by
        rw [← HR.out, decide_eq_false_iff_not]
        intro hm
        obtain ⟨i, hi, e⟩ := mem_atI hm
        exact HN.out i hi e)
      go_wp2
      go_ret
      exact ⟨by rw [HE.out]; rfl, Below.refl _ _⟩
/-- a fence's part, as the document reads it -/
theorem part_bits : ∀ (p : Fin 16) (s : Fin 4), (decide (((p.val : Nat) : Int) / 2 % 2 = 1) && decide (s.val / 2 = 1) || decide (((p.val : Nat) : Int) % 2 = 1) && decide (s.val % 2 = 1)) = decide ((p.val &&& s.val) ≠ 0) := by decide +kernel
theorem meet_parts (p : Int) (hp : 0 ≤ p ∧ p < 16) (e : Ev) : meetS p (sideE e) = ((decide (p / 2 % 2 = 1) && readsE e) || (decide (p % 2 = 1) && writesE e)) := by
  have h := part_bits ⟨p.toNat, by omega⟩ ⟨sideE e, sideE_lt e⟩
  simp only at h
  rw [Int.toNat_of_nonneg hp.1] at h
  have q1 : decide (sideE e / 2 = 1) = readsE e := by cases h1 : readsE e <;> cases h2 : writesE e <;> simp [sideE, h1, h2]
  have q2 : decide (sideE e % 2 = 1) = writesE e := by cases h1 : readsE e <;> cases h2 : writesE e <;> simp [sideE, h1, h2]
  unfold meetS
  rw [← h, q1, q2]
set_option maxRecDepth 100000 in
set_option maxHeartbeats 4000000 in
theorem side_any (p : Int) (hp : 0 ≤ p ∧ p < 16) (e : Ev) (w : World) (r : Bool) (hr : meetS p (sideE e) = r) : Calls Tryz.prog 88 #[.int .i64 p, e.V] w fun e' w' => SaysB w r e' w' := by
  have H0 := Lib.hid (EvAt.new e w)
  have HB := Lib.hid (box_below w (.cells #[.int .i64 e.hart, .int .i64 e.pos, .int .i64 e.kind, .int .u64 e.addr, .int .u64 e.load, .int .u64 e.store, .bool e.aq, .bool e.rl, .int .i64 e.pred, .int .i64 e.succ, .int .i64 e.pair, e.a, e.d, e.y] 32))
  rw [meet_parts p hp] at hr
  obtain ⟨b1, h1⟩ : ∃ b, decide (p / 2 % 2 = 1) = b := ⟨_, rfl⟩
  obtain ⟨b0, h0⟩ : ∃ b, decide (p % 2 = 1) = b := ⟨_, rfl⟩
  obtain ⟨rd, hrd⟩ : ∃ b, Hid (readsE e = b) := ⟨_, Lib.hid rfl⟩
  obtain ⟨wt, hwt⟩ : ∃ b, Hid (writesE e = b) := ⟨_, Lib.hid rfl⟩
  have HR := Lib.hid hr
  rw [h1, h0, hrd.out, hwt.out] at HR
  have K1 := Lib.hid (fun w0 => rReads_b e rd hrd.out w0)
  have K2 := Lib.hid (fun w0 => rWrites_b e wt hwt.out w0)
  have cl := run_LoadE H0.out
  have p0 : 0 ≤ p := hp.1
  have p15 : p < 16 := hp.2
  have g1 : (p / 2 % 2 == 1) = b1 := by rw [← h1]; rfl
  have g0 : (p % 2 == 1) = b0 := by rw [← h0]; rfl
  have g0' : (p / 1 % 2 == 1) = b0 := by rw [Int.ediv_one]; exact g0
  clear hr hp h1 h0
  cases b1 <;> cases b0 <;> cases rd <;> cases wt
  all_goals
    go_enter Tryz.func88, Tryz.ntmps88
    go_wp2_with (first
      | (go_at_call 28; (with_reducible refine (K1.out _).mono ?_); rintro e' w1 ⟨rfl, hb⟩; have B1 := Lib.hid (HB.out.trans (hb.mono HB.out.size)); have cl1 := run_LoadE (H0.out.on hb); clear hb cl)
      | (go_at_call 29; (with_reducible refine (K2.out _).mono ?_); rintro e' w2 ⟨rfl, hb⟩; first | (have B2 := Lib.hid (B1.out.trans (hb.mono B1.out.size)); clear hb) | (have B2 := Lib.hid (HB.out.trans (hb.mono HB.out.size)); clear hb)))
    go_ret
    first | exact ⟨by rw [← HR.out]; rfl, B2.out⟩ | exact ⟨by rw [← HR.out]; rfl, B1.out⟩ | exact ⟨by rw [← HR.out]; rfl, HB.out⟩

theorem store_two {e0 e : Ev} {n : Nat} {w : World} (H : EvAt e0 n w) (hf : e.flat) : ∃ W3, (StoreE (.pointer (some ⟨n, 0, none⟩)) e.V).run Tryz.prog w = .ok () W3 ∧ EvAt e n W3 ∧ Below n w W3 ∧ (∀ k f, k ≠ n → EvAt f k w → EvAt f k W3) :=
  ⟨_, run_StoreE H hf, setRow_heap w n _ _ _ _ H, (Below.refl _ _).trans ⟨rfl, rfl, rfl, by simp, fun j hj => setRow_other _ _ _ _ (by omega)⟩, fun k f hk h => (setRow_other _ _ _ _ hk).trans h⟩
/-- a view of the document's -/
@[reducible] def vwV (c : Cd) (q : Cv) (aA : Option Addr) (cA : Nat) : Value := .agg #[.slice q.aF c.fs.length q.cF, .slice q.aH c.nh q.cH, .slice q.aR c.fr.length q.cR, .slice q.aO c.od.length q.cO, .slice aA c.N cA]
/-- what it reads as -/
structure Vh (c : Cd) (q : Cv) (es : List Ev) (aA : Option Addr) (cA base : Nat) (W : World) : Prop where
  ra : Ra c es (.slice aA c.N cA) base W
  cand : CAt c q W
theorem Vh.on {c : Cd} {q : Cv} {es : List Ev} {aA : Option Addr} {cA base : Nat} {W W2 : World} (h : Vh c q es aA cA base W) (hb : Below W.heap.size W W2) : Vh c q es aA cA base W2 := ⟨h.ra.on hb, h.cand.below hb⟩
/-- in its box -/
structure Vr (c : Cd) (q : Cv) (es : List Ev) (aA : Option Addr) (cA base gV : Nat) (w W : World) : Prop where
  box : W.heap[gV]? = some (.cells #[.slice q.aF c.fs.length q.cF, .slice q.aH c.nh q.cH, .slice q.aR c.fr.length q.cR, .slice q.aO c.od.length q.cO, .slice aA c.N cA] 76 (0, 0))
  vh : Vh c q es aA cA base W
  below : Below w.heap.size w W
theorem Vr.on {c : Cd} {q : Cv} {es : List Ev} {aA : Option Addr} {cA base gV : Nat} {w W W2 : World} (h : Vr c q es aA cA base gV w W) (hb : Below W.heap.size W W2) : Vr c q es aA cA base gV w W2 :=
  ⟨(hb.block gV (Array.getElem?_eq_some_iff.1 h.box).1).trans h.box, h.vh.on hb, h.below.trans (hb.mono h.below.size)⟩
theorem Vr.facts {c : Cd} {q : Cv} {es : List Ev} {aA : Option Addr} {cA base gV : Nat} {w W : World} (h : Vr c q es aA cA base gV w W) : W.cell? ⟨gV, 0, none⟩ = some (.slice q.aF c.fs.length q.cF) ∧ W.cell? ⟨gV, 1, none⟩ = some (.slice q.aH c.nh q.cH) ∧ W.cell? ⟨gV, 2, none⟩ = some (.slice q.aR c.fr.length q.cR) ∧ W.cell? ⟨gV, 3, none⟩ = some (.slice q.aO c.od.length q.cO) ∧ W.cell? ⟨gV, 4, none⟩ = some (.slice aA c.N cA) :=
  ⟨by rw [cell_of_row W gV 0 _ _ _ h.box]; rfl, by rw [cell_of_row W gV 1 _ _ _ h.box]; rfl, by rw [cell_of_row W gV 2 _ _ _ h.box]; rfl, by rw [cell_of_row W gV 3 _ _ _ h.box]; rfl, by rw [cell_of_row W gV 4 _ _ _ h.box]; rfl⟩
theorem Vr.start {c : Cd} {q : Cv} {es : List Ev} {aA : Option Addr} {cA base : Nat} {w : World} (h : Vh c q es aA cA base w) : Vr c q es aA cA base w.heap.size w (w.alloc (.cells #[.slice q.aF c.fs.length q.cF, .slice q.aH c.nh q.cH, .slice q.aR c.fr.length q.cR, .slice q.aO c.od.length q.cO, .slice aA c.N cA] 76)) :=
  ⟨Array.getElem?_push_size, h.on (box_below _ _), box_below _ _⟩
set_option maxRecDepth 100000 in
set_option maxHeartbeats 8000000 in
theorem aheadV_any (c : Cd) (q : Cv) (es : List Ev) (aA : Option Addr) (cA base : Nat) (w : World) (h : Vh c q es aA cA base w) (a b : Int) (r : Bool) (hr : aheadR c a b = r) : Calls Tryz.prog 87 #[vwV c q aA cA, .int .i64 a, .int .i64 b] w fun e w' => SaysB w r e w' := by
  have S0 := Lib.hid (Vr.start h)
  have HR := Lib.hid hr
  clear h hr
  have hbad : (¬ (0 ≤ a ∧ 0 ≤ b ∧ a < c.N ∧ b < c.N)) → Hid (r = false) := fun hn => Lib.hid (by
    rw [← HR.out]
    unfold aheadR
    by_cases h1 : a < 0
    · rw [decide_eq_true h1]; rfl
    by_cases h2 : b < 0
    · rw [decide_eq_true h2]; simp
    by_cases h3 : (c.N : Int) ≤ a
    · rw [decide_eq_true h3]; simp
    by_cases h4 : (c.N : Int) ≤ b
    · rw [decide_eq_true h4]; simp
    · exact absurd ⟨by omega, by omega, by omega, by omega⟩ hn)
  have HBAD := Lib.hid hbad
  clear hbad
  obtain ⟨y0, y1, y2, y3, y4⟩ := S0.out.facts
  by_cases ha0 : 0 ≤ a
  rotate_left
  · have d1 : decide (a < 0) = true := by simp; omega
    have hz := HBAD.out (by omega)
    clear ha0
    go_enter Tryz.func87, Tryz.ntmps87
    go_wp2
    go_ret
    exact ⟨by rw [hz.out]; rfl, S0.out.below⟩
  by_cases hb0 : 0 ≤ b
  rotate_left
  · have d1 : decide (a < 0) = false := by simp; omega
    have d2 : decide (b < 0) = true := by simp; omega
    have hz := HBAD.out (by omega)
    clear ha0 hb0
    go_enter Tryz.func87, Tryz.ntmps87
    go_wp2
    go_ret
    exact ⟨by rw [hz.out]; rfl, S0.out.below⟩
  obtain ⟨x, rfl⟩ : ∃ x : Nat, a = x := ⟨a.toNat, by omega⟩
  obtain ⟨y, rfl⟩ : ∃ y : Nat, b = y := ⟨b.toNat, by omega⟩
  by_cases hx : x < c.N
  rotate_left
  · have d3 : decide ((c.N : Int) ≤ (x : Int)) = true := by simp; omega
    have d3' : decide (c.N ≤ x) = true := by simp; omega
    have hz := HBAD.out (by omega)
    clear hx
    go_enter Tryz.func87, Tryz.ntmps87
    go_wp2
    go_ret
    exact ⟨by rw [hz.out]; rfl, S0.out.below⟩
  by_cases hy : y < c.N
  rotate_left
  · have d3 : decide ((c.N : Int) ≤ (x : Int)) = false := by simp; omega
    have d3' : decide (c.N ≤ x) = false := by simp; omega
    have d4 : decide ((c.N : Int) ≤ (y : Int)) = true := by simp; omega
    have d4' : decide (c.N ≤ y) = true := by simp; omega
    have hz := HBAD.out (by omega)
    clear hx hy
    go_enter Tryz.func87, Tryz.ntmps87
    go_wp2
    go_ret
    exact ⟨by rw [hz.out]; rfl, S0.out.below⟩
  have d3 : decide ((c.N : Int) ≤ (x : Int)) = false := by simp; omega
  have d3' : decide (c.N ≤ x) = false := by simp; omega
  have d4 : decide ((c.N : Int) ≤ (y : Int)) = false := by simp; omega
  have d4' : decide (c.N ≤ y) = false := by simp; omega
  have hxi : (x : Int) < (c.N : Int) := by omega
  have hyi : (y : Int) < (c.N : Int) := by omega
  obtain ⟨g, cap, ev, _, hra⟩ := S0.out.vh.ra.rall (by omega)
  injection ev with ev1 ev2 ev3
  subst ev1 ev3
  clear ev2
  have HA := Lib.hid hra
  obtain ⟨X, hX⟩ : ∃ X, Hid (evAtN es x = X) := ⟨_, Lib.hid rfl⟩
  obtain ⟨Y, hY⟩ : ∃ Y, Hid (evAtN es y = Y) := ⟨_, Lib.hid rfl⟩
  have FX : Hid X.flat := Lib.hid (by rw [← hX.out]; exact hra.flat_ x hx)
  have FY : Hid Y.flat := Lib.hid (by rw [← hY.out]; exact hra.flat_ y hy)
  have LX : Hid (∃ a d z, X = (c.at x).1.lists a d z) := Lib.hid (by rw [← hX.out]; exact hra.like x hx)
  have LY : Hid (∃ a d z, Y = (c.at y).1.lists a d z) := Lib.hid (by rw [← hY.out]; exact hra.like y hy)
  have HRR : Hid (((X.hart == Y.hart) && (decide (X.pos < Y.pos) && (memE X && memE Y))) = r) := Lib.hid (by
    obtain ⟨_, _, _, e1⟩ := LX.out
    obtain ⟨_, _, _, e2⟩ := LY.out
    rw [← HR.out, e1, e2]
    unfold aheadR
    rw [decide_eq_false (show ¬ (x : Int) < 0 by omega), decide_eq_false (show ¬ (y : Int) < 0 by omega), d3, d4, Int.toNat_natCast, Int.toNat_natCast]
    rfl)
  clear hra HR
  go_enter Tryz.func87, Tryz.ntmps87
  go_upto_region 3 with fail
  go_name_world W1 hW1
  rw [hW1] at S0 HA
  clear hW1 y0 y1 y2 y3 y4
  have K := Lib.hid (fun w0 (hb : Below W1.heap.size W1 w0) => (show w0.cell? ⟨w.heap.size, 4, none⟩ = some (.slice (some ⟨g, 0, none⟩) c.N cA) ∧ (LoadE (.pointer (some ⟨g, x * 14, none⟩))).run Tryz.prog w0 = .ok X.V w0 ∧ (LoadE (.pointer (some ⟨g, y * 14, none⟩))).run Tryz.prog w0 = .ok Y.V w0 from ⟨(S0.out.on hb).facts.2.2.2.2, by rw [← hX.out]; exact load0 (HA.out.on hb) x hx, by rw [← hY.out]; exact load0 (HA.out.on hb) y hy⟩))
  go_cut [7, 8] (fun t7 t8 wx => ∃ g6 g7, t7 = .pointer (some ⟨g6, 0, none⟩) ∧ t8 = .pointer (some ⟨g7, 0, none⟩) ∧ Hid (EvAt X g6 wx ∧ EvAt Y g7 wx ∧ Below W1.heap.size W1 wx))
  case first => as_aux_lemma =>
    have bT := Lib.hid (blw_drew (blw_alloc (.cells #[.int .i64 0, .int .i64 0, .int .i64 0, .int .u64 0, .int .u64 0, .int .u64 0, .bool false, .bool false, .int .i64 0, .int .i64 0, .int .i64 0, .slice none 0 0, .slice none 0 0, .slice none 0 0] 32) (box_below W1 (.cells #[.int .i64 0, .int .i64 0, .int .i64 0, .int .u64 0, .int .u64 0, .int .u64 0, .bool false, .bool false, .int .i64 0, .int .i64 0, .int .i64 0, .slice none 0 0, .slice none 0 0, .slice none 0 0] 32))))
    have D0 : EvAt zeroEv W1.heap.size ((W1.alloc (.cells #[.int .i64 0, .int .i64 0, .int .i64 0, .int .u64 0, .int .u64 0, .int .u64 0, .bool false, .bool false, .int .i64 0, .int .i64 0, .int .i64 0, .slice none 0 0, .slice none 0 0, .slice none 0 0] 32)).alloc (.cells #[.int .i64 0, .int .i64 0, .int .i64 0, .int .u64 0, .int .u64 0, .int .u64 0, .bool false, .bool false, .int .i64 0, .int .i64 0, .int .i64 0, .slice none 0 0, .slice none 0 0, .slice none 0 0] 32)).drew := ((EvAt.new zeroEv W1).alloc _).on (Below.refl _ _).drew
    have D1 : EvAt zeroEv (W1.heap.size + 1) ((W1.alloc (.cells #[.int .i64 0, .int .i64 0, .int .i64 0, .int .u64 0, .int .u64 0, .int .u64 0, .bool false, .bool false, .int .i64 0, .int .i64 0, .int .i64 0, .slice none 0 0, .slice none 0 0, .slice none 0 0] 32)).alloc (.cells #[.int .i64 0, .int .i64 0, .int .i64 0, .int .u64 0, .int .u64 0, .int .u64 0, .bool false, .bool false, .int .i64 0, .int .i64 0, .int .i64 0, .slice none 0 0, .slice none 0 0, .slice none 0 0] 32)).drew := (EvAt.new_at zeroEv (W1.alloc (.cells #[.int .i64 0, .int .i64 0, .int .i64 0, .int .u64 0, .int .u64 0, .int .u64 0, .bool false, .bool false, .int .i64 0, .int .i64 0, .int .i64 0, .slice none 0 0, .slice none 0 0, .slice none 0 0] 32)) (W1.heap.size + 1) (by simp)).on (Below.refl _ _).drew
    obtain ⟨Wa, sa, ea, ba, fa⟩ := store_two D0 FX.out
    obtain ⟨Wb, sb, eb, bb, fb⟩ := store_two D1 FX.out
    obtain ⟨Wc, sc, ec, bc, fc⟩ := store_two D0 FY.out
    obtain ⟨Wd, sd, ed, bd, fd⟩ := store_two D1 FY.out
    obtain ⟨Wad, sad, ead, bad, fad⟩ := store_two (fa (W1.heap.size + 1) zeroEv (by omega) D1) FY.out
    obtain ⟨Wbc, sbc, ebc, bbc, fbc⟩ := store_two (fb W1.heap.size zeroEv (by omega) D0) FY.out
    obtain ⟨Wcb, scb, ecb, bcb, fcb⟩ := store_two (fc (W1.heap.size + 1) zeroEv (by omega) D1) FX.out
    obtain ⟨Wda, sda, eda, bda, fda⟩ := store_two (fd W1.heap.size zeroEv (by omega) D0) FX.out
    have La := Lib.hid (bT.out.trans ba)
    have Lb := Lib.hid (bT.out.trans (bb.mono (show W1.heap.size ≤ W1.heap.size + 1 by omega)))
    have Lc := Lib.hid (bT.out.trans bc)
    have Ld := Lib.hid (bT.out.trans (bd.mono (show W1.heap.size ≤ W1.heap.size + 1 by omega)))
    have Lad := Lib.hid (La.out.trans (bad.mono (show W1.heap.size ≤ W1.heap.size + 1 by omega)))
    have Lbc := Lib.hid (Lb.out.trans bbc)
    have Lcb := Lib.hid (Lc.out.trans (bcb.mono (show W1.heap.size ≤ W1.heap.size + 1 by omega)))
    have Lda := Lib.hid (Ld.out.trans bda)
    have Qad := Lib.hid (show EvAt X W1.heap.size Wad ∧ EvAt Y (W1.heap.size + 1) Wad from ⟨fad _ _ (by omega) ea, ead⟩)
    have Qbc := Lib.hid (show EvAt X (W1.heap.size + 1) Wbc ∧ EvAt Y W1.heap.size Wbc from ⟨fbc _ _ (by omega) eb, ebc⟩)
    have Qcb := Lib.hid (show EvAt X (W1.heap.size + 1) Wcb ∧ EvAt Y W1.heap.size Wcb from ⟨ecb, fcb _ _ (by omega) ec⟩)
    have Qda := Lib.hid (show EvAt X W1.heap.size Wda ∧ EvAt Y (W1.heap.size + 1) Wda from ⟨eda, fda _ _ (by omega) ed⟩)
    clear ba bb bc bd bad bbc bcb bda fa fb fc fd fad fbc fcb fda ea eb ec ed ead ebc ecb eda D0 D1
    have l0 := Lib.hid (K.out _ (Below.refl _ _).drew)
    go_region_held3 (fun w' => w'.cell? ⟨w.heap.size, 4, none⟩ = some (.slice (some ⟨g, 0, none⟩) c.N cA) ∧ (LoadE (.pointer (some ⟨g, x * 14, none⟩))).run Tryz.prog w' = .ok X.V w' ∧ (LoadE (.pointer (some ⟨g, y * 14, none⟩))).run Tryz.prog w' = .ok Y.V w')
      (first | exact l0.out | exact K.out _ (blw_drew (box_below W1 (.cells #[.int .i64 0, .int .i64 0, .int .i64 0, .int .u64 0, .int .u64 0, .int .u64 0, .bool false, .bool false, .int .i64 0, .int .i64 0, .int .i64 0, .slice none 0 0, .slice none 0 0, .slice none 0 0] 32))) | exact K.out _ bT.out | exact K.out _ La.out | exact K.out _ Lb.out | exact K.out _ Lc.out | exact K.out _ Ld.out | exact K.out _ Lad.out | exact K.out _ Lbc.out | exact K.out _ Lcb.out | exact K.out _ Lda.out)
      (fail)
    all_goals
      go_wp2_with fail
      go_meet
      first
        | exact ⟨_, _, rfl, rfl, Lib.hid ⟨Qad.out.1, Qad.out.2, Lad.out⟩⟩
        | exact ⟨_, _, rfl, rfl, Lib.hid ⟨Qbc.out.1, Qbc.out.2, Lbc.out⟩⟩
        | exact ⟨_, _, rfl, rfl, Lib.hid ⟨Qcb.out.1, Qcb.out.2, Lcb.out⟩⟩
        | exact ⟨_, _, rfl, rfl, Lib.hid ⟨Qda.out.1, Qda.out.2, Lda.out⟩⟩
  case rest =>
    obtain ⟨g6, g7, rfl, rfl, HZ⟩ := hcut
    obtain ⟨_, px0, px1, _⟩ := HZ.out.1.facts
    obtain ⟨_, py0, py1, _⟩ := HZ.out.2.1.facts
    have cl6 := run_LoadE HZ.out.1
    obtain ⟨hh, h1⟩ : ∃ b, (X.hart == Y.hart) = b := ⟨_, rfl⟩
    obtain ⟨hp, h2⟩ : ∃ b, decide (X.pos < Y.pos) = b := ⟨_, rfl⟩
    obtain ⟨mx, hmx⟩ : ∃ b, Hid (memE X = b) := ⟨_, Lib.hid rfl⟩
    obtain ⟨my, hmy⟩ : ∃ b, Hid (memE Y = b) := ⟨_, Lib.hid rfl⟩
    have KX := Lib.hid (fun w0 => rMemory_b X mx hmx.out w0)
    have KY := Lib.hid (fun w0 => rMemory_b Y my hmy.out w0)
    rw [h1, h2, hmx.out, hmy.out] at HRR
    have B0 := Lib.hid (S0.out.below.trans (HZ.out.2.2.mono S0.out.below.size))
    clear K
    cases hh <;> cases hp <;> cases mx <;> cases my
    all_goals
      go_wp2_with (first
        | (go_at_call 27; (with_reducible refine (KX.out _).mono ?_); rintro e' w1 ⟨rfl, hb⟩; have B1 := Lib.hid (B0.out.trans (hb.mono B0.out.size)); have cl7 := run_LoadE (HZ.out.2.1.on hb); clear hb cl6)
        | (go_at_call 27; (with_reducible refine (KY.out _).mono ?_); rintro e' w2 ⟨rfl, hb⟩; have B2 := Lib.hid (B1.out.trans (hb.mono B1.out.size)); clear hb))
      go_ret
      first | exact ⟨by rw [← HRR.out]; rfl, B2.out⟩ | exact ⟨by rw [← HRR.out]; rfl, B1.out⟩ | exact ⟨by rw [← HRR.out]; rfl, B0.out⟩
end Go.Proofs.YtcbfokbdiefdeaaGreatDoor
