/-
  Proved here (no Go): a candidate whose harts are turned about may be, and memory ends as it did. Condition: the first one may be.
-/
import Derived.Test.YtokhnjcbcpmmjaaCdLastWalk
import Derived.Test.YtokhnjcbcpmmjaaCdPlaces
import Derived.Test.YtokhnjcbcpmmjaaRf07Pure
import Derived.Test.YtokhnjcbcpmmjaaEvRow
namespace Go.Proofs.Ytokhnjcbcpmmjaa
set_option linter.unusedVariables false
set_option linter.unusedSimpArgs false
open Go.RowKit

theorem rowL_all {hart : Int} {ev : Nat → Ev} {el : Nat → El} : ∀ (n : Nat), (rowL hart ev el n).isSome = true → ∀ k, k < n → (ev k).hart = hart ∧ (ev k).pos = k ∧ chkE (ev k) (el k) = true
  | 0, _, k, hk => by omega
  | n + 1, h, k, hk => by
    unfold rowL at h
    cases hr : rowL hart ev el n with
    | none => rw [hr] at h; simp at h
    | some last =>
      by_cases hkn : k = n
      · subst hkn
        rw [hr] at h
        simp only [Option.bind_some] at h
        unfold rowStep at h
        by_cases h1 : (ev k).hart ≠ hart
        · rw [if_pos h1] at h; cases h
        rw [if_neg h1] at h
        by_cases h2 : (ev k).pos ≠ k
        · rw [if_pos h2] at h; cases h
        rw [if_neg h2] at h
        by_cases h3 : chkE (ev k) (el k) = false
        · rw [if_pos h3] at h; cases h
        exact ⟨by simpa using h1, by simpa using h2, by simpa using h3⟩
      · exact rowL_all n (by rw [hr]; rfl) k (by omega)
theorem may_row {c : Cd} (hm : c.may = true) (h j : Nat) (hh : h < c.nh) (hj : j < c.len h) : (c.ev h j).hart = h ∧ (c.ev h j).pos = j ∧ chkE (c.ev h j) (c.el h j) = true := by
  have hm2 : (decide (0 < c.nh) && (decide (c.nh ≤ 8) && (decide (c.N ≤ 4096) && (riseL c.fs c.fs.length && (rowsL c c.nh && ((decide (c.fr.length = c.N) && foundL c c.N) && (ordL c c.od.length && decide (countW (waitsL c c.od.length) c.N = 0)))))))) = true := hm
  simp only [Bool.and_eq_true] at hm2
  have hr := all_at _ _ hm2.2.2.2.2.1 h hh
  exact rowL_all _ hr j hj
/-- which hart it was -/
def twN (n b h : Nat) : Nat := (h + b) % n
theorem twN_lt {n b h : Nat} (hn : 0 < n) : twN n b h < n := Nat.mod_lt _ hn
theorem twN_low {n b h : Nat} (hb : b < n) (h1 : h < n - b) : twN n b h = h + b := Nat.mod_eq_of_lt (by omega)
theorem twN_high {n b h : Nat} (hb : b < n) (h1 : n - b ≤ h) (h2 : h < n) : twN n b h = h - (n - b) := by
  unfold twN
  rw [Nat.mod_eq_sub_mod (by omega), Nat.mod_eq_of_lt (by omega)]; omega
/-- an event of another hart -/
def Ev.of (e : Ev) (h : Int) : Ev := ⟨h, e.pos, e.kind, e.addr, e.load, e.store, e.aq, e.rl, e.pred, e.succ, e.pair, e.a, e.d, e.y⟩
/-- a number's new one: B of N stand ahead -/
def nowN (B N m : Nat) : Nat := if m < B then m + (N - B) else m - B
theorem nowN_lt {B N m : Nat} (hB : B ≤ N) (hm : m < N) : nowN B N m < N := by unfold nowN; split <;> omega
theorem nowN_inj {B N m k : Nat} (hB : B ≤ N) (hm : m < N) (hk : k < N) : nowN B N m = nowN B N k ↔ m = k := by
  unfold nowN
  by_cases h1 : m < B <;> by_cases h2 : k < B <;> simp only [h1, h2, if_true, if_false] <;> omega
theorem nowN_onto {B N k : Nat} (hB : B ≤ N) (hk : k < N) : ∃ m, m < N ∧ nowN B N m = k := by
  by_cases h : k < N - B
  · refine ⟨k + B, by omega, ?_⟩
    unfold nowN
    rw [if_neg (by omega)]; omega
  · refine ⟨k - (N - B), by omega, ?_⟩
    unfold nowN
    rw [if_pos (by omega)]; omega
/-- the harts of one turned about are the other's -/
structure Tn (c d : Cd) (b : Nat) : Prop where
  nh : d.nh = c.nh
  len : ∀ h, h < c.nh → d.len h = c.len (twN c.nh b h)
  ev : ∀ h, h < c.nh → ∀ k, ∃ a x y, d.ev h k = ((c.ev (twN c.nh b h) k).lists a x y).of h
  el : ∀ h, h < c.nh → ∀ k, d.el h k = c.el (twN c.nh b h) k
  fs : d.fs = c.fs
  frl : d.fr.length = c.N
  fr : ∀ i, i < c.N → atI d.fr (nowN (baseL c.len b) c.N i) = if 0 ≤ atI c.fr i then (nowN (baseL c.len b) c.N (atI c.fr i).toNat : Int) else -1
  od : d.od = c.od.map (fun x => (nowN (baseL c.len b) c.N x.toNat : Int))
theorem base_low {c d : Cd} {b : Nat} (hT : Tn c d b) (hb : b < c.nh) : ∀ h, h ≤ c.nh - b → baseL d.len h + baseL c.len b = baseL c.len (b + h)
  | 0, _ => by show 0 + _ = _; rw [Nat.zero_add, Nat.add_zero]
  | h + 1, hh => by
    have ih := base_low hT hb h (by omega)
    have e : d.len h = c.len (h + b) := by rw [hT.len h (by omega), twN_low hb (by omega)]
    show baseL d.len h + d.len h + _ = baseL c.len (b + h) + c.len (b + h)
    rw [e, Nat.add_comm h b]; omega
theorem base_high {c d : Cd} {b : Nat} (hT : Tn c d b) (hb : b < c.nh) : ∀ j, j ≤ b → baseL d.len (c.nh - b + j) + baseL c.len b = c.N + baseL c.len j
  | 0, _ => by
    have := base_low hT hb (c.nh - b) (Nat.le_refl _)
    rw [show b + (c.nh - b) = c.nh by omega] at this
    exact this
  | j + 1, hj => by
    have ih := base_high hT hb j (by omega)
    have e : d.len (c.nh - b + j) = c.len j := by rw [hT.len _ (by omega), twN_high hb (by omega) (by omega)]; congr 1; omega
    show baseL d.len (c.nh - b + j) + d.len (c.nh - b + j) + _ = c.N + (baseL c.len j + c.len j)
    rw [e]; omega
theorem base_le {c : Cd} {b : Nat} (hb : b < c.nh) : baseL c.len b ≤ c.N := baseL_mono c.len b c.nh (by omega)
theorem Tn.N {c d : Cd} {b : Nat} (hT : Tn c d b) (hb : b < c.nh) : d.N = c.N := by
  have := base_high hT hb b (Nat.le_refl _)
  rw [show c.nh - b + b = c.nh by omega] at this
  have e : d.N = baseL d.len c.nh := by unfold Cd.N; rw [hT.nh]
  rw [e]; omega
/-- where a hart's events stand now -/
theorem Tn.now {c d : Cd} {b : Nat} (hT : Tn c d b) (hb : b < c.nh) (h k : Nat) (hh : h < c.nh) (hk : k < d.len h) : nowN (baseL c.len b) c.N (baseL c.len (twN c.nh b h) + k) = baseL d.len h + k := by
  have hl := hT.len h hh
  have hB := base_le hb
  by_cases h1 : h < c.nh - b
  · have e := twN_low hb h1
    have hlow := base_low hT hb h (by omega)
    have hm := baseL_mono c.len b (h + b) (by omega)
    rw [e]
    unfold nowN
    rw [if_neg (by omega), Nat.add_comm b h] at *
    omega
  · have e := twN_high hb (by omega) hh
    have hhi := base_high hT hb (h - (c.nh - b)) (by omega)
    rw [show c.nh - b + (h - (c.nh - b)) = h by omega] at hhi
    have hm := baseL_lt c.len (h - (c.nh - b)) b (by omega)
    rw [e] at hl ⊢
    unfold nowN
    rw [if_pos (by omega)]
    omega
theorem Tn.at_ {c d : Cd} {b : Nat} (hT : Tn c d b) (hb : b < c.nh) (m : Nat) (hm : m < c.N) : ∃ h a x y, h < c.nh ∧ d.at (nowN (baseL c.len b) c.N m) = (((c.at m).1.lists a x y).of h, (c.at m).2) := by
  obtain ⟨w, k, hw, hk, rfl⟩ := num_of c.len c.nh m hm
  obtain ⟨h, hh, ht⟩ : ∃ h, h < c.nh ∧ twN c.nh b h = w := by
    by_cases h1 : b ≤ w
    · exact ⟨w - b, by omega, by rw [twN_low hb (by omega)]; omega⟩
    · exact ⟨w + (c.nh - b), by omega, by rw [twN_high hb (by omega) (by omega)]; omega⟩
  have hkd : k < d.len h := by rw [hT.len h hh, ht]; exact hk
  have e := hT.now hb h k hh hkd
  rw [ht] at e
  obtain ⟨a, x, y, e2⟩ := hT.ev h hh k
  refine ⟨h, a, x, y, hh, ?_⟩
  rw [e, d.at_is h k (by rw [hT.nh]; exact hh) hkd, c.at_is w k hw hk, e2, hT.el h hh k, ht]
theorem hold_of (F : Nat) (e : Ev) (n1 n2 n3 : Nat) (a x y : Value) (h : Int) (hF : hasB F 1 = true) : holdB F (numsL ((e.lists a x y).of h) n1 n2 n3) = holdB F (numsL e n1 n2 n3) := by
  rw [hold_is, hold_is]
  have h0 : ∀ ns, okAt F ns 0 = true := fun ns => by unfold okAt; rw [show (2 : Nat) ^ 0 = 1 from rfl, hF]; simp
  rw [h0, h0]
  rfl
theorem chk_of (e : Ev) (l : El) (a x y : Value) (h : Int) (h0 : withinB e.hart 8 = true) (h1 : withinB h 8 = true) : chkE ((e.lists a x y).of h) l = chkE e l := by
  have hk : e.kind = 1 ∨ e.kind = 2 ∨ e.kind = 3 ∨ e.kind = 4 ∨ e.kind = 5 ∨ e.kind = 6 ∨ (hasB (fieldsOf e.kind) 4 = false) := by
    by_cases h1 : e.kind = 1; · exact .inl h1
    by_cases h2 : e.kind = 2; · exact .inr (.inl h2)
    by_cases h3 : e.kind = 3; · exact .inr (.inr (.inl h3))
    by_cases h4 : e.kind = 4; · exact .inr (.inr (.inr (.inl h4)))
    by_cases h5 : e.kind = 5; · exact .inr (.inr (.inr (.inr (.inl h5))))
    by_cases h6 : e.kind = 6; · exact .inr (.inr (.inr (.inr (.inr (.inl h6)))))
    refine .inr (.inr (.inr (.inr (.inr (.inr ?_)))))
    unfold fieldsOf
    rw [if_neg h1, if_neg h2, if_neg h3, if_neg h4, if_neg h5, if_neg h6]
    rfl
  have hkk : ((e.lists a x y).of h).kind = e.kind := rfl
  have hF : hasB (fieldsOf e.kind) 4 = false ∨ hasB (fieldsOf e.kind) 1 = true := by
    rcases hk with hk | hk | hk | hk | hk | hk | hk
    · rw [hk]; exact .inr (by decide)
    · rw [hk]; exact .inr (by decide)
    · rw [hk]; exact .inr (by decide)
    · rw [hk]; exact .inr (by decide)
    · rw [hk]; exact .inr (by decide)
    · rw [hk]; exact .inr (by decide)
    · exact .inl hk
  rcases hF with hF | hF
  · have e1 : chkE ((e.lists a x y).of h) l = false := by unfold chkE; rw [hkk, hF]; rfl
    have e2 : chkE e l = false := by unfold chkE; rw [hF]; rfl
    rw [e1, e2]
  · unfold chkE
    rw [hkk, hold_of _ e _ _ _ a x y h hF, h0, show ((e.lists a x y).of h).hart = h from rfl, h1]
    rfl
theorem rowL_of {h h2 : Int} {ev ev2 : Nat → Ev} {el el2 : Nat → El} (hl : ∀ k, ∃ a x y, ev2 k = ((ev k).lists a x y).of h2) (he : ∀ k, el2 k = el k) (h1 : withinB h 8 = true) (h3 : withinB h2 8 = true) : ∀ n, (∀ k, k < n → (ev k).hart = h) → rowL h2 ev2 el2 n = rowL h ev el n
  | 0, _ => rfl
  | n + 1, hh => by
    have ih := rowL_of hl he h1 h3 n (fun k hk => hh k (by omega))
    unfold rowL
    rw [ih]
    congr 1
    funext last
    obtain ⟨a, x, y, e⟩ := hl n
    obtain ⟨a', x', y', e'⟩ := hl last.toNat
    have hn := hh n (by omega)
    unfold rowStep
    have ec : chkE (ev2 n) (el2 n) = chkE (ev n) (el n) := by rw [e, he, chk_of _ _ _ _ _ _ (by rw [hn]; exact h1) h3]
    rw [ec, e, e', hn, show (((ev n).lists a x y).of h2).hart = h2 from rfl]
    simp only [ne_eq, not_true_eq_false, if_false]
    rfl
theorem Tn.rows {c d : Cd} {b : Nat} (hT : Tn c d b) (hb : b < c.nh) (hm : c.may = true) : rowsL d d.nh = true := by
  have h8 := (may_nh hm).2
  unfold rowsL
  rw [List.all_eq_true]
  intro h hh
  have hh2 := List.mem_range.1 hh
  rw [hT.nh] at hh2
  have hw := twN_lt (b := b) (h := h) (by omega : 0 < c.nh)
  have hr := all_at _ _ (may_rows hm) (twN c.nh b h) hw
  unfold rowB at hr ⊢
  rw [hT.len h hh2, rowL_of (h := (twN c.nh b h : Int)) (hT.ev h hh2) (hT.el h hh2) ?_ ?_ _ (fun k hk => (may_row hm _ k hw hk).1)]
  · exact hr
  · unfold withinB; rw [decide_eq_true (by omega), decide_eq_true (by omega)]; rfl
  · unfold withinB; rw [decide_eq_true (by omega), decide_eq_true (by omega)]; rfl
theorem Tn.odl {c d : Cd} {b : Nat} (hT : Tn c d b) : d.od.length = c.od.length := by rw [hT.od, List.length_map]
theorem Tn.oda {c d : Cd} {b : Nat} (hT : Tn c d b) (k : Nat) (hk : k < c.od.length) : atI d.od k = (nowN (baseL c.len b) c.N (atI c.od k).toNat : Int) := by
  unfold atI
  rw [hT.od, List.getD_eq_getElem?_getD, List.getElem?_map, List.getD_eq_getElem?_getD, List.getElem?_eq_getElem hk]
  rfl
theorem Tn.waits {c d : Cd} {b : Nat} (hT : Tn c d b) (hb : b < c.nh) (hm : c.may = true) (m : Nat) (hmN : m < c.N) : ∀ k, k ≤ c.od.length → waitsL d k (nowN (baseL c.len b) c.N m) = waitsL c k m
  | 0, _ => by
    obtain ⟨h, a, x, y, _, e⟩ := hT.at_ hb m hmN
    show memE (d.at _).1 = memE (c.at m).1
    rw [e]; rfl
  | k + 1, hk => by
    have ih := Tn.waits hT hb hm m hmN k (by omega)
    obtain ⟨i0, i1⟩ := may_in hm k (by omega)
    have hin := nowN_inj (m := m) (k := (atI c.od k).toNat) (base_le hb) hmN (by omega)
    show (waitsL d k _ && decide ((nowN (baseL c.len b) c.N m : Int) ≠ atI d.od k)) = (waitsL c k m && decide ((m : Int) ≠ atI c.od k))
    rw [ih, hT.oda k (by omega)]
    congr 1
    rw [decide_eq_decide]
    refine not_congr ⟨?_, ?_⟩
    · intro h
      have := hin.1 (by omega)
      omega
    · intro h
      have : nowN (baseL c.len b) c.N m = nowN (baseL c.len b) c.N (atI c.od k).toNat := by rw [show (atI c.od k).toNat = m by omega]
      omega
theorem Tn.ord {c d : Cd} {b : Nat} (hT : Tn c d b) (hb : b < c.nh) (hm : c.may = true) : ordL d d.od.length = true := by
  unfold ordL
  rw [List.all_eq_true]
  intro k hk
  have hk2 := List.mem_range.1 hk
  rw [hT.odl] at hk2
  have ho := all_at _ _ (may_ord hm).1 k hk2
  obtain ⟨i0, i1⟩ := may_in hm k hk2
  unfold ordAt at ho ⊢
  rw [Bool.and_eq_true] at ho
  rw [hT.oda k hk2, Int.toNat_natCast, hT.waits hb hm _ (by omega) k (by omega), ho.2, Bool.and_true]
  have := nowN_lt (B := baseL c.len b) (N := c.N) (m := (atI c.od k).toNat) (base_le hb) (by omega)
  unfold withinB
  rw [hT.N hb, decide_eq_true (by omega), decide_eq_true (by omega)]; rfl
theorem countW_no (f : Nat → Bool) : ∀ n, (∀ k, k < n → f k = false) → countW f n = 0
  | 0, _ => rfl
  | n + 1, h => by
    unfold countW
    rw [countW_no f n (fun k hk => h k (by omega)), h n (by omega)]; rfl
theorem Tn.left {c d : Cd} {b : Nat} (hT : Tn c d b) (hb : b < c.nh) (hm : c.may = true) : countW (waitsL d d.od.length) d.N = 0 := by
  refine countW_no _ _ (fun k hk => ?_)
  rw [hT.N hb] at hk
  obtain ⟨m, hmN, rfl⟩ := nowN_onto (base_le hb) hk
  rw [hT.odl, hT.waits hb hm m hmN _ (Nat.le_refl _)]
  exact countW_zero _ _ (may_ord hm).2 m hmN
theorem Tn.find {c d : Cd} {b : Nat} (hT : Tn c d b) (hb : b < c.nh) (m : Nat) (hmN : m < c.N) (h : findB c m = true) : findB d (nowN (baseL c.len b) c.N m) = true := by
  obtain ⟨h1, a, x, y, _, e⟩ := hT.at_ hb m hmN
  have hfr := hT.fr m hmN
  have r1 : readsE (d.at (nowN (baseL c.len b) c.N m)).1 = readsE (c.at m).1 := by rw [e]; rfl
  have r2 : (d.at (nowN (baseL c.len b) c.N m)).1.load = (c.at m).1.load := by rw [e]; rfl
  have r3 : (d.at (nowN (baseL c.len b) c.N m)).1.addr = (c.at m).1.addr := by rw [e]; rfl
  unfold findB at h ⊢
  rw [r1, r2, r3, hT.fs]
  by_cases g1 : readsE (c.at m).1 = false
  · rw [if_pos g1] at h ⊢
    rw [beq_iff_eq] at h ⊢
    rw [hfr, if_neg (by omega)]
  · rw [if_neg g1] at h ⊢
    by_cases g2 : atI c.fr m = -1
    · rw [if_pos g2] at h
      rw [if_pos (by rw [hfr, if_neg (by omega)])]
      exact h
    · rw [if_neg g2] at h
      by_cases g3 : atI c.fr m = m ∨ withinB (atI c.fr m) c.N = false
      · rw [if_pos g3] at h; cases h
      · rw [if_neg g3] at h
        have hw : withinB (atI c.fr m) c.N = true := by
          cases hx : withinB (atI c.fr m) c.N with
          | true => rfl
          | false => exact absurd (.inr hx) g3
        obtain ⟨w0, w1⟩ := withinB_yes hw
        have hne : atI c.fr m ≠ m := fun hx => g3 (.inl hx)
        rw [if_pos w0] at hfr
        have hlt := nowN_lt (B := baseL c.len b) (N := c.N) (m := (atI c.fr m).toNat) (base_le hb) (by omega)
        have hin := nowN_inj (m := (atI c.fr m).toNat) (k := m) (base_le hb) (by omega) hmN
        obtain ⟨h2, a2, x2, y2, _, e2⟩ := hT.at_ hb (atI c.fr m).toNat (by omega)
        rw [hfr, if_neg (by omega), if_neg, Int.toNat_natCast, e2]
        · exact h
        · intro hx
          rcases hx with hx | hx
          · exact hne (by have := hin.1 (by omega); omega)
          · unfold withinB at hx
            rw [hT.N hb, decide_eq_true (by omega), decide_eq_true (by omega)] at hx
            cases hx
theorem Tn.may {c d : Cd} {b : Nat} (hT : Tn c d b) (hb : b < c.nh) (hm : c.may = true) (h60 : c.N ≤ 60) : d.may = true := by
  obtain ⟨n0, n8⟩ := may_nh hm
  have hf : foundL d d.N = true := by
    unfold foundL
    rw [List.all_eq_true]
    intro k hk
    have hk2 := List.mem_range.1 hk
    rw [hT.N hb] at hk2
    obtain ⟨m, hmN, rfl⟩ := nowN_onto (base_le hb) hk2
    exact hT.find hb m hmN (all_at _ _ (may_found hm).2 m hmN)
  have e : d.may = (decide (0 < d.nh) && (decide (d.nh ≤ 8) && (decide (d.N ≤ 4096) && (riseL d.fs d.fs.length && (rowsL d d.nh && ((decide (d.fr.length = d.N) && foundL d d.N) && (ordL d d.od.length && decide (countW (waitsL d d.od.length) d.N = 0)))))))) := rfl
  rw [e, hT.rows hb hm, hf, hT.ord hb hm, hT.left hb hm, hT.N hb, hT.nh, hT.fs, hT.frl, may_rise hm, decide_eq_true n0, decide_eq_true n8, decide_eq_true (show c.N ≤ 4096 by omega)]
  simp
theorem Tn.met {c d : Cd} {b : Nat} (hT : Tn c d b) (hb : b < c.nh) (hm : c.may = true) (v : Int) : ∀ k, k ≤ c.od.length → metL d k v = metL c k v
  | 0, _ => rfl
  | k + 1, hk => by
    have ih := Tn.met hT hb hm v k (by omega)
    obtain ⟨i0, i1⟩ := may_in hm k (by omega)
    obtain ⟨h, a, x, y, _, e⟩ := hT.at_ hb (atI c.od k).toNat (by omega)
    unfold metL
    rw [hT.oda k (by omega), Int.toNat_natCast, e, ih]
    rfl
theorem Tn.last {c d : Cd} {b : Nat} (hT : Tn c d b) (hb : b < c.nh) (hm : c.may = true) (p : Int × Int) : LastSet d p ↔ LastSet c p := by
  unfold LastSet
  rw [hT.odl, hT.met hb hm _ _ (Nat.le_refl _), hT.fs]
end Go.Proofs.Ytokhnjcbcpmmjaa
