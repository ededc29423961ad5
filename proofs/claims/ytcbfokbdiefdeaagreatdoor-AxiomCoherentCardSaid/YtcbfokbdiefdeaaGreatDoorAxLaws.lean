/-
  Words: what is true of candidates that the axioms allow: who is read from, what an order keeps, what all agree on. No condition.
  (With it: Proved here: package axiom's Source of any candidate, any number: its source, or none; nothing that was there is changed. Condition: a light candidate.)
  (With it: Proved here: a copy of a candidate whose From and Order are the call's own: what it reads as behind stores into them. No condition.)
-/
import Derived.Test.YtcbfokbdiefdeaaGreatDoorAxNo
import Derived.Test.YtcbfokbdiefdeaaGreatDoorPpOwn
import Derived.Laws.OwnMore
import Derived.Test.YtcbfokbdiefdeaaGreatDoorAxView
namespace Go.Proofs.YtcbfokbdiefdeaaGreatDoor
set_option linter.unusedVariables false
set_option linter.unusedSimpArgs false
open Go.RowKit Go.Maps
attribute [local go_sem ↓] fold_E fold_SE
attribute [local irreducible] wpStill

/-- what Source answers -/
def sourceW (c : Cd) (n : Int) : Int := if c.may = true ∧ 0 ≤ n ∧ n < (c.N : Int) then srcW c n.toNat else -1
theorem sourceW_in {c : Cd} (hm : c.may = true) (n : Nat) (hn : n < c.N) : sourceW c n = srcW c n := by
  unfold sourceW
  rw [if_pos ⟨hm, by omega, by omega⟩, Int.toNat_natCast]
set_option maxRecDepth 100000 in
set_option maxHeartbeats 4000000 in
theorem Source_any (c : Cd) (q : Cv) (w : World) (hL : Lt c) (h : CAt c q w) (n r : Int) (hr : sourceW c n = r) : Calls Tryz.prog 13 #[cdV c q, .int .i64 n] w fun e w' => GivesI w r e w' := by
  have S0 := Lib.hid (Lk.start h)
  obtain ⟨u0, u1, u2, u3⟩ := S0.out.box.facts
  cases hm : c.may with
  | true =>
    have KL := Lib.hid (fun w0 h0 => alook_yes c q w0 hL h0 hm)
    have KS := Lib.hid (fun p w0 h0 => sources_a c p w0 hL hm h0)
    by_cases h1 : n < 0
    · obtain rfl : r = -1 := by rw [← hr]; unfold sourceW; rw [if_neg (fun hh => by omega)]
      have d1 : decide (n < 0) = true := by simpa using h1
      clear h hL hm hr h1
      go_enter Tryz.func13, Tryz.ntmps13
      go_wp2_with (go_at_call 34; (with_reducible refine (KL.out _ S0.out.at_).mono ?_); rintro e' w1 ⟨p, hp, rfl, hA, hb⟩; have S2 := Lib.hid (S0.out.on hb); clear hA hb hp u0 u1 u2 u3)
      go_ret
      exact ⟨rfl, S2.out.below⟩
    · have d1 : decide (n < 0) = false := by simpa using h1
      obtain ⟨k, rfl⟩ : ∃ k : Nat, n = k := ⟨n.toNat, by omega⟩
      by_cases h2 : k < c.N
      · have d2 : decide ((k : Int) ≥ (c.N : Int)) = false := by simpa using h2
        have d3 : decide ((c.N : Int) ≤ (k : Int)) = false := by simpa using h2
        have HR : Hid (srcW c k = r) := Lib.hid (by rw [← hr, sourceW_in hm k h2])
        have hk1 : (k : Int) < (c.N : Int) := by omega
        have hk0 : (0 : Int) ≤ (k : Int) := by omega
        clear h hL hm hr h1
        go_enter Tryz.func13, Tryz.ntmps13
        go_wp2_with (first
          | (go_at_call 34; (with_reducible refine (KL.out _ S0.out.at_).mono ?_); rintro e' w1 ⟨p, hp, rfl, hA, hb⟩; have S2 := Lib.hid (S0.out.on hb); have A1 := Lib.hid hA; obtain ⟨_, _, _, _, f4, _⟩ := hA.six; clear hA hb hp u0 u1 u2 u3)
          | (go_at_call 40; (with_reducible refine (KS.out p _ A1.out).mono ?_); rintro e' w2 ⟨g, rfl, hg, hI, hb⟩; have cs := hI.cell k h2; rw [HR.out] at cs; have B2 := Lib.hid (S2.out.on hb).below; clear hI hb hg))
        go_ret
        exact ⟨rfl, B2.out⟩
      · have d2 : decide ((k : Int) ≥ (c.N : Int)) = true := by simpa using h2
        have d3 : decide ((c.N : Int) ≤ (k : Int)) = true := by simpa using h2
        obtain rfl : r = -1 := by rw [← hr]; unfold sourceW; rw [if_neg (fun hh => by omega)]
        clear h hL hm hr h1
        go_enter Tryz.func13, Tryz.ntmps13
        go_wp2_with (first
          | (go_at_call 34; (with_reducible refine (KL.out _ S0.out.at_).mono ?_); rintro e' w1 ⟨p, hp, rfl, hA, hb⟩; have S2 := Lib.hid (S0.out.on hb); have A1 := Lib.hid hA; obtain ⟨_, _, _, _, f4, _⟩ := hA.six; clear hA hb hp u0 u1 u2 u3))
        go_ret
        exact ⟨rfl, S2.out.below⟩
  | false =>
    have KL := Lib.hid (fun w0 h0 => alook_no c q w0 hL h0 hm)
    obtain rfl : r = -1 := by rw [← hr]; unfold sourceW; rw [if_neg (fun hh => by rw [hm] at hh; simp at hh)]
    by_cases h1 : n < 0
    · have d1 : decide (n < 0) = true := by simpa using h1
      clear h hL hm hr h1
      go_enter Tryz.func13, Tryz.ntmps13
      go_wp2_with (go_at_call 34; (with_reducible refine (KL.out _ S0.out.at_).mono ?_); rintro e' w1 ⟨g, rfl, hA, hb⟩; have S2 := Lib.hid (S0.out.on hb); clear hA hb u0 u1 u2 u3)
      go_ret
      exact ⟨rfl, S2.out.below⟩
    · have d1 : decide (n < 0) = false := by simpa using h1
      have d2 : decide (0 ≤ n) = true := by simp; omega
      have d3 : decide (n ≥ 0) = true := by simp; omega
      clear h hL hm hr h1
      go_enter Tryz.func13, Tryz.ntmps13
      go_wp2_with (go_at_call 34; (with_reducible refine (KL.out _ S0.out.at_).mono ?_); rintro e' w1 ⟨g, rfl, hA, hb⟩; have S2 := Lib.hid (S0.out.on hb); have f4 := hA.all; clear hA hb u0 u1 u2 u3)
      go_ret
      exact ⟨rfl, S2.out.below⟩
end Go.Proofs.YtcbfokbdiefdeaaGreatDoor
namespace Go.Proofs.YtcbfokbdiefdeaaGreatDoor
set_option linter.unusedVariables false
set_option linter.unusedSimpArgs false
open Go.RowKit

theorem Lk.set1 {c : Cd} {q : Cv} {w W : World} {g i : Nat} (h : Lk c q w W) (hg : w.heap.size < g) (u : Value) : Lk c q w (W.setCell ⟨g, i, none⟩ u) :=
  ⟨(Below.heap_setCell W ⟨g, i, none⟩ u w.heap.size (by show w.heap.size ≠ g; omega)).trans h.box, h.below.setCell (by show w.heap.size ≤ g; omega) u, h.here⟩
theorem own_is {W : World} {base size n : Nat} {e : TypeId} {a : Option Addr} {m c : Nat} {xs : List Value} (h : W.ownsRow base e size (.slice a m c) n xs) (hn : n ≠ 0) : ∃ g, a = some ⟨g, 0, none⟩ ∧ base ≤ g ∧ g < W.heap.size := by
  rcases h.2 with ⟨_, h0⟩ | ⟨g, cap, cur, e, hb, hgg, _⟩
  · exact absurd h0 hn
  · injection e with e1 e2 e3
    exact ⟨g, e1, hb, (Array.getElem?_eq_some_iff.1 hgg).1⟩
/-- where a copy's lists lie -/
structure Cw where
  gB : Nat
  lo : Nat
  w : World
  ess : List (List Ev)
  vals : List Value
  q : Cv
/-- a copy, its From and Order as they are now -/
structure Cy (c : Cd) (k : Cw) (fr od : List Int) (W : World) : Prop where
  first : W.ownsRow k.w.heap.size 59 2 (.slice k.q.aF c.fs.length k.q.cF) c.fs.length (flatC c.fs)
  from_ : W.ownsRow k.w.heap.size 3 1 (.slice k.q.aR fr.length k.q.cR) fr.length (intsV fr)
  order : W.ownsRow k.w.heap.size 3 1 (.slice k.q.aO od.length k.q.cO) od.length (intsV od)
  rows : RowsE k.lo W c c.nh k.ess k.vals
  own : W.ownsRow k.lo 33 1 (.slice k.q.aH c.nh k.q.cH) c.nh k.vals
  ord : Od k.w k.gB k.lo (.slice k.q.aF c.fs.length k.q.cF) (.slice k.q.aR fr.length k.q.cR) (.slice k.q.aO od.length k.q.cO)
theorem Cy.on {c : Cd} {k : Cw} {fr od : List Int} {W W2 : World} (h : Cy c k fr od W) (hb : Below W.heap.size W W2) : Cy c k fr od W2 := by
  have hk : Keep k.w.heap.size W W2 := .of_below hb
  have hl : k.w.heap.size ≤ k.lo := by have := h.ord.lo1; have := h.ord.lo2; omega
  exact ⟨own_keep h.first hk, own_keep h.from_ hk, own_keep h.order hk, h.rows.keep (hk.mono hl), own_keep h.own (hk.mono hl), h.ord⟩
theorem Cy.as {c : Cd} {k : Cw} {fr od : List Int} {W : World} (h : Cy c k fr od W) : AsEv c (c.copy k.ess fr od) := copy_as h.rows fr od
theorem Cy.at_ {c : Cd} {k : Cw} {fr od : List Int} {W : World} (h : Cy c k fr od W) (hl : ∀ h, h < c.nh → ∀ k, k < c.len h → 0 ≤ (c.ev h k).addr) : CAt (c.copy k.ess fr od) k.q W :=
  copy_cat h.rows hl h.first h.own (readsI_of_own h.from_) (readsI_of_own h.order)
theorem Cy.lt {c : Cd} {k : Cw} {fr od : List Int} {W : World} (h : Cy c k fr od W) (hL : Lt c) (hr : fr.length ≤ 120) (ho : od.length ≤ 120) : Lt (c.copy k.ess fr od) := copy_lt hL h.as hr ho
theorem int_ne_cell {W : World} {base base2 n m : Nat} {v u : Value} {xs ys : List Value} (h : W.ownsRow base 59 2 v n xs) (hu : W.ownsRow base2 3 1 u m ys) : ∀ g, v.ownBlock = some g → u.ownBlock ≠ some g := fun g h1 h2 => by
  rcases h.2 with ⟨rfl, _⟩ | ⟨g1, cap, cur, rfl, _, hgg, _⟩
  · simp [Value.ownBlock] at h1
  rcases hu.2 with ⟨rfl, _⟩ | ⟨g2, cap2, cur2, rfl, _, hgg2, _⟩
  · simp [Value.ownBlock] at h2
  simp [Value.ownBlock] at h1 h2
  subst h1
  subst h2
  rw [hgg] at hgg2
  simp at hgg2
/-- another From -/
theorem Cy.setFrom {c : Cd} {k : Cw} {fr od : List Int} {W : World} {g : Nat} (h : Cy c k fr od W) (hg : k.q.aR = some ⟨g, 0, none⟩) (n : Nat) (hn : n < fr.length) (f : Int) :
    Cy c k (fr.set n f) od (W.setCell ⟨g, n, none⟩ (.int .i64 f)) ∧ W.frozen? ⟨g, n, none⟩ = false ∧ (∃ u, W.cell? ⟨g, n, none⟩ = some u) ∧ k.w.heap.size + 1 < g ∧ g < k.lo := by
  have hr := h.from_
  rw [hg] at hr
  have hr2 : g ∈ (Value.slice k.q.aR fr.length k.q.cR).ownBlock := by rw [hg]; simp [Value.ownBlock]
  have hg3 := h.ord.r g hr2
  have hk : Keep k.lo W (W.setCell ⟨g, n, none⟩ (.int .i64 f)) := .set hg3.2.2 _
  have hst := World.ownsRow.stored hr n (.int .i64 f)
  have hblk : ∀ j, j ≠ g → (W.setCell ⟨g, n, none⟩ (.int .i64 f)).heap[j]? = W.heap[j]? := fun j hj => Below.heap_setCell W ⟨g, n, none⟩ _ j hj
  refine ⟨⟨?_, ?_, ?_, h.rows.keep hk, own_keep h.own hk, ?_⟩, World.ownsRow.frozenAt hr n, ?_, hg3.1, hg3.2.2⟩
  · exact own_but h.first (fun j hj => hblk j (by intro e; subst e; exact int_ne_cell h.first h.from_ j hj hr2))
  · rw [List.length_set, hg]
    unfold intsV
    rw [List.map_set]
    exact hst.1
  · exact own_but h.order (fun j hj => hblk j (by intro e; subst e; exact h.ord.ro j hr2 hj))
  · have := h.ord
    rw [List.length_set]
    exact this
  · have := World.ownsRow.cellAt hr n (by omega)
    rw [this]
    exact ⟨_, List.getElem?_eq_getElem (by unfold intsV; rw [List.length_map]; exact hn)⟩
/-- another Order -/
theorem Cy.setOrder {c : Cd} {k : Cw} {fr od : List Int} {W : World} {g : Nat} (h : Cy c k fr od W) (hg : k.q.aO = some ⟨g, 0, none⟩) (n : Nat) (hn : n < od.length) (f : Int) :
    Cy c k fr (od.set n f) (W.setCell ⟨g, n, none⟩ (.int .i64 f)) ∧ W.frozen? ⟨g, n, none⟩ = false ∧ (∃ u, W.cell? ⟨g, n, none⟩ = some u) ∧ k.w.heap.size + 1 < g ∧ g < k.lo := by
  have hr := h.order
  rw [hg] at hr
  have hr2 : g ∈ (Value.slice k.q.aO od.length k.q.cO).ownBlock := by rw [hg]; simp [Value.ownBlock]
  have hg3 := h.ord.o g hr2
  have hk : Keep k.lo W (W.setCell ⟨g, n, none⟩ (.int .i64 f)) := .set hg3.2.2 _
  have hst := World.ownsRow.stored hr n (.int .i64 f)
  have hblk : ∀ j, j ≠ g → (W.setCell ⟨g, n, none⟩ (.int .i64 f)).heap[j]? = W.heap[j]? := fun j hj => Below.heap_setCell W ⟨g, n, none⟩ _ j hj
  refine ⟨⟨?_, ?_, ?_, h.rows.keep hk, own_keep h.own hk, ?_⟩, World.ownsRow.frozenAt hr n, ?_, hg3.1, hg3.2.2⟩
  · exact own_but h.first (fun j hj => hblk j (by intro e; subst e; exact int_ne_cell h.first h.order j hj hr2))
  · exact own_but h.from_ (fun j hj => hblk j (by intro e; subst e; exact h.ord.ro j hj hr2))
  · rw [List.length_set, hg]
    unfold intsV
    rw [List.map_set]
    exact hst.1
  · have := h.ord
    rw [List.length_set]
    exact this
  · have := World.ownsRow.cellAt hr n (by omega)
    rw [this]
    exact ⟨_, List.getElem?_eq_getElem (by unfold intsV; rw [List.length_map]; exact hn)⟩
theorem ints_cell {W : World} {base g cap m : Nat} {fr : List Int} (hr : W.ownsRow base 3 1 (.slice (some ⟨g, 0, none⟩) m cap) fr.length (intsV fr)) (n : Nat) (hn : n < fr.length) : W.cell? ⟨g, n, none⟩ = some (.int .i64 (atI fr n)) := by
  have hm : m = fr.length := by
    rcases hr.2 with ⟨e, _⟩ | ⟨g', cap', cur, e, _⟩
    · cases e
    · injection e
  subst hm
  have := World.ownsRow.cellAt hr n (by omega)
  rw [this]
  unfold intsV
  rw [List.getElem?_map, List.getElem?_eq_getElem hn]
  unfold atI
  rw [List.getD_eq_getElem?_getD, List.getElem?_eq_getElem hn]; rfl
theorem Cy.cellR {c : Cd} {k : Cw} {fr od : List Int} {W : World} {g : Nat} (h : Cy c k fr od W) (hg : k.q.aR = some ⟨g, 0, none⟩) (n : Nat) (hn : n < fr.length) : W.cell? ⟨g, n, none⟩ = some (.int .i64 (atI fr n)) := by
  have hr := h.from_
  rw [hg] at hr
  exact ints_cell hr n hn
theorem Cy.cellO {c : Cd} {k : Cw} {fr od : List Int} {W : World} {g : Nat} (h : Cy c k fr od W) (hg : k.q.aO = some ⟨g, 0, none⟩) (n : Nat) (hn : n < od.length) : W.cell? ⟨g, n, none⟩ = some (.int .i64 (atI od n)) := by
  have hr := h.order
  rw [hg] at hr
  exact ints_cell hr n hn
/-- the kit's copy -/
theorem ownCand_cy (c : Cd) (q : Cv) (w : World) (hL : Lt c) (h : CAt c q w) : Calls Tryz.prog 9 #[cdV c q] w fun e w' => ∃ k : Cw, k.w = w ∧ e = .returned (.agg #[.slice k.q.aF c.fs.length k.q.cF, .slice k.q.aH c.nh k.q.cH, .slice k.q.aR c.fr.length k.q.cR, .slice k.q.aO c.od.length k.q.cO]) ∧ Cy c k c.fr c.od w' ∧ Below w.heap.size w w' := by
  refine (ownCand_any c q w hL h).mono ?_
  rintro e w' ⟨gB, lo, vF, vR, vO, vH, ess, vals, rfl, hO⟩
  obtain ⟨aF, cF, rfl⟩ := own_form hO.first
  obtain ⟨aR, cR, rfl⟩ := own_form hO.from_
  obtain ⟨aO, cO, rfl⟩ := own_form hO.order
  obtain ⟨aH, cH, rfl⟩ := own_form hO.own
  exact ⟨⟨gB, lo, w, ess, vals, ⟨aF, cF, aH, cH, aR, cR, aO, cO⟩⟩, rfl, rfl, ⟨hO.first, hO.from_, hO.order, hO.rows, hO.own, hO.ord⟩, hO.below⟩
end Go.Proofs.YtcbfokbdiefdeaaGreatDoor
namespace Go.Proofs.YtcbfokbdiefdeaaGreatDoor
set_option linter.unusedVariables false
set_option linter.unusedSimpArgs false
open Go.RowKit

/-! ### sources hang on the events and on the order alone -/
theorem plc_like {c d : Cd} (ho : d.od = c.od) (n : Nat) : ∀ k, plcL d k n = plcL c k n
  | 0 => rfl
  | k + 1 => by
    show (if (n : Int) = atI d.od k then (k : Int) else plcL d k n) = (if (n : Int) = atI c.od k then (k : Int) else plcL c k n)
    rw [ho, plc_like ho n k]
theorem plN_like {c d : Cd} (ho : d.od = c.od) (n : Int) : plN d n = plN c n := by
  unfold plN
  rw [plc_like ho, ho]
theorem latN_like {c d : Cd} (ho : d.od = c.od) (a b : Int) : latN d a b = latN c a b := by
  unfold latN
  rw [plN_like ho, plN_like ho]
theorem at_like {c d : Cd} (h : AsEv c d) (n : Nat) : readsE (d.at n).1 = readsE (c.at n).1 ∧ writesE (d.at n).1 = writesE (c.at n).1 ∧ (d.at n).1.addr = (c.at n).1.addr ∧ (d.at n).1.pos = (c.at n).1.pos := by
  obtain ⟨a, x, y, e⟩ := at_all h n
  rw [e]; exact ⟨rfl, rfl, rfl, rfl⟩
theorem meetN_like {c d : Cd} (h : AsEv c d) (ho : d.od = c.od) (n : Nat) (s : Sx) : meetN d n s = meetN c n s := by
  obtain ⟨h1, h2, h3, _⟩ := at_like h n
  unfold meetN
  simp only [h1, h2, h3, latN_like ho]
theorem srcO_like {c d : Cd} (h : AsEv c d) (ho : d.od = c.od) : ∀ k, srcO d k = srcO c k
  | 0 => rfl
  | k + 1 => by
    show meetN d (atI d.od k).toNat (srcO d k) = meetN c (atI c.od k).toNat (srcO c k)
    rw [meetN_like h ho, ho, srcO_like h ho k]
theorem srcN_like {c d : Cd} (h : AsEv c d) (ho : d.od = c.od) : ∀ k, srcN d k = srcN c k
  | 0 => by
    show srcO d d.od.length = srcO c c.od.length
    rw [srcO_like h ho, ho]
  | k + 1 => by
    show meetN d k (clrN d k (srcN d k)) = meetN c k (clrN c k (srcN c k))
    rw [meetN_like h ho, srcN_like h ho k]
    unfold clrN
    rw [(at_like h k).2.2.2]
theorem srcW_like {c d : Cd} (h : AsEv c d) (ho : d.od = c.od) (n : Nat) : srcW d n = srcW c n := by
  unfold srcW
  rw [srcN_like h ho, h.N]
/-- who reads otherwise is not allowed -/
theorem sources_law {c d : Cd} (hc : Okc c) (h : AsEv c d) (ho : d.od = c.od) (hd : Okc d) (n : Nat) (hn : n < c.N) : atI d.fr n = atI c.fr n := by
  rw [hd.val n (by rw [h.N]; exact hn), hc.val n hn, srcW_like h ho]

/-! ### what an order keeps -/
theorem orders_keep {c : Cd} (hc : Okc c) (a b : Nat) (h : (a, b) ∈ pairsW c) : plN c a < plN c b := hc.ord a b ((mem_pairsW hc.may a b).1 h)
structure Af (c d : Cd) : Prop where
  ae : AsEv c d
  fr : d.fr = c.fr
section
variable {c d : Cd} (h : Af c d)
include h
theorem Af.el (n : Nat) : (d.at n).2 = (c.at n).2 := by obtain ⟨a, x, y, e⟩ := at_all h.ae n; rw [e]
theorem Af.hart (n : Nat) : (d.at n).1.hart = (c.at n).1.hart := by obtain ⟨a, x, y, e⟩ := at_all h.ae n; rw [e]; try rfl
theorem Af.pos (n : Nat) : (d.at n).1.pos = (c.at n).1.pos := by obtain ⟨a, x, y, e⟩ := at_all h.ae n; rw [e]; try rfl
theorem Af.kind (n : Nat) : (d.at n).1.kind = (c.at n).1.kind := by obtain ⟨a, x, y, e⟩ := at_all h.ae n; rw [e]; try rfl
theorem Af.addr (n : Nat) : (d.at n).1.addr = (c.at n).1.addr := by obtain ⟨a, x, y, e⟩ := at_all h.ae n; rw [e]; try rfl
theorem Af.aq (n : Nat) : (d.at n).1.aq = (c.at n).1.aq := by obtain ⟨a, x, y, e⟩ := at_all h.ae n; rw [e]; try rfl
theorem Af.rl (n : Nat) : (d.at n).1.rl = (c.at n).1.rl := by obtain ⟨a, x, y, e⟩ := at_all h.ae n; rw [e]; try rfl
theorem Af.pred (n : Nat) : (d.at n).1.pred = (c.at n).1.pred := by obtain ⟨a, x, y, e⟩ := at_all h.ae n; rw [e]; try rfl
theorem Af.succ (n : Nat) : (d.at n).1.succ = (c.at n).1.succ := by obtain ⟨a, x, y, e⟩ := at_all h.ae n; rw [e]; try rfl
theorem Af.pair (n : Nat) : (d.at n).1.pair = (c.at n).1.pair := by obtain ⟨a, x, y, e⟩ := at_all h.ae n; rw [e]; try rfl
theorem Af.reads (n : Nat) : readsE (d.at n).1 = readsE (c.at n).1 := by obtain ⟨a, x, y, e⟩ := at_all h.ae n; rw [e]; try rfl
theorem Af.writes (n : Nat) : writesE (d.at n).1 = writesE (c.at n).1 := by obtain ⟨a, x, y, e⟩ := at_all h.ae n; rw [e]; try rfl
theorem Af.mem (n : Nat) : memE (d.at n).1 = memE (c.at n).1 := by obtain ⟨a, x, y, e⟩ := at_all h.ae n; rw [e]; try rfl
theorem Af.side (n : Nat) : sideE (d.at n).1 = sideE (c.at n).1 := by obtain ⟨a, x, y, e⟩ := at_all h.ae n; rw [e]; try rfl
theorem Af.wr (x : Int) : ∀ n, wrL d x n = wrL c x n
  | 0 => rfl
  | n + 1 => by unfold wrL; rw [h.writes, h.addr, Af.wr x n]
theorem Af.fn (s p : Nat) : ∀ n, fnL d s p n = fnL c s p n
  | 0 => rfl
  | n + 1 => by unfold fnL; rw [h.side, h.succ, h.pred, Af.fn s p n]
theorem Af.num (n : Nat) : numAt d n = numAt c n := by funext x; unfold numAt; rw [h.pos]
theorem Af.hg (a : Int) : ∀ n, hgL d a n = hgL c a n
  | 0 => rfl
  | n + 1 => by unfold hgL; rw [h.el, h.num, Af.hg a n]
theorem Af.N : d.N = c.N := h.ae.N
theorem Af.rule (a b : Nat) : ruleB d a b = ruleB c a b := by
  funext k
  unfold ruleB
  split <;> simp only [h.writes, h.reads, h.addr, h.kind, h.aq, h.rl, h.pair, h.pos, h.el, h.side, h.wr, h.fn, h.hg, h.fr, h.N]
theorem Af.ahead (a b : Int) : aheadP d a b = aheadP c a b := by
  unfold aheadP
  simp only [h.N, h.hart, h.mem]
theorem Af.ruleL (a b : Int) : ruleL d a b = ruleL c a b := by
  unfold Go.Proofs.YtcbfokbdiefdeaaGreatDoor.ruleL firstL
  rw [h.ahead, h.rule]
end
theorem ruleL_like {c d : Cd} (h : AsEv c d) (hf : d.fr = c.fr) (a b : Int) : ruleL d a b = ruleL c a b := Af.ruleL ⟨h, hf⟩ a b
/-- two that are preserved do not change places -/
theorem orders_law {c d : Cd} (h : AsEv c d) (hf : d.fr = c.fr) (hd : Okc d) (a b i k : Nat) (hik : i ≤ k) (hk : k < d.od.length) (hi : atI d.od i = b) (hk2 : atI d.od k = a) : ruleL c a b = 0 := by
  refine Classical.byContradiction fun hr => ?_
  have h1 := hd.ord a b (by rw [ruleL_like h hf]; exact hr)
  obtain ⟨x, _, hx1, _, hx2⟩ := place_at hd.may i (by omega)
  obtain ⟨y, _, hy1, _, hy2⟩ := place_at hd.may k hk
  obtain rfl : x = b := by omega
  obtain rfl : y = a := by omega
  omega

/-! ### what all agree on -/
theorem wrL_ax (c : Cd) (x : Int) : ∀ n, 0 < wrL c x n → wrL c x n < n ∧ writesE (c.at (wrL c x n)).1 = true ∧ (c.at (wrL c x n)).1.addr = x
  | 0, h => by simp [wrL] at h
  | n + 1, h => by
    unfold wrL at h ⊢
    by_cases hw : writesE (c.at n).1 = true ∧ (c.at n).1.addr = x
    · rw [if_pos hw] at h ⊢; exact ⟨by omega, hw.1, hw.2⟩
    · rw [if_neg hw] at h ⊢
      have := wrL_ax c x n h
      exact ⟨by omega, this.2⟩
theorem plN_low {c : Cd} (hm : c.may = true) (n : Nat) (hn : n < c.N) : -1 ≤ plN c n := by
  cases h : memE (c.at n).1 with
  | true => obtain ⟨p, _, h2, _⟩ := place_of hm n hn h; omega
  | false => rw [plN_nat, place_not hm n h]; omega
theorem best_low {c : Cd} (hm : c.may = true) {n : Nat} {s : Int} (h : Best c (fun m => Po c n m ∨ Ho c n m) s) : -1 ≤ plN c s := by
  rcases h.1 with h | ⟨m, h, h2⟩
  · subst h; exact Int.le_refl _
  · subst h
    rcases h2 with h2 | h2
    · exact plN_low hm m h2.2.1.1
    · exact plN_low hm m h2.2.1.1
/-- what a number reads is never older than what its hart wrote there ahead -/
theorem coherent_w {c : Cd} (hc : Okc c) (a b : Nat) (hab : a < b) (hb : b < c.N) (hh : (c.at a).1.hart = (c.at b).1.hart) (hx : (c.at a).1.addr = (c.at b).1.addr) (hr : readsE (c.at b).1 = true) (hw : writesE (c.at a).1 = true) : plN c a ≤ plN c (atI c.fr b) := by
  rw [hc.val b hb]
  exact (srcW_is hc.may b hb).2 a (.inr ⟨hr, ⟨by omega, hw, hx⟩, hab, hh⟩)
theorem ahead_of {c : Cd} {a b : Nat} (hab : a < b) (hb : b < c.N) (hh : (c.at a).1.hart = (c.at b).1.hart) (hma : memE (c.at a).1 = true) (hmb : memE (c.at b).1 = true) : aheadP c a b = true := by
  unfold aheadP
  simp only [Bool.and_eq_true, decide_eq_true_eq, Int.toNat_natCast]
  exact ⟨by omega, by omega, by omega, hh, hma, hmb⟩
theorem rule_of {c : Cd} {a b r : Nat} (ha : aheadP c a b = true) (hr : r < 13) (h : ruleB c a b r = true) : ruleL c a b ≠ 0 := by
  unfold ruleL
  rw [if_pos ha, Int.toNat_natCast, Int.toNat_natCast]
  exact firstL_pos c a b r hr h
/-- nor than what its hart read there ahead -/
theorem coherent_r {c : Cd} (hc : Okc c) (a b : Nat) (hab : a < b) (hb : b < c.N) (hh : (c.at a).1.hart = (c.at b).1.hart) (hx : (c.at a).1.addr = (c.at b).1.addr) (hr : readsE (c.at b).1 = true) (hra : readsE (c.at a).1 = true) : plN c (atI c.fr a) ≤ plN c (atI c.fr b) := by
  by_cases he : atI c.fr a = atI c.fr b
  · rw [he]; exact Int.le_refl _
  have hva := hc.val a (by omega)
  have hvb := hc.val b hb
  have hBa := srcW_is hc.may a (by omega)
  have hBb := srcW_is hc.may b hb
  rw [← hva] at hBa
  rw [← hvb] at hBb
  rcases hBa.1 with h0 | ⟨m, hm1, hm2⟩
  · rw [h0]; exact best_low hc.may hBb
  rw [hm1]
  rcases hm2 with hm2 | hm2
  · obtain ⟨pa, _, hpa, _⟩ := place_of hc.may a (by omega) (mem_reads hra)
    obtain ⟨pb, _, hpb, hqb⟩ := place_of hc.may b hb (mem_reads hr)
    by_cases hlt : plN c a < plN c b
    · exact hBb.2 m (.inl ⟨hr, by rw [← hx]; exact hm2.2.1, by have := hm2.2.2; omega⟩)
    · have hah := ahead_of hab hb hh (mem_reads hra) (mem_reads hr)
      have hno : ∀ r, r < 13 → ruleB c a b r = false := fun r hr13 => by
        cases hb2 : ruleB c a b r with
        | false => rfl
        | true => exact absurd (hc.ord a b (rule_of hah hr13 hb2)) hlt
      have h1 := hno 1 (by omega)
      have hbt : betweenB a (wrL c (c.at b).1.addr b) b = true := by
        cases hz : betweenB a (wrL c (c.at b).1.addr b) b with
        | true => rfl
        | false =>
          exfalso
          have h2 : ruleB c a b 1 = true := by
            show (readsE (c.at a).1 && (readsE (c.at b).1 && (decide ((c.at a).1.addr = (c.at b).1.addr) && (!betweenB a (wrL c (c.at b).1.addr b) b && decide (atI c.fr a ≠ atI c.fr b))))) = true
            rw [hra, hr, hz, decide_eq_true hx, decide_eq_true he]; rfl
          rw [h1] at h2; cases h2
      unfold betweenB at hbt
      rw [Bool.and_eq_true, decide_eq_true_eq, decide_eq_true_eq] at hbt
      obtain ⟨w1, w2, w3⟩ := wrL_ax c (c.at b).1.addr b (by omega)
      obtain ⟨W, hW⟩ : ∃ W, wrL c (c.at b).1.addr b = W := ⟨_, rfl⟩
      rw [hW] at w1 w2 w3 hbt
      have hhw : (c.at a).1.hart = (c.at W).1.hart := hart_between hc.may (by omega) (by omega) hb hh
      have haw := ahead_of (show a < W by omega) (by omega) hhw (mem_reads hra) (mem_writes w2)
      have hrw : ruleL c a W ≠ 0 := rule_of haw (show 0 < 13 by omega) (by
        simp only [ruleB, w2, Bool.true_and, decide_eq_true_eq]
        rw [w3, hx])
      have o1 := hc.ord a W hrw
      have o2 := hBb.2 W (.inr ⟨hr, ⟨by omega, w2, w3⟩, w1, by rw [← hhw, hh]⟩)
      have o3 := hm2.2.2
      omega
  · exact hBb.2 m (.inr ⟨hr, by rw [← hx]; exact hm2.2.1, by have := hm2.2.2.1; omega, by rw [← hh]; exact hm2.2.2.2⟩)
/-- between an amo and what it reads from no one stores there -/
theorem atomic_amo {c : Cd} (hc : Okc c) (a : Nat) (ha : a < c.N) (hr : readsE (c.at a).1 = true) (i w : Nat) (hi : i < c.od.length) (hw : atI c.od i = (w : Int)) (h1 : plN c (atI c.fr a) < i) (h2 : (i : Int) < plN c a) : ¬ (writesE (c.at w).1 = true ∧ (c.at w).1.addr = (c.at a).1.addr) := by
  rintro ⟨h3, h4⟩
  obtain ⟨n, hn, hn1, _, hn2⟩ := place_at hc.may i hi
  obtain rfl : n = w := by omega
  have hB := srcW_is hc.may a ha
  rw [← hc.val a ha] at hB
  have := hB.2 n (.inl ⟨hr, ⟨hn, h3, h4⟩, by omega⟩)
  omega
/-- nor between a pair another hart -/
theorem atomic_pair {c : Cd} (hc : Okc c) (a : Nat) (ha : a < c.N) (h4 : (c.at a).1.kind = 4) (hmem : memE (c.at a).1 = true) (i w : Nat) (hi : i < c.od.length) (hw : atI c.od i = (w : Int)) (h1 : plN c (atI c.fr (lrN c a).toNat) < i) (h2 : (i : Int) < plN c a) (hlow : -1 ≤ plN c (atI c.fr (lrN c a).toNat)) : ¬ (writesE (c.at w).1 = true ∧ (c.at w).1.addr = (c.at a).1.addr ∧ (c.at w).1.hart ≠ (c.at a).1.hart) := by
  rintro ⟨h5, h6, h7⟩
  have hp := hc.par a ha h4
  unfold partN at hp
  rw [if_neg (by omega)] at hp
  obtain ⟨p, hp1, hp2, _⟩ := place_of hc.may a ha hmem
  have := (amid_none c a _ _ (fun i _ hi2 => (may_in hc.may i (by omega)).1)).1 hp i (by omega) (by omega)
  rw [hw, Int.toNat_natCast] at this
  exact this ⟨h6, h7, h5⟩
end Go.Proofs.YtcbfokbdiefdeaaGreatDoor
