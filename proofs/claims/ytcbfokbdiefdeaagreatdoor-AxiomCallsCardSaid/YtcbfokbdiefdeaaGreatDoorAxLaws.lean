/-
  Words: what is true of candidates that the axioms allow: who is read from, what an order keeps, what all agree on. No condition.
  (With it: Proved here: package axiom's Source of any candidate, any number: its source, or none; nothing that was there is changed. Condition: a light candidate.)
  (With it: Proved here: a copy of a candidate whose From and Order are the call's own: what it reads as behind stores into them. No condition.)
-/
import Derived.Test.YtcbfokbdiefdeaaGreatDoorAxNo
import Derived.Test.YtcbfokbdiefdeaaGreatDoorPpOwn
import Derived.Laws.OwnMore
import Derived.Test.YtcbfokbdiefdeaaGreatDoorAxView
namespace Go.Proofs.YtcbfokbdiefdeaaGreatDoor
set_option linter.unusedVariables false
set_option linter.unusedSimpArgs false
open Go.RowKit Go.Maps
attribute [local go_sem ↓] fold_E fold_SE
attribute [local irreducible] wpStill

/-- what Source answers -/
def sourceW (c : Cd) (n : Int) : Int := if c.may = true ∧ 0 ≤ n ∧ n < (c.N : Int) then srcW c n.toNat else -1
theorem sourceW_in {c : Cd} (hm : c.may = true) (n : Nat) (hn : n < c.N) : sourceW c n = srcW c n := by
  unfold sourceW
  rw [if_pos ⟨hm, by omega, by omega⟩, Int.toNat_natCast]
set_option maxRecDepth 100000 in
set_option maxHeartbeats 4000000 in
theorem Source_any (c : Cd) (q : Cv) (w : World) (hL : Lt c) (h : CAt c q w) (n r : Int) (hr : sourceW c n = r) : Calls Tryz.prog 13 #[cdV c q, .int .i64 n] w fun e w' => GivesI w r e w' := by
  have S0 := Lib.hid (Lk.start h)
  obtain ⟨u0, u1, u2, u3⟩ := S0.out.box.facts
  cases hm : c.may with
  | true =>
    have KL := Lib.hid (fun w0 h0 => alook_yes c q w0 hL h0 hm)
    have KS := Lib.hid (fun p w0 h0 => sources_a c p w0 hL hm h0)
    by_cases h1 : n < 0
    · obtain rfl : r = -1 := by rw [← hr]; unfold sourceW; rw [if_neg (fun hh => by omega)]
      have d1 : decide (n < 0) = true := by simpa using h1
      clear h hL hm hr h1
      go_enter Tryz.func13, Tryz.ntmps13
      go_wp2_with (go_at_call 34; (with_reducible refine (KL.out _ S0.out.at_).mono ?_); rintro e' w1 ⟨p, hp, rfl, hA, hb⟩; have S2 := Lib.hid (S0.out.on hb); clear hA hb hp u0 u1 u2 u3)
      go_ret
      exact ⟨rfl, S2.out.below⟩
    · have d1 : decide (n < 0) = false := by simpa using h1
      obtain ⟨k, rfl⟩ : ∃ k : Nat, n = k := ⟨n.toNat, by omega⟩
      by_cases h2 : k < c.N
      · have d2 : decide ((k : Int) ≥ (c.N : Int)) = false := by simpa using h2
        have d3 : decide ((c.N : Int) ≤ (k : Int)) = false := by simpa using h2
        have HR : Hid (srcW c k = r) := Lib.hid (by rw [← hr, sourceW_in hm k h2])
        have hk1 : (k : Int) < (c.N : Int) := by omega
        have hk0 : (0 : Int) ≤ (k : Int) := by omega
        clear h hL hm hr h1
        go_enter Tryz.func13, Tryz.ntmps13
        go_wp2_with (first
          | (go_at_call 34; (with_reducible refine (KL.out _ S0.out.at_).mono ?_); rintro e' w1 ⟨p, hp, rfl, hA, hb⟩; have S2 := Lib.hid (S0.out.on hb); have A1 := Lib.hid hA; obtain ⟨_, _, _, _, f4, _⟩ := hA.six; clear hA hb hp u0 u1 u2 u3)
          | (go_at_call 40; (with_reducible refine (KS.out p _ A1.out).mono ?_); rintro e' w2 ⟨g, rfl, hg, hI, hb⟩; have cs := hI.cell k h2; rw [HR.out] at cs; have B2 := Lib.hid (S2.out.on hb).below; clear hI hb hg))
        go_ret
        exact ⟨rfl, B2.out⟩
      · have d2 : decide ((k : Int) ≥ (c.N : Int)) = true := by simpa using h2
        have d3 : decide ((c.N : Int) ≤ (k : Int)) = true := by simpa using h2
        obtain rfl : r = -1 := by rw [← hr]; unfold sourceW; rw [if_neg (fun hh => by omega)]
        clear h hL hm hr h1
        go_enter Tryz.func13, Tryz.ntmps13
        go_wp2_with (first
          | (go_at_call 34; (with_reducible refine (KL.out _ S0.out.at_).mono ?_); rintro e' w1 ⟨p, hp, rfl, hA, hb⟩; have S2 := Lib.hid (S0.out.on hb); have A1 := Lib.hid hA; obtain ⟨_, _, _, _, f4, _⟩ := hA.six; clear hA hb hp u0 u1 u2 u3))
        go_ret
        exact ⟨rfl, S2.out.below⟩
  | false =>
    have KL := Lib.hid (fun w0 h0 => alook_no c q w0 hL h0 hm)
    obtain rfl : r = -1 := by rw [← hr]; unfold sourceW; rw [if_neg (fun hh => by rw [hm] at hh; simp at hh)]
    by_cases h1 : n < 0
    · have d1 : decide (n < 0) = true := by simpa using h1
      clear h hL hm hr h1
      go_enter Tryz.func13, Tryz.ntmps13
      go_wp2_with (go_at_call 34; (with_reducible refine (KL.out _ S0.out.at_).mono ?_); rintro e' w1 ⟨g, rfl, hA, hb⟩; have S2 := Lib.hid (S0.out.on hb); clear hA hb u0 u1 u2 u3)
      go_ret
      exact ⟨rfl, S2.out.below⟩
    · have d1 : decide (n < 0) = false := by simpa using h1
      have d2 : decide (0 ≤ n) = true := by simp; omega
      have d3 : decide (n ≥ 0) = true := by simp; omega
      clear h hL hm hr h1
      go_enter Tryz.func13, Tryz.ntmps13
      go_wp2_with (go_at_call 34; (with_reducible refine (KL.out _ S0.out.at_).mono ?_); rintro e' w1 ⟨g, rfl, hA, hb⟩; have S2 := Lib.hid (S0.out.on hb); have f4 := hA.all; clear hA hb u0 u1 u2 u3)
      go_ret
      exact ⟨rfl, S2.out.below⟩
end Go.Proofs.YtcbfokbdiefdeaaGreatDoor
namespace Go.Proofs.YtcbfokbdiefdeaaGreatDoor
set_option linter.unusedVariables false
set_option linter.unusedSimpArgs false
open Go.RowKit

theorem Lk.set1 {c : Cd} {q : Cv} {w W : World} {g i : Nat} (h : Lk c q w W) (hg : w.heap.size < g) (u : Value) : Lk c q w (W.setCell ⟨g, i, none⟩ u) :=
  ⟨(Below.heap_setCell W ⟨g, i, none⟩ u w.heap.size (by show w.heap.size ≠ g; omega)).trans h.box, h.below.setCell (by show w.heap.size ≤ g; omega) u, h.here⟩
end Go.Proofs.YtcbfokbdiefdeaaGreatDoor
namespace Go.Proofs.YtcbfokbdiefdeaaGreatDoor
set_option linter.unusedVariables false
set_option linter.unusedSimpArgs false
open Go.RowKit

/-! ### sources hang on the events and on the order alone -/
theorem plc_like {c d : Cd} (ho : d.od = c.od) (n : Nat) : ∀ k, plcL d k n = plcL c k n
  | 0 => rfl
  | k + 1 => by
    show (if (n : Int) = atI d.od k then (k : Int) else plcL d k n) = (if (n : Int) = atI c.od k then (k : Int) else plcL c k n)
    rw [ho, plc_like ho n k]
theorem plN_like {c d : Cd} (ho : d.od = c.od) (n : Int) : plN d n = plN c n := by
  unfold plN
  rw [plc_like ho, ho]
theorem latN_like {c d : Cd} (ho : d.od = c.od) (a b : Int) : latN d a b = latN c a b := by
  unfold latN
  rw [plN_like ho, plN_like ho]
theorem at_like {c d : Cd} (h : AsEv c d) (n : Nat) : readsE (d.at n).1 = readsE (c.at n).1 ∧ writesE (d.at n).1 = writesE (c.at n).1 ∧ (d.at n).1.addr = (c.at n).1.addr ∧ (d.at n).1.pos = (c.at n).1.pos := by
  obtain ⟨a, x, y, e⟩ := at_all h n
  rw [e]; exact ⟨rfl, rfl, rfl, rfl⟩
theorem meetN_like {c d : Cd} (h : AsEv c d) (ho : d.od = c.od) (n : Nat) (s : Sx) : meetN d n s = meetN c n s := by
  obtain ⟨h1, h2, h3, _⟩ := at_like h n
  unfold meetN
  simp only [h1, h2, h3, latN_like ho]
theorem srcO_like {c d : Cd} (h : AsEv c d) (ho : d.od = c.od) : ∀ k, srcO d k = srcO c k
  | 0 => rfl
  | k + 1 => by
    show meetN d (atI d.od k).toNat (srcO d k) = meetN c (atI c.od k).toNat (srcO c k)
    rw [meetN_like h ho, ho, srcO_like h ho k]
theorem srcN_like {c d : Cd} (h : AsEv c d) (ho : d.od = c.od) : ∀ k, srcN d k = srcN c k
  | 0 => by
    show srcO d d.od.length = srcO c c.od.length
    rw [srcO_like h ho, ho]
  | k + 1 => by
    show meetN d k (clrN d k (srcN d k)) = meetN c k (clrN c k (srcN c k))
    rw [meetN_like h ho, srcN_like h ho k]
    unfold clrN
    rw [(at_like h k).2.2.2]
theorem srcW_like {c d : Cd} (h : AsEv c d) (ho : d.od = c.od) (n : Nat) : srcW d n = srcW c n := by
  unfold srcW
  rw [srcN_like h ho, h.N]
/-! ### what an order keeps -/
structure Af (c d : Cd) : Prop where
  ae : AsEv c d
  fr : d.fr = c.fr
section
variable {c d : Cd} (h : Af c d)
include h
theorem Af.el (n : Nat) : (d.at n).2 = (c.at n).2 := by obtain ⟨a, x, y, e⟩ := at_all h.ae n; rw [e]
theorem Af.hart (n : Nat) : (d.at n).1.hart = (c.at n).1.hart := by obtain ⟨a, x, y, e⟩ := at_all h.ae n; rw [e]; try rfl
theorem Af.pos (n : Nat) : (d.at n).1.pos = (c.at n).1.pos := by obtain ⟨a, x, y, e⟩ := at_all h.ae n; rw [e]; try rfl
theorem Af.kind (n : Nat) : (d.at n).1.kind = (c.at n).1.kind := by obtain ⟨a, x, y, e⟩ := at_all h.ae n; rw [e]; try rfl
theorem Af.addr (n : Nat) : (d.at n).1.addr = (c.at n).1.addr := by obtain ⟨a, x, y, e⟩ := at_all h.ae n; rw [e]; try rfl
theorem Af.aq (n : Nat) : (d.at n).1.aq = (c.at n).1.aq := by obtain ⟨a, x, y, e⟩ := at_all h.ae n; rw [e]; try rfl
theorem Af.rl (n : Nat) : (d.at n).1.rl = (c.at n).1.rl := by obtain ⟨a, x, y, e⟩ := at_all h.ae n; rw [e]; try rfl
theorem Af.pred (n : Nat) : (d.at n).1.pred = (c.at n).1.pred := by obtain ⟨a, x, y, e⟩ := at_all h.ae n; rw [e]; try rfl
theorem Af.succ (n : Nat) : (d.at n).1.succ = (c.at n).1.succ := by obtain ⟨a, x, y, e⟩ := at_all h.ae n; rw [e]; try rfl
theorem Af.pair (n : Nat) : (d.at n).1.pair = (c.at n).1.pair := by obtain ⟨a, x, y, e⟩ := at_all h.ae n; rw [e]; try rfl
theorem Af.reads (n : Nat) : readsE (d.at n).1 = readsE (c.at n).1 := by obtain ⟨a, x, y, e⟩ := at_all h.ae n; rw [e]; try rfl
theorem Af.writes (n : Nat) : writesE (d.at n).1 = writesE (c.at n).1 := by obtain ⟨a, x, y, e⟩ := at_all h.ae n; rw [e]; try rfl
theorem Af.mem (n : Nat) : memE (d.at n).1 = memE (c.at n).1 := by obtain ⟨a, x, y, e⟩ := at_all h.ae n; rw [e]; try rfl
theorem Af.side (n : Nat) : sideE (d.at n).1 = sideE (c.at n).1 := by obtain ⟨a, x, y, e⟩ := at_all h.ae n; rw [e]; try rfl
theorem Af.wr (x : Int) : ∀ n, wrL d x n = wrL c x n
  | 0 => rfl
  | n + 1 => by unfold wrL; rw [h.writes, h.addr, Af.wr x n]
theorem Af.fn (s p : Nat) : ∀ n, fnL d s p n = fnL c s p n
  | 0 => rfl
  | n + 1 => by unfold fnL; rw [h.side, h.succ, h.pred, Af.fn s p n]
theorem Af.num (n : Nat) : numAt d n = numAt c n := by funext x; unfold numAt; rw [h.pos]
theorem Af.hg (a : Int) : ∀ n, hgL d a n = hgL c a n
  | 0 => rfl
  | n + 1 => by unfold hgL; rw [h.el, h.num, Af.hg a n]
theorem Af.N : d.N = c.N := h.ae.N
theorem Af.rule (a b : Nat) : ruleB d a b = ruleB c a b := by
  funext k
  unfold ruleB
  split <;> simp only [h.writes, h.reads, h.addr, h.kind, h.aq, h.rl, h.pair, h.pos, h.el, h.side, h.wr, h.fn, h.hg, h.fr, h.N]
theorem Af.ahead (a b : Int) : aheadP d a b = aheadP c a b := by
  unfold aheadP
  simp only [h.N, h.hart, h.mem]
theorem Af.ruleL (a b : Int) : ruleL d a b = ruleL c a b := by
  unfold Go.Proofs.YtcbfokbdiefdeaaGreatDoor.ruleL firstL
  rw [h.ahead, h.rule]
end
/-! ### what all agree on -/
theorem plN_low {c : Cd} (hm : c.may = true) (n : Nat) (hn : n < c.N) : -1 ≤ plN c n := by
  cases h : memE (c.at n).1 with
  | true => obtain ⟨p, _, h2, _⟩ := place_of hm n hn h; omega
  | false => rw [plN_nat, place_not hm n h]; omega
end Go.Proofs.YtcbfokbdiefdeaaGreatDoor
