/-
  Proved here: the kit's OwnCand gives a candidate that says the same; All, Places, Last of any candidate are the document's. Condition: a light candidate.
-/
import Derived.Test.YtokhnjcbcpmmjaaGreatCcNo
import Derived.Test.YtokhnjcbcpmmjaaGreatRf09Few
import Derived.Test.YtokhnjcbcpmmjaaGreatRf09Last
import Derived.Test.YtokhnjcbcpmmjaaGreatRf09Places
import Derived.Test.YtokhnjcbcpmmjaaGreatCdCopyAs
import Derived.Test.YtokhnjcbcpmmjaaGreatCdFresh
import Derived.Test.YtokhnjcbcpmmjaaGreatCcSame
namespace Go.Proofs.YtokhnjcbcpmmjaaGreat
set_option linter.unusedVariables false
set_option linter.unusedSimpArgs false
open Go.RowKit

theorem at_all {c d : Cd} (h : AsEv c d) (n : Nat) : ∃ a x y, d.at n = ((c.at n).1.lists a x y, (c.at n).2) := by
  by_cases hn : n < c.N
  · obtain ⟨k, j, hk, hj, rfl⟩ := num_of c.len c.nh n hn
    have hd := d.at_is k j (by rw [h.nh]; exact hk) (by rw [h.len]; exact hj)
    rw [h.len] at hd
    rw [hd, c.at_is k j hk hj, h.el]
    obtain ⟨a, x, y, e⟩ := h.ev k j
    exact ⟨a, x, y, by rw [e]⟩
  · have hc : c.at n = (zeroEv, nilL) := by
      unfold Cd.at
      rw [List.getD_eq_getElem?_getD, List.getElem?_eq_none (by rw [allP_len]; unfold Cd.N at hn; omega)]; rfl
    have hd : d.at n = (zeroEv, nilL) := by
      have hN := h.N
      unfold Cd.at
      rw [List.getD_eq_getElem?_getD, List.getElem?_eq_none (by rw [allP_len]; unfold Cd.N at hn hN; omega)]; rfl
    rw [hc, hd]
    exact ⟨zeroEv.a, zeroEv.d, zeroEv.y, rfl⟩
/-- two candidates that say the same -/
structure Al (c d : Cd) : Prop where
  ae : AsEv c d
  fr : d.fr = c.fr
  od : d.od = c.od
theorem Al.el {c d : Cd} (h : Al c d) (n : Nat) : (d.at n).2 = (c.at n).2 := by obtain ⟨a, x, y, e⟩ := at_all h.ae n; rw [e]
theorem Al.addr {c d : Cd} (h : Al c d) (n : Nat) : (d.at n).1.addr = (c.at n).1.addr := by obtain ⟨a, x, y, e⟩ := at_all h.ae n; rw [e]; try rfl
theorem Al.store {c d : Cd} (h : Al c d) (n : Nat) : (d.at n).1.store = (c.at n).1.store := by obtain ⟨a, x, y, e⟩ := at_all h.ae n; rw [e]; try rfl
theorem Al.writes {c d : Cd} (h : Al c d) (n : Nat) : writesE (d.at n).1 = writesE (c.at n).1 := by obtain ⟨a, x, y, e⟩ := at_all h.ae n; rw [e]; try rfl
theorem Al.N {c d : Cd} (h : Al c d) : d.N = c.N := h.ae.N
theorem all_ext {f g : Nat → Bool} : ∀ (n : Nat), (∀ k, k < n → f k = g k) → (List.range n).all f = (List.range n).all g
  | 0, _ => rfl
  | n + 1, h => by rw [all_succ, all_succ, all_ext n (fun k hk => h k (by omega)), h n (by omega)]
theorem Al.may {c d : Cd} (h : Al c d) : d.may = c.may := by
  have hfo : foundL d d.N = foundL c c.N := by
    unfold foundL
    rw [h.N]
    exact all_ext _ (fun k hk => by rw [findB_is, findB_is, h.ae.find k hk, h.fr])
  have e : d.may = (decide (0 < d.nh) && (decide (d.nh ≤ 8) && (decide (d.N ≤ 4096) && (riseL d.fs d.fs.length && (rowsL d d.nh && ((decide (d.fr.length = d.N) && foundL d d.N) && (ordL d d.od.length && decide (countW (waitsL d d.od.length) d.N = 0)))))))) := rfl
  rw [e, h.ae.left h.od, hfo, h.ae.ord h.od, h.ae.rows, h.N, h.ae.nh, h.ae.fs, h.od, h.fr]
  rfl
theorem Al.met {c d : Cd} (h : Al c d) : ∀ k x, metL d k x = metL c k x
  | 0, _ => rfl
  | k + 1, x => by unfold metL; rw [h.od, h.writes, h.addr, h.store, Al.met h k x]
theorem Al.last {c d : Cd} (h : Al c d) (p : Int × Int) : LastSet d p ↔ LastSet c p := by unfold LastSet; rw [h.met, h.od, h.ae.fs]
theorem low_addr {c : Cd} {q : Cv} {W : World} (h : CAt c q W) (j : Nat) (hj : j < c.nh) (k : Nat) (hk : k < c.len j) : 0 ≤ (c.ev j k).addr := by
  obtain ⟨_, _, a2, c2, _, _, _, a3, c3, _, _, h0 | ⟨b, off, _, hr⟩⟩ := h.harts.row j hj
  · omega
  · exact hr.low k hk
theorem ownCand_al (c : Cd) (q : Cv) (w : World) (hL : Lt c) (h : CAt c q w) : Calls Tryz.prog 12 #[cdV c q] w fun e w' => ∃ d q', e = .returned (cdV d q') ∧ CAt d q' w' ∧ Lt d ∧ Al c d ∧ Below w.heap.size w w' := by
  refine (ownCand_any c q w hL h).mono ?_
  rintro e w' ⟨gB, lo, vF, vR, vO, vH, ess, vals, rfl, hO⟩
  obtain ⟨aF, cF, rfl⟩ := own_form hO.first
  obtain ⟨aR, cR, rfl⟩ := own_form hO.from_
  obtain ⟨aO, cO, rfl⟩ := own_form hO.order
  obtain ⟨aH, cH, rfl⟩ := own_form hO.own
  have hae := copy_as hO.rows c.fr c.od
  exact ⟨c.copy ess c.fr c.od, ⟨aF, cF, aH, cH, aR, cR, aO, cO⟩, rfl, copy_cat hO.rows (low_addr h) hO.first hO.own (readsI_of_own hO.from_) (readsI_of_own hO.order), copy_lt hL hae hL.fr hL.od, ⟨hae, rfl, rfl⟩, hO.below⟩
/-! ### all events -/
def nW (c : Cd) : Nat := if c.may = true then c.N else 0
theorem nW_le {c : Cd} (hL : Lt c) : nW c ≤ 60 := by unfold nW; split; exact hL.n; omega
/-- a row of what a candidate's events say -/
structure RowG (c : Cd) (v : Value) (ev : Nat → Ev) (el : Nat → El) (w : World) : Prop where
  row : RowV w v (nW c) ev el
  like : ∀ k, k < nW c → ∃ a d y, ev k = (c.at k).1.lists a d y
  els : ∀ k, k < nW c → el k = (c.at k).2
theorem RowG.below {c : Cd} {v : Value} {ev : Nat → Ev} {el : Nat → El} {w w' : World} (h : RowG c v ev el w) (hb : Below w.heap.size w w') : RowG c v ev el w' := ⟨h.row.below hb, h.like, h.els⟩
def AllG (c : Cd) (w : World) (e : Ending) (w' : World) : Prop := ∃ v ev el, e = .returned v ∧ RowG c v ev el w' ∧ Below w.heap.size w w'
theorem RowG.none {c : Cd} {w : World} (hm : c.may = false) : RowG c (.slice none 0 0) (fun _ => zeroEv) (fun _ => nilL) w := by
  have e : nW c = 0 := by unfold nW; rw [if_neg (by rw [hm]; simp)]
  refine ⟨?_, fun k hk => by rw [e] at hk; omega, fun k hk => by rw [e] at hk; omega⟩
  rw [e]
  exact ⟨Option.none, 0, rfl, Nat.le_refl _, .inl rfl⟩
theorem small_num {c : Cd} (hL : Lt c) (n : Nat) (hn : n < c.N) : small (c.at n).2 := by
  obtain ⟨h, j, hh, hj, rfl⟩ := num_of c.len c.nh n hn
  rw [c.at_is h j hh hj]
  exact (hL.small h hh).2 j hj
theorem es_at {es : List Ev} {k : Nat} (hk : k < es.length) : es[k]? = some (evAtN es k) := by
  unfold evAtN
  rw [List.getD_eq_getElem?_getD, List.getElem?_eq_getElem hk]; rfl
theorem rowG_of {c : Cd} {es : List Ev} {g cap : Nat} {w : World} (hL : Lt c) (hm : c.may = true) (hlen : es.length = c.N) (hcap : c.N ≤ cap) (hc : ∀ i u, (flat es)[i]? = some u → w.cell? ⟨g, i, none⟩ = some u) (hg : g < w.heap.size) (hcp : Cp (fun n => (c.at n).1) (fun n => (c.at n).2) es w) : RowG c (.slice (some ⟨g, 0, none⟩) c.N cap) (evAtN es) (fun n => (c.at n).2) w := by
  have e : nW c = c.N := by unfold nW; rw [if_pos hm]
  refine ⟨?_, fun k hk => hcp.like k _ (es_at (by rw [hlen, ← e]; exact hk)), fun k hk => rfl⟩
  rw [e]
  refine ⟨_, cap, rfl, hcap, .inr ⟨g, 0, rfl, ⟨fun k hk j u hu => ?_, fun k hk => hcp.reads k _ (es_at (by rw [hlen]; exact hk)), fun k hk => ?_, fun _ => hg⟩⟩⟩
  · have hf := flat_at es k j _ u (es_at (by rw [hlen]; exact hk)) (by unfold Ev.row; simpa using hu)
    have := hc (k * 14 + j) u hf
    rw [← this]
    congr 2
    omega
  · obtain ⟨a, d, y, e⟩ := hcp.like k _ (es_at (by rw [hlen]; exact hk))
    rw [e]
    exact (bounds_u64 (hL.word k hk).1).1
theorem All_g (c d : Cd) (q' : Cv) (w : World) (hA : Al c d) (hL : Lt d) (h : CAt d q' w) : Calls Tryz.prog 11 #[cdV d q'] w fun e w' => AllG c w e w' := by
  have key : ∀ {v : Value} {ev : Nat → Ev} {el : Nat → El} {w : World}, RowG d v ev el w → RowG c v ev el w := fun {v ev el w} h => by
    have e : nW d = nW c := by unfold nW; rw [hA.may, hA.N]
    refine ⟨by rw [← e]; exact h.row, fun k hk => ?_, fun k hk => by rw [h.els k (by rw [e]; exact hk), hA.el]⟩
    obtain ⟨a, x, y, h1⟩ := h.like k (by rw [e]; exact hk)
    obtain ⟨a2, x2, y2, h2⟩ := at_all hA.ae k
    rw [h2] at h1
    exact ⟨a, x, y, h1⟩
  cases hm : d.may with
  | true =>
    refine (All_yes d q' w hL h hm).mono ?_
    rintro e w' ⟨g, es, rfl, hlen, hg, hgg, hcp, hb⟩
    refine ⟨_, _, _, rfl, key (rowG_of hL hm hlen (Nat.le_refl _) (fun i u hu => ?_) (Array.getElem?_eq_some_iff.1 hgg).1 hcp), hb⟩
    rw [cell_of_row w' g i _ _ _ hgg]
    simpa using hu
  | false =>
    refine (All_no d q' w hL h hm).mono ?_
    rintro e w' ⟨rfl, hb⟩
    exact ⟨_, _, _, rfl, key (RowG.none hm), hb⟩
theorem rAll_g (c : Cd) (q : Cv) (w : World) (hL : Lt c) (hX : ∀ h, h < c.nh → ∀ k, k < c.len h → PairFits (c.ev h k)) (h : CAt c q w) : Calls Tryz.prog 13 #[cdV c q] w fun e w' => AllG c w e w' := by
  cases hm : c.may with
  | true =>
    refine (rall9_yes c q w hL hX h hm).mono ?_
    rintro e w' ⟨v, es, base, rfl, hbs, hra, hb⟩
    rcases Nat.eq_zero_or_pos c.N with h0 | hp
    · have e0 : nW c = 0 := by unfold nW; rw [if_pos hm, h0]
      refine ⟨v, fun _ => zeroEv, fun _ => nilL, rfl, ⟨?_, fun k hk => by rw [e0] at hk; omega, fun k hk => by rw [e0] at hk; omega⟩, hb⟩
      rw [e0]
      have ho := hra.own
      rw [h0] at ho
      obtain ⟨a, cp, hv⟩ := own_form ho
      exact ⟨a, cp, hv, Nat.zero_le _, .inl rfl⟩
    · have hown := hra.own
      rcases hra.own.2 with ⟨_, h0⟩ | ⟨g, cap, cur, rfl, hbb, hgg, hcap, _⟩
      · omega
      refine ⟨_, _, _, rfl, rowG_of hL hm hra.len hcap (fun i u hu => ?_) (Array.getElem?_eq_some_iff.1 hgg).1 hra.cp, hb⟩
      have := hown.cells (g := g) (by simp [Value.ownBlock]) i u hu
      rw [Addr.add_lit, Nat.zero_add] at this
      exact this
  | false =>
    refine (rall9_no c q w hL hX h hm).mono ?_
    rintro e w' ⟨rfl, hb⟩
    exact ⟨_, _, _, rfl, RowG.none hm, hb⟩
theorem evB_lists (e : Ev) (a d y a2 d2 y2 : Value) (l : El) : evB (e.lists a d y) (e.lists a2 d2 y2) l l = true := by unfold evB depsB Ev.lists; simp
theorem events_g {c : Cd} {v1 v2 : Value} {ev1 ev2 : Nat → Ev} {el1 el2 : Nat → El} {w : World} (hL : Lt c) (h1 : RowG c v1 ev1 el1 w) (h2 : RowG c v2 ev2 el2 w) : Calls Tryz.prog 10 #[v1, v2] w fun e w' => SameOk w true e w' := by
  have hin : ∀ k, k < nW c → k < c.N := fun k hk => by unfold nW at hk; split at hk; exact hk; omega
  have e : rowQ (nW c) (nW c) ev1 ev2 el1 el2 = true := rowQ_yes (fun k hk => by
    obtain ⟨a, d, y, e1⟩ := h1.like k hk
    obtain ⟨a2, d2, y2, e2⟩ := h2.like k hk
    rw [e1, e2, h1.els k hk, h2.els k hk]
    exact evB_lists _ _ _ _ _ _ _ _)
  have := keventsA_any v1 v2 (nW c) (nW c) ev1 ev2 el1 el2 w (nW_le hL) (fun k hk => by rw [h1.els k hk]; exact (small_num hL k (hin k hk)).n) h1.row h2.row
  rw [e] at this
  exact this
/-! ### places -/
def plcW (c : Cd) : List Int := if c.may = true then (List.range c.N).map (plcL c c.od.length) else []
theorem plcW_len {c : Cd} (hL : Lt c) : (plcW c).length ≤ 100000 := by
  have := hL.n
  unfold plcW
  split
  · rw [List.length_map, List.length_range]; omega
  · simp
def PlcG (c : Cd) (w : World) (e : Ending) (w' : World) : Prop := ∃ v, e = .returned v ∧ ReadsI w' v (plcW c) ∧ Below w.heap.size w w'
theorem intsAt_reads {f : Nat → Int} {N g : Nat} {w : World} (hN : N ≤ 60) (h : IntsAt f N g w) : ReadsI w (.slice (some ⟨g, 0, none⟩) N N) ((List.range N).map f) := by
  refine .inr ⟨g, 0, N, by rw [List.length_map, List.length_range], by rw [List.length_map, List.length_range]; exact Nat.le_refl _, ?_, (Array.getElem?_eq_some_iff.1 h).1, fun j hj => ?_⟩
  · omega
  · rw [List.length_map, List.length_range] at hj
    have := h.cell j hj
    rw [Nat.zero_add, this]
    unfold atI
    rw [List.getD_eq_getElem?_getD, List.getElem?_map, List.getElem?_range hj]
    rfl
theorem plc_of {c : Cd} {w : World} {e : Ending} {w' : World} (hL : Lt c) (hm : c.may = true) (h : PlacesIs c w e w') : PlcG c w e w' := by
  obtain ⟨g, rfl, _, hi, hb⟩ := h
  refine ⟨_, rfl, ?_, hb⟩
  unfold plcW
  rw [if_pos hm]
  exact intsAt_reads hL.n hi
theorem plc_no {c : Cd} {w : World} {e : Ending} {w' : World} (hm : c.may = false) (h : NoneIs w e w') : PlcG c w e w' := by
  obtain ⟨rfl, hb⟩ := h
  refine ⟨_, rfl, .inl ⟨EmptyS.nil, ?_⟩, hb⟩
  unfold plcW
  rw [if_neg (by rw [hm]; simp)]
theorem Places_g (c : Cd) (q : Cv) (w : World) (hL : Lt c) (h : CAt c q w) : Calls Tryz.prog 15 #[cdV c q] w fun e w' => PlcG c w e w' := by
  cases hm : c.may with
  | true => exact (Places_yes c q w hL h hm).mono (fun e w' h => plc_of hL hm h)
  | false => exact (Places_no c q w hL h hm).mono (fun e w' h => plc_no hm h)
theorem rPlaces_g (c : Cd) (q : Cv) (w : World) (hL : Lt c) (hX : ∀ h, h < c.nh → ∀ k, k < c.len h → PairFits (c.ev h k)) (h : CAt c q w) : Calls Tryz.prog 16 #[cdV c q] w fun e w' => PlcG c w e w' := by
  cases hm : c.may with
  | true => exact (rplaces_yes c q w hL hX h hm).mono (fun e w' h => plc_of hL hm h)
  | false => exact (rplaces_no c q w hL hX h hm).mono (fun e w' h => plc_no hm h)
/-! ### the last -/
def lastW (c : Cd) : List (Int × Int) := if c.may = true then lastR c c.od.length else []
theorem lastW_len {c : Cd} (hL : Lt c) : (lastW c).length ≤ 1000 := by
  have h1 := lastR_len c c.od.length
  have h2 := hL.fs
  have h3 := hL.od
  unfold lastW
  split
  · omega
  · simp
theorem Last_g (c d : Cd) (q' : Cv) (w : World) (hA : Al c d) (hL : Lt d) (h : CAt d q' w) : Calls Tryz.prog 20 #[cdV d q'] w fun e w' => RLastIs w (lastW c) e w' := by
  cases hm : d.may with
  | true =>
    have hmc : c.may = true := by rw [← hA.may]; exact hm
    refine (Last_yes d q' w hL h hm).mono ?_
    rintro e w' ⟨v, l, rfl, hr, hri, hmem, hb, _⟩
    have e : l = lastW c := by
      unfold lastW
      rw [if_pos hmc]
      exact rise_one (rise_at.1 hri) (lastR_rise c _) (fun p => by rw [hmem p, hA.last p, lastR_is (rise_lt (may_rise hmc))])
    exact ⟨v, rfl, by rw [← e]; exact hr, hb⟩
  | false =>
    have hmc : c.may = false := by rw [← hA.may]; exact hm
    refine (Last_no d q' w hL h hm).mono ?_
    rintro e w' ⟨rfl, hb⟩
    refine ⟨_, rfl, .inl ⟨EmptyS.nil, ?_⟩, hb⟩
    unfold lastW
    rw [if_neg (by rw [hmc]; simp)]
theorem rLast_g (c : Cd) (q : Cv) (w : World) (hL : Lt c) (hX : ∀ h, h < c.nh → ∀ k, k < c.len h → PairFits (c.ev h k)) (h : CAt c q w) : Calls Tryz.prog 21 #[cdV c q] w fun e w' => RLastIs w (lastW c) e w' := by
  cases hm : c.may with
  | true =>
    have := rlast_yes c q w hL hX h hm
    unfold lastW
    rw [if_pos hm]
    exact this
  | false =>
    have := rlast_no c q w hL hX h hm
    unfold lastW
    rw [if_neg (by rw [hm]; simp)]
    exact this
end Go.Proofs.YtokhnjcbcpmmjaaGreat
