/-
  Proved here: the copy that OwnCand answers is a candidate: the first one's rows, with any From and Order that its lists read as. No condition.
  (With it: Proved here: a candidate whose events' lists lie elsewhere may be just when the first may; with one From another it may be just when that From fits; with an order shorter or longer it may not be. No condition.)
-/
import Derived.Test.YtokhnjcbcpmmjaaCdNumWords
import Derived.Test.YtokhnjcbcpmmjaaCdOwnCand
namespace Go.Proofs.Ytokhnjcbcpmmjaa
set_option linter.unusedVariables false
set_option linter.unusedSimpArgs false
open Go.RowKit

/-- the same but for where the lists lie, From and Order -/
structure AsEv (c d : Cd) : Prop where
  nh : d.nh = c.nh
  len : d.len = c.len
  el : d.el = c.el
  fs : d.fs = c.fs
  ev : ∀ h k, ∃ a x y, d.ev h k = (c.ev h k).lists a x y
theorem AsEv.N {c d : Cd} (h : AsEv c d) : d.N = c.N := by unfold Cd.N; rw [h.len, h.nh]
theorem AsEv.at {c d : Cd} (h : AsEv c d) (n : Nat) (hn : n < c.N) : ∃ a x y, (d.at n).1 = (c.at n).1.lists a x y := by
  obtain ⟨k, j, hk, hj, rfl⟩ := num_of c.len c.nh n hn
  have hd := d.at_is k j (by rw [h.nh]; exact hk) (by rw [h.len]; exact hj)
  rw [h.len] at hd
  rw [hd, c.at_is k j hk hj]
  exact h.ev k j
theorem rowStep_like {hart : Int} {ev ev' : Nat → Ev} {el : Nat → El} (hl : ∀ k, ∃ a x y, ev' k = (ev k).lists a x y) (k : Nat) (last : Int) : rowStep hart ev' el k last = rowStep hart ev el k last := by
  obtain ⟨a, x, y, e⟩ := hl k
  obtain ⟨a2, x2, y2, e2⟩ := hl last.toNat
  unfold rowStep
  rw [e, e2]
  rfl
theorem rowL_like {hart : Int} {ev ev' : Nat → Ev} {el : Nat → El} (hl : ∀ k, ∃ a x y, ev' k = (ev k).lists a x y) : ∀ n, rowL hart ev' el n = rowL hart ev el n
  | 0 => rfl
  | n + 1 => by
    unfold rowL
    rw [rowL_like hl n]
    congr 1
    funext last
    exact rowStep_like hl n last
theorem AsEv.rows {c d : Cd} (h : AsEv c d) (k : Nat) : rowsL d k = rowsL c k := by
  unfold rowsL
  congr 1
  funext j
  unfold rowB
  rw [h.len, h.el, rowL_like (h.ev j)]
theorem AsEv.find {c d : Cd} (h : AsEv c d) (n : Nat) (hn : n < c.N) (f : Int) : findX d n f = findX c n f := by
  obtain ⟨a, x, y, e⟩ := h.at n hn
  unfold findX
  rw [e, h.fs, h.N]
  by_cases hw : withinB f c.N = true
  · have hf : f.toNat < c.N := by
      unfold withinB at hw
      simp at hw
      omega
    obtain ⟨a2, x2, y2, e2⟩ := h.at f.toNat hf
    rw [e2]
    rfl
  · have hw2 : withinB f c.N = false := by simpa using hw
    have hr : readsE ((c.at n).1.lists a x y) = readsE (c.at n).1 := rfl
    rw [hw2, hr]
    simp only [or_true, if_true]
    try rfl
theorem AsEv.waits {c d : Cd} (h : AsEv c d) (ho : d.od = c.od) (n : Nat) (hn : n < c.N) : ∀ k, waitsL d k n = waitsL c k n
  | 0 => by
    obtain ⟨a, x, y, e⟩ := h.at n hn
    show memE (d.at n).1 = memE (c.at n).1
    rw [e]; rfl
  | k + 1 => by
    show (waitsL d k n && _) = (waitsL c k n && _)
    rw [h.waits ho n hn k, ho]
theorem AsEv.ord {c d : Cd} (h : AsEv c d) (ho : d.od = c.od) (k : Nat) : ordL d k = ordL c k := by
  unfold ordL
  congr 1
  funext j
  unfold ordAt
  rw [ho, h.N]
  by_cases hw : withinB (atI c.od j) c.N = true
  · have hf : (atI c.od j).toNat < c.N := by
      unfold withinB at hw
      simp at hw
      omega
    rw [h.waits ho _ hf j]
  · have hw2 : withinB (atI c.od j) c.N = false := by simpa using hw
    rw [hw2]; rfl
theorem AsEv.left {c d : Cd} (h : AsEv c d) (ho : d.od = c.od) : countW (waitsL d d.od.length) d.N = countW (waitsL c c.od.length) c.N := by
  rw [h.N, ho]
  exact countW_ext _ _ _ (fun n hn => h.waits ho n hn _)
end Go.Proofs.Ytokhnjcbcpmmjaa
namespace Go.Proofs.Ytokhnjcbcpmmjaa
set_option linter.unusedVariables false
set_option linter.unusedSimpArgs false
open Go.RowKit

theorem readsF_own {W : World} {base : Nat} {v : Value} {fs : List (Int × Int)} (h : W.ownsRow base 35 2 v fs.length (flatC fs)) : ReadsF W v fs := by
  rcases h.2 with ⟨rfl, h0⟩ | ⟨g, cap, cur, rfl, hb, hgg, hc, hm, hs, ht⟩
  · exact .inl ⟨EmptyS.nil, List.length_eq_zero_iff.1 h0⟩
  · refine .inr ⟨g, 0, cap, rfl, hc, by unfold maxLen at hm; omega, (Array.getElem?_eq_some_iff.1 hgg).1, fun j hj => ⟨?_, ?_⟩⟩
    · have := h.cells (g := g) (by simp [Value.ownBlock]) (j * 2) _ (flatC_at fs j 0 hj (by omega))
      rw [Addr.add_lit] at this
      exact this
    · have := h.cells (g := g) (by simp [Value.ownBlock]) (j * 2 + 1) _ (flatC_at fs j 1 hj (by omega))
      rw [Addr.add_lit] at this
      exact this
/-- a candidate's copy -/
def Cd.copy (c : Cd) (ess : List (List Ev)) (fr od : List Int) : Cd := ⟨c.nh, c.len, fun h k => (((ess[h]?).getD [])[k]?).getD (c.ev h k), c.el, c.fs, fr, od⟩
theorem lists_self (e : Ev) : e = e.lists e.a e.d e.y := by cases e; rfl
theorem copy_as {lo : Nat} {W : World} {c : Cd} {ess : List (List Ev)} {vals : List Value} (h : RowsE lo W c c.nh ess vals) (fr od : List Int) : AsEv c (c.copy ess fr od) := by
  refine ⟨rfl, rfl, rfl, rfl, fun j k => ?_⟩
  show ∃ a x y, (((ess[j]?).getD [])[k]?).getD (c.ev j k) = (c.ev j k).lists a x y
  by_cases hj : j < c.nh
  · obtain ⟨v, es, _, h2, h3⟩ := h.each j hj
    rw [h2]
    show ∃ a x y, (es[k]?).getD (c.ev j k) = _
    cases hk : es[k]? with
    | none => exact ⟨_, _, _, lists_self _⟩
    | some e => exact h3.cp.like k e hk
  · have hn : ess[j]? = none := List.getElem?_eq_none (by rw [h.l1]; omega)
    rw [hn]
    exact ⟨_, _, _, lists_self _⟩
theorem RowE.rowV {lo : Nat} {W : World} {v : Value} {n : Nat} {es : List Ev} {ev ev' : Nat → Ev} {el : Nat → El} (h : RowE lo W v n es ev el) (hl : ∀ k, k < n → 0 ≤ (ev k).addr) (he : ∀ k, k < n → es[k]? = some (ev' k)) : RowV W v n ev' el := by
  rcases h.own.2 with ⟨rfl, h0⟩ | ⟨g, cap, cur, rfl, hb, hgg, hc, hm, hs, ht⟩
  · exact ⟨none, 0, by rw [h0], by omega, .inl h0⟩
  · refine ⟨some ⟨g, 0, none⟩, cap, rfl, hc, .inr ⟨g, 0, rfl, ⟨fun k hk j u hu => ?_, fun k hk => h.cp.reads k _ (he k hk), fun k hk => ?_, fun _ => (Array.getElem?_eq_some_iff.1 hgg).1⟩⟩⟩
    · have hx := flat_at es k j _ u (he k hk) (by unfold Ev.row; simpa using hu)
      have := h.own.cells (g := g) (by simp [Value.ownBlock]) (k * 14 + j) u hx
      rw [Addr.add_lit] at this
      rw [← this]
      congr 2
      omega
    · obtain ⟨a, x, y, e⟩ := h.cp.like k _ (he k hk)
      rw [e]
      exact hl k hk
theorem copy_cat {lo base bF : Nat} {W : World} {c : Cd} {ess : List (List Ev)} {vals : List Value} (h : RowsE lo W c c.nh ess vals) (hl : ∀ h, h < c.nh → ∀ k, k < c.len h → 0 ≤ (c.ev h k).addr) {fr od : List Int} {aF aH aR aO : Option Addr} {cF cH cR cO : Nat}
    (hF : W.ownsRow bF 35 2 (.slice aF c.fs.length cF) c.fs.length (flatC c.fs)) (hH : W.ownsRow base 37 1 (.slice aH c.nh cH) c.nh vals) (hR : ReadsI W (.slice aR fr.length cR) fr) (hO : ReadsI W (.slice aO od.length cO) od) :
    CAt (c.copy ess fr od) ⟨aF, cF, aH, cH, aR, cR, aO, cO⟩ W := by
  refine ⟨readsF_own hF, ?_, ?_, hR, hO⟩
  · rcases hH.2 with ⟨_, h0⟩ | ⟨g, cap, cur, e, hb, hgg, hc, hm, hs, ht⟩
    · exact .inl h0
    · injection e with e1 e2 e3
      subst e1
      refine .inr ⟨g, 0, rfl, ⟨fun j hj => ?_, fun _ => (Array.getElem?_eq_some_iff.1 hgg).1⟩⟩
      obtain ⟨v, es, h1, h2, h3⟩ := h.each j hj
      refine ⟨v, ?_, h3.rowV (hl j hj) (fun k hk => ?_)⟩
      · have := hH.cells (g := g) (by simp [Value.ownBlock]) j v h1
        rw [Addr.add_lit] at this
        exact this
      · show es[k]? = some ((((ess[j]?).getD [])[k]?).getD (c.ev j k))
        rw [h2]
        show es[k]? = some ((es[k]?).getD (c.ev j k))
        rw [List.getElem?_eq_getElem (by rw [h3.len]; exact hk)]
        rfl
  · show c.nh ≤ cH
    rcases hH.2 with ⟨e, h0⟩ | ⟨g, cap, cur, e, hb, hgg, hc, hm, hs, ht⟩
    · omega
    · injection e with e1 e2 e3
      omega
/-- little in it, as in the first one -/
theorem copy_lt {c : Cd} {ess : List (List Ev)} {fr od : List Int} (hL : Lt c) (h : AsEv c (c.copy ess fr od)) (hr : fr.length ≤ 120) (ho : od.length ≤ 120) : Lt (c.copy ess fr od) where
  ew := fun j hj k hk => by
    obtain ⟨a, x, y, e⟩ := h.ev j k
    have := hL.ew j hj k hk
    rw [e]
    exact this
  nh := hL.nh
  n := hL.n
  small := hL.small
  fs := hL.fs
  fr := hr
  od := ho
  fw := hL.fw
end Go.Proofs.Ytokhnjcbcpmmjaa
