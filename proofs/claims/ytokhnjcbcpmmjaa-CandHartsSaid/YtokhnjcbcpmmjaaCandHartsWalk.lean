/-
  Proved here: the law CandHarts answers true of every candidate and every number; nothing that was there is changed. Condition: numbers of 64 bits.
-/
import Derived.Test.YtokhnjcbcpmmjaaCdHx
import Derived.Test.YtokhnjcbcpmmjaaCdLives
import Derived.Test.YtokhnjcbcpmmjaaCdNumber
import Derived.Test.YtokhnjcbcpmmjaaCdFresh
import Derived.Test.YtokhnjcbcpmmjaaRf09Put
import Derived.Deep.RegionHeld3
import Derived.Deep.CutBlock
namespace Go.Proofs.Ytokhnjcbcpmmjaa
set_option linter.unusedVariables false
set_option linter.unusedSimpArgs false
open Go.RowKit Go.Maps
attribute [local go_sem ↓] fold_E fold_SE fold_SC
attribute [local irreducible] wpStill

/-- ahead of the harts -/
structure Hp (c : Cd) (q : Cv) (gM gD : Nat) (vF : Value) (w W : World) : Prop where
  lk : Lk c q w W
  map : OMi gM 0 (.map []) W
  box : CBox vF (.slice none 0 0) (.slice none 0 0) (.slice none 0 0) gD W
  first : W.ownsRow w.heap.size 35 2 vF c.fs.length (flatC c.fs)
theorem Hp.on {c : Cd} {q : Cv} {gM gD : Nat} {vF : Value} {w W W2 : World} (h : Hp c q gM gD vF w W) (hb : Below W.heap.size W W2) : Hp c q gM gD vF w W2 := ⟨h.lk.on hb, h.map.on hb, h.box.on hb, own_on h.first hb⟩
theorem Hp.set1 {c : Cd} {q : Cv} {gM gD gB i : Nat} {vF : Value} {w W : World} (h : Hp c q gM gD vF w W) (h1 : w.heap.size < gB) (h2 : gM ≠ gB) (h3 : gD ≠ gB) (hf : ∀ g, vF.ownBlock = some g → g ≠ gB) (u : Value) : Hp c q gM gD vF w (W.setCell ⟨gB, i, none⟩ u) :=
  ⟨⟨(Below.heap_setCell W ⟨gB, i, none⟩ u w.heap.size (by show w.heap.size ≠ gB; omega)).trans h.lk.box, h.lk.below.setCell (by show w.heap.size ≤ gB; omega) u, h.lk.here⟩, h.map.blk (Below.heap_setCell W ⟨gB, i, none⟩ u gM h2), (Below.heap_setCell W ⟨gB, i, none⟩ u gD h3).trans h.box, own_but h.first (fun g hg => Below.heap_setCell W ⟨gB, i, none⟩ u g (hf g hg))⟩
/-- the bases so far -/
def bsF (c : Cd) (k j : Nat) : Int := if j < k then (baseL c.len j : Int) else 0
theorem bsF_one (c : Cd) (k : Nat) : bsF c 1 k = 0 := by
  unfold bsF
  by_cases hk : k < 1
  · rw [if_pos hk, show k = 0 by omega]; rfl
  · rw [if_neg hk]
theorem bsF_set (c : Cd) (k : Nat) (n : Nat) : ∀ j, j < n → bsF c (k + 1) j = if j = k then (baseL c.len k : Int) else bsF c k j := fun j _ => by
  unfold bsF
  by_cases e : j = k
  · rw [if_pos e, e, if_pos (by omega)]
  · rw [if_neg e]
    by_cases h : j < k
    · rw [if_pos h, if_pos (by omega)]
    · rw [if_neg h, if_neg (by omega)]
/-- append of one row of rows -/
theorem append_row {ops : Array Oper} {rest : List Oper} {o : Oper} {a : Act} {w : World} {Q : Exit → Act → World → Prop} (hgd : o.guard = none) (s x : Operand)
    (ho : o.op = .call { callee := .builtin .append, args := #[s, x], argTypes := #[23, 23] }) (base : Nat) (v : Value) (n : Nat) (xs : List Value) (hs : a.eval s = v) (hown : w.ownsRow base 37 1 v n xs)
    (r : Value) (h1 : r.oneCell' = true) (g : Nat) (hx : a.eval x = .slice (some ⟨g, 0, none⟩) 1 1) (hr : w.heap[g]? = some (.cells #[r] 37 (0, 0))) (hn : n ≤ 1000) (hbase : base ≤ w.heap.size)
    (h : ∀ v' w', w'.ownsRow base 37 1 v' (n + 1) (xs ++ [r]) → w.grownBy w' v.ownBlock → wpList Try.prog ops Q rest (a.put o.dst v') w') : wpList Try.prog ops Q (o :: rest) a w := by
  obtain ⟨i0, hi, hz0, hz1, hz2⟩ := info_parts infoEvs
  refine wpList_append_own w hgd s x _ ho base 37 i0 (.slice none 0 0) 1 24 Try.underlying23 hi hz0 hz1 hz2 (by kernel_rfl) (by decide) v n xs hs hown ⟨g, 0, none⟩ 1 1 [r] hx rfl ?_ ?_ (by unfold maxLen; omega) (by omega) hbase (fun v' w' h5 h6 _ => h v' w' h5 h6)
  · intro j u hu
    rw [Addr.add_lit, Nat.zero_add, cell_of_row w g j _ _ _ hr]
    simpa using hu
  · intro u hu
    simp only [List.mem_cons, List.not_mem_nil, or_false] at hu
    subst hu
    exact h1
/-- the candidate turned about, with its lists -/
def turnD (c : Cd) (b : Nat) : Cd := ⟨c.nh, fun h => c.len (twN c.nh b h), fun h k => (c.ev (twN c.nh b h) k).of h, fun h k => c.el (twN c.nh b h) k, c.fs, frL c (baseL c.len b), odL c (baseL c.len b) c.od.length⟩
theorem turn_tn {c : Cd} {b : Nat} (hb : b < c.nh) : Tn c (turnD c b) b :=
  ⟨rfl, fun _ _ => rfl, fun h _ k => ⟨_, _, _, rfl⟩, fun _ _ _ => rfl, rfl, by show (frL c _).length = _; unfold frL; rw [List.length_map, List.length_range], fun i hi => frL_at (base_le hb) i hi, odL_all _ _⟩
theorem turn_now {c : Cd} {b : Nat} (hb : b < c.nh) (k j : Nat) (hk : k < c.nh) (hj : j < c.len (twN c.nh b k)) : nowN (baseL c.len b) c.N (baseL c.len (twN c.nh b k) + j) = baseL (turnC c b).len k + j := (turn_tn hb).now hb k j hk hj
theorem turn_N {c : Cd} {b : Nat} (hb : b < c.nh) : baseL (turnC c b).len c.nh = c.N := (turn_tn hb).N hb
theorem row0 {c : Cd} {b k lo base : Nat} {v : Value} {E : List Ev} {W : World} (hL : c.len (twN c.nh b k) = 0) (ho : W.ownsRow base 42 14 v 0 (flat E)) (hE : E.length = 0) (hlo : lo ≤ base) : RowE lo W v ((turnC c b).len k) [] ((turnC c b).ev k) ((turnC c b).el k) := by
  obtain rfl : E = [] := List.length_eq_zero_iff.1 hE
  exact ⟨by show 0 = c.len _; rw [hL], by show W.ownsRow lo _ 14 _ (c.len _) _; rw [hL]; exact own_mono ho hlo, .nil _ _ _, .nil _⟩
theorem Ri.cell {c : Cd} {gM tw : Nat} {h : Int} {L g cp j : Nat} {E : List Ev} {n : Nat} {D : DataW Unit} {w W1 wr : World} (hr : Ri c gM tw h L g cp j E n D w W1 wr) (hj : j < L) : ∃ z, wr.cell? ⟨g, j * 14, none⟩ = some z := by
  have hl : (mixH h j E).length = L := by rw [mixH_len, hr.len]
  have he : (mixH h j E)[j]? = some ((mixH h j E)[j]'(by omega)) := List.getElem?_eq_getElem (by omega)
  refine ⟨.int .i64 ((mixH h j E)[j]'(by omega)).hart, ?_⟩
  rw [hr.own.cellAt (j * 14) (by omega)]
  exact flat_at _ j 0 _ _ he rfl
/-- append of one number, as a step of a region that draws -/
theorem step_append_i {ops : Array Oper} {o : Oper} {a : Act} {w : World} {K : Act → World → Prop} {Q : Exit → Act → World → Prop} {E : Prop} (hgd : o.guard = none) (s x : Operand)
    (ho : o.op = .call { callee := .builtin .append, args := #[s, x], argTypes := #[24, 24] }) (base : Nat) (v : Value) (xs : List Int) (hs : a.eval s = v) (hown : w.ownsRow base 3 1 v xs.length (xs.map (Value.int .i64)))
    (r : Int) (g : Nat) (hx : a.eval x = .slice (some ⟨g, 0, none⟩) 1 1) (hr : w.heap[g]? = some (.cells #[.int .i64 r] 3 (0, 0))) (hn : xs.length ≤ 100000) (hbase : base ≤ w.heap.size)
    (h : ∀ v' w', w'.ownsRow base 3 1 v' (xs ++ [r]).length ((xs ++ [r]).map (Value.int .i64)) → w.grownBy w' v.ownBlock → K (a.put o.dst v') w') : if Region.wanted o (yielded ops a.tmps) = true then Oper.wp Try.prog o a w K Q else E := by
  have hw : Region.wanted o (yielded ops a.tmps) = true := by simp [Region.wanted, hgd]
  rw [if_pos hw]
  obtain ⟨i0, hi, hz0, hz1, hz2⟩ := info_parts infoInt
  refine wp_append_own w s x _ ho base 3 i0 (.int .i64 0) 1 8 Try.underlying24 hi hz0 hz1 hz2 rfl (by decide) v _ _ hs hown ⟨g, 0, none⟩ 1 1 [.int .i64 r] hx rfl ?_ ?_ (by unfold maxLen; omega) (by omega) hbase (fun v' w' h5 h6 _ => h v' w' (by simpa using h5) h6)
  · intro j u hu
    rw [Addr.add_lit, Nat.zero_add, cell_of_row w g j _ _ _ hr]
    simpa using hu
  · intro u hu
    simp only [List.mem_cons, List.not_mem_nil, or_false] at hu
    subst hu
    rfl
theorem intsAt_reads {f : Nat → Int} {N g : Nat} {w : World} (hN : N ≤ 60) (h : IntsAt f N g w) : ReadsI w (.slice (some ⟨g, 0, none⟩) N N) ((List.range N).map f) := by
  refine .inr ⟨g, 0, N, by rw [List.length_map, List.length_range], by rw [List.length_map, List.length_range]; exact Nat.le_refl _, by omega, (Array.getElem?_eq_some_iff.1 h).1, fun j hj => ?_⟩
  rw [List.length_map, List.length_range] at hj
  have := h.cell j hj
  rw [Nat.zero_add, this]
  unfold atI
  rw [List.getD_eq_getElem?_getD, List.getElem?_map, List.getElem?_range hj]
  rfl
theorem fr_lt {c : Cd} (hm : c.may = true) (i : Nat) (hi : i < c.N) : atI c.fr i = -1 ∨ (0 ≤ atI c.fr i ∧ atI c.fr i < c.N) := by
  have h := all_at _ _ (may_found hm).2 i hi
  unfold findB at h
  by_cases g1 : readsE (c.at i).1 = false
  · rw [if_pos g1, beq_iff_eq] at h
    exact .inl h
  · rw [if_neg g1] at h
    by_cases g2 : atI c.fr i = -1
    · exact .inl g2
    · rw [if_neg g2] at h
      by_cases g3 : atI c.fr i = i ∨ withinB (atI c.fr i) c.N = false
      · rw [if_pos g3] at h; cases h
      · have hw : withinB (atI c.fr i) c.N = true := by
          cases hx : withinB (atI c.fr i) c.N with
          | true => rfl
          | false => exact absurd (.inr hx) g3
        exact .inr (withinB_yes hw)
/-- the lists' blocks -/
structure Hz (c : Cd) (q : Cv) (b gB gM gD lo gR s0 : Nat) (vF vH vO : Value) (n : Nat) (D : DataW Unit) (ess : List (List Ev)) (vals : List Value) (k : Nat) (w B W : World) : Prop where
  hy : Hy c q b gB gM gD lo vF vH (.slice (some ⟨gR, 0, none⟩) c.N c.N) vO n D ess vals w B W
  ints : IntsAt (frF c (baseL c.len b) c.N) c.N gR W
  own : W.ownsRow s0 3 1 vO (odL c (baseL c.len b) k).length ((odL c (baseL c.len b) k).map (Value.int .i64))
  r1 : B.heap.size ≤ gR
  r2 : gR < s0
  r3 : s0 ≤ W.heap.size
section
variable {c : Cd} {q : Cv} {b gB gM gD lo gR s0 : Nat} {vF vH vO : Value} {n : Nat} {D : DataW Unit} {ess : List (List Ev)} {vals : List Value} {k : Nat} {w B W W2 : World}
theorem Hz.on (h : Hz c q b gB gM gD lo gR s0 vF vH vO n D ess vals k w B W) (hb : Below W.heap.size W W2) : Hz c q b gB gM gD lo gR s0 vF vH vO n D ess vals k w B W2 :=
  ⟨h.hy.on hb, h.ints.on hb, own_on h.own hb, h.r1, h.r2, Nat.le_trans h.r3 hb.size⟩
theorem Hz.out (h : Hz c q b gB gM gD lo gR s0 vF vH vO n D ess vals k w B W) (hg : W.grownBy W2 vO.ownBlock) : CBox vF vH (.slice (some ⟨gR, 0, none⟩) c.N c.N) vO gD W2 :=
  (hg.block gD h.hy.box.lt (fun e => by have := (h.own.lt gD e.symm).1; have := h.hy.hx.o3; have := h.hy.hx.sz; have := h.r1; have := h.r2; omega)).trans h.hy.box
theorem Hz.step (h : Hz c q b gB gM gD lo gR s0 vF vH vO n D ess vals k w B W) {v5 : Value} {x : Int} {m : Nat} (hm : m = (odL c (baseL c.len b) k ++ [x]).length) (ho : W2.ownsRow s0 3 1 v5 m ((odL c (baseL c.len b) k ++ [x]).map (Value.int .i64))) (hg : W.grownBy W2 vO.ownBlock) (hx : odL c (baseL c.len b) (k + 1) = odL c (baseL c.len b) k ++ [x]) : Hz c q b gB gM gD lo gR s0 vF vH v5 n D ess vals (k + 1) w B (W2.setCell ⟨gD, 3, none⟩ v5) := by
  have o3 := h.hy.hx.o3
  have sz := h.hy.hx.sz
  have r1 := h.r1
  have r2 := h.r2
  have hv : ∀ g, vO.ownBlock = some g → s0 ≤ g := fun g hh => (h.own.lt g hh).1
  have h1 := h.hy.grown hg (fun k hk => by have := hv k hk; omega)
  subst hm
  refine ⟨h1.put 3 v5 _ _ rfl, ?_, ?_, r1, r2, Nat.le_trans h.r3 (Nat.le_trans hg.size (by simp [World.setCell]))⟩
  · exact (Below.heap_setCell W2 ⟨gD, 3, none⟩ v5 gR (by show gR ≠ gD; omega)).trans ((hg.block gR h.ints.lt (fun e => by have := hv gR e.symm; omega)).trans h.ints)
  · rw [hx]
    exact own_but ho (fun g hh => Below.heap_setCell W2 ⟨gD, 3, none⟩ v5 g (by show g ≠ gD; have := (ho.lt g hh).1; omega))
/-- the candidate that was made -/
theorem Hz.cat (h : Hz c q b gB gM gD lo gR s0 vF vH vO n D ess vals c.od.length w B W) (hN : c.N ≤ 60) (hl : ∀ h, h < c.nh → ∀ k, k < c.len h → 0 ≤ (c.ev h k).addr) : ∃ q', CdAt ((turnC c b).copy ess (frL c (baseL c.len b)) (odL c (baseL c.len b) c.od.length)) q' gD W ∧ CAt ((turnC c b).copy ess (frL c (baseL c.len b)) (odL c (baseL c.len b) c.od.length)) q' W := by
  have o3 := h.hy.hx.o3
  have hk : Keep lo B W := ⟨h.hy.fx.size, fun j h1 h2 => h.hy.fx.block j h2 (by omega)⟩
  have hrows := h.hy.hx.rows.keep hk
  have hown := own_keep h.hy.hx.own hk
  have hfirst := own_but (W2 := W) h.hy.hx.first (fun g hg => h.hy.fx.block g (h.hy.hx.first.lt g hg).2 (by have := h.hy.hx.fo g hg; omega))
  have hbox := h.hy.box
  have ho := h.own
  obtain ⟨aF, cF, rfl⟩ := own_form hfirst
  obtain ⟨aH, cH, rfl⟩ := own_form hown
  obtain ⟨aO, cO, rfl⟩ := own_form ho
  have el : (frL c (baseL c.len b)).length = c.N := by unfold frL; rw [List.length_map, List.length_range]
  have hr : ReadsI W (.slice (some ⟨gR, 0, none⟩) (frL c (baseL c.len b)).length c.N) (frL c (baseL c.len b)) := by
    rw [el]
    exact intsAt_reads hN h.ints
  refine ⟨⟨aF, cF, aH, cH, some ⟨gR, 0, none⟩, c.N, aO, cO⟩, ?_, copy_cat (c := turnC c b) hrows (fun j hj k hk => hl _ (twN_lt (by have : j < c.nh := hj; omega)) k hk) hfirst hown hr (readsI_of_own ho)⟩
  have e2 : CBox (.slice aF c.fs.length cF) (.slice aH c.nh cH) (.slice (some ⟨gR, 0, none⟩) (frL c (baseL c.len b)).length c.N) (.slice aO (odL c (baseL c.len b) c.od.length).length cO) gD W := by rw [el]; exact hbox
  exact e2
theorem Hz.tn (h : Hz c q b gB gM gD lo gR s0 vF vH vO n D ess vals k w B W) (hb : b < c.nh) (fr od : List Int) (hf : fr = frL c (baseL c.len b)) (ho : od = odL c (baseL c.len b) c.od.length) : Tn c ((turnC c b).copy ess fr od) b := by
  subst hf ho
  have hae := copy_as (c := turnC c b) h.hy.hx.rows (frL c (baseL c.len b)) (odL c (baseL c.len b) c.od.length)
  refine ⟨rfl, fun _ _ => rfl, fun h _ k => ?_, fun _ _ _ => rfl, rfl, by show (frL c _).length = _; unfold frL; rw [List.length_map, List.length_range], fun i hi => frL_at (base_le hb) i hi, odL_all _ _⟩
  obtain ⟨a, x, y, e⟩ := hae.ev h k
  exact ⟨a, x, y, by rw [e]; rfl⟩
theorem Hz.small (h : Hz c q b gB gM gD lo gR s0 vF vH vO n D ess vals k w B W) (hL : Lt c) (hb : b < c.nh) : Lt ((turnC c b).copy ess (frL c (baseL c.len b)) (odL c (baseL c.len b) c.od.length)) := by
  have hT : Lt (turnC c b) := {
    ew := fun h hh k hk => hL.ew _ (twN_lt (by have : h < c.nh := hh; omega)) k hk
    nh := hL.nh
    n := by have := turn_N hb; have := hL.n; show baseL (turnC c b).len c.nh ≤ 60; omega
    small := fun h hh => hL.small _ (twN_lt (by have : h < c.nh := hh; omega))
    fs := hL.fs
    fr := by show 0 ≤ 120; omega
    od := by show 0 ≤ 120; omega
    fw := hL.fw }
  refine copy_lt hT (copy_as (c := turnC c b) h.hy.hx.rows _ _) ?_ ?_
  · unfold frL; rw [List.length_map, List.length_range]; have := hL.n; omega
  · rw [odL_len (Nat.le_refl _)]; exact hL.od
end
theorem grown_set (w : World) (g j : Nat) (u : Value) : w.grownBy (w.setCell ⟨g, j, none⟩ u) (some g) :=
  ⟨rfl, rfl, rfl, by simp [World.setCell], fun k _ hk => Below.heap_setCell w ⟨g, j, none⟩ u k (fun e => hk (by simp [e]))⟩
/-- the boxes at the end -/
structure Pf (c : Cd) (q : Cv) (d : Cd) (q' : Cv) (gD : Nat) (w W : World) : Prop where
  lk : Lk c q w W
  box : CdAt d q' gD W
  at_ : CAt d q' W
theorem Pf.on {c : Cd} {q : Cv} {d : Cd} {q' : Cv} {gD : Nat} {w W W2 : World} (h : Pf c q d q' gD w W) (hb : Below W.heap.size W W2) : Pf c q d q' gD w W2 := ⟨h.lk.on hb, h.box.on hb, h.at_.below hb⟩
theorem Pf.facts {c : Cd} {q : Cv} {d : Cd} {q' : Cv} {gD : Nat} {w W : World} (h : Pf c q d q' gD w W) : W.cell? ⟨w.heap.size, 0, none⟩ = some (.slice q.aF c.fs.length q.cF) ∧ W.cell? ⟨w.heap.size, 1, none⟩ = some (.slice q.aH c.nh q.cH) ∧ W.cell? ⟨w.heap.size, 2, none⟩ = some (.slice q.aR c.fr.length q.cR) ∧ W.cell? ⟨w.heap.size, 3, none⟩ = some (.slice q.aO c.od.length q.cO) ∧ W.cell? ⟨gD, 0, none⟩ = some (.slice q'.aF d.fs.length q'.cF) ∧ W.cell? ⟨gD, 1, none⟩ = some (.slice q'.aH d.nh q'.cH) ∧ W.cell? ⟨gD, 2, none⟩ = some (.slice q'.aR d.fr.length q'.cR) ∧ W.cell? ⟨gD, 3, none⟩ = some (.slice q'.aO d.od.length q'.cO) := by
  obtain ⟨a0, a1, a2, a3⟩ := h.lk.box.facts
  obtain ⟨b0, b1, b2, b3⟩ := h.box.facts
  exact ⟨a0, a1, a2, a3, b0, b1, b2, b3⟩
set_option maxRecDepth 100000 in
set_option maxHeartbeats 64000000 in
theorem candHarts_any (c : Cd) (q : Cv) (x : Int) (w : World) (h : CAt c q w) (he : ∀ h, h < c.nh → ∀ k, k < c.len h → WordE (c.ev h k)) (hf : ∀ j, j < c.fs.length → (0 ≤ fA c.fs j ∧ fA c.fs j < 18446744073709551616) ∧ (0 ≤ fV c.fs j ∧ fV c.fs j < 18446744073709551616)) (b1 : -9223372036854775808 ≤ x ∧ x ≤ 9223372036854775807) :
    Calls Try.prog 3 #[cdV c q, .int .i64 x] w fun e w' => SameOk w true e w' := by
  have S0 := Lib.hid (Lk.start h)
  have HE := Lib.hid he
  have HFW := Lib.hid hf
  have HN := Lib.hid b1
  clear h he hf b1
  go_enter Try.func3, Try.ntmps3
  go_upto_region 3 with (go_at_call 4; (with_reducible refine (lives_any _).mono ?_); rintro e' w1 ⟨rfl, hb⟩; have S1 := Lib.hid (S0.out.on hb); clear hb)
  obtain ⟨u0, u1, u2, u3⟩ := S1.out.box.facts
  obtain ⟨m, hm⟩ : ∃ m, Hid (c.may = m) := ⟨_, Lib.hid rfl⟩
  cases m with
  | false =>
    go_wp2_with (first | (go_at_call 5; (with_reducible refine (lightCand_any c q w1 S1.out.at_).mono ?_); rintro e' w2 ⟨r, rfl, hr, hb⟩; have S2 := Lib.hid (S1.out.on hb); have R2 := Lib.hid (fun (e : r = true) => (hr e).lt HE.out HFW.out); clear hb hr u0 u1 u2 u3; obtain ⟨u0, u1, u2, u3⟩ := S2.out.box.facts; cases r) | (go_at_call 6; (with_reducible refine (check_c c q w2 (R2.out (by first | rfl | trivial)) S2.out.at_ false hm.out).mono ?_); rintro e' w3 ⟨rfl, hb⟩; have S3 := Lib.hid (S2.out.on hb); have LT := Lib.hid (R2.out (by first | rfl | trivial)); clear hb u0 u1 u2 u3; obtain ⟨u0, u1, u2, u3⟩ := S3.out.box.facts))
    · go_ret
      exact ⟨rfl, S2.out.below⟩
    · go_ret
      exact ⟨rfl, S3.out.below⟩
  | true =>
    go_upto_region 5 with (first | (go_at_call 5; (with_reducible refine (lightCand_any c q w1 S1.out.at_).mono ?_); rintro e' w2 ⟨r, rfl, hr, hb⟩; have S2 := Lib.hid (S1.out.on hb); have R2 := Lib.hid (fun (e : r = true) => (hr e).lt HE.out HFW.out); clear hb hr u0 u1 u2 u3; obtain ⟨u0, u1, u2, u3⟩ := S2.out.box.facts; cases r) | (go_at_call 6; (with_reducible refine (check_c c q w2 (R2.out (by first | rfl | trivial)) S2.out.at_ true hm.out).mono ?_); rintro e' w3 ⟨rfl, hb⟩; have S3 := Lib.hid (S2.out.on hb); have LT := Lib.hid (R2.out (by first | rfl | trivial)); clear hb u0 u1 u2 u3; obtain ⟨u0, u1, u2, u3⟩ := S3.out.box.facts))
    · go_ret
      exact ⟨rfl, S2.out.below⟩
    clear S0 S1 S2 R2 HE HFW
    obtain ⟨n0, n8⟩ := may_nh hm.out
    obtain ⟨b, hbp, hbn⟩ : ∃ b : Nat, Hid (pickI x (c.nh : Int) = (b : Int)) ∧ b < c.nh := by
      have := pickI_lt x (c.nh : Int) (by omega)
      exact ⟨(pickI x (c.nh : Int)).toNat, Lib.hid (by omega), by omega⟩
    have KP := Lib.hid (fun w0 => Pick_fit x HN.out (c.nh : Int) (by omega) w0)
    rw [hbp.out] at KP
    have hfs : c.fs.length ≤ 1000 := by have := LT.out.fs; omega
    clear HN hbp
    go_upto_region 7 with (go_at_call 7; (with_reducible refine (KP.out _).mono ?_); rintro e' w4 ⟨rfl, rfl⟩)
    have KO := Lib.hid (ownC_any (.slice q.aF c.fs.length q.cF) c.fs w3 S3.out.at_.first hfs)
    go_upto_region 8 with (go_at_call 8; (with_reducible refine (KO.out).mono ?_); rintro e' w5 ⟨vF, rfl, ho, hb⟩; obtain ⟨aF, cF, rfl⟩ := own_form ho; have S5 := Lib.hid (S3.out.on hb); have F5 := Lib.hid (own_mono ho S3.out.below.size); have Z5 := Lib.hid hb.size; have B5 := CBox.new (.slice none 0 0) (.slice none 0 0) (.slice none 0 0) (.slice none 0 0) w5; have run5 := run_StoreC (y0 := .slice aF c.fs.length cF) (y1 := .slice none 0 0) (y2 := .slice none 0 0) (y3 := .slice none 0 0) B5 rfl rfl rfl rfl; clear hb ho u0 u1 u2 u3)
    obtain ⟨W3, hW3⟩ : ∃ W, (w5.alloc (.cells #[.slice none 0 0, .slice none 0 0, .slice none 0 0, .slice none 0 0] 26)).setRow w5.heap.size #[.slice aF c.fs.length cF, .slice none 0 0, .slice none 0 0, .slice none 0 0] = W := ⟨_, rfl⟩
    have B3 : Hid (CBox (.slice aF c.fs.length cF) (.slice none 0 0) (.slice none 0 0) (.slice none 0 0) w5.heap.size W3) := Lib.hid (by rw [← hW3]; exact setRow_heap _ _ _ _ _ _ B5)
    have z3 : W3.heap.size = w5.heap.size + 1 := by rw [← hW3]; simp
    have L3 : Hid (Below w5.heap.size w5 W3) := Lib.hid (by rw [← hW3]; exact (box_below w5 _).trans (below_setRow.mono (Nat.le_refl _)))
    rw [hW3]
    clear run5 B5 hW3 KP KO
    have hmk := make_ints c.nh (by omega) W3
    have hmm := @run_makeMap Try.prog
    go_upto_region 9 with fail
    go_name_world W4 hW4
    have z4 : W4.heap.size = W3.heap.size + 2 := by rw [← hW4]; simp
    have I4 : Hid (IntsAt (bsF c 1) c.nh W3.heap.size W4) := Lib.hid (by
      rw [← hW4]
      have e : intsOf (bsF c 1) c.nh = intsOf (fun _ => 0) c.nh := intsOf_ext (fun k _ => bsF_one c k)
      have h1 : IntsAt (bsF c 1) c.nh W3.heap.size (W3.alloc (.cells (intsOf (fun _ => 0) c.nh).toArray 3)) := by unfold IntsAt; rw [e]; exact Array.getElem?_push_size
      exact h1.on (box_below _ _))
    have M4 : Hid (OMi (W3.heap.size + 1) 0 (.map []) W4) := Lib.hid (by
      rw [← hW4]
      have := World.ownsMap_made (H := Unit) (W3.alloc (.cells (intsOf (fun _ => 0) c.nh).toArray 3)) Try.prog 3 (plainElem Try.prog 3)
      rw [show (W3.alloc (.cells (intsOf (fun _ => 0) c.nh).toArray 3)).heap.size = W3.heap.size + 1 by simp] at this
      exact this)
    have L4 : Hid (Below W3.heap.size W3 W4) := Lib.hid (by rw [← hW4]; exact (box_below _ _).trans ((box_below _ _).mono (by simp)))
    clear hW4 hmk hmm
    obtain ⟨gD, hgD⟩ : ∃ g, w5.heap.size = g := ⟨_, rfl⟩
    rw [z3] at I4 M4 z4
    rw [hgD] at I4 M4 z4 B3 L3 ⊢
    obtain ⟨gB, hgB⟩ : ∃ g, gD + 1 = g := ⟨_, rfl⟩
    rw [hgB] at I4 M4 z4 ⊢
    obtain ⟨gM, hgM⟩ : ∃ g, gB + 1 = g := ⟨_, rfl⟩
    rw [hgM] at M4 ⊢
    have GG : Hid (gB = gD + 1 ∧ gM = gD + 2 ∧ W4.heap.size = gD + 3) := Lib.hid (by omega)
    have hwD0 : w.heap.size < gD := by rw [← hgD]; exact S5.out.box.lt
    have hwD : Hid (w.heap.size < gD) := Lib.hid hwD0
    have P4 : Hid (Hp c q gM gD (.slice aF c.fs.length cF) w W4) := Lib.hid ⟨(S5.out.on (by rw [hgD]; exact L3.out)).on L4.out, M4.out, B3.out.on L4.out, own_on (own_on F5.out (by rw [hgD]; exact L3.out)) L4.out⟩
    have FO : Hid (∀ g, (Value.slice aF c.fs.length cF).ownBlock = some g → w.heap.size < g ∧ g < gD) := Lib.hid (fun g hg => by
      have h1 := F5.out.lt g hg
      rw [hgD] at h1
      have e2 : g ≠ w.heap.size := fun e => by
        have hbx := S5.out.box
        unfold CdAt at hbx
        rcases F5.out.2 with ⟨e0, _⟩ | ⟨g', cap, cur, e0, _, hgg, _⟩
        · rw [e0] at hg; simp [Value.ownBlock] at hg
        · rw [e0] at hg
          simp [Value.ownBlock] at hg
          rw [hg, e, hbx] at hgg
          simp at hgg
      omega)
    clear hgD z3 B3 L3 L4 M4 S5 F5 Z5 S3 hgB hgM z4 hwD0
    obtain ⟨vF, hvF⟩ : ∃ v, Value.slice aF c.fs.length cF = v := ⟨_, rfl⟩
    rw [hvF] at P4 FO
    clear hvF
    go_wp2
    go_loopw [9] (fun vi wr => ∃ (k : Nat), k < c.nh ∧ vi = .int .i64 ((k : Int) + 1) ∧ Hid (IntsAt (bsF c (k + 1)) c.nh gB wr) ∧ Hid (Hp c q gM gD vF w wr)) (fun vi _ => c.nh - (intOf vi).toNat)
    case atStart => exact ⟨0, n0, rfl, I4, P4⟩
    case round =>
      clear I4 P4
      obtain ⟨k, hk, rfl, hI, hP⟩ := hrel
      obtain ⟨u0, u1, u2, u3⟩ := hP.out.lk.box.facts
      by_cases hlt : k + 1 < c.nh
      · obtain ⟨b2, off, a2, c2, hq, hc, _, _⟩ := hP.out.lk.at_.harts.row k hk
        rw [hq] at u1
        have d0 := hI.out.cell k hk
        have e0 : bsF c (k + 1) k = (baseL c.len k : Int) := by unfold bsF; rw [if_pos (by omega)]
        rw [e0] at d0
        have zf := hI.out.free (k + 1)
        have dx := hI.out.cell (k + 1) hlt
        have hb60 := LT.out.base (k + 1) (by omega)
        have hs : baseL c.len (k + 1) = baseL c.len k + c.len k := rfl
        have hwm : IntKind.i64.wrap ((k : Int) + 1 - 1) = (k : Int) := by rw [IntWalk.i64_in _ (by omega)]; omega
        have hwm2 : IntKind.i64.wrap (k : Int) = (k : Int) := IntWalk.i64_in _ (by omega)
        obtain ⟨B0, hB0⟩ : ∃ B, Hid (baseL c.len k = B) := ⟨_, Lib.hid rfl⟩
        obtain ⟨B1, hB1⟩ : ∃ B, Hid (baseL c.len (k + 1) = B) := ⟨_, Lib.hid rfl⟩
        rw [hB0.out] at hs d0
        rw [hB1.out] at hs hb60
        have hwb : IntKind.i64.wrap ((B0 : Int) + (c.len k : Int)) = (B1 : Int) := by rw [IntWalk.i64_in _ (by omega)]; omega
        have hk0 : (0 : Int) ≤ (k : Int) := by omega
        have hkn : (k : Int) < (c.nh : Int) := by omega
        have hk1 : (0 : Int) ≤ (k : Int) + 1 := by omega
        have hk1n : (k : Int) + 1 < (c.nh : Int) := by omega
        have ID := Lib.hid (hI.out.on (Below.refl _ _).drew)
        have PD := Lib.hid (hP.out.on (Below.refl _ _).drew)
        have HS := Lib.hid (bsF_set c (k + 1) c.nh)
        rw [hB1.out] at HS
        clear e0 hs hb60 hq
        go_upto_region 12 with fail
        refine wp_region_still_tail 16 (by kernel_rfl) (by kernel_rfl) ?_
        simp only [List.take_succ_cons, List.take_zero, List.drop_succ_cons, List.drop_zero]
        iterate 16 still_step
        refine wpStill_nil ?_
        change wpList _ _ _ _ _ (World.drew _)
        go_wp2
        go_roundw
        case rel => exact ⟨k + 1, hlt, by go_num, Lib.hid (ID.out.set (k + 1) B1 HS.out), Lib.hid (PD.out.set1 (by have := GG.out; have := hwD.out; omega) (by have := GG.out; omega) (by have := GG.out; omega) (fun g hg => by have := FO.out g hg; have := GG.out; omega) _)⟩
        case measure => simp [intOf]; omega
      · have I5 : Hid (IntsAt (fun j => (baseL c.len j : Int)) c.nh gB wr) := Lib.hid (by
          have := hI.out
          unfold IntsAt at this ⊢
          rw [this, intsOf_ext (f := bsF c (k + 1)) (f2 := fun j => (baseL c.len j : Int)) (fun j hj => by unfold bsF; rw [if_pos (by omega)])])
        have hk1n : ¬ (k : Int) + 1 < (c.nh : Int) := by omega
        have hgm := hP.out.map.lt
        obtain ⟨lo, hlo⟩ : ∃ lo, wr.heap.size = lo := ⟨_, rfl⟩
        have H0 : Hid (Hx c q b gB gM gD lo vF (.slice none 0 0) (.slice none 0 0) (.slice none 0 0) (baseL (turnC c b).len 0) (baseL (turnC c b).len 0) (.map []) 0 [] [] w wr) := Lib.hid ⟨hP.out.lk, I5.out, hP.out.map, .start _ _, hP.out.box, hP.out.first, .nil _ _ _, World.ownsRow_nil _ _ _ _, by have := GG.out; have := hwD.out; omega, by have := GG.out; have := hwD.out; omega, by have := GG.out; have := hwD.out; omega, by have := GG.out; omega, fun g hg => by have := FO.out g hg; have := GG.out; omega, by omega⟩
        clear hI hP I5 hgm hlo hlt
        go_wp2
        go_loopw [10] (fun vi wr => ∃ (k : Nat) (ess : List (List Ev)) (vals : List Value) (vH : Value) (D : DataW Unit), k ≤ c.nh ∧ vi = .int .i64 k ∧ Hid (Hx c q b gB gM gD lo vF vH (.slice none 0 0) (.slice none 0 0) (baseL (turnC c b).len k) (baseL (turnC c b).len k) D k ess vals w wr)) (fun vi _ => c.nh - (intOf vi).toNat)
        case atStart => exact ⟨0, [], [], _, _, Nat.zero_le _, rfl, H0⟩
        case round =>
          clear H0 u0 u1 u2 u3
          obtain ⟨k, ess, vals, vH, D, hk, rfl, hX⟩ := hrel
          obtain ⟨u0, u1, u2, u3⟩ := hX.out.lk.box.facts
          by_cases hlt : k < c.nh
          · have hwa : IntKind.i64.wrap ((k : Int) + (b : Int)) = (k : Int) + (b : Int) := IntWalk.i64_in _ (by omega)
            have hn0 : ((c.nh : Int) == 0) = false := by simp; omega
            have hki : (k : Int) < (c.nh : Int) := by omega
            go_upto_region 17 with fail
            obtain ⟨tw, htw⟩ : ∃ tw, Hid (twN c.nh b k = tw) := ⟨_, Lib.hid rfl⟩
            have htl : tw < c.nh := by rw [← htw.out]; exact twN_lt n0
            have hmod : ((k : Int) + (b : Int)) % (c.nh : Int) = (tw : Int) := by rw [← htw.out]; rfl
            rw [hmod]
            clear hmod
            obtain ⟨b2, off, a2, c2, hq, hc, _, hrow⟩ := hX.out.lk.at_.harts.row tw htl
            rw [hq] at u1
            have hti : (tw : Int) < (c.nh : Int) := by omega
            have ht0 : (0 : Int) ≤ (tw : Int) := by omega
            have KW := Lib.hid (owns2_any _ _ _ _ wr hrow (LT.out.small tw htl).1 (LT.out.small tw htl).2)
            clear hq hrow
            go_upto_block 4 with (go_at_call 9; (with_reducible refine (KW.out).mono ?_); rintro e' w2 ⟨v2, E, rfl, hlen, hown, hcp, hnew, hb⟩; have X2 := Lib.hid (And.intro hlen (And.intro hown (And.intro hcp (And.intro hnew hb)))); clear hlen hown hcp hnew hb KW u0 u1 u2 u3 hc)
            go_cut [12] (fun t12 wx => ∃ (v : Value) (es : List Ev) (D2 : DataW Unit), t12 = v ∧ Hid (Hx c q b gB gM gD lo vF vH (.slice none 0 0) (.slice none 0 0) (baseL (turnC c b).len (k + 1)) (baseL (turnC c b).len (k + 1)) D2 k ess vals w wx) ∧ Hid (RowE lo wx v ((turnC c b).len k) es ((turnC c b).ev k) ((turnC c b).el k)))
            case first =>
              have hLs : (turnC c b).len k = c.len tw := by rw [← htw.out]; rfl
              have hbk : Hid (baseL (turnC c b).len (k + 1) = baseL (turnC c b).len k + c.len tw) := Lib.hid (by rw [← hLs]; rfl)
              have hL60 := (LT.out.small tw htl).1
              obtain ⟨L, hL⟩ : ∃ L, Hid (c.len tw = L) := ⟨_, Lib.hid rfl⟩
              rw [hL.out] at X2 hbk hL60
              obtain ⟨t0, ht0⟩ : ∃ t, Hid (baseL (turnC c b).len k = t) := ⟨_, Lib.hid rfl⟩
              rw [ht0.out] at hX hbk
              have NW : Hid (∀ j, j < L → nowN (baseL c.len b) c.N (baseL c.len tw + j) = t0 + j) := Lib.hid (fun j hj => by
                have := turn_now hbn k j hlt (by rw [htw.out, hL.out]; exact hj)
                rw [htw.out, ht0.out] at this
                exact this)
              clear hLs
              by_cases hL0 : L = 0
              · subst hL0
                have XN := Lib.hid (hX.out.on X2.out.2.2.2.2)
                obtain ⟨a3, c3, rfl⟩ := own_form X2.out.2.1
                have RN : Hid (RowE lo w2 (.slice a3 0 c3) ((turnC c b).len k) [] ((turnC c b).ev k) ((turnC c b).el k)) := Lib.hid (row0 (by rw [htw.out]; exact hL.out) X2.out.2.1 X2.out.1 hX.out.sz)
                go_wp2
                refine wp_loop_rounds 1 ?_
                rw [rounds_succ]
                go_wp2_with fail
                go_meet
                exact ⟨_, [], D, rfl, Lib.hid (by rw [hbk.out]; exact XN.out), RN⟩
              · rcases X2.out.2.1.2 with ⟨_, h0⟩ | ⟨g, cap, cur, rfl, hgb, _, hcap, _⟩
                · exact absurd h0 hL0
                have R0 : Hid (Ri c gM tw (k : Int) L g cap 0 E t0 D w wr w2) := Lib.hid ⟨.of X2.out.2.2.2.2, hX.out.lk.below.trans (X2.out.2.2.2.2.mono hX.out.lk.below.size), hX.out.map.on X2.out.2.2.2.2, by rw [mixH_zero]; exact X2.out.2.1, X2.out.2.2.1, X2.out.2.2.2.1, X2.out.1, hX.out.map.lt, by have := hX.out.o2; omega⟩
                have M0 : Hid (MetI (baseL c.len b) c.N t0 D) := Lib.hid hX.out.now
                have FB : Hid (∀ W, Gx gM wr W → W.cell? ⟨gB, tw, none⟩ = some (.int .i64 (baseL c.len tw : Int))) := Lib.hid (fun W hW => by
                  have : IntsAt (fun j => (baseL c.len j : Int)) c.nh gB W := (hW.block gB hX.out.base.lt (by have := GG.out; omega)).trans hX.out.base
                  exact this.cell tw htl)
                have hBN := base_le hbn
                have hN60 := LT.out.n
                have hb60 := LT.out.base tw (by omega)
                have hbl := LT.out.base (tw + 1) (by omega)
                have hbs : baseL c.len (tw + 1) = baseL c.len tw + L := by rw [← hL.out]; rfl
                have hlN : Hid (baseL c.len tw + L ≤ c.N) := Lib.hid (by rw [← hbs]; exact baseL_mono c.len (tw + 1) c.nh (by omega))
                obtain ⟨B0, hB0⟩ : ∃ B, Hid (baseL c.len tw = B) := ⟨_, Lib.hid rfl⟩
                rw [hB0.out] at NW FB hb60 hbs hlN
                rw [hbs] at hbl
                have hbk2 : Hid (t0 + L ≤ 60) := Lib.hid (by
                  have e := hbk.out
                  have := baseL_mono (turnC c b).len (k + 1) c.nh (by omega)
                  rw [turn_N hbn] at this
                  omega)
                clear hbs hgb hcap
                go_wp2
                go_loopw [13] (fun vi wr2 => ∃ (j : Nat) (D2 : DataW Unit), j ≤ L ∧ vi = .int .i64 j ∧ Hid (Ri c gM tw (k : Int) L g cap j E (t0 + j) D2 w wr wr2) ∧ Hid (MetI (baseL c.len b) c.N (t0 + j) D2)) (fun vi _ => L - (intOf vi).toNat)
                case atStart => exact ⟨0, D, Nat.zero_le _, rfl, R0, M0⟩
                case round =>
                  clear R0 M0
                  obtain ⟨j, D2, hj, rfl, hR, hM⟩ := hrel
                  by_cases hjt : j < L
                  · obtain ⟨z, hz⟩ := hR.out.cell hjt
                    have zf := hR.out.own.frozenAt (j * 14)
                    have hji : (j : Int) < (L : Int) := by omega
                    have hj0 : (0 : Int) ≤ (j : Int) := by omega
                    have R1 := Lib.hid (hR.out.set hjt)
                    go_upto_region 22 with fail
                    go_name_world W5 hW5
                    rw [hW5] at R1
                    clear hW5 hz zf hR
                    have RD := Lib.hid (R1.out.on (Below.refl _ _).drew)
                    have d0 := FB.out _ R1.out.fx
                    have hln := R1.out.map.len Try.underlying36
                    have hlnD := RD.out.map.len Try.underlying36
                    rw [hM.out.size] at hln hlnD
                    have hwa2 : IntKind.i64.wrap ((B0 : Int) + (j : Int)) = ((B0 + j : Nat) : Int) := by rw [IntWalk.i64_in _ (by omega)]; omega
                    have hBj : Hid (B0 + j < c.N ∧ nowN (baseL c.len b) c.N (B0 + j) = t0 + j) := Lib.hid ⟨by have := hlN.out; omega, NW.out j hjt⟩
                    have hwx : Hid ((Lit.int .i64 ((B0 + j : Nat) : Int)).wf = true) := Lib.hid (wf_small (by omega))
                    have hwy : Hid ((Lit.int .i64 ((t0 + j : Nat) : Int)).wf = true) := Lib.hid (wf_small (by have := hbk2.out; omega))
                    obtain ⟨mx, hmx⟩ : ∃ m, B0 + j = m := ⟨_, rfl⟩
                    obtain ⟨tx, htx⟩ : ∃ m, Hid (t0 + j = m) := ⟨_, Lib.hid rfl⟩
                    rw [hmx] at hwa2 hBj hwx
                    rw [htx.out] at hln hlnD hBj hwy hM R1 RD
                    have hkm : tx < maxLen := by unfold maxLen; have := hbk2.out; have := htx.out; omega
                    clear hmx
                    refine wp_region_still_tail 9 (by kernel_rfl) (by kernel_rfl) ?_
                    simp only [List.take_succ_cons, List.take_zero, List.drop_succ_cons, List.drop_zero]
                    iterate 9 still_step
                    refine wpStill_nil ?_
                    change wpList _ _ _ _ _ (World.drew _)
                    go_wp2_with (at_mapUpdate; refine wpList_mapUpdate_own _ rfl _ _ _ 36 rfl 3 3 law_int Try.underlying36 _ gM tx _ rfl RD.out.map hkm _ _ _ rfl rfl (keyOf_int_mk Try.underlying3 hwx.out) _ [] (plainElem_int Try.underlying3 hwy.out) ?_; intro w8 hown1 hgrow1; have R8 := Lib.hid (RD.out.put hown1 hgrow1); clear hown1 hgrow1)
                    go_roundw
                    case rel => exact ⟨j + 1, _, by omega, by go_num, Lib.hid (by rw [show t0 + (j + 1) = tx + 1 by have := htx.out; omega]; exact R8.out), Lib.hid (by rw [show t0 + (j + 1) = tx + 1 by have := htx.out; omega]; exact hM.out.put hBN mx hBj.out.1 hBj.out.2)⟩
                    case measure => simp [intOf]; omega
                  · obtain rfl : j = L := by omega
                    have XN := Lib.hid (hX.out.frame hR.out.fx hR.out.below hR.out.map hM.out)
                    subst htw
                    have RN := Lib.hid (hR.out.row hL.out hX.out.sz)
                    go_wp2_with fail
                    go_meet
                    exact ⟨_, _, D2, rfl, Lib.hid (by rw [hbk.out]; exact XN.out), RN⟩
            case rest =>
              obtain ⟨v, es, D2, hv, hX2, hRow⟩ := hcut
              obtain ⟨a3, c3, hv3⟩ := own_form hRow.out.own
              rw [hv3] at hv
              rw [hv3] at hRow
              subst hv
              clear hX X2 hv3
              obtain ⟨aH, cH, rfl⟩ := own_form hX2.out.own
              have x1 : wc.cell? ⟨gD, 1, none⟩ = some (.slice aH k cH) := by rw [cell_of_row wc gD 1 _ _ _ hX2.out.box]; rfl
              have XB := Lib.hid (hX2.out.on (box_below wc (.cells #[.slice a3 ((turnC c b).len k) c3] 37)))
              have RB := Lib.hid (hRow.out.keep (.of_below (box_below wc (.cells #[.slice a3 ((turnC c b).len k) c3] 37))))
              have B3 : Hid ((wc.alloc (.cells #[.slice a3 ((turnC c b).len k) c3] 37)).heap[wc.heap.size]? = some (.cells #[.slice a3 ((turnC c b).len k) c3] 37 (0, 0))) := Lib.hid Array.getElem?_push_size
              have hk1 : k ≤ 1000 := by omega
              go_wp2_with (refine append_row rfl (.tmp 97) (.tmp 99) rfl lo (.slice aH k cH) k vals rfl XB.out.own (.slice a3 ((turnC c b).len k) c3) rfl wc.heap.size rfl B3.out hk1 XB.out.sz ?_; intro v5 w5 ho5 hg5; obtain ⟨a5, c5, rfl⟩ := own_form ho5; have O5 := Lib.hid (XB.out.step RB.out ho5 hg5); have bx5 := XB.out.outOn hg5; have f5 : w5.frozen? ⟨gD, 1, none⟩ = false := frozen_of_row w5 gD 1 _ _ bx5; have e5 : w5.cell? ⟨gD, 1, none⟩ = some (.slice aH k cH) := by rw [cell_of_row w5 gD 1 _ _ _ bx5]; rfl)
              go_roundw
              case rel => exact ⟨k + 1, _, _, _, D2, by omega, by go_num, O5⟩
              case measure => simp [intOf]; omega
          · obtain rfl : k = c.nh := by omega
            have hki : ¬ (c.nh : Int) < (c.nh : Int) := by omega
            have HTN := Lib.hid (turn_N hbn)
            rw [HTN.out] at hX
            have HFR := Lib.hid (may_found hm.out).1
            have hN60 := LT.out.n
            have hBN := base_le hbn
            obtain ⟨N, hN⟩ : ∃ N, Hid (c.N = N) := ⟨_, Lib.hid rfl⟩
            have hmk := make_ints c.N hN60 wr
            rw [HFR.out, hN.out] at u2
            rw [hN.out] at hmk hN60 hBN
            have yb : Hid (Hy c q b gB gM gD lo vF vH (.slice none 0 0) (.slice none 0 0) c.N D ess vals w wr wr) := Lib.hid ⟨hX.out, .refl _ _, hX.out.lk.below, hX.out.box⟩
            have y1 := Lib.hid (yb.out.on (box_below wr (.cells (intsOf (fun _ => 0) N).toArray 3)))
            have I1 : Hid (IntsAt (frF c (baseL c.len b) 0) N wr.heap.size (wr.alloc (.cells (intsOf (fun _ => 0) N).toArray 3))) := Lib.hid (by
              unfold IntsAt
              rw [intsOf_ext (f := frF c (baseL c.len b) 0) (f2 := fun _ => 0) (fun j _ => frF_zero c _ j)]
              exact Array.getElem?_push_size)
            have e1 : (wr.alloc (.cells (intsOf (fun _ => 0) N).toArray 3)).cell? ⟨gD, 2, none⟩ = some (.slice none 0 0) := by rw [cell_of_row _ gD 2 _ _ _ y1.out.box]; rfl
            have f1 : (wr.alloc (.cells (intsOf (fun _ => 0) N).toArray 3)).frozen? ⟨gD, 2, none⟩ = false := frozen_of_row _ gD 2 _ _ y1.out.box
            obtain ⟨gR, hgR⟩ : ∃ g, wr.heap.size = g := ⟨_, rfl⟩
            have HGR : Hid (wr.heap.size = gR) := Lib.hid hgR
            have hDR : Hid (gD < gR) := Lib.hid (by rw [← hgR]; exact hX.out.box.lt)
            go_upto_region 25 with fail
            go_name_world W6 hW6
            have y2 : Hid (Hy c q b gB gM gD lo vF vH (.slice (some ⟨gR, 0, none⟩) N N) (.slice none 0 0) c.N D ess vals w wr W6) := Lib.hid (by rw [← hW6, ← hgR]; exact y1.out.put 2 _ _ _ rfl)
            have I2 : Hid (IntsAt (frF c (baseL c.len b) 0) N gR W6) := Lib.hid (by
              rw [← hW6, ← hgR]
              exact (Below.heap_setCell _ ⟨gD, 2, none⟩ _ wr.heap.size (by show wr.heap.size ≠ gD; have := hDR.out; omega)).trans I1.out)
            clear hW6 hmk e1 f1 I1 y1 yb hX u0 u1 u2 u3 hgR
            have HRC : Hid (N = 0 ∨ ∃ b2 off, q.aR = some ⟨b2, off, none⟩ ∧ b2 < w.heap.size ∧ ∀ j, j < N → w.cell? ⟨b2, off + j, none⟩ = some (.int .i64 (atI c.fr j))) := Lib.hid (by
              rcases y2.out.hx.lk.here.from_ with ⟨_, h0⟩ | ⟨b2, off, c2, e, _, _, h3, h4⟩
              · have := HFR.out
                rw [h0] at this
                exact .inl (by rw [← hN.out, ← this]; rfl)
              · injection e with e1 e2 e3
                exact .inr ⟨b2, off, e1, h3, fun j hj => h4 j (by rw [HFR.out, hN.out]; exact hj)⟩)
            have HOC : Hid (c.od.length = 0 ∨ ∃ b2 off, q.aO = some ⟨b2, off, none⟩ ∧ b2 < w.heap.size ∧ ∀ j, j < c.od.length → w.cell? ⟨b2, off + j, none⟩ = some (.int .i64 (atI c.od j))) := Lib.hid (by
              rcases y2.out.hx.lk.here.order with ⟨_, h0⟩ | ⟨b2, off, c2, e, _, _, h3, h4⟩
              · exact .inl (by rw [h0]; rfl)
              · injection e with e1 e2 e3
                exact .inr ⟨b2, off, e1, h3, h4⟩)
            have LK : Hid (∀ (vR vO : Value) (W : World), Hy c q b gB gM gD lo vF vH vR vO c.N D ess vals w wr W → ∀ i : Nat, i < N → (Instr.lookup 36 (.map (some gM)) (.int .i64 (i : Int)) false).run Try.prog W = .ok (.int .i64 (nowN (baseL c.len b) N i : Int)) W) := Lib.hid (fun vR vO W hW i hi => by
              have := look_now hW.hx.now hW.map i (by rw [hN.out]; exact hi) (by rw [hN.out]; exact nowN_lt hBN hi) (by rw [hN.out]; omega)
              rw [hN.out] at this
              exact this)
            have FRL := Lib.hid (fun i (hi : i < N) => fr_lt hm.out i (by rw [hN.out]; exact hi))
            have FST := Lib.hid (fun i (hi : i < N) (j : Nat) (hj : j < N) => frF_set (c := c) (B := baseL c.len b) (i := i) (by rw [hN.out]; exact hBN) (by rw [hN.out]; exact hi) j (by rw [hN.out]; exact hj))
            rw [hN.out] at FRL FST
            have hgz : Hid (wr.heap.size ≤ gR) := Lib.hid (by rw [HGR.out]; exact Nat.le_refl _)
            go_wp2
            go_loopw [14] (fun vi wr2 => ∃ (i : Nat), i ≤ N ∧ vi = .int .i64 i ∧ Hid (IntsAt (frF c (baseL c.len b) i) N gR wr2) ∧ Hid (Hy c q b gB gM gD lo vF vH (.slice (some ⟨gR, 0, none⟩) N N) (.slice none 0 0) c.N D ess vals w wr wr2)) (fun vi _ => N - (intOf vi).toNat)
            case atStart => exact ⟨0, Nat.zero_le _, rfl, I2, y2⟩
            case round =>
              clear I2 y2
              obtain ⟨i, hi, rfl, hI, hY⟩ := hrel
              obtain ⟨u0, u1, u2, u3⟩ := hY.out.lk.box.facts
              rw [HFR.out, hN.out] at u2
              by_cases hit : i < N
              · rcases HRC.out with h0 | ⟨b2, off, hq, hbl, hcell⟩
                · exact absurd h0 (by omega)
                have lk1 := LK.out _ _ wr hY.out i hit
                have hny : nowN (baseL c.len b) N i < N := nowN_lt hBN hit
                have FS := Lib.hid (FST.out i hit)
                obtain ⟨y, hy⟩ : ∃ y, Hid (nowN (baseL c.len b) N i = y) := ⟨_, Lib.hid rfl⟩
                rw [hy.out] at lk1 hny FS
                have x2 : wr.cell? ⟨gD, 2, none⟩ = some (.slice (some ⟨gR, 0, none⟩) N N) := by rw [cell_of_row wr gD 2 _ _ _ hY.out.box]; rfl
                have cy := hI.out.cell y hny
                have zy := hI.out.free y
                have hii : (i : Int) < (N : Int) := by omega
                have hi0 : (0 : Int) ≤ (i : Int) := by omega
                have hyy : (y : Int) < (N : Int) := by omega
                have hy0 : (0 : Int) ≤ (y : Int) := by omega
                go_upto_region 29 with fail
                go_name_world W7 hW7
                have I7 : Hid (IntsAt (fun j => if j = y then -1 else frF c (baseL c.len b) i j) N gR W7) := Lib.hid (by rw [← hW7]; exact hI.out.set y (-1) (fun j _ => rfl))
                have Y7 : Hid (Hy c q b gB gM gD lo vF vH (.slice (some ⟨gR, 0, none⟩) N N) (.slice none 0 0) c.N D ess vals w _ W7) := Lib.hid (hY.out.grown (W2 := W7) (row := some gR) (by rw [← hW7]; exact grown_set _ _ _ _) (fun k hk => by injection hk with e; have := hgz.out; omega))
                clear hW7 hI hY u0 u1 u2 u3 lk1 x2 cy zy
                obtain ⟨u0, u1, u2, u3⟩ := Y7.out.lk.box.facts
                rw [HFR.out, hN.out, hq] at u2
                have d0 := (Y7.out.below.cell (p := ⟨b2, off + i, none⟩) hbl).trans (hcell i hit)
                have lk1 := LK.out _ _ W7 Y7.out i hit
                rw [hy.out] at lk1
                have x2 : W7.cell? ⟨gD, 2, none⟩ = some (.slice (some ⟨gR, 0, none⟩) N N) := by rw [cell_of_row W7 gD 2 _ _ _ Y7.out.box]; rfl
                have cy := I7.out.cell y hny
                have zy := I7.out.free y
                have hfl := Lib.hid (FRL.out i hit)
                obtain ⟨f, hf⟩ : ∃ f, Hid (atI c.fr i = f) := ⟨_, Lib.hid rfl⟩
                rw [hf.out] at d0 hfl
                have hfv : Hid (frV c (baseL c.len b) i = if 0 ≤ f then (nowN (baseL c.len b) N f.toNat : Int) else -1) := Lib.hid (by unfold frV; rw [hf.out, hN.out])
                clear hcell hq
                by_cases hneg : f = -1
                · subst hneg
                  have dn : decide ((0 : Int) ≤ -1) = false := by decide
                  have I8 : Hid (IntsAt (frF c (baseL c.len b) (i + 1)) N gR W7) := Lib.hid (by
                    have h7 := I7.out
                    unfold IntsAt at h7 ⊢
                    rw [h7, intsOf_ext (f2 := fun j => if j = y then -1 else frF c (baseL c.len b) i j) (f := frF c (baseL c.len b) (i + 1)) (fun j hj => by rw [FS.out j hj, hfv.out]; rfl)])
                  go_wp2
                  go_roundw
                  case rel => exact ⟨i + 1, by omega, by go_num, I8, Y7⟩
                  case measure => simp [intOf]; omega
                · obtain ⟨m, hm2⟩ : ∃ m : Nat, f = m := ⟨f.toNat, by have := hfl.out; omega⟩
                  have hmN : m < N := by have := hfl.out; omega
                  subst hm2
                  have dn : decide ((0 : Int) ≤ (m : Int)) = true := decide_eq_true (by omega)
                  have lk2 := LK.out _ _ W7.drew (Y7.out.on (Below.refl _ _).drew) m hmN
                  have lk3 := LK.out _ _ W7.drew (Y7.out.on (Below.refl _ _).drew) i hit
                  rw [hy.out] at lk3
                  rw [if_pos (by omega), Int.toNat_natCast] at hfv
                  obtain ⟨z, hz⟩ : ∃ z, Hid (nowN (baseL c.len b) N m = z) := ⟨_, Lib.hid rfl⟩
                  rw [hz.out] at lk2 hfv
                  have I8 : Hid (IntsAt (frF c (baseL c.len b) (i + 1)) N gR (W7.drew.setCell ⟨gR, y, none⟩ (.int .i64 (z : Int)))) := Lib.hid ((I7.out.on (Below.refl _ _).drew).set y (z : Int) (fun j hj => by
                    rw [FS.out j hj, hfv.out]
                    by_cases e : j = y
                    · rw [if_pos e, if_pos e]
                    · rw [if_neg e, if_neg e, if_neg e]))
                  have Y8 := Lib.hid ((Y7.out.on (Below.refl _ _).drew).grown (grown_set W7.drew gR y (.int .i64 (z : Int))) (fun k hk => by injection hk with e; have := hgz.out; omega))
                  clear hneg
                  go_upto_region 30 with fail
                  refine wp_region_still_tail 13 (by kernel_rfl) (by kernel_rfl) ?_
                  simp only [List.take_succ_cons, List.take_zero, List.drop_succ_cons, List.drop_zero]
                  iterate 13 still_step
                  refine wpStill_nil ?_
                  change wpList _ _ _ _ _ (World.drew _)
                  go_wp2
                  go_roundw
                  case rel => exact ⟨i + 1, by omega, by go_num, I8, Y8⟩
                  case measure => simp [intOf]; omega
              · obtain rfl : i = N := by omega
                have hnn : ¬ (i : Int) < (i : Int) := by omega
                obtain ⟨s0, hs0⟩ : ∃ s, wr.heap.size = s := ⟨_, rfl⟩
                have Z0 : Hid (Hz c q b gB gM gD lo gR s0 vF vH (.slice none 0 0) c.N D ess vals 0 w _ wr) := Lib.hid ⟨by rw [hN.out]; have := hY.out; rw [hN.out] at this; exact this, by rw [hN.out]; exact hI.out, by unfold odL; exact World.ownsRow_nil _ _ _ _, hgz.out, by rw [← hs0]; exact hI.out.lt, by omega⟩
                have HIN := Lib.hid (may_in hm.out)
                have ho120 := LT.out.od
                clear hs0 hI hY
                go_wp2
                go_loopw [15] (fun vi wr2 => ∃ (k : Nat) (vO : Value), k ≤ c.od.length ∧ vi = .int .i64 k ∧ Hid (Hz c q b gB gM gD lo gR s0 vF vH vO c.N D ess vals k w _ wr2)) (fun vi _ => c.od.length - (intOf vi).toNat)
                case atStart => exact ⟨0, _, Nat.zero_le _, rfl, Z0⟩
                case round =>
                  clear Z0 u0 u1 u2 u3
                  obtain ⟨j, vO, hj, rfl, hZ⟩ := hrel
                  obtain ⟨u0, u1, u2, u3⟩ := hZ.out.hy.lk.box.facts
                  by_cases hjt : j < c.od.length
                  · rcases HOC.out with h0 | ⟨b2, off, hq, hbl, hcell⟩
                    · exact absurd h0 (by omega)
                    have d0 := (hZ.out.hy.below.cell (p := ⟨b2, off + j, none⟩) hbl).trans (hcell j hjt)
                    obtain ⟨i0, i1⟩ := HIN.out j hjt
                    have hon := Lib.hid (odL_next (c := c) (B := baseL c.len b) hjt)
                    obtain ⟨m, hm2⟩ : ∃ m : Nat, atI c.od j = m := ⟨(atI c.od j).toNat, by omega⟩
                    rw [hm2] at d0 i1
                    rw [hm2, Int.toNat_natCast] at hon
                    have hmN : m < i := by rw [hN.out] at i1; omega
                    have lk1 := LK.out _ _ wr (by have := hZ.out.hy; exact this) m hmN
                    rw [hN.out] at hon
                    obtain ⟨z, hz⟩ : ∃ z, Hid (nowN (baseL c.len b) i m = z) := ⟨_, Lib.hid rfl⟩
                    rw [hz.out] at lk1 hon
                    rw [hq] at u3
                    have ZD := Lib.hid (hZ.out.on (Below.refl _ _).drew)
                    have ZB := Lib.hid (hZ.out.on ((box_below wr (.cells #[.int .i64 (z : Int)] 3)).drew))
                    have lk2 := LK.out _ _ wr.drew ZD.out.hy m hmN
                    rw [hz.out] at lk2
                    have B9 : Hid ((wr.alloc (.cells #[.int .i64 (z : Int)] 3)).drew.heap[wr.heap.size]? = some (.cells #[.int .i64 (z : Int)] 3 (0, 0))) := Lib.hid Array.getElem?_push_size
                    obtain ⟨aO, cO, rfl⟩ := own_form hZ.out.own
                    have x3 : wr.cell? ⟨gD, 3, none⟩ = some (.slice aO (odL c (baseL c.len b) j).length cO) := by rw [cell_of_row wr gD 3 _ _ _ hZ.out.hy.box]; rfl
                    have e3 : (wr.alloc (.cells #[.int .i64 (z : Int)] 3)).cell? ⟨gD, 3, none⟩ = some (.slice aO (odL c (baseL c.len b) j).length cO) := by
                      have := ZB.out.hy.box
                      rw [show (wr.alloc (.cells #[.int .i64 (z : Int)] 3)).cell? ⟨gD, 3, none⟩ = (wr.alloc (.cells #[.int .i64 (z : Int)] 3)).drew.cell? ⟨gD, 3, none⟩ from rfl, cell_of_row _ gD 3 _ _ _ this]; rfl
                    have hji : (j : Int) < (c.od.length : Int) := by omega
                    have hj0 : (0 : Int) ≤ (j : Int) := by omega
                    have hol : (odL c (baseL c.len b) j).length ≤ 100000 := by rw [odL_len (by omega)]; omega
                    obtain ⟨ol, hol2⟩ : ∃ l, Hid (odL c (baseL c.len b) j = l) := ⟨_, Lib.hid rfl⟩
                    have hst := Lib.hid (fun (w5 : World) v5 (ho : w5.ownsRow s0 3 1 v5 (odL c (baseL c.len b) j ++ [(z : Int)]).length ((odL c (baseL c.len b) j ++ [(z : Int)]).map (Value.int .i64))) (hg : (wr.alloc (.cells #[.int .i64 (z : Int)] 3)).drew.grownBy w5 (Value.slice aO (odL c (baseL c.len b) j).length cO).ownBlock) => ZB.out.step rfl ho hg hon.out)
                    have hou := Lib.hid (fun (w5 : World) (hg : (wr.alloc (.cells #[.int .i64 (z : Int)] 3)).drew.grownBy w5 (Value.slice aO (odL c (baseL c.len b) j).length cO).ownBlock) => ZB.out.out hg)
                    have hown := Lib.hid ZB.out.own
                    have hr3 := Lib.hid ZB.out.r3
                    rw [hol2.out] at hst hou hown x3 e3 hol
                    clear hq hcell i0 i1 hm2 hol2 hon hz
                    go_upto_region 34 with fail
                    go_region_law (first
                      | (refine step_append_i rfl (.tmp 147) (.tmp 155) rfl s0 (.slice aO ol.length cO) ol rfl hown.out (z : Int) wr.heap.size rfl B9.out hol hr3.out ?_; intro v5 w5 ho5 hg5; have Z5 := Lib.hid (hst.out w5 v5 ho5 hg5); obtain ⟨a5, c5, rfl⟩ := own_form ho5; simp only [List.length_append, List.length_cons, List.length_nil, Nat.zero_add] at Z5; have b5 := hou.out w5 hg5; have f5 : w5.frozen? ⟨gD, 3, none⟩ = false := frozen_of_row w5 gD 3 _ _ b5; have e5 : w5.cell? ⟨gD, 3, none⟩ = some (.slice aO ol.length cO) := (by rw [cell_of_row w5 gD 3 _ _ _ b5]; rfl); clear ho5 hg5 b5))
                    all_goals
                      go_wp2
                      go_roundw
                      case rel => exact ⟨j + 1, _, by omega, by go_num, Z5⟩
                      case measure => simp [intOf]; omega
                  · obtain rfl : j = c.od.length := by omega
                    have hoo : ¬ (c.od.length : Int) < (c.od.length : Int) := by omega
                    obtain ⟨q', hdb, hdc⟩ := hZ.out.cat LT.out.n (fun h hh k hk => (bounds_u64 (LT.out.ew h hh k hk).1).1)
                    have LD := Lib.hid (hZ.out.small LT.out hbn)
                    have TN := Lib.hid (hZ.out.tn hbn _ _ rfl rfl)
                    have PF : Hid (Pf c q _ q' gD w wr) := Lib.hid ⟨hZ.out.hy.lk, hdb, hdc⟩
                    clear hdb hdc hZ
                    obtain ⟨d, hd⟩ : ∃ d, (turnC c b).copy ess (frL c (baseL c.len b)) (odL c (baseL c.len b) c.od.length) = d := ⟨_, rfl⟩
                    rw [hd] at LD TN PF
                    clear hd
                    have MD := Lib.hid (TN.out.may hbn hm.out LT.out.n)
                    have ND := Lib.hid (TN.out.N hbn)
                    have KC := Lib.hid (fun w0 h0 => check_c d q' w0 LD.out h0 true MD.out)
                    have KL := Lib.hid (fun w0 h0 => Last_yes d q' w0 LD.out h0 MD.out)
                    have KLc := Lib.hid (fun w0 h0 => Last_yes c q w0 LT.out h0 hm.out)
                    have KA := Lib.hid (fun w0 h0 => All_yes d q' w0 LD.out h0 MD.out)
                    have KAc := Lib.hid (fun w0 h0 => All_yes c q w0 LT.out h0 hm.out)
                    have HLS := Lib.hid (fun p => TN.out.last hbn hm.out p)
                    have KS := Lib.hid (fun w0 v1 v2 (l1 l2 : List (Int × Int)) (r1 : ReadsF w0 v1 l1) (r2 : ReadsF w0 v2 l2) (i1 : ∀ i j, i < j → j < l1.length → fA l1 i < fA l1 j) (i2 : ∀ i j, i < j → j < l2.length → fA l2 i < fA l2 j) (m1 : ∀ p, p ∈ l1 ↔ LastSet d p) (m2 : ∀ p, p ∈ l2 ↔ LastSet c p) (hl : l1.length ≤ 180) => (show Calls Try.prog 10 #[v1, v2] w0 fun e w' => SameOk w0 true e w' from by
                      have e : l1 = l2 := rise_one (rise_at.1 i1) (rise_at.1 i2) (fun p => by rw [m1 p, m2 p, HLS.out p])
                      have := sameC_any v1 v2 l1 l2 w0 r1 r2 (by omega)
                      rw [decide_eq_true e] at this
                      exact this))
                    have enn : ((d.N : Int) == (c.N : Int)) = true := by rw [ND.out]; simp
                    clear HLS TN LD MD ND
                    go_upto_region 35 with fail
                    clear u0 u1 u2 u3
                    obtain ⟨x0, x1, x2, x3, y0, y1, y2, y3⟩ := PF.out.facts
                    have P := Lib.hid (PF.out.on (Below.refl _ _).drew)
                    clear PF
                    go_region_held3 (fun w9 => w9.cell? ⟨w.heap.size, 0, none⟩ = some (.slice q.aF c.fs.length q.cF) ∧ w9.cell? ⟨w.heap.size, 1, none⟩ = some (.slice q.aH c.nh q.cH) ∧ w9.cell? ⟨w.heap.size, 2, none⟩ = some (.slice q.aR c.fr.length q.cR) ∧ w9.cell? ⟨w.heap.size, 3, none⟩ = some (.slice q.aO c.od.length q.cO) ∧ w9.cell? ⟨gD, 0, none⟩ = some (.slice q'.aF d.fs.length q'.cF) ∧ w9.cell? ⟨gD, 1, none⟩ = some (.slice q'.aH d.nh q'.cH) ∧ w9.cell? ⟨gD, 2, none⟩ = some (.slice q'.aR d.fr.length q'.cR) ∧ w9.cell? ⟨gD, 3, none⟩ = some (.slice q'.aO d.od.length q'.cO)) (exact P.out.facts)
                      ((first
                        | (go_at_call 6; (with_reducible refine (KC.out _ P.out.at_).mono ?_); rintro e' w10 ⟨rfl, hb⟩; replace P := Lib.hid (P.out.on hb); clear hb)
                        | (go_at_call 11; (with_reducible refine (KL.out _ P.out.at_).mono ?_); rintro e' w10 ⟨v1, l1, rfl, r1, i1, m1, hb, n1⟩; have R1 := Lib.hid r1; have I1 := Lib.hid i1; have M1 := Lib.hid m1; have N1 := Lib.hid n1; replace P := Lib.hid (P.out.on hb); clear hb r1 i1 m1 n1)
                        | (go_at_call 11; (with_reducible refine (KLc.out _ P.out.lk.at_).mono ?_); rintro e' w10 ⟨v2, l2, rfl, r2, i2, m2, hb, n2⟩; have R2 := Lib.hid r2; have I2 := Lib.hid i2; have M2 := Lib.hid m2; replace R1 := Lib.hid (R1.out.below hb); replace P := Lib.hid (P.out.on hb); clear hb r2 i2 m2 n2)
                        | (go_at_call 10; (with_reducible refine (KS.out _ v1 v2 l1 l2 R1.out R2.out I1.out I2.out M1.out M2.out N1.out).mono ?_); rintro e' w10 ⟨rfl, hb⟩; replace P := Lib.hid (P.out.on hb); clear hb R1 R2 I1 I2 M1 M2 N1)
                        | (go_at_call 12; (with_reducible refine (KA.out _ P.out.at_).mono ?_); rintro e' w10 ⟨g1, es1, rfl, _, _, _, _, hb⟩; replace P := Lib.hid (P.out.on hb); clear hb)
                        | (go_at_call 12; (with_reducible refine (KAc.out _ P.out.lk.at_).mono ?_); rintro e' w10 ⟨g2, es2, rfl, _, _, _, _, hb⟩; replace P := Lib.hid (P.out.on hb); clear hb)))
                    go_wp2_with fail
                    go_ret
                    exact ⟨rfl, P.out.lk.below⟩
end Go.Proofs.Ytokhnjcbcpmmjaa
