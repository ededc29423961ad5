/-
  Proved here: a candidate that comes in as an argument is its cells, and reads as what they hold. No condition.
-/
import Derived.Test.YtokhnjcbcpmmjaaEvRowsArg
import Derived.Test.YtokhnjcbcpmmjaaRf07Pure
namespace Go.Proofs.Ytokhnjcbcpmmjaa
set_option linter.unusedVariables false
set_option linter.unusedSimpArgs false
open Go.ChangeShapes Go.WideShapes Go.ChangeAt Go.RowKit Go.Deep

theorem cells_cell : Try.prog.cellsOf 35 = 2 := by kernel_rfl
theorem cells_rows : Try.prog.cellsOf 37 = 1 := by kernel_rfl
theorem cells_cand : Try.prog.cellsOf 26 = 4 := by kernel_rfl
theorem two_xs {α : Type} {l : List α} (h : l.length = 2) : ∃ x0 x1, l = [x0, x1] := by
  match l, h with
  | [x0, x1], _ => exact ⟨x0, x1, rfl⟩
theorem two_of {l : List Value} (h : l.length = 2) (v0 v1 : Value) (h0 : (l.drop 0).take 1 = [v0]) (h1 : (l.drop 1).take 1 = [v1]) : l = [v0, v1] := by
  match l, h with
  | [a0, a1], _ =>
    simp at h0 h1
    subst h0 h1
    rfl
theorem four_xs {α : Type} {l : List α} (h : l.length = 4) : ∃ x0 x1 x2 x3, l = [x0, x1, x2, x3] := by
  match l, h with
  | [x0, x1, x2, x3], _ => exact ⟨x0, x1, x2, x3, rfl⟩
theorem four_of {l : List Value} (h : l.length = 4) (v0 v1 v2 v3 : Value) (h0 : (l.drop 0).take 1 = [v0]) (h1 : (l.drop 1).take 1 = [v1]) (h2 : (l.drop 2).take 1 = [v2]) (h3 : (l.drop 3).take 1 = [v3]) : l = [v0, v1, v2, v3] := by
  match l, h with
  | [a0, a1, a2, a3], _ =>
    simp at h0 h1 h2 h3
    subst h0 h1 h2 h3
    rfl
def wordP (p : Int × Int) : Prop := (0 ≤ p.1 ∧ p.1 < 18446744073709551616) ∧ (0 ≤ p.2 ∧ p.2 < 18446744073709551616)
/-- an event's ints are of 64 bits -/
def FitsI (x : Int) : Prop := -9223372036854775808 ≤ x ∧ x < 9223372036854775808
structure NumFits (e : Ev) : Prop where
  hart : FitsI e.hart
  pos : FitsI e.pos
  kind : FitsI e.kind
  pred : FitsI e.pred
  succ : FitsI e.succ
  pair : FitsI e.pair
/-- an event's numbers are words, its pair an int -/
def WordX (e : Ev) : Prop := WordE e ∧ PairFits e ∧ NumFits e
theorem fits_of {n : Int} (h : (Lit.int .i64 n).wf = true) : -9223372036854775808 ≤ n ∧ n < 9223372036854775808 := by
  have := bounds_i64 h
  omega
section
variable {H : Type} {enc : TypeId × Value → H} {w : World} {base : Nat} {held : Bool}
set_option maxRecDepth 100000 in
theorem probe_cell {fuel : Nat} {cs : List Value} {x : DataW H × List MemPlace} (h : DataW.trod enc Try.prog w base (fun _ => true) held fuel 35 cs = some x) :
    ∃ p : Int × Int, cs = [.int .u64 p.1, .int .u64 p.2] ∧ wordP p := by
  obtain ⟨xs, n, _, hx, hcl, hl, hq⟩ := DataW.trod_struct Try.underlying35 h
  rw [cells_cell] at hcl
  obtain ⟨x0, x1, rfl⟩ := two_xs (show xs.length = 2 from hl)
  have q0 := hq 0 _ rfl; have q1 := hq 1 _ rfl
  simp only [List.getElem?_cons_zero, List.getElem?_cons_succ] at q0 q1
  obtain ⟨n0, e0, _, w0⟩ := DataW.trod_int Try.underlying33 q0
  obtain ⟨n1, e1, _, w1⟩ := DataW.trod_int Try.underlying33 q1
  exact ⟨(n0, n1), two_of hcl _ _ e0 e1, bounds_u64 w0, bounds_u64 w1⟩
set_option maxRecDepth 100000 in
theorem open_cells {fuel : Nat} {cs : List Value} {x : DataW H × List MemPlace} (h : DataW.trod enc Try.prog w base (fun _ => true) held fuel 22 cs = some x) :
    ∃ (a : Option Addr) (c : Nat) (fs : List (Int × Int)), cs = [.slice a fs.length c] ∧ ReadsF w (.slice a fs.length c) fs ∧ ∀ j, j < fs.length → (0 ≤ fA fs j ∧ fA fs j < 18446744073709551616) ∧ (0 ≤ fV fs j ∧ fV fs j < 18446744073709551616) := by
  rcases open_slice Try.underlying22 h with ⟨hcs, _⟩ | ⟨x, l, cp, m, n', D, Pl, hcs, _, hl, hmx, hm, _, hi⟩
  · exact ⟨none, 0, [], hcs, .inl ⟨⟨none, 0, rfl, fun _ => rfl⟩, rfl⟩, fun j hj => absurd hj (by simp)⟩
  · rcases Nat.eq_zero_or_pos l with h0 | hpos
    · subst h0
      exact ⟨some x, cp, [], hcs, .inl ⟨⟨some x, cp, rfl, fun e => by cases e⟩, rfl⟩, fun j hj => absurd hj (by simp)⟩
    have hlm : l ≤ m := by rw [hm]; split <;> omega
    have each : ∀ i, ∃ p : Int × Int, i < l → (∃ cs', w.cells? base (x.add (i * 2)) 2 = some cs' ∧ cs' = [.int .u64 p.1, .int .u64 p.2]) ∧ wordP p := by
      intro i
      by_cases hil : i < l
      · obtain ⟨cs', hc, ht⟩ := hi i (by omega)
        rw [cells_cell] at hc
        obtain ⟨p, h1, h2⟩ := probe_cell ht
        exact ⟨p, fun _ => ⟨⟨cs', hc, h1⟩, h2⟩⟩
      · exact ⟨(0, 0), fun h => absurd h hil⟩
    obtain ⟨f, hf2⟩ := Classical.axiomOfChoice each
    obtain ⟨b, off, spot⟩ := x
    have hcell : ∀ i, i < l → ∀ j v, (#[.int .u64 (f i).1, .int .u64 (f i).2] : Array Value)[j]? = some v → w.cell? ((⟨b, off, spot⟩ : Addr).add (i * 2 + j)) = some v := by
      intro i hin j v hv
      obtain ⟨⟨cs', hc, rfl⟩, _⟩ := hf2 i hin
      obtain ⟨_, hcl, hat⟩ := World.cells?_some hc
      have hj : j < 2 := by have := (Array.getElem?_eq_some_iff.1 hv).1; simpa using this
      have hx := hat j (by simpa using hj)
      rw [add_add] at hx
      rw [hx]
      have : [Value.int .u64 (f i).1, Value.int .u64 (f i).2][j]? = some v := by simpa using hv
      simpa using this
    have hspot : spot = none := by simpa [Addr.add] using World.cell?_spot (hcell 0 hpos 0 _ rfl)
    subst hspot
    have hA : ∀ j, j < l → fA ((List.range l).map f) j = (f j).1 := by intro j hj; simp [fA, hj]
    have hV : ∀ j, j < l → fV ((List.range l).map f) j = (f j).2 := by intro j hj; simp [fV, hj]
    refine ⟨some ⟨b, off, none⟩, cp, (List.range l).map f, by simpa using hcs, .inr ⟨b, off, cp, rfl, by simpa using hl, by unfold maxLen at hmx; omega, ?_, fun j hj => ?_⟩, fun j hj => ?_⟩
    · have := hcell 0 hpos 0 _ rfl
      rw [Addr.add_lit] at this
      exact World.block_lt_of_cell? w _ this
    · have hj' : j < l := by simpa using hj
      rw [hA j hj', hV j hj']
      have e0 := hcell j hj' 0 _ rfl
      have e1 := hcell j hj' 1 _ rfl
      rw [Addr.add_lit] at e0 e1
      exact ⟨e0, e1⟩
    · have hj' : j < l := by simpa using hj
      rw [hA j hj', hV j hj']
      exact (hf2 j hj').2
set_option maxRecDepth 100000 in
theorem probe_ev2 {fuel : Nat} {cs : List Value} {x : DataW H × List MemPlace} (h : DataW.trod enc Try.prog w base (fun _ => true) held fuel 42 cs = some x) :
    ∃ (e : Ev) (l : El), cs = [.int .i64 e.hart, .int .i64 e.pos, .int .i64 e.kind, .int .u64 e.addr, .int .u64 e.load, .int .u64 e.store, .bool e.aq, .bool e.rl, .int .i64 e.pred, .int .i64 e.succ, .int .i64 e.pair, e.a, e.d, e.y] ∧ EReads w e l ∧ 0 ≤ e.addr ∧ WordX e := by
  obtain ⟨xs, n, _, hx, hcl, hl, hq⟩ := DataW.trod_struct Try.underlying42 h
  rw [cells_ev] at hcl
  obtain ⟨x0, x1, x2, x3, x4, x5, x6, x7, x8, x9, x10, x11, rfl⟩ := fourteen_xs (show xs.length = 12 from hl)
  have q0 := hq 0 _ rfl; have q1 := hq 1 _ rfl; have q2 := hq 2 _ rfl; have q3 := hq 3 _ rfl; have q4 := hq 4 _ rfl; have q5 := hq 5 _ rfl; have q6 := hq 6 _ rfl; have q7 := hq 7 _ rfl; have q8 := hq 8 _ rfl; have q9 := hq 9 _ rfl; have q10 := hq 10 _ rfl; have q11 := hq 11 _ rfl
  simp only [List.getElem?_cons_zero, List.getElem?_cons_succ] at q0 q1 q2 q3 q4 q5 q6 q7 q8 q9 q10 q11
  clear hq h
  obtain ⟨n0, e0, _, w0⟩ := DataW.trod_int Try.underlying3 q0
  obtain ⟨n1, e1, _, w1⟩ := DataW.trod_int Try.underlying3 q1
  obtain ⟨n2, e2, _, w2⟩ := DataW.trod_int Try.underlying3 q2
  obtain ⟨n3, e3, _, w3⟩ := DataW.trod_int Try.underlying33 q3
  obtain ⟨n4, e4, _, w4⟩ := DataW.trod_int Try.underlying33 q4
  obtain ⟨n5, e5, _, w5⟩ := DataW.trod_int Try.underlying33 q5
  obtain ⟨n6, e6, _⟩ := DataW.trod_bool Try.underlying4 q6
  obtain ⟨n7, e7, _⟩ := DataW.trod_bool Try.underlying4 q7
  obtain ⟨n8, e8, _, w8⟩ := DataW.trod_int Try.underlying3 q8
  obtain ⟨n9, e9, _, w9⟩ := DataW.trod_int Try.underlying3 q9
  obtain ⟨n10, e10, _, w10⟩ := DataW.trod_int Try.underlying3 q10
  obtain ⟨ys, n', _, hy, _, hl', hq'⟩ := DataW.trod_struct Try.underlying40 q11
  obtain ⟨y0, y1, y2, rfl⟩ := three_xs (show ys.length = 3 from hl')
  have r0 := hq' 0 _ rfl; have r1 := hq' 1 _ rfl; have r2 := hq' 2 _ rfl
  simp only [List.getElem?_cons_zero, List.getElem?_cons_succ] at r0 r1 r2
  obtain ⟨a1, c1, al, f0, s0⟩ := open_list r0
  obtain ⟨a2, c2, dl, f1, s1⟩ := open_list r1
  obtain ⟨a3, c3, yl, f2, s2⟩ := open_list r2
  have f0' : (((cs.drop 11).take 3).drop 0).take 1 = [.slice a1 al.length c1] := f0
  have f1' : (((cs.drop 11).take 3).drop 1).take 1 = [.slice a2 dl.length c2] := f1
  have f2' : (((cs.drop 11).take 3).drop 2).take 1 = [.slice a3 yl.length c3] := f2
  have g0 : (cs.drop 11).take 1 = [.slice a1 al.length c1] := by rw [← f0', List.drop_zero, List.take_take]; rfl
  have g1 : (cs.drop 12).take 1 = [.slice a2 dl.length c2] := by rw [← f1', List.drop_take, List.take_take, List.drop_drop]; rfl
  have g2 : (cs.drop 13).take 1 = [.slice a3 yl.length c3] := by rw [← f2', List.drop_take, List.take_take, List.drop_drop]; rfl
  have hc := fourteen_of (l := cs) hcl _ _ _ _ _ _ _ _ _ _ _ _ _ _ e0 e1 e2 e3 e4 e5 e6 e7 e8 e9 e10 g0 g1 g2
  refine ⟨⟨n0, n1, n2, n3, n4, n5, n6, n7, n8, n9, n10, .slice a1 al.length c1, .slice a2 dl.length c2, .slice a3 yl.length c3⟩, ⟨al, dl, yl⟩, hc, ⟨s0, s1, s2⟩, (bounds_u64 w3).1, ⟨w3, w5⟩, fits_of w10, ⟨fits_of w0, fits_of w1, fits_of w2, fits_of w8, fits_of w9, fits_of w10⟩⟩
theorem probe_row {fuel : Nat} {cs : List Value} {x : DataW H × List MemPlace} (hf : DataW.trod enc Try.prog w base (fun _ => true) held fuel 37 cs = some x) :
    ∃ (n : Nat) (ev : Nat → Ev) (el : Nat → El) (v : Value), cs = [v] ∧ RowV w v n ev el ∧ ∀ k, k < n → WordX (ev k) := by
  rcases open_slice Try.underlying37 hf with ⟨hcs, _⟩ | ⟨x, l, cp, m, n', D, Pl, hcs, _, hl, hmx, hm, _, hi⟩
  · exact ⟨0, fun _ => zeroEv, fun _ => ⟨[], [], []⟩, _, hcs, ⟨none, 0, rfl, Nat.le_refl _, .inl rfl⟩, fun k hk => absurd hk (by omega)⟩
  · rcases Nat.eq_zero_or_pos l with h0 | hpos
    · exact ⟨0, fun _ => zeroEv, fun _ => ⟨[], [], []⟩, _, hcs, ⟨some x, cp, by rw [h0], Nat.zero_le _, .inl rfl⟩, fun k hk => absurd hk (by omega)⟩
    have hlm : l ≤ m := by rw [hm]; split <;> omega
    have each : ∀ i, ∃ p : Ev × El, i < l → (∃ cs', w.cells? base (x.add (i * 14)) 14 = some cs' ∧ cs' = [.int .i64 p.1.hart, .int .i64 p.1.pos, .int .i64 p.1.kind, .int .u64 p.1.addr, .int .u64 p.1.load, .int .u64 p.1.store, .bool p.1.aq, .bool p.1.rl, .int .i64 p.1.pred, .int .i64 p.1.succ, .int .i64 p.1.pair, p.1.a, p.1.d, p.1.y]) ∧ EReads w p.1 p.2 ∧ 0 ≤ p.1.addr ∧ WordX p.1 := by
      intro i
      by_cases hil : i < l
      · obtain ⟨cs', hc, ht⟩ := hi i (by omega)
        rw [cells_ev] at hc
        obtain ⟨e, l, h1, h2, h3⟩ := probe_ev2 ht
        exact ⟨(e, l), fun _ => ⟨⟨cs', hc, h1⟩, h2, h3⟩⟩
      · exact ⟨(zeroEv, ⟨[], [], []⟩), fun h => absurd h hil⟩
    obtain ⟨f, hf2⟩ := Classical.axiomOfChoice each
    obtain ⟨b, off, spot⟩ := x
    have hcell : ∀ i, i < l → ∀ j v, (#[.int .i64 (f i).1.hart, .int .i64 (f i).1.pos, .int .i64 (f i).1.kind, .int .u64 (f i).1.addr, .int .u64 (f i).1.load, .int .u64 (f i).1.store, .bool (f i).1.aq, .bool (f i).1.rl, .int .i64 (f i).1.pred, .int .i64 (f i).1.succ, .int .i64 (f i).1.pair, (f i).1.a, (f i).1.d, (f i).1.y] : Array Value)[j]? = some v → w.cell? ((⟨b, off, spot⟩ : Addr).add (i * 14 + j)) = some v := by
      intro i hin j v hv
      obtain ⟨⟨cs', hc, rfl⟩, _, _⟩ := hf2 i hin
      obtain ⟨_, hcl, hat⟩ := World.cells?_some hc
      have hj : j < 14 := by have := (Array.getElem?_eq_some_iff.1 hv).1; simpa using this
      have hx := hat j (by simpa using hj)
      rw [add_add] at hx
      rw [hx]
      have : [Value.int .i64 (f i).1.hart, .int .i64 (f i).1.pos, .int .i64 (f i).1.kind, .int .u64 (f i).1.addr, .int .u64 (f i).1.load, .int .u64 (f i).1.store, .bool (f i).1.aq, .bool (f i).1.rl, .int .i64 (f i).1.pred, .int .i64 (f i).1.succ, .int .i64 (f i).1.pair, (f i).1.a, (f i).1.d, (f i).1.y][j]? = some v := by
        simpa using hv
      simpa using this
    have hspot : spot = none := by simpa [Addr.add] using World.cell?_spot (hcell 0 hpos 0 _ rfl)
    subst hspot
    refine ⟨l, fun i => (f i).1, fun i => (f i).2, _, hcs, ⟨_, cp, rfl, hl, .inr ⟨b, off, rfl, ⟨fun k hk j v hv => ?_, fun k hk => (hf2 k hk).2.1, fun k hk => (hf2 k hk).2.2.1, fun _ => ?_⟩⟩⟩, fun k hk => (hf2 k hk).2.2.2⟩
    · have := hcell k hk j v hv
      rw [Addr.add_lit, ← Nat.add_assoc] at this
      exact this
    · have := hcell 0 hpos 0 _ rfl
      rw [Addr.add_lit] at this
      exact World.block_lt_of_cell? w _ this
/-- a list of rows that came in -/
theorem open_rows {fuel : Nat} {cs : List Value} {x : DataW H × List MemPlace} (hf : DataW.trod enc Try.prog w base (fun _ => true) held fuel 23 cs = some x) :
    ∃ (a : Option Addr) (n cp : Nat) (len : Nat → Nat) (ev : Nat → Nat → Ev) (el : Nat → Nat → El), cs = [.slice a n cp] ∧ n ≤ cp ∧ (∀ fs fr od, HsAt ⟨n, len, ev, el, fs, fr, od⟩ n a w) ∧ ∀ h, h < n → ∀ k, k < len h → WordX (ev h k) := by
  rcases open_slice1 Try.underlying23 cells_rows hf with ⟨hcs, _⟩ | ⟨x, l, cp, m, n', V, D, Pl, hcs, _, hl, hmx, hm, _, hi⟩
  · exact ⟨none, 0, 0, fun _ => 0, fun _ _ => zeroEv, fun _ _ => ⟨[], [], []⟩, hcs, Nat.le_refl _, (fun _ _ _ => .inl rfl), fun h hh => absurd hh (by omega)⟩
  · rcases Nat.eq_zero_or_pos l with h0 | hpos
    · subst h0
      exact ⟨some x, 0, cp, fun _ => 0, fun _ _ => zeroEv, fun _ _ => ⟨[], [], []⟩, hcs, Nat.zero_le _, (fun _ _ _ => .inl rfl), fun h hh => absurd hh (by omega)⟩
    have hlm : l ≤ m := by rw [hm]; split <;> omega
    have each : ∀ i, ∃ p : Nat × (Nat → Ev) × (Nat → El), i < l → w.cell? (x.add i) = some (V i) ∧ RowV w (V i) p.1 p.2.1 p.2.2 ∧ ∀ k, k < p.1 → WordX (p.2.1 k) := by
      intro i
      by_cases hil : i < l
      · obtain ⟨hc, ht⟩ := hi i (by omega)
        obtain ⟨n, ev, el, v, h1, h2, h3⟩ := probe_row ht
        obtain rfl : V i = v := by injection h1
        exact ⟨(n, ev, el), fun _ => ⟨hc, h2, h3⟩⟩
      · exact ⟨(0, fun _ => zeroEv, fun _ => ⟨[], [], []⟩), fun h => absurd h hil⟩
    obtain ⟨f, hf2⟩ := Classical.axiomOfChoice each
    obtain ⟨b, off, spot⟩ := x
    have hspot : spot = none := by simpa [Addr.add] using World.cell?_spot (hf2 0 hpos).1
    subst hspot
    refine ⟨_, l, cp, fun i => (f i).1, fun i => (f i).2.1, fun i => (f i).2.2, hcs, hl, fun fs fr od => .inr ⟨b, off, rfl, ⟨fun h hh => ⟨V h, ?_, (hf2 h hh).2.1⟩, fun _ => ?_⟩⟩, fun h hh => (hf2 h hh).2.2⟩
    · have := (hf2 h hh).1
      rw [Addr.add_lit] at this
      exact this
    · have := (hf2 0 hpos).1
      rw [Addr.add_lit] at this
      exact World.block_lt_of_cell? w _ this
set_option maxRecDepth 100000 in
/-- a candidate that came in -/
theorem open_candX {r : Reach} {b0 : Nat} {v : Value} {d : DataW H} {p : List MemPlace} (hv : Value.okWide Try.prog w r b0 26 v) (h : DataW.Trod enc Try.prog w base (fun _ => true) held 26 v d p) :
    ∃ (c : Cd) (q : Cv), v = cdV c q ∧ CAt c q w ∧ (∀ h, h < c.nh → ∀ k, k < c.len h → WordX (c.ev h k)) ∧ ∀ j, j < c.fs.length → (0 ≤ fA c.fs j ∧ fA c.fs j < 18446744073709551616) ∧ (0 ≤ fV c.fs j ∧ fV c.fs j < 18446744073709551616) := by
  obtain ⟨cs, rfl, hsz⟩ := okWide_struct Try.underlying26 hv
  rw [cells_cand] at hsz
  obtain ⟨fuel, hf⟩ := h
  obtain ⟨xs, n, _, hx, _, hl, hq⟩ := DataW.trod_struct Try.underlying26 hf
  obtain ⟨x0, x1, x2, x3, rfl⟩ := four_xs (show xs.length = 4 from hl)
  have q0 := hq 0 _ rfl; have q1 := hq 1 _ rfl; have q2 := hq 2 _ rfl; have q3 := hq 3 _ rfl
  simp only [List.getElem?_cons_zero, List.getElem?_cons_succ] at q0 q1 q2 q3
  clear hq hf
  obtain ⟨a0, c0, fs, e0, r0, wf⟩ := open_cells q0
  obtain ⟨a1, n1, c1, len, ev, el, e1, hc1, r1, we⟩ := open_rows q1
  obtain ⟨a2, c2, fr, e2, r2⟩ := open_list q2
  obtain ⟨a3, c3, od, e3, r3⟩ := open_list q3
  have hc := four_of (l := cs.toList) (by simpa using hsz) _ _ _ _ e0 e1 e2 e3
  refine ⟨⟨n1, len, ev, el, fs, fr, od⟩, ⟨a0, c0, a1, c1, a2, c2, a3, c3⟩, ?_, ⟨r0, r1 fs fr od, hc1, r2, r3⟩, we, wf⟩
  congr 1
  exact Array.toList_inj.1 (by rw [hc])
set_option maxRecDepth 100000 in
theorem open_cand {r : Reach} {b0 : Nat} {v : Value} {d : DataW H} {p : List MemPlace} (hv : Value.okWide Try.prog w r b0 26 v) (h : DataW.Trod enc Try.prog w base (fun _ => true) held 26 v d p) :
    ∃ (c : Cd) (q : Cv), v = cdV c q ∧ CAt c q w ∧ (∀ h, h < c.nh → ∀ k, k < c.len h → WordE (c.ev h k)) ∧ ∀ j, j < c.fs.length → (0 ≤ fA c.fs j ∧ fA c.fs j < 18446744073709551616) ∧ (0 ≤ fV c.fs j ∧ fV c.fs j < 18446744073709551616) := by
  obtain ⟨c, q, e, hC, hw, hf⟩ := open_candX hv h
  exact ⟨c, q, e, hC, fun h hh k hk => (hw h hh k hk).1, hf⟩
end
end Go.Proofs.Ytokhnjcbcpmmjaa
