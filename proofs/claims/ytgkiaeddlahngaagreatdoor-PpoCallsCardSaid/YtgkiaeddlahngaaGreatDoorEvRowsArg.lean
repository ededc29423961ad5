/-
  Proved here: a slice of events that comes in as an argument is a row of events, whose lists read as what they hold. No condition.
  (With it: Proved here: an ask and deps that come in as arguments are their cells, and read as what they hold. No condition.)
-/
import Derived.Test.YtgkiaeddlahngaaGreatDoorEvMakesWords
import Derived.ProofKit
import Derived.OpenShut
import Derived.ChangeOld
import Derived.RowKit
import Derived.Deep.Fields
import Derived.Test.YtgkiaeddlahngaaGreatDoorEvRow
import Derived.Deep.Slices
namespace Go.Proofs.YtgkiaeddlahngaaGreatDoor
set_option linter.unusedVariables false
set_option linter.unusedSimpArgs false
open Go.ChangeShapes Go.WideShapes Go.ChangeAt Go.RowKit

/-- a slice of ints that came in, as the row's frame tells of it -/
theorem arg_reads {w : World} {x : Addr} {len cap : Nat} {zs : List Int} (hl : len ≤ cap) (hm : cap ≤ maxLen) (hz : zs.length = cap) (hpos : 0 < len)
    (hcell : ∀ i, i < zs.length → w.cell? (x.add i) = some (.int .i64 (zs.getD i 0))) : ReadsI w (.slice (some x) len cap) (zs.take len) := by
  have hlen : (zs.take len).length = len := by rw [List.length_take]; omega
  obtain ⟨b, off, spot⟩ := x
  have hspot : spot = none := by
    have hc := hcell 0 (by omega)
    simpa [Addr.add] using World.cell?_spot hc
  subst hspot
  have hb : b < w.heap.size := by
    have hc := hcell 0 (by omega)
    rw [Addr.add_lit] at hc
    exact World.block_lt_of_cell? w _ hc
  refine .inr ⟨b, off, cap, by rw [hlen], by omega, by unfold maxLen at hm; omega, hb, fun j hj => ?_⟩
  rw [hlen] at hj
  have hc := hcell j (by omega)
  rw [Addr.add_lit] at hc
  rw [hc]
  unfold atI
  simp [List.getD, hj]
section
variable {H : Type} {enc : TypeId × Value → H} {w : World} {base : Nat} {held : Bool}
/-- a slice of ints, opened -/
theorem open_list {fuel : Nat} {cs : List Value} {x : DataW H × List MemPlace} (h : DataW.trod enc Tryz.prog w base (fun _ => true) held fuel 24 cs = some x) :
    ∃ (a : Option Addr) (c : Nat) (l : List Int), cs = [.slice a l.length c] ∧ ReadsI w (.slice a l.length c) l := by
  rcases open_ints Tryz.underlying24 Tryz.underlying3 (by kernel_rfl) h with ⟨hcs, _⟩ | ⟨x, l, c, zs, hcs, _, hl, hm, hz, _, hcell, hwz⟩
  · exact ⟨none, 0, [], hcs, ReadsI.nil w⟩
  · rcases Nat.eq_zero_or_pos l with h0 | h0
    · subst h0
      exact ⟨some x, c, [], hcs, .inl ⟨⟨some x, c, rfl, fun e => by cases e⟩, rfl⟩⟩
    · have hlen : (zs.take l).length = l := by rw [List.length_take]; simp at hz; omega
      refine ⟨some x, c, zs.take l, by rw [hlen]; exact hcs, ?_⟩
      rw [hlen]
      exact arg_reads hl hm (by simpa using hz) h0 hcell
theorem cells_ints : Tryz.prog.cellsOf 24 = 1 := by kernel_rfl
theorem cells_deps : Tryz.prog.cellsOf 46 = 3 := by kernel_rfl
theorem cells_int : Tryz.prog.cellsOf 3 = 1 := by kernel_rfl
theorem cells_u64 : Tryz.prog.cellsOf 44 = 1 := by kernel_rfl
theorem cells_bool : Tryz.prog.cellsOf 4 = 1 := by kernel_rfl
theorem three_of {l : List Value} (h : l.length = 3) (v0 v1 v2 : Value) (h0 : (l.drop 0).take 1 = [v0]) (h1 : (l.drop 1).take 1 = [v1]) (h2 : (l.drop 2).take 1 = [v2]) : l = [v0, v1, v2] := by
  match l, h with
  | [a0, a1, a2], _ =>
    simp at h0 h1 h2
    subst h0 h1 h2
    rfl
theorem three_xs {α : Type} {l : List α} (h : l.length = 3) : ∃ x0 x1 x2, l = [x0, x1, x2] := by
  match l, h with
  | [x0, x1, x2], _ => exact ⟨x0, x1, x2, rfl⟩
theorem eight_of {l : List Value} (h : l.length = 8) (v0 v1 v2 v3 v4 v5 v6 v7 : Value) (h0 : (l.drop 0).take 1 = [v0]) (h1 : (l.drop 1).take 1 = [v1]) (h2 : (l.drop 2).take 1 = [v2]) (h3 : (l.drop 3).take 1 = [v3]) (h4 : (l.drop 4).take 1 = [v4]) (h5 : (l.drop 5).take 1 = [v5]) (h6 : (l.drop 6).take 1 = [v6]) (h7 : (l.drop 7).take 1 = [v7]) :
    l = [v0, v1, v2, v3, v4, v5, v6, v7] := by
  match l, h with
  | [a0, a1, a2, a3, a4, a5, a6, a7], _ =>
    simp at h0 h1 h2 h3 h4 h5 h6 h7
    subst h0 h1 h2 h3 h4 h5 h6 h7
    rfl
theorem eight_xs {α : Type} {l : List α} (h : l.length = 8) : ∃ x0 x1 x2 x3 x4 x5 x6 x7, l = [x0, x1, x2, x3, x4, x5, x6, x7] := by
  match l, h with
  | [x0, x1, x2, x3, x4, x5, x6, x7], _ => exact ⟨x0, x1, x2, x3, x4, x5, x6, x7, rfl⟩
set_option maxRecDepth 100000 in
theorem open_deps {r : Reach} {b0 : Nat} {v : Value} {d : DataW H} {p : List MemPlace} (hv : Value.okWide Tryz.prog w r b0 46 v) (h : DataW.Trod enc Tryz.prog w base (fun _ => true) held 46 v d p) :
    ∃ (a1 a2 a3 : Option Addr) (c1 c2 c3 : Nat) (al dl yl : List Int), v = .agg #[.slice a1 al.length c1, .slice a2 dl.length c2, .slice a3 yl.length c3] ∧ ReadsI w (.slice a1 al.length c1) al ∧ ReadsI w (.slice a2 dl.length c2) dl ∧ ReadsI w (.slice a3 yl.length c3) yl := by
  obtain ⟨cs, rfl, hsz⟩ := okWide_struct Tryz.underlying46 hv
  rw [cells_deps] at hsz
  obtain ⟨fuel, hf⟩ := h
  obtain ⟨xs, n, _, hx, _, hl, hq⟩ := DataW.trod_struct Tryz.underlying46 hf
  obtain ⟨x0, x1, x2, rfl⟩ := three_xs (show xs.length = 3 from hl)
  have q0 := hq 0 _ rfl; have q1 := hq 1 _ rfl; have q2 := hq 2 _ rfl
  simp only [List.getElem?_cons_zero, List.getElem?_cons_succ] at q0 q1 q2
  clear hq hf
  obtain ⟨a1, c1, al, e0, r0⟩ := open_list q0
  obtain ⟨a2, c2, dl, e1, r1⟩ := open_list q1
  obtain ⟨a3, c3, yl, e2, r2⟩ := open_list q2
  have hc := three_of (l := cs.toList) (by simpa using hsz) _ _ _ e0 e1 e2
  refine ⟨a1, a2, a3, c1, c2, c3, al, dl, yl, ?_, r0, r1, r2⟩
  congr 1
  exact Array.toList_inj.1 (by rw [hc])
theorem bounds_i64 {n : Int} (h : (Lit.int .i64 n).wf = true) : -9223372036854775808 ≤ n ∧ n ≤ 9223372036854775807 := by
  simp [Lit.wf, IntKind.min, IntKind.max, IntKind.bits, IntKind.signed] at h
  exact ⟨by simpa using h.1, by simpa using h.2⟩
theorem bounds_u64 {n : Int} (h : (Lit.int .u64 n).wf = true) : 0 ≤ n ∧ n < 18446744073709551616 := by
  simp [Lit.wf, IntKind.min, IntKind.max, IntKind.bits, IntKind.signed] at h
  omega
end
end Go.Proofs.YtgkiaeddlahngaaGreatDoor
namespace Go.Proofs.YtgkiaeddlahngaaGreatDoor
set_option linter.unusedVariables false
set_option linter.unusedSimpArgs false
open Go.ChangeShapes Go.WideShapes Go.ChangeAt Go.RowKit Go.Deep

/-- events in a row, whatever their lists' lengths -/
structure Rw (n b off : Nat) (ev : Nat → Ev) (el : Nat → El) (w : World) : Prop where
  at_ : ∀ k, k < n → EvIn (ev k) b (off + k * 14) w
  reads : ∀ k, k < n → EReads w (ev k) (el k)
  low : ∀ k, k < n → 0 ≤ (ev k).addr
  lt : 0 < n → b < w.heap.size
theorem Rw.below {n b off : Nat} {ev : Nat → Ev} {el : Nat → El} {w w' : World} (h : Rw n b off ev el w) (hb : Below w.heap.size w w') : Rw n b off ev el w' :=
  ⟨fun k hk => (h.at_ k hk).below hb (h.lt (by omega)), fun k hk => (h.reads k hk).below hb, h.low, fun hn => Nat.lt_of_lt_of_le (h.lt hn) hb.size⟩
theorem Rw.evs {n b off : Nat} {ev : Nat → Ev} {el : Nat → El} {w : World} (h : Rw n b off ev el w) (hl : ∀ k, k < n → (el k).n) : Evs n b off ev el w := ⟨h.at_, h.reads, hl, h.low, h.lt⟩
theorem Evs.less {n m b off : Nat} {ev : Nat → Ev} {el : Nat → El} {w : World} (h : Evs n b off ev el w) (hm : m ≤ n) : Evs m b off ev el w :=
  ⟨fun k hk => h.at_ k (by omega), fun k hk => h.reads k (by omega), fun k hk => h.len k (by omega), fun k hk => h.low k (by omega), fun hp => h.lt (by omega)⟩
theorem cells_ev : Tryz.prog.cellsOf 48 = 14 := by kernel_rfl
theorem fourteen_of {l : List Value} (h : l.length = 14) (v0 v1 v2 v3 v4 v5 v6 v7 v8 v9 v10 v11 v12 v13 : Value) (h0 : (l.drop 0).take 1 = [v0]) (h1 : (l.drop 1).take 1 = [v1]) (h2 : (l.drop 2).take 1 = [v2]) (h3 : (l.drop 3).take 1 = [v3]) (h4 : (l.drop 4).take 1 = [v4]) (h5 : (l.drop 5).take 1 = [v5]) (h6 : (l.drop 6).take 1 = [v6]) (h7 : (l.drop 7).take 1 = [v7]) (h8 : (l.drop 8).take 1 = [v8]) (h9 : (l.drop 9).take 1 = [v9]) (h10 : (l.drop 10).take 1 = [v10]) (h11 : (l.drop 11).take 1 = [v11]) (h12 : (l.drop 12).take 1 = [v12]) (h13 : (l.drop 13).take 1 = [v13]) :
    l = [v0, v1, v2, v3, v4, v5, v6, v7, v8, v9, v10, v11, v12, v13] := by
  match l, h with
  | [a0, a1, a2, a3, a4, a5, a6, a7, a8, a9, a10, a11, a12, a13], _ =>
    simp at h0 h1 h2 h3 h4 h5 h6 h7 h8 h9 h10 h11 h12 h13
    subst h0 h1 h2 h3 h4 h5 h6 h7 h8 h9 h10 h11 h12 h13
    rfl
theorem fourteen_xs {α : Type} {l : List α} (h : l.length = 12) : ∃ x0 x1 x2 x3 x4 x5 x6 x7 x8 x9 x10 x11, l = [x0, x1, x2, x3, x4, x5, x6, x7, x8, x9, x10, x11] := by
  match l, h with
  | [x0, x1, x2, x3, x4, x5, x6, x7, x8, x9, x10, x11], _ => exact ⟨x0, x1, x2, x3, x4, x5, x6, x7, x8, x9, x10, x11, rfl⟩
section
variable {H : Type} {enc : TypeId × Value → H} {w : World} {base : Nat} {held : Bool}
set_option maxRecDepth 100000 in
theorem probe_ev {fuel : Nat} {cs : List Value} {x : DataW H × List MemPlace} (h : DataW.trod enc Tryz.prog w base (fun _ => true) held fuel 48 cs = some x) :
    ∃ (e : Ev) (l : El), cs = [.int .i64 e.hart, .int .i64 e.pos, .int .i64 e.kind, .int .u64 e.addr, .int .u64 e.load, .int .u64 e.store, .bool e.aq, .bool e.rl, .int .i64 e.pred, .int .i64 e.succ, .int .i64 e.pair, e.a, e.d, e.y] ∧ EReads w e l ∧ 0 ≤ e.addr := by
  obtain ⟨xs, n, _, hx, hcl, hl, hq⟩ := DataW.trod_struct Tryz.underlying48 h
  rw [cells_ev] at hcl
  obtain ⟨x0, x1, x2, x3, x4, x5, x6, x7, x8, x9, x10, x11, rfl⟩ := fourteen_xs (show xs.length = 12 from hl)
  have q0 := hq 0 _ rfl; have q1 := hq 1 _ rfl; have q2 := hq 2 _ rfl; have q3 := hq 3 _ rfl; have q4 := hq 4 _ rfl; have q5 := hq 5 _ rfl; have q6 := hq 6 _ rfl; have q7 := hq 7 _ rfl; have q8 := hq 8 _ rfl; have q9 := hq 9 _ rfl; have q10 := hq 10 _ rfl; have q11 := hq 11 _ rfl
  simp only [List.getElem?_cons_zero, List.getElem?_cons_succ] at q0 q1 q2 q3 q4 q5 q6 q7 q8 q9 q10 q11
  clear hq h
  obtain ⟨n0, e0, _, w0⟩ := DataW.trod_int Tryz.underlying3 q0
  obtain ⟨n1, e1, _, w1⟩ := DataW.trod_int Tryz.underlying3 q1
  obtain ⟨n2, e2, _, w2⟩ := DataW.trod_int Tryz.underlying3 q2
  obtain ⟨n3, e3, _, w3⟩ := DataW.trod_int Tryz.underlying44 q3
  obtain ⟨n4, e4, _, w4⟩ := DataW.trod_int Tryz.underlying44 q4
  obtain ⟨n5, e5, _, w5⟩ := DataW.trod_int Tryz.underlying44 q5
  obtain ⟨n6, e6, _⟩ := DataW.trod_bool Tryz.underlying4 q6
  obtain ⟨n7, e7, _⟩ := DataW.trod_bool Tryz.underlying4 q7
  obtain ⟨n8, e8, _, w8⟩ := DataW.trod_int Tryz.underlying3 q8
  obtain ⟨n9, e9, _, w9⟩ := DataW.trod_int Tryz.underlying3 q9
  obtain ⟨n10, e10, _, w10⟩ := DataW.trod_int Tryz.underlying3 q10
  obtain ⟨ys, n', _, hy, _, hl', hq'⟩ := DataW.trod_struct Tryz.underlying46 q11
  obtain ⟨y0, y1, y2, rfl⟩ := three_xs (show ys.length = 3 from hl')
  have r0 := hq' 0 _ rfl; have r1 := hq' 1 _ rfl; have r2 := hq' 2 _ rfl
  simp only [List.getElem?_cons_zero, List.getElem?_cons_succ] at r0 r1 r2
  obtain ⟨a1, c1, al, f0, s0⟩ := open_list r0
  obtain ⟨a2, c2, dl, f1, s1⟩ := open_list r1
  obtain ⟨a3, c3, yl, f2, s2⟩ := open_list r2
  have f0' : (((cs.drop 11).take 3).drop 0).take 1 = [.slice a1 al.length c1] := f0
  have f1' : (((cs.drop 11).take 3).drop 1).take 1 = [.slice a2 dl.length c2] := f1
  have f2' : (((cs.drop 11).take 3).drop 2).take 1 = [.slice a3 yl.length c3] := f2
  have g0 : (cs.drop 11).take 1 = [.slice a1 al.length c1] := by rw [← f0', List.drop_zero, List.take_take]; rfl
  have g1 : (cs.drop 12).take 1 = [.slice a2 dl.length c2] := by rw [← f1', List.drop_take, List.take_take, List.drop_drop]; rfl
  have g2 : (cs.drop 13).take 1 = [.slice a3 yl.length c3] := by rw [← f2', List.drop_take, List.take_take, List.drop_drop]; rfl
  have hc := fourteen_of (l := cs) hcl _ _ _ _ _ _ _ _ _ _ _ _ _ _ e0 e1 e2 e3 e4 e5 e6 e7 e8 e9 e10 g0 g1 g2
  refine ⟨⟨n0, n1, n2, n3, n4, n5, n6, n7, n8, n9, n10, .slice a1 al.length c1, .slice a2 dl.length c2, .slice a3 yl.length c3⟩, ⟨al, dl, yl⟩, hc, ⟨s0, s1, s2⟩, (bounds_u64 w3).1⟩
theorem add_lit2 (b off k : Nat) : (⟨b, off, none⟩ : Addr).add k = ⟨b, off + k, none⟩ := Addr.add_lit b off k
set_option maxRecDepth 100000 in
/-- a slice of events that came in -/
theorem open_events {r : Reach} {b0 : Nat} {v : Value} {d : DataW H} {p : List MemPlace} (hv : Value.okWide Tryz.prog w r b0 41 v) (h : DataW.Trod enc Tryz.prog w base (fun _ => true) held 41 v d p) :
    ∃ (a : Option Addr) (n c : Nat) (ev : Nat → Ev) (el : Nat → El), v = .slice a n c ∧ (n = 0 ∨ ∃ b off, a = some ⟨b, off, none⟩ ∧ n ≤ maxLen ∧ n ≤ c ∧ Rw n b off ev el w) := by
  obtain ⟨a, n, c, rfl⟩ := okWide_slice Tryz.underlying41 hv
  obtain ⟨fuel, hf⟩ := h
  rcases open_slice Tryz.underlying41 hf with ⟨hcs, _⟩ | ⟨x, l, cp, m, n', D, Pl, hcs, _, hl, hmx, hm, _, hi⟩
  · have hcs' : [Value.slice a n c] = [.slice none 0 0] := hcs
    simp at hcs'
    exact ⟨a, n, c, fun _ => zeroEv, fun _ => ⟨[], [], []⟩, rfl, .inl hcs'.2.1⟩
  · have hcs' : [Value.slice a n c] = [.slice (some x) l cp] := hcs
    simp at hcs'
    obtain ⟨rfl, rfl, rfl⟩ := hcs'
    rcases Nat.eq_zero_or_pos n with h0 | hpos
    · exact ⟨some x, n, c, fun _ => zeroEv, fun _ => ⟨[], [], []⟩, rfl, .inl h0⟩
    have hlm : n ≤ m := by rw [hm]; split <;> omega
    have each : ∀ i, ∃ p : Ev × El, i < n → (∃ cs', w.cells? base (x.add (i * 14)) 14 = some cs' ∧ cs' = [.int .i64 p.1.hart, .int .i64 p.1.pos, .int .i64 p.1.kind, .int .u64 p.1.addr, .int .u64 p.1.load, .int .u64 p.1.store, .bool p.1.aq, .bool p.1.rl, .int .i64 p.1.pred, .int .i64 p.1.succ, .int .i64 p.1.pair, p.1.a, p.1.d, p.1.y]) ∧ EReads w p.1 p.2 ∧ 0 ≤ p.1.addr := by
      intro i
      by_cases hil : i < n
      · obtain ⟨cs', hc, ht⟩ := hi i (by omega)
        rw [cells_ev] at hc
        obtain ⟨e, l, h1, h2, h3⟩ := probe_ev ht
        exact ⟨(e, l), fun _ => ⟨⟨cs', hc, h1⟩, h2, h3⟩⟩
      · exact ⟨(zeroEv, ⟨[], [], []⟩), fun h => absurd h hil⟩
    obtain ⟨f, hf2⟩ := Classical.axiomOfChoice each
    obtain ⟨b, off, spot⟩ := x
    have hcell : ∀ i, i < n → ∀ j v, (#[.int .i64 (f i).1.hart, .int .i64 (f i).1.pos, .int .i64 (f i).1.kind, .int .u64 (f i).1.addr, .int .u64 (f i).1.load, .int .u64 (f i).1.store, .bool (f i).1.aq, .bool (f i).1.rl, .int .i64 (f i).1.pred, .int .i64 (f i).1.succ, .int .i64 (f i).1.pair, (f i).1.a, (f i).1.d, (f i).1.y] : Array Value)[j]? = some v → w.cell? ((⟨b, off, spot⟩ : Addr).add (i * 14 + j)) = some v := by
      intro i hin j v hv
      obtain ⟨⟨cs', hc, rfl⟩, _, _⟩ := hf2 i hin
      obtain ⟨_, hcl, hat⟩ := World.cells?_some hc
      have hj : j < 14 := by have := (Array.getElem?_eq_some_iff.1 hv).1; simpa using this
      have hx := hat j (by simpa using hj)
      rw [add_add] at hx
      rw [hx]
      have : [Value.int .i64 (f i).1.hart, .int .i64 (f i).1.pos, .int .i64 (f i).1.kind, .int .u64 (f i).1.addr, .int .u64 (f i).1.load, .int .u64 (f i).1.store, .bool (f i).1.aq, .bool (f i).1.rl, .int .i64 (f i).1.pred, .int .i64 (f i).1.succ, .int .i64 (f i).1.pair, (f i).1.a, (f i).1.d, (f i).1.y][j]? = some v := by
        simpa using hv
      simpa using this
    have hspot : spot = none := by simpa [Addr.add] using World.cell?_spot (hcell 0 hpos 0 _ rfl)
    subst hspot
    refine ⟨_, n, c, fun i => (f i).1, fun i => (f i).2, rfl, .inr ⟨b, off, rfl, by omega, hl, ⟨fun k hk j v hv => ?_, fun k hk => (hf2 k hk).2.1, fun k hk => (hf2 k hk).2.2, fun _ => ?_⟩⟩⟩
    · have := hcell k hk j v hv
      rw [Addr.add_lit, ← Nat.add_assoc] at this
      exact this
    · have := hcell 0 hpos 0 _ rfl
      rw [Addr.add_lit] at this
      exact World.block_lt_of_cell? w _ this
end
end Go.Proofs.YtgkiaeddlahngaaGreatDoor
