/-
  Proved here: a slice of pieces, or of seats, that comes in as an argument is a row of them. No condition.
-/
import Derived.Test.YthkakikigccaaaaDtWords
import Derived.ProofKit
import Derived.OpenShut
import Derived.ChangeOld
import Derived.RowKit
import Derived.Deep.Fields
import Derived.Deep.Slices
namespace Go.Proofs.Ythkakikigccaaaa
open Go.ChangeShapes Go.WideShapes Go.ChangeAt Go.RowKit Go.Deep
set_option linter.unusedVariables false
set_option linter.unusedSimpArgs false

theorem bounds_i64 {n : Int} (h : (Lit.int .i64 n).wf = true) : -9223372036854775808 ≤ n ∧ n ≤ 9223372036854775807 := by
  have q1 : IntKind.i64.min = -9223372036854775808 := by decide
  have q2 : IntKind.i64.max = 9223372036854775807 := by decide
  simp only [Lit.wf, Bool.and_eq_true, decide_eq_true_eq] at h; omega
theorem bounds_u64 {n : Int} (h : (Lit.int .u64 n).wf = true) : 0 ≤ n ∧ n ≤ 18446744073709551615 := by
  have q1 : IntKind.u64.min = 0 := by decide
  have q2 : IntKind.u64.max = 18446744073709551615 := by decide
  simp only [Lit.wf, Bool.and_eq_true, decide_eq_true_eq] at h; omega
theorem two_xs {α : Type} {l : List α} (h : l.length = 2) : ∃ x0 x1, l = [x0, x1] := by
  match l, h with
  | [x0, x1], _ => exact ⟨x0, x1, rfl⟩
theorem three_xs {α : Type} {l : List α} (h : l.length = 3) : ∃ x0 x1 x2, l = [x0, x1, x2] := by
  match l, h with
  | [x0, x1, x2], _ => exact ⟨x0, x1, x2, rfl⟩
theorem three_of {l : List Value} (h : l.length = 3) (v0 v1 v2 : Value) (h0 : (l.drop 0).take 1 = [v0]) (h1 : (l.drop 1).take 1 = [v1]) (h2 : (l.drop 2).take 1 = [v2]) : l = [v0, v1, v2] := by
  match l, h with
  | [a0, a1, a2], _ =>
    simp at h0 h1 h2
    subst h0 h1 h2
    rfl
theorem four_of {l : List Value} (h : l.length = 4) (v0 v1 v2 v3 : Value) (h0 : (l.take 3) = [v0, v1, v2]) (h3 : (l.drop 3).take 1 = [v3]) : l = [v0, v1, v2, v3] := by
  match l, h with
  | [a0, a1, a2, a3], _ =>
    simp at h0 h3
    obtain ⟨rfl, rfl, rfl⟩ := h0
    subst h3
    rfl
theorem cells_pc : Try.prog.cellsOf 32 = 3 := by kernel_rfl
theorem cells_se : Try.prog.cellsOf 34 = 4 := by kernel_rfl
section
variable {H : Type} {enc : TypeId × Value → H} {w : World} {base : Nat} {held : Bool}
set_option maxRecDepth 100000 in
theorem probe_pc {fuel : Nat} {cs : List Value} {x : DataW H × List MemPlace} (h : DataW.trod enc Try.prog w base (fun _ => true) held fuel 32 cs = some x) :
    ∃ p : Pc, cs = [.string p.name, .int .i64 p.size, .int .i64 p.hart] ∧ PcW p := by
  obtain ⟨xs, n, _, hx, hcl, hl, hq⟩ := DataW.trod_struct Try.underlying32 h
  rw [cells_pc] at hcl
  obtain ⟨x0, x1, x2, rfl⟩ := three_xs (show xs.length = 3 from hl)
  have q0 := hq 0 _ rfl; have q1 := hq 1 _ rfl; have q2 := hq 2 _ rfl
  simp only [List.getElem?_cons_zero, List.getElem?_cons_succ] at q0 q1 q2
  obtain ⟨n0, e0, _, w0⟩ := DataW.trod_string Try.underlying9 q0
  obtain ⟨n1, e1, _, w1⟩ := DataW.trod_int Try.underlying3 q1
  obtain ⟨n2, e2, _, w2⟩ := DataW.trod_int Try.underlying3 q2
  have b1 := bounds_i64 w1
  have b2 := bounds_i64 w2
  exact ⟨⟨n0, n1, n2⟩, three_of hcl _ _ _ e0 e1 e2, ⟨w0, b1.1, b1.2, b2.1, b2.2⟩⟩
set_option maxRecDepth 100000 in
theorem probe_se {fuel : Nat} {cs : List Value} {x : DataW H × List MemPlace} (h : DataW.trod enc Try.prog w base (fun _ => true) held fuel 34 cs = some x) :
    ∃ s : Se, cs = [.string s.p.name, .int .i64 s.p.size, .int .i64 s.p.hart, .int .u64 s.addr] ∧ SeW s := by
  obtain ⟨xs, n, _, hx, hcl, hl, hq⟩ := DataW.trod_struct Try.underlying34 h
  rw [cells_se] at hcl
  obtain ⟨x0, x1, rfl⟩ := two_xs (show xs.length = 2 from hl)
  have q0 := hq 0 _ rfl; have q1 := hq 1 _ rfl
  simp only [List.getElem?_cons_zero, List.getElem?_cons_succ] at q0 q1
  obtain ⟨p, hp, wp⟩ := probe_pc q0
  obtain ⟨n1, e1, _, w1⟩ := DataW.trod_int Try.underlying28 q1
  have b1 := bounds_u64 w1
  have hp' : cs.take 3 = [.string p.name, .int .i64 p.size, .int .i64 p.hart] := by
    have e : (cs.drop 0).take 3 = cs.take 3 := by simp
    rw [← e]; exact hp
  exact ⟨⟨p, n1⟩, four_of hcl _ _ _ _ hp' e1, ⟨wp, b1.1, b1.2⟩⟩
set_option maxRecDepth 100000 in
/-- a slice of pieces that came in -/
theorem open_pieces {r : Reach} {b0 : Nat} {v : Value} {d : DataW H} {p : List MemPlace} (hv : Value.okWide Try.prog w r b0 26 v) (h : DataW.Trod enc Try.prog w base (fun _ => true) held 26 v d p) :
    ∃ (a : Option Addr) (c : Nat) (l : List Pc), v = .slice a l.length c ∧ (a = none → c = 0) ∧ l.length ≤ maxLen ∧ Sl w a l ∧ ∀ p ∈ l, PcW p := by
  obtain ⟨a, n, c, rfl⟩ := okWide_slice Try.underlying26 hv
  obtain ⟨fuel, hf⟩ := h
  rcases open_slice Try.underlying26 hf with ⟨hcs, _⟩ | ⟨x, l, cp, m, n', D, Pl, hcs, _, hl, hmx, hm, _, hi⟩
  · have hcs' : [Value.slice a n c] = [.slice none 0 0] := hcs
    simp at hcs'
    obtain ⟨rfl, rfl, rfl⟩ := hcs'
    exact ⟨none, 0, [], rfl, fun _ => rfl, Nat.zero_le _, .inl rfl, fun _ h => nomatch h⟩
  · have hcs' : [Value.slice a n c] = [.slice (some x) l cp] := hcs
    simp at hcs'
    obtain ⟨rfl, rfl, rfl⟩ := hcs'
    have hlm : n ≤ m := by rw [hm]; split <;> omega
    have each : ∀ i, ∃ p : Pc, i < n → (∃ cs', w.cells? base (x.add (i * 3)) 3 = some cs' ∧ cs' = [.string p.name, .int .i64 p.size, .int .i64 p.hart]) ∧ PcW p := by
      intro i
      by_cases hil : i < n
      · obtain ⟨cs', hc, ht⟩ := hi i (by omega)
        rw [cells_pc] at hc
        obtain ⟨p, h1, h2⟩ := probe_pc ht
        exact ⟨p, fun _ => ⟨⟨cs', hc, h1⟩, h2⟩⟩
      · exact ⟨default, fun h => absurd h hil⟩
    obtain ⟨f, hf2⟩ := Classical.axiomOfChoice each
    obtain ⟨b, off, spot⟩ := x
    have hlen : ((List.range n).map f).length = n := by simp
    refine ⟨some ⟨b, off, spot⟩, c, (List.range n).map f, by rw [hlen], (fun h => nomatch h), by rw [hlen]; omega, ?_, fun p hp => ?_⟩
    · rcases Nat.eq_zero_or_pos n with h0 | hpos
      · subst h0; exact .inl rfl
      · have hcell : ∀ i, i < n → ∀ j v, ([.string (f i).name, .int .i64 (f i).size, .int .i64 (f i).hart] : List Value)[j]? = some v → w.cell? ((⟨b, off, spot⟩ : Addr).add (i * 3 + j)) = some v := by
          intro i hin j v hv
          obtain ⟨⟨cs', hc, rfl⟩, _⟩ := hf2 i hin
          obtain ⟨_, hcl, hat⟩ := World.cells?_some hc
          have hj : j < 3 := by have := (List.getElem?_eq_some_iff.1 hv).1; simpa using this
          have hx := hat j (by simpa using hj)
          rw [add_add] at hx
          rw [hx]; exact hv
        have hspot : spot = none := by simpa [Addr.add] using World.cell?_spot (hcell 0 hpos 0 _ rfl)
        subst hspot
        refine .inr ⟨b, off, rfl, ⟨fun k hk => ?_, ?_⟩⟩
        · have hkn : k < n := by simpa using hk
          have e : ((List.range n).map f)[k] = f k := by simp
          rw [e]
          have c0 := hcell k hkn 0 _ rfl
          have c1 := hcell k hkn 1 _ rfl
          have c2 := hcell k hkn 2 _ rfl
          rw [Addr.add_lit, ← Nat.add_assoc] at c0 c1 c2
          exact ⟨c0, c1, c2⟩
        · have := hcell 0 hpos 0 _ rfl
          rw [Addr.add_lit] at this
          exact World.block_lt_of_cell? w _ this
    · simp only [List.mem_map, List.mem_range] at hp
      obtain ⟨i, hi', rfl⟩ := hp
      exact (hf2 i hi').2
set_option maxRecDepth 100000 in
/-- a slice of seats that came in -/
theorem open_seats {r : Reach} {b0 : Nat} {v : Value} {d : DataW H} {p : List MemPlace} (hv : Value.okWide Try.prog w r b0 22 v) (h : DataW.Trod enc Try.prog w base (fun _ => true) held 22 v d p) :
    ∃ (a : Option Addr) (c : Nat) (l : List Se), v = .slice a l.length c ∧ l.length ≤ maxLen ∧ Sm w a l ∧ ∀ s ∈ l, SeW s := by
  obtain ⟨a, n, c, rfl⟩ := okWide_slice Try.underlying22 hv
  obtain ⟨fuel, hf⟩ := h
  rcases open_slice Try.underlying22 hf with ⟨hcs, _⟩ | ⟨x, l, cp, m, n', D, Pl, hcs, _, hl, hmx, hm, _, hi⟩
  · have hcs' : [Value.slice a n c] = [.slice none 0 0] := hcs
    simp at hcs'
    obtain ⟨rfl, rfl, rfl⟩ := hcs'
    exact ⟨none, 0, [], rfl, Nat.zero_le _, .inl rfl, fun _ h => nomatch h⟩
  · have hcs' : [Value.slice a n c] = [.slice (some x) l cp] := hcs
    simp at hcs'
    obtain ⟨rfl, rfl, rfl⟩ := hcs'
    have hlm : n ≤ m := by rw [hm]; split <;> omega
    have each : ∀ i, ∃ s : Se, i < n → (∃ cs', w.cells? base (x.add (i * 4)) 4 = some cs' ∧ cs' = [.string s.p.name, .int .i64 s.p.size, .int .i64 s.p.hart, .int .u64 s.addr]) ∧ SeW s := by
      intro i
      by_cases hil : i < n
      · obtain ⟨cs', hc, ht⟩ := hi i (by omega)
        rw [cells_se] at hc
        obtain ⟨p, h1, h2⟩ := probe_se ht
        exact ⟨p, fun _ => ⟨⟨cs', hc, h1⟩, h2⟩⟩
      · exact ⟨default, fun h => absurd h hil⟩
    obtain ⟨f, hf2⟩ := Classical.axiomOfChoice each
    obtain ⟨b, off, spot⟩ := x
    have hlen : ((List.range n).map f).length = n := by simp
    refine ⟨some ⟨b, off, spot⟩, c, (List.range n).map f, by rw [hlen], by rw [hlen]; omega, ?_, fun p hp => ?_⟩
    · rcases Nat.eq_zero_or_pos n with h0 | hpos
      · subst h0; exact .inl rfl
      · have hcell : ∀ i, i < n → ∀ j v, ([.string (f i).p.name, .int .i64 (f i).p.size, .int .i64 (f i).p.hart, .int .u64 (f i).addr] : List Value)[j]? = some v → w.cell? ((⟨b, off, spot⟩ : Addr).add (i * 4 + j)) = some v := by
          intro i hin j v hv
          obtain ⟨⟨cs', hc, rfl⟩, _⟩ := hf2 i hin
          obtain ⟨_, hcl, hat⟩ := World.cells?_some hc
          have hj : j < 4 := by have := (List.getElem?_eq_some_iff.1 hv).1; simpa using this
          have hx := hat j (by simpa using hj)
          rw [add_add] at hx
          rw [hx]; exact hv
        have hspot : spot = none := by simpa [Addr.add] using World.cell?_spot (hcell 0 hpos 0 _ rfl)
        subst hspot
        refine .inr ⟨b, off, rfl, ⟨fun k hk => ?_, ?_⟩⟩
        · have hkn : k < n := by simpa using hk
          have e : ((List.range n).map f)[k] = f k := by simp
          rw [e]
          have c0 := hcell k hkn 0 _ rfl
          have c1 := hcell k hkn 1 _ rfl
          have c2 := hcell k hkn 2 _ rfl
          have c3 := hcell k hkn 3 _ rfl
          rw [Addr.add_lit, ← Nat.add_assoc] at c0 c1 c2 c3
          exact ⟨⟨c0, c1, c2⟩, c3⟩
        · have := hcell 0 hpos 0 _ rfl
          rw [Addr.add_lit] at this
          exact World.block_lt_of_cell? w _ this
    · simp only [List.mem_map, List.mem_range] at hp
      obtain ⟨i, hi', rfl⟩ := hp
      exact (hf2 i hi').2
end
end Go.Proofs.Ythkakikigccaaaa
