/-
  Proved here: a slice of events that comes in as an argument is a row of events, whose lists read as what they hold. No condition.
  (With it: Proved here: an ask and deps that come in as arguments are their cells, and read as what they hold. No condition.)
-/
import Derived.Test.YtokhnjcbcpmmjaaEvMakesWords
import Derived.ProofKit
import Derived.OpenShut
import Derived.ChangeOld
import Derived.RowKit
import Derived.Deep.Fields
import Derived.Test.YtokhnjcbcpmmjaaEvRow
import Derived.Deep.Slices
namespace Go.Proofs.Ytokhnjcbcpmmjaa
set_option linter.unusedVariables false
set_option linter.unusedSimpArgs false
open Go.ChangeShapes Go.WideShapes Go.ChangeAt Go.RowKit

/-- a slice of ints that came in, as the row's frame tells of it -/
theorem arg_reads {w : World} {x : Addr} {len cap : Nat} {zs : List Int} (hl : len ≤ cap) (hm : cap ≤ maxLen) (hz : zs.length = cap) (hpos : 0 < len)
    (hcell : ∀ i, i < zs.length → w.cell? (x.add i) = some (.int .i64 (zs.getD i 0))) : ReadsI w (.slice (some x) len cap) (zs.take len) := by
  have hlen : (zs.take len).length = len := by rw [List.length_take]; omega
  obtain ⟨b, off, spot⟩ := x
  have hspot : spot = none := by
    have hc := hcell 0 (by omega)
    simpa [Addr.add] using World.cell?_spot hc
  subst hspot
  have hb : b < w.heap.size := by
    have hc := hcell 0 (by omega)
    rw [Addr.add_lit] at hc
    exact World.block_lt_of_cell? w _ hc
  refine .inr ⟨b, off, cap, by rw [hlen], by omega, by unfold maxLen at hm; omega, hb, fun j hj => ?_⟩
  rw [hlen] at hj
  have hc := hcell j (by omega)
  rw [Addr.add_lit] at hc
  rw [hc]
  unfold atI
  simp [List.getD, hj]
section
variable {H : Type} {enc : TypeId × Value → H} {w : World} {base : Nat} {held : Bool}
/-- a slice of ints, opened -/
theorem open_list {fuel : Nat} {cs : List Value} {x : DataW H × List MemPlace} (h : DataW.trod enc Try.prog w base (fun _ => true) held fuel 24 cs = some x) :
    ∃ (a : Option Addr) (c : Nat) (l : List Int), cs = [.slice a l.length c] ∧ ReadsI w (.slice a l.length c) l := by
  rcases open_ints Try.underlying24 Try.underlying3 (by kernel_rfl) h with ⟨hcs, _⟩ | ⟨x, l, c, zs, hcs, _, hl, hm, hz, _, hcell, hwz⟩
  · exact ⟨none, 0, [], hcs, ReadsI.nil w⟩
  · rcases Nat.eq_zero_or_pos l with h0 | h0
    · subst h0
      exact ⟨some x, c, [], hcs, .inl ⟨⟨some x, c, rfl, fun e => by cases e⟩, rfl⟩⟩
    · have hlen : (zs.take l).length = l := by rw [List.length_take]; simp at hz; omega
      refine ⟨some x, c, zs.take l, by rw [hlen]; exact hcs, ?_⟩
      rw [hlen]
      exact arg_reads hl hm (by simpa using hz) h0 hcell
theorem three_xs {α : Type} {l : List α} (h : l.length = 3) : ∃ x0 x1 x2, l = [x0, x1, x2] := by
  match l, h with
  | [x0, x1, x2], _ => exact ⟨x0, x1, x2, rfl⟩
theorem bounds_i64 {n : Int} (h : (Lit.int .i64 n).wf = true) : -9223372036854775808 ≤ n ∧ n ≤ 9223372036854775807 := by
  simp [Lit.wf, IntKind.min, IntKind.max, IntKind.bits, IntKind.signed] at h
  exact ⟨by simpa using h.1, by simpa using h.2⟩
theorem bounds_u64 {n : Int} (h : (Lit.int .u64 n).wf = true) : 0 ≤ n ∧ n < 18446744073709551616 := by
  simp [Lit.wf, IntKind.min, IntKind.max, IntKind.bits, IntKind.signed] at h
  omega
end
end Go.Proofs.Ytokhnjcbcpmmjaa
namespace Go.Proofs.Ytokhnjcbcpmmjaa
set_option linter.unusedVariables false
set_option linter.unusedSimpArgs false
open Go.ChangeShapes Go.WideShapes Go.ChangeAt Go.RowKit Go.Deep

/-- events in a row, whatever their lists' lengths -/
structure Rw (n b off : Nat) (ev : Nat → Ev) (el : Nat → El) (w : World) : Prop where
  at_ : ∀ k, k < n → EvIn (ev k) b (off + k * 14) w
  reads : ∀ k, k < n → EReads w (ev k) (el k)
  low : ∀ k, k < n → 0 ≤ (ev k).addr
  lt : 0 < n → b < w.heap.size
theorem Rw.below {n b off : Nat} {ev : Nat → Ev} {el : Nat → El} {w w' : World} (h : Rw n b off ev el w) (hb : Below w.heap.size w w') : Rw n b off ev el w' :=
  ⟨fun k hk => (h.at_ k hk).below hb (h.lt (by omega)), fun k hk => (h.reads k hk).below hb, h.low, fun hn => Nat.lt_of_lt_of_le (h.lt hn) hb.size⟩
theorem Rw.evs {n b off : Nat} {ev : Nat → Ev} {el : Nat → El} {w : World} (h : Rw n b off ev el w) (hl : ∀ k, k < n → (el k).n) : Evs n b off ev el w := ⟨h.at_, h.reads, hl, h.low, h.lt⟩
theorem cells_ev : Try.prog.cellsOf 42 = 14 := by kernel_rfl
theorem fourteen_of {l : List Value} (h : l.length = 14) (v0 v1 v2 v3 v4 v5 v6 v7 v8 v9 v10 v11 v12 v13 : Value) (h0 : (l.drop 0).take 1 = [v0]) (h1 : (l.drop 1).take 1 = [v1]) (h2 : (l.drop 2).take 1 = [v2]) (h3 : (l.drop 3).take 1 = [v3]) (h4 : (l.drop 4).take 1 = [v4]) (h5 : (l.drop 5).take 1 = [v5]) (h6 : (l.drop 6).take 1 = [v6]) (h7 : (l.drop 7).take 1 = [v7]) (h8 : (l.drop 8).take 1 = [v8]) (h9 : (l.drop 9).take 1 = [v9]) (h10 : (l.drop 10).take 1 = [v10]) (h11 : (l.drop 11).take 1 = [v11]) (h12 : (l.drop 12).take 1 = [v12]) (h13 : (l.drop 13).take 1 = [v13]) :
    l = [v0, v1, v2, v3, v4, v5, v6, v7, v8, v9, v10, v11, v12, v13] := by
  match l, h with
  | [a0, a1, a2, a3, a4, a5, a6, a7, a8, a9, a10, a11, a12, a13], _ =>
    simp at h0 h1 h2 h3 h4 h5 h6 h7 h8 h9 h10 h11 h12 h13
    subst h0 h1 h2 h3 h4 h5 h6 h7 h8 h9 h10 h11 h12 h13
    rfl
theorem fourteen_xs {α : Type} {l : List α} (h : l.length = 12) : ∃ x0 x1 x2 x3 x4 x5 x6 x7 x8 x9 x10 x11, l = [x0, x1, x2, x3, x4, x5, x6, x7, x8, x9, x10, x11] := by
  match l, h with
  | [x0, x1, x2, x3, x4, x5, x6, x7, x8, x9, x10, x11], _ => exact ⟨x0, x1, x2, x3, x4, x5, x6, x7, x8, x9, x10, x11, rfl⟩
section
variable {H : Type} {enc : TypeId × Value → H} {w : World} {base : Nat} {held : Bool}
end
end Go.Proofs.Ytokhnjcbcpmmjaa
