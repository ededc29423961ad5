/-
  Proved here: an ask and deps that come in as arguments are their cells, and read as what they hold. No condition.
-/
import Derived.Test.YtcebcmmbokajcaaEvMakesWords
import Derived.ProofKit
import Derived.OpenShut
import Derived.ChangeOld
import Derived.RowKit
import Derived.Deep.Fields
namespace Go.Proofs.Ytcebcmmbokajcaa
set_option linter.unusedVariables false
set_option linter.unusedSimpArgs false
open Go.ChangeShapes Go.WideShapes Go.ChangeAt Go.RowKit

/-- a slice of ints that came in, as the row's frame tells of it -/
theorem arg_reads {w : World} {x : Addr} {len cap : Nat} {zs : List Int} (hl : len ≤ cap) (hm : cap ≤ maxLen) (hz : zs.length = cap) (hpos : 0 < len)
    (hcell : ∀ i, i < zs.length → w.cell? (x.add i) = some (.int .i64 (zs.getD i 0))) : ReadsI w (.slice (some x) len cap) (zs.take len) := by
  have hlen : (zs.take len).length = len := by rw [List.length_take]; omega
  obtain ⟨b, off, spot⟩ := x
  have hspot : spot = none := by
    have hc := hcell 0 (by omega)
    simpa [Addr.add] using World.cell?_spot hc
  subst hspot
  have hb : b < w.heap.size := by
    have hc := hcell 0 (by omega)
    rw [Addr.add_lit] at hc
    exact World.block_lt_of_cell? w _ hc
  refine .inr ⟨b, off, cap, by rw [hlen], by omega, by unfold maxLen at hm; omega, hb, fun j hj => ?_⟩
  rw [hlen] at hj
  have hc := hcell j (by omega)
  rw [Addr.add_lit] at hc
  rw [hc]
  unfold atI
  simp [List.getD, hj]
section
variable {H : Type} {enc : TypeId × Value → H} {w : World} {base : Nat} {held : Bool}
/-- a slice of ints, opened -/
theorem open_list {fuel : Nat} {cs : List Value} {x : DataW H × List MemPlace} (h : DataW.trod enc Try.prog w base (fun _ => true) held fuel 24 cs = some x) :
    ∃ (a : Option Addr) (c : Nat) (l : List Int), cs = [.slice a l.length c] ∧ ReadsI w (.slice a l.length c) l := by
  rcases open_ints Try.underlying24 Try.underlying3 (by kernel_rfl) h with ⟨hcs, _⟩ | ⟨x, l, c, zs, hcs, _, hl, hm, hz, _, hcell, hwz⟩
  · exact ⟨none, 0, [], hcs, ReadsI.nil w⟩
  · rcases Nat.eq_zero_or_pos l with h0 | h0
    · subst h0
      exact ⟨some x, c, [], hcs, .inl ⟨⟨some x, c, rfl, fun e => by cases e⟩, rfl⟩⟩
    · have hlen : (zs.take l).length = l := by rw [List.length_take]; simp at hz; omega
      refine ⟨some x, c, zs.take l, by rw [hlen]; exact hcs, ?_⟩
      rw [hlen]
      exact arg_reads hl hm (by simpa using hz) h0 hcell
theorem cells_ints : Try.prog.cellsOf 24 = 1 := by kernel_rfl
theorem cells_deps : Try.prog.cellsOf 48 = 3 := by kernel_rfl
theorem cells_int : Try.prog.cellsOf 3 = 1 := by kernel_rfl
theorem cells_u64 : Try.prog.cellsOf 31 = 1 := by kernel_rfl
theorem cells_bool : Try.prog.cellsOf 4 = 1 := by kernel_rfl
theorem three_of {l : List Value} (h : l.length = 3) (v0 v1 v2 : Value) (h0 : (l.drop 0).take 1 = [v0]) (h1 : (l.drop 1).take 1 = [v1]) (h2 : (l.drop 2).take 1 = [v2]) : l = [v0, v1, v2] := by
  match l, h with
  | [a0, a1, a2], _ =>
    simp at h0 h1 h2
    subst h0 h1 h2
    rfl
theorem three_xs {α : Type} {l : List α} (h : l.length = 3) : ∃ x0 x1 x2, l = [x0, x1, x2] := by
  match l, h with
  | [x0, x1, x2], _ => exact ⟨x0, x1, x2, rfl⟩
theorem eight_of {l : List Value} (h : l.length = 8) (v0 v1 v2 v3 v4 v5 v6 v7 : Value) (h0 : (l.drop 0).take 1 = [v0]) (h1 : (l.drop 1).take 1 = [v1]) (h2 : (l.drop 2).take 1 = [v2]) (h3 : (l.drop 3).take 1 = [v3]) (h4 : (l.drop 4).take 1 = [v4]) (h5 : (l.drop 5).take 1 = [v5]) (h6 : (l.drop 6).take 1 = [v6]) (h7 : (l.drop 7).take 1 = [v7]) :
    l = [v0, v1, v2, v3, v4, v5, v6, v7] := by
  match l, h with
  | [a0, a1, a2, a3, a4, a5, a6, a7], _ =>
    simp at h0 h1 h2 h3 h4 h5 h6 h7
    subst h0 h1 h2 h3 h4 h5 h6 h7
    rfl
theorem eight_xs {α : Type} {l : List α} (h : l.length = 8) : ∃ x0 x1 x2 x3 x4 x5 x6 x7, l = [x0, x1, x2, x3, x4, x5, x6, x7] := by
  match l, h with
  | [x0, x1, x2, x3, x4, x5, x6, x7], _ => exact ⟨x0, x1, x2, x3, x4, x5, x6, x7, rfl⟩
set_option maxRecDepth 100000 in
theorem open_deps {r : Reach} {b0 : Nat} {v : Value} {d : DataW H} {p : List MemPlace} (hv : Value.okWide Try.prog w r b0 48 v) (h : DataW.Trod enc Try.prog w base (fun _ => true) held 48 v d p) :
    ∃ (a1 a2 a3 : Option Addr) (c1 c2 c3 : Nat) (al dl yl : List Int), v = .agg #[.slice a1 al.length c1, .slice a2 dl.length c2, .slice a3 yl.length c3] ∧ ReadsI w (.slice a1 al.length c1) al ∧ ReadsI w (.slice a2 dl.length c2) dl ∧ ReadsI w (.slice a3 yl.length c3) yl := by
  obtain ⟨cs, rfl, hsz⟩ := okWide_struct Try.underlying48 hv
  rw [cells_deps] at hsz
  obtain ⟨fuel, hf⟩ := h
  obtain ⟨xs, n, _, hx, _, hl, hq⟩ := DataW.trod_struct Try.underlying48 hf
  obtain ⟨x0, x1, x2, rfl⟩ := three_xs (show xs.length = 3 from hl)
  have q0 := hq 0 _ rfl; have q1 := hq 1 _ rfl; have q2 := hq 2 _ rfl
  simp only [List.getElem?_cons_zero, List.getElem?_cons_succ] at q0 q1 q2
  clear hq hf
  obtain ⟨a1, c1, al, e0, r0⟩ := open_list q0
  obtain ⟨a2, c2, dl, e1, r1⟩ := open_list q1
  obtain ⟨a3, c3, yl, e2, r2⟩ := open_list q2
  have hc := three_of (l := cs.toList) (by simpa using hsz) _ _ _ e0 e1 e2
  refine ⟨a1, a2, a3, c1, c2, c3, al, dl, yl, ?_, r0, r1, r2⟩
  congr 1
  exact Array.toList_inj.1 (by rw [hc])
theorem bounds_i64 {n : Int} (h : (Lit.int .i64 n).wf = true) : -9223372036854775808 ≤ n ∧ n ≤ 9223372036854775807 := by
  simp [Lit.wf, IntKind.min, IntKind.max, IntKind.bits, IntKind.signed] at h
  exact ⟨by simpa using h.1, by simpa using h.2⟩
theorem bounds_u64 {n : Int} (h : (Lit.int .u64 n).wf = true) : 0 ≤ n ∧ n < 18446744073709551616 := by
  simp [Lit.wf, IntKind.min, IntKind.max, IntKind.bits, IntKind.signed] at h
  omega
end
end Go.Proofs.Ytcebcmmbokajcaa
