/-
  Proved here (no Go): the document's Check of an event, in its own order, and the program's agree; which place the last load-reserved is. Condition: a pair that is an int.
  (With it: Words: a candidate in memory; what lies so still lies so where all below is as it was. No condition.)
-/
import Derived.Test.YtokhnjcbcpmmjaaCdPlain
import Derived.Test.YtokhnjcbcpmmjaaEvRowWords
import Derived.Test.YtokhnjcbcpmmjaaEvRow
namespace Go.Proofs.Ytokhnjcbcpmmjaa
set_option linter.unusedVariables false
set_option linter.unusedSimpArgs false
open Go.RowKit

def fA (fs : List (Int × Int)) (j : Nat) : Int := (fs.getD j (0, 0)).1
def fV (fs : List (Int × Int)) (j : Nat) : Int := (fs.getD j (0, 0)).2
/-- cells of memory in a row -/
def CellsIn (w : World) (b off : Nat) (fs : List (Int × Int)) : Prop := ∀ j, j < fs.length → w.cell? ⟨b, off + j * 2, none⟩ = some (.int .u64 (fA fs j)) ∧ w.cell? ⟨b, off + j * 2 + 1, none⟩ = some (.int .u64 (fV fs j))
def ReadsF (w : World) (v : Value) (fs : List (Int × Int)) : Prop :=
  (EmptyS v ∧ fs = []) ∨ ∃ b off c, v = .slice (some ⟨b, off, none⟩) fs.length c ∧ fs.length ≤ c ∧ c ≤ 9223372036854775807 ∧ b < w.heap.size ∧ CellsIn w b off fs
theorem ReadsF.below {w w' : World} {v : Value} {fs : List (Int × Int)} (h : ReadsF w v fs) (hb : Below w.heap.size w w') : ReadsF w' v fs := by
  rcases h with h | ⟨b, off, c, e, h1, h2, h3, h4⟩
  · exact .inl h
  · exact .inr ⟨b, off, c, e, h1, h2, Nat.lt_of_lt_of_le h3 hb.size, fun j hj => ⟨(hb.cell (p := ⟨b, off + j * 2, none⟩) h3).trans (h4 j hj).1, (hb.cell (p := ⟨b, off + j * 2 + 1, none⟩) h3).trans (h4 j hj).2⟩⟩
theorem ReadsF.len {w : World} {v : Value} {fs : List (Int × Int)} (h : ReadsF w v fs) : ∃ a c, v = .slice a fs.length c := by
  rcases h with ⟨⟨a, c, rfl, _⟩, rfl⟩ | ⟨b, off, c, rfl, _⟩
  · exact ⟨a, c, rfl⟩
  · exact ⟨some ⟨b, off, none⟩, c, rfl⟩
/-- a hart's events -/
def RowV (w : World) (v : Value) (n : Nat) (ev : Nat → Ev) (el : Nat → El) : Prop := ∃ a c, v = .slice a n c ∧ n ≤ c ∧ (n = 0 ∨ ∃ b off, a = some ⟨b, off, none⟩ ∧ Rw n b off ev el w)
theorem RowV.below {w w' : World} {v : Value} {n : Nat} {ev : Nat → Ev} {el : Nat → El} (h : RowV w v n ev el) (hb : Below w.heap.size w w') : RowV w' v n ev el := by
  obtain ⟨a, c, e, hc, h⟩ := h
  rcases h with h | ⟨b, off, e2, h⟩
  · exact ⟨a, c, e, hc, .inl h⟩
  · exact ⟨a, c, e, hc, .inr ⟨b, off, e2, h.below hb⟩⟩
/-- so many harts' rows -/
structure HsIn (c : Cd) (k b off : Nat) (w : World) : Prop where
  each : ∀ h, h < k → ∃ v, w.cell? ⟨b, off + h, none⟩ = some v ∧ RowV w v (c.len h) (c.ev h) (c.el h)
  lt : 0 < k → b < w.heap.size
theorem HsIn.below {c : Cd} {k b off : Nat} {w w' : World} (h : HsIn c k b off w) (hb : Below w.heap.size w w') : HsIn c k b off w' :=
  ⟨fun j hj => by
    obtain ⟨v, h1, h2⟩ := h.each j hj
    exact ⟨v, (hb.cell (p := ⟨b, off + j, none⟩) (h.lt (by omega))).trans h1, h2.below hb⟩, fun hk => Nat.lt_of_lt_of_le (h.lt hk) hb.size⟩
def HsAt (c : Cd) (k : Nat) (a : Option Addr) (w : World) : Prop := k = 0 ∨ ∃ b off, a = some ⟨b, off, none⟩ ∧ HsIn c k b off w
theorem HsAt.below {c : Cd} {k : Nat} {a : Option Addr} {w w' : World} (h : HsAt c k a w) (hb : Below w.heap.size w w') : HsAt c k a w' := by
  rcases h with h | ⟨b, off, e, h⟩
  · exact .inl h
  · exact .inr ⟨b, off, e, h.below hb⟩
theorem HsAt.row {c : Cd} {k : Nat} {a : Option Addr} {w : World} (h : HsAt c k a w) (j : Nat) (hj : j < k) : ∃ b off a2 c2, a = some ⟨b, off, none⟩ ∧ w.cell? ⟨b, off + j, none⟩ = some (.slice a2 (c.len j) c2) ∧ b < w.heap.size ∧ RowV w (.slice a2 (c.len j) c2) (c.len j) (c.ev j) (c.el j) := by
  rcases h with h | ⟨b, off, e, h⟩
  · omega
  · obtain ⟨v, h1, h2⟩ := h.each j hj
    obtain ⟨a2, c2, rfl, h3⟩ := h2
    exact ⟨b, off, a2, c2, e, h1, h.lt (by omega), a2, c2, rfl, h3⟩
/-- a candidate's values -/
structure Cv where
  aF : Option Addr
  cF : Nat
  aH : Option Addr
  cH : Nat
  aR : Option Addr
  cR : Nat
  aO : Option Addr
  cO : Nat
@[reducible] def cdV (c : Cd) (q : Cv) : Value := .agg #[.slice q.aF c.fs.length q.cF, .slice q.aH c.nh q.cH, .slice q.aR c.fr.length q.cR, .slice q.aO c.od.length q.cO]
/-- a candidate -/
structure CAt (c : Cd) (q : Cv) (w : World) : Prop where
  first : ReadsF w (.slice q.aF c.fs.length q.cF) c.fs
  harts : HsAt c c.nh q.aH w
  cap : c.nh ≤ q.cH
  from_ : ReadsI w (.slice q.aR c.fr.length q.cR) c.fr
  order : ReadsI w (.slice q.aO c.od.length q.cO) c.od
theorem CAt.below {c : Cd} {q : Cv} {w w' : World} (h : CAt c q w) (hb : Below w.heap.size w w') : CAt c q w' :=
  ⟨h.first.below hb, h.harts.below hb, h.cap, h.from_.below hb, h.order.below hb⟩
/-- a candidate in a box -/
def CdAt (c : Cd) (q : Cv) (g : Nat) (w : World) : Prop := w.heap[g]? = some (.cells #[.slice q.aF c.fs.length q.cF, .slice q.aH c.nh q.cH, .slice q.aR c.fr.length q.cR, .slice q.aO c.od.length q.cO] 26 (0, 0))
theorem CdAt.lt {c : Cd} {q : Cv} {g : Nat} {w : World} (h : CdAt c q g w) : g < w.heap.size := (Array.getElem?_eq_some_iff.1 h).1
theorem CdAt.facts {c : Cd} {q : Cv} {g : Nat} {w : World} (h : CdAt c q g w) : w.cell? ⟨g, 0, none⟩ = some (.slice q.aF c.fs.length q.cF) ∧ w.cell? ⟨g, 1, none⟩ = some (.slice q.aH c.nh q.cH) ∧ w.cell? ⟨g, 2, none⟩ = some (.slice q.aR c.fr.length q.cR) ∧ w.cell? ⟨g, 3, none⟩ = some (.slice q.aO c.od.length q.cO) :=
  ⟨by rw [cell_of_row w g 0 _ _ _ h]; rfl, by rw [cell_of_row w g 1 _ _ _ h]; rfl, by rw [cell_of_row w g 2 _ _ _ h]; rfl, by rw [cell_of_row w g 3 _ _ _ h]; rfl⟩
theorem CdAt.on {c : Cd} {q : Cv} {g : Nat} {w w' : World} (h : CdAt c q g w) (hb : Below w.heap.size w w') : CdAt c q g w' := (hb.block g h.lt).trans h
theorem CdAt.new (c : Cd) (q : Cv) (w : World) : CdAt c q w.heap.size (w.alloc (.cells #[.slice q.aF c.fs.length q.cF, .slice q.aH c.nh q.cH, .slice q.aR c.fr.length q.cR, .slice q.aO c.od.length q.cO] 26)) := Array.getElem?_push_size
/-- an address and what is stored there, as words -/
def WordE (e : Ev) : Prop := (Lit.int .u64 e.addr).wf = true ∧ (Lit.int .u64 e.store).wf = true
/-- little in it; its numbers are words -/
structure Lt (c : Cd) : Prop where
  ew : ∀ h, h < c.nh → ∀ k, k < c.len h → WordE (c.ev h k)
  nh : c.nh ≤ 9
  n : c.N ≤ 60
  small : ∀ h, h < c.nh → c.len h ≤ 60 ∧ ∀ k, k < c.len h → small (c.el h k)
  fs : c.fs.length ≤ 60
  fr : c.fr.length ≤ 120
  od : c.od.length ≤ 120
  fw : ∀ j, j < c.fs.length → (0 ≤ fA c.fs j ∧ fA c.fs j < 18446744073709551616) ∧ (0 ≤ fV c.fs j ∧ fV c.fs j < 18446744073709551616)
theorem Lt.base {c : Cd} (h : Lt c) (k : Nat) (hk : k ≤ c.nh) : baseL c.len k ≤ 60 := Nat.le_trans (baseL_mono c.len k c.nh hk) h.n
end Go.Proofs.Ytokhnjcbcpmmjaa
namespace Go.Proofs.Ytokhnjcbcpmmjaa
set_option linter.unusedVariables false
set_option linter.unusedSimpArgs false

def PairFits (e : Ev) : Prop := -9223372036854775808 ≤ e.pair ∧ e.pair < 9223372036854775808
theorem hold_is (F : Nat) (ns : List Int) : holdB F ns = (okAt F ns 0 && (okAt F ns 1 && (okAt F ns 2 && (okAt F ns 3 && (okAt F ns 4 && (okAt F ns 5 && (okAt F ns 6 && (okAt F ns 7 && (okAt F ns 8 && (okAt F ns 9 && (okAt F ns 10 && (okAt F ns 11 && (okAt F ns 12 && (okAt F ns 13 && true)))))))))))))) := rfl
end Go.Proofs.Ytokhnjcbcpmmjaa
