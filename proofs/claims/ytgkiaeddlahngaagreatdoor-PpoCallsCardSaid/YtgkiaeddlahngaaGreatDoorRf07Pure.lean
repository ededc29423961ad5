/-
  Proved here (no Go): the document's Check of an event, in its own order, and the program's agree; which place the last load-reserved is. Condition: a pair that is an int.
  (With it: Words: a candidate in memory; what lies so still lies so where all below is as it was. No condition.)
-/
import Derived.Test.YtgkiaeddlahngaaGreatDoorCdPlain
import Derived.Test.YtgkiaeddlahngaaGreatDoorEvRowWords
import Derived.Test.YtgkiaeddlahngaaGreatDoorEvRow
namespace Go.Proofs.YtgkiaeddlahngaaGreatDoor
set_option linter.unusedVariables false
set_option linter.unusedSimpArgs false
open Go.RowKit

def fA (fs : List (Int × Int)) (j : Nat) : Int := (fs.getD j (0, 0)).1
def fV (fs : List (Int × Int)) (j : Nat) : Int := (fs.getD j (0, 0)).2
/-- cells of memory in a row -/
def CellsIn (w : World) (b off : Nat) (fs : List (Int × Int)) : Prop := ∀ j, j < fs.length → w.cell? ⟨b, off + j * 2, none⟩ = some (.int .u64 (fA fs j)) ∧ w.cell? ⟨b, off + j * 2 + 1, none⟩ = some (.int .u64 (fV fs j))
def ReadsF (w : World) (v : Value) (fs : List (Int × Int)) : Prop :=
  (EmptyS v ∧ fs = []) ∨ ∃ b off c, v = .slice (some ⟨b, off, none⟩) fs.length c ∧ fs.length ≤ c ∧ c ≤ 9223372036854775807 ∧ b < w.heap.size ∧ CellsIn w b off fs
theorem ReadsF.below {w w' : World} {v : Value} {fs : List (Int × Int)} (h : ReadsF w v fs) (hb : Below w.heap.size w w') : ReadsF w' v fs := by
  rcases h with h | ⟨b, off, c, e, h1, h2, h3, h4⟩
  · exact .inl h
  · exact .inr ⟨b, off, c, e, h1, h2, Nat.lt_of_lt_of_le h3 hb.size, fun j hj => ⟨(hb.cell (p := ⟨b, off + j * 2, none⟩) h3).trans (h4 j hj).1, (hb.cell (p := ⟨b, off + j * 2 + 1, none⟩) h3).trans (h4 j hj).2⟩⟩
theorem ReadsF.len {w : World} {v : Value} {fs : List (Int × Int)} (h : ReadsF w v fs) : ∃ a c, v = .slice a fs.length c := by
  rcases h with ⟨⟨a, c, rfl, _⟩, rfl⟩ | ⟨b, off, c, rfl, _⟩
  · exact ⟨a, c, rfl⟩
  · exact ⟨some ⟨b, off, none⟩, c, rfl⟩
/-- a hart's events -/
def RowV (w : World) (v : Value) (n : Nat) (ev : Nat → Ev) (el : Nat → El) : Prop := ∃ a c, v = .slice a n c ∧ n ≤ c ∧ (n = 0 ∨ ∃ b off, a = some ⟨b, off, none⟩ ∧ Rw n b off ev el w)
theorem RowV.below {w w' : World} {v : Value} {n : Nat} {ev : Nat → Ev} {el : Nat → El} (h : RowV w v n ev el) (hb : Below w.heap.size w w') : RowV w' v n ev el := by
  obtain ⟨a, c, e, hc, h⟩ := h
  rcases h with h | ⟨b, off, e2, h⟩
  · exact ⟨a, c, e, hc, .inl h⟩
  · exact ⟨a, c, e, hc, .inr ⟨b, off, e2, h.below hb⟩⟩
/-- so many harts' rows -/
structure HsIn (c : Cd) (k b off : Nat) (w : World) : Prop where
  each : ∀ h, h < k → ∃ v, w.cell? ⟨b, off + h, none⟩ = some v ∧ RowV w v (c.len h) (c.ev h) (c.el h)
  lt : 0 < k → b < w.heap.size
theorem HsIn.below {c : Cd} {k b off : Nat} {w w' : World} (h : HsIn c k b off w) (hb : Below w.heap.size w w') : HsIn c k b off w' :=
  ⟨fun j hj => by
    obtain ⟨v, h1, h2⟩ := h.each j hj
    exact ⟨v, (hb.cell (p := ⟨b, off + j, none⟩) (h.lt (by omega))).trans h1, h2.below hb⟩, fun hk => Nat.lt_of_lt_of_le (h.lt hk) hb.size⟩
theorem HsIn.less {c : Cd} {k m b off : Nat} {w : World} (h : HsIn c k b off w) (hm : m ≤ k) : HsIn c m b off w := ⟨fun j hj => h.each j (by omega), fun hp => h.lt (by omega)⟩
def HsAt (c : Cd) (k : Nat) (a : Option Addr) (w : World) : Prop := k = 0 ∨ ∃ b off, a = some ⟨b, off, none⟩ ∧ HsIn c k b off w
theorem HsAt.below {c : Cd} {k : Nat} {a : Option Addr} {w w' : World} (h : HsAt c k a w) (hb : Below w.heap.size w w') : HsAt c k a w' := by
  rcases h with h | ⟨b, off, e, h⟩
  · exact .inl h
  · exact .inr ⟨b, off, e, h.below hb⟩
theorem HsAt.less {c : Cd} {k m : Nat} {a : Option Addr} {w : World} (h : HsAt c k a w) (hm : m ≤ k) : HsAt c m a w := by
  rcases h with h | ⟨b, off, e, h⟩
  · exact .inl (by omega)
  · exact .inr ⟨b, off, e, h.less hm⟩
theorem HsAt.row {c : Cd} {k : Nat} {a : Option Addr} {w : World} (h : HsAt c k a w) (j : Nat) (hj : j < k) : ∃ b off a2 c2, a = some ⟨b, off, none⟩ ∧ w.cell? ⟨b, off + j, none⟩ = some (.slice a2 (c.len j) c2) ∧ b < w.heap.size ∧ RowV w (.slice a2 (c.len j) c2) (c.len j) (c.ev j) (c.el j) := by
  rcases h with h | ⟨b, off, e, h⟩
  · omega
  · obtain ⟨v, h1, h2⟩ := h.each j hj
    obtain ⟨a2, c2, rfl, h3⟩ := h2
    exact ⟨b, off, a2, c2, e, h1, h.lt (by omega), a2, c2, rfl, h3⟩
/-- a candidate's values -/
structure Cv where
  aF : Option Addr
  cF : Nat
  aH : Option Addr
  cH : Nat
  aR : Option Addr
  cR : Nat
  aO : Option Addr
  cO : Nat
@[reducible] def cdV (c : Cd) (q : Cv) : Value := .agg #[.slice q.aF c.fs.length q.cF, .slice q.aH c.nh q.cH, .slice q.aR c.fr.length q.cR, .slice q.aO c.od.length q.cO]
/-- a candidate -/
structure CAt (c : Cd) (q : Cv) (w : World) : Prop where
  first : ReadsF w (.slice q.aF c.fs.length q.cF) c.fs
  harts : HsAt c c.nh q.aH w
  cap : c.nh ≤ q.cH
  from_ : ReadsI w (.slice q.aR c.fr.length q.cR) c.fr
  order : ReadsI w (.slice q.aO c.od.length q.cO) c.od
theorem CAt.below {c : Cd} {q : Cv} {w w' : World} (h : CAt c q w) (hb : Below w.heap.size w w') : CAt c q w' :=
  ⟨h.first.below hb, h.harts.below hb, h.cap, h.from_.below hb, h.order.below hb⟩
/-- a candidate in a box -/
def CdAt (c : Cd) (q : Cv) (g : Nat) (w : World) : Prop := w.heap[g]? = some (.cells #[.slice q.aF c.fs.length q.cF, .slice q.aH c.nh q.cH, .slice q.aR c.fr.length q.cR, .slice q.aO c.od.length q.cO] 26 (0, 0))
theorem CdAt.lt {c : Cd} {q : Cv} {g : Nat} {w : World} (h : CdAt c q g w) : g < w.heap.size := (Array.getElem?_eq_some_iff.1 h).1
theorem CdAt.facts {c : Cd} {q : Cv} {g : Nat} {w : World} (h : CdAt c q g w) : w.cell? ⟨g, 0, none⟩ = some (.slice q.aF c.fs.length q.cF) ∧ w.cell? ⟨g, 1, none⟩ = some (.slice q.aH c.nh q.cH) ∧ w.cell? ⟨g, 2, none⟩ = some (.slice q.aR c.fr.length q.cR) ∧ w.cell? ⟨g, 3, none⟩ = some (.slice q.aO c.od.length q.cO) :=
  ⟨by rw [cell_of_row w g 0 _ _ _ h]; rfl, by rw [cell_of_row w g 1 _ _ _ h]; rfl, by rw [cell_of_row w g 2 _ _ _ h]; rfl, by rw [cell_of_row w g 3 _ _ _ h]; rfl⟩
theorem CdAt.on {c : Cd} {q : Cv} {g : Nat} {w w' : World} (h : CdAt c q g w) (hb : Below w.heap.size w w') : CdAt c q g w' := (hb.block g h.lt).trans h
theorem CdAt.new (c : Cd) (q : Cv) (w : World) : CdAt c q w.heap.size (w.alloc (.cells #[.slice q.aF c.fs.length q.cF, .slice q.aH c.nh q.cH, .slice q.aR c.fr.length q.cR, .slice q.aO c.od.length q.cO] 26)) := Array.getElem?_push_size
/-- an address and what is stored there, as words -/
def WordE (e : Ev) : Prop := (Lit.int .u64 e.addr).wf = true ∧ (Lit.int .u64 e.store).wf = true
/-- little in it; its numbers are words -/
structure Lt (c : Cd) : Prop where
  ew : ∀ h, h < c.nh → ∀ k, k < c.len h → WordE (c.ev h k)
  nh : c.nh ≤ 9
  n : c.N ≤ 60
  small : ∀ h, h < c.nh → c.len h ≤ 60 ∧ ∀ k, k < c.len h → small (c.el h k)
  fs : c.fs.length ≤ 60
  fr : c.fr.length ≤ 120
  od : c.od.length ≤ 120
  fw : ∀ j, j < c.fs.length → (0 ≤ fA c.fs j ∧ fA c.fs j < 18446744073709551616) ∧ (0 ≤ fV c.fs j ∧ fV c.fs j < 18446744073709551616)
theorem Lt.base {c : Cd} (h : Lt c) (k : Nat) (hk : k ≤ c.nh) : baseL c.len k ≤ 60 := Nat.le_trans (baseL_mono c.len k c.nh hk) h.n
end Go.Proofs.YtgkiaeddlahngaaGreatDoor
namespace Go.Proofs.YtgkiaeddlahngaaGreatDoor
set_option linter.unusedVariables false
set_option linter.unusedSimpArgs false

def rOk0 (e : Ev) : Bool := (decide (0 ≤ e.hart) && decide (e.hart < 8)) && decide (0 ≤ e.pos)
def rFen (e : Ev) (n : Int) : Bool := ((((((((((e.addr == 0) && (e.load == 0)) && (e.store == 0)) && !e.aq) && !e.rl) && (e.pair == 0)) && (n == 0)) && decide (0 ≤ e.pred)) && decide (e.pred ≤ 15)) && decide (0 ≤ e.succ)) && decide (e.succ ≤ 15)
def rMem1 (e : Ev) : Bool := ((((memE e && (e.addr % 8 == 0)) && (readsE e || (e.load == 0))) && (writesE e || (e.store == 0))) && (e.pred == 0)) && (e.succ == 0)
def rMem2 (e : Ev) : Bool := ((e.kind != 1) && (e.kind != 2)) || (!e.aq && !e.rl)
def rMem3 (e : Ev) : Bool := (((e.kind == 4) && decide (0 ≤ e.pair)) && decide (e.pair < e.pos)) || ((e.kind != 4) && (e.pair == 0))
def rMem4 (e : Ev) (l : El) : Bool := ((aheadB e.pos l.a && aheadB e.pos l.d) && aheadB e.pos l.y) && (writesE e || ((l.d.length : Int) == 0))
def rchk (e : Ev) (l : El) : Bool := if e.kind == 6 then rOk0 e && rFen e ((l.a.length : Int) + (l.d.length : Int) + (l.y.length : Int)) else (((rOk0 e && rMem1 e) && rMem2 e) && rMem3 e) && rMem4 e l
def PairFits (e : Ev) : Prop := -9223372036854775808 ≤ e.pair ∧ e.pair < 9223372036854775808
theorem wrap0 {x : Int} (h : -9223372036854775808 ≤ x ∧ x < 9223372036854775808) : IntKind.u64.wrap x = 0 ↔ x = 0 := by
  have e : IntKind.u64.wrap x = x % 18446744073709551616 := by simp [IntKind.wrap, IntKind.signed, IntKind.bits]
  rw [e]
  omega
theorem wrapN {n : Nat} (h : n ≤ 100000) : IntKind.u64.wrap (n : Int) = 0 ↔ n = 0 := by rw [wrap0 (by omega)]; omega
theorem hold_is (F : Nat) (ns : List Int) : holdB F ns = (okAt F ns 0 && (okAt F ns 1 && (okAt F ns 2 && (okAt F ns 3 && (okAt F ns 4 && (okAt F ns 5 && (okAt F ns 6 && (okAt F ns 7 && (okAt F ns 8 && (okAt F ns 9 && (okAt F ns 10 && (okAt F ns 11 && (okAt F ns 12 && (okAt F ns 13 && true)))))))))))))) := rfl
theorem all_is (p : Int) (l : El) : aheadAll p (fun k => if k = 0 then l.a else if k = 1 then l.d else l.y) = (aheadB p l.a && (aheadB p l.d && (aheadB p l.y && true))) := rfl
theorem bit0 (b : Bool) : bitI b = 0 ↔ b = false := by cases b <;> simp [bitI]
theorem nil_of {l : List Int} (h : l.length = 0) : l = [] := List.length_eq_zero_iff.1 h
theorem rchk_eq (e : Ev) (l : El) (hp : PairFits e) (hn : l.n) : rchk e l = chkE e l := by
  have p0 := wrap0 hp
  have a0 := wrapN hn.1
  have d0 := wrapN hn.2.1
  have y0 := wrapN hn.2.2
  have q1 : 0 ≤ e.pred ∧ e.pred < 16 → (IntKind.u64.wrap e.pred = 0 ↔ e.pred = 0) := fun h => wrap0 (by omega)
  have q2 : 0 ≤ e.succ ∧ e.succ < 16 → (IntKind.u64.wrap e.succ = 0 ↔ e.succ = 0) := fun h => wrap0 (by omega)
  have b1 := bit0 e.aq
  have b2 := bit0 e.rl
  have hnil : ∀ x : List Int, x.length = 0 → aheadB e.pos x = true := fun x hx => by rw [nil_of hx]; rfl
  have ha := hnil l.a
  have hd := hnil l.d
  have hy := hnil l.y
  clear hnil
  rw [Bool.eq_iff_iff]
  have hk : e.kind = 1 ∨ e.kind = 2 ∨ e.kind = 3 ∨ e.kind = 4 ∨ e.kind = 5 ∨ e.kind = 6 ∨ (e.kind ≠ 1 ∧ e.kind ≠ 2 ∧ e.kind ≠ 3 ∧ e.kind ≠ 4 ∧ e.kind ≠ 5 ∧ e.kind ≠ 6) := by omega
  unfold chkE rchk
  rw [hold_is, all_is]
  rcases hk with hk | hk | hk | hk | hk | hk | ⟨k1, k2, k3, k4, k5, k6⟩
  all_goals simp [okAt, hasB, fieldsOf, numsL, atI, withinB, rOk0, rFen, rMem1, rMem2, rMem3, rMem4, memE, readsE, writesE, p0, a0, d0, y0, b1, b2, *]
  all_goals grind
/-- the last load-reserved with no other and no store-conditional behind it -/
def LastAt (ev : Nat → Ev) (k : Nat) (last : Int) : Prop := -1 ≤ last ∧ last < k ∧ ∀ p : Nat, p < k → (((ev p).kind = 3 ∧ ∀ j, p < j → j < k → (ev j).kind ≠ 3 ∧ (ev j).kind ≠ 4) ↔ (p : Int) = last)
theorem last_at {hart : Int} {ev : Nat → Ev} {el : Nat → El} : ∀ (k : Nat) (last : Int), rowL hart ev el k = some last → LastAt ev k last := by
  intro k
  induction k with
  | zero =>
    intro last h
    obtain rfl : (-1 : Int) = last := by injection h
    exact ⟨by omega, by omega, fun p hp => absurd hp (by omega)⟩
  | succ k ih =>
    intro last h
    cases hr : rowL hart ev el k with
    | none =>
      rw [rowL_none hart ev el k hr (k + 1) (by omega)] at h
      cases h
    | some l0 =>
      obtain ⟨i1, i2, i3⟩ := ih l0 hr
      rw [rowL_step hr] at h
      unfold rowStep at h
      split at h
      · cases h
      split at h
      · cases h
      split at h
      · cases h
      split at h
      · rename_i h3
        obtain rfl : (k : Int) = last := by injection h
        refine ⟨by omega, by omega, fun p hp => ⟨fun ⟨a, b⟩ => ?_, fun e => ?_⟩⟩
        · by_cases hpk : p = k
          · rw [hpk]
          · exact absurd h3 (b k (by omega) (by omega)).1
        · obtain rfl : p = k := by omega
          exact ⟨h3, fun j hj hj' => absurd hj (by omega)⟩
      rename_i h3
      split at h
      · rename_i h4
        split at h
        · cases h
        split at h
        · cases h
        obtain rfl : (-1 : Int) = last := by injection h
        refine ⟨by omega, by omega, fun p hp => ⟨fun ⟨a, b⟩ => ?_, fun e => absurd e (by omega)⟩⟩
        by_cases hpk : p = k
        · rw [hpk] at a; exact absurd a h3
        · exact absurd h4 (b k (by omega) (by omega)).2
      · rename_i h4
        obtain rfl : l0 = last := by injection h
        refine ⟨i1, by omega, fun p hp => ⟨fun ⟨a, b⟩ => ?_, fun e => ?_⟩⟩
        · by_cases hpk : p = k
          · rw [hpk] at a; exact absurd a h3
          · exact (i3 p (by omega)).1 ⟨a, fun j hj hj' => b j hj (by omega)⟩
        · obtain ⟨a, b⟩ := (i3 p (by omega)).2 e
          refine ⟨a, fun j hj hj' => ?_⟩
          by_cases hjk : j = k
          · rw [hjk]; exact ⟨h3, h4⟩
          · exact b j hj (by omega)
end Go.Proofs.YtgkiaeddlahngaaGreatDoor
