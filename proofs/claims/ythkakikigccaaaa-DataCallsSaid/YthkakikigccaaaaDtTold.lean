/-
  Proved here: both Lays tell the same of the same pieces; what Find and At tell is a seat and numbers; a box holds a seat. Condition: numbers of 64 bits, at most 40 pieces.
-/
import Derived.Test.YthkakikigccaaaaDtSame
import Derived.Test.YthkakikigccaaaaDtRLay
namespace Go.Proofs.Ythkakikigccaaaa
open Go.RowKit Go.Lib
set_option linter.unusedVariables false
set_option linter.unusedSimpArgs false

/-- the seats that Lay tells -/
def layZ (l : List Pc) : List Se := if ckE l = 0 then seatsL (layL l) else []
def LayIs (l : List Pc) (w : World) (e : Ending) (w' : World) : Prop := ∃ (b : Option Addr) (cc : Nat), e = .returned (.tuple #[.slice b (layZ l).length cc, .int .i64 (ckE l)]) ∧ Sm w' b (layZ l) ∧ Below w.heap.size w w'
theorem layZ_len {l : List Pc} (hn : l.length ≤ 40) : (layZ l).length ≤ 1000 := by
  unfold layZ
  split
  · rename_i he
    rw [seatsL_len, lay_len (up_all (ck_up he))]; omega
  · simp
theorem Lay_is (a : Option Addr) (c : Nat) (l : List Pc) (w : World) (hn : l.length ≤ 40) (hl : Sl w a l) (hw : ∀ p ∈ l, PcW p) :
    Calls Try.prog 7 #[.slice a l.length c] w (LayIs l w) := by
  by_cases he : ckE l = 0
  · have hz : layZ l = seatsL (layL l) := if_pos he
    refine (Lay_good a c l w hn hl hw he).mono ?_
    rintro e w' ⟨B, d, z, rfl, h1, h2, h3, h4, h5, h6⟩
    rw [lay_unique (up_all (ck_up he)) h5] at h4
    have hlen : (layZ l).length = l.length := by rw [hz, seatsL_len, lay_len (up_all (ck_up he))]
    refine ⟨some ⟨B, 0, none⟩, l.length, by rw [hlen, he], .inr ⟨B, 0, rfl, ⟨fun k hk => ?_, h2⟩⟩, h6⟩
    have hd : k < d.size := by
      have := congrArg List.length h4
      rw [← hz] at this
      simp only [Array.length_toList] at this; omega
    have q := (HoldsK.four h3 hd).1
    have e0 : (layZ l)[k] = d[k]! := by
      have : (layZ l)[k]? = d[k]? := by rw [hz, ← h4, Array.getElem?_toList]
      rw [List.getElem?_eq_getElem hk, Array.getElem?_eq_getElem hd] at this
      simp only [Option.some.injEq] at this
      rw [this]; simp [getElem!_def, hd]
    rw [e0]
    simp only [Nat.zero_add]
    exact ⟨⟨q.1, q.2.1, q.2.2.1⟩, q.2.2.2⟩
  · have hz : layZ l = [] := if_neg he
    refine (Lay_bad a c l w (by unfold maxLen; omega) hl hw _ rfl he).mono ?_
    rintro e w' ⟨rfl, hb⟩
    exact ⟨none, 0, by rw [hz]; rfl, .inl hz, hb⟩
theorem rLay_is (a : Option Addr) (c : Nat) (l : List Pc) (w : World) (hn : l.length ≤ 40) (hl : Sl w a l) (hw : ∀ p ∈ l, PcW p) :
    Calls Try.prog 17 #[.slice a l.length c] w (LayIs l w) := by
  by_cases he : ckE l = 0
  · have hz : layZ l = seatsL (layL l) := if_pos he
    have hlen : (layZ l).length = l.length := by rw [hz, seatsL_len, lay_len (up_all (ck_up he))]
    refine (rLay_good a c l w hn hl hw he).mono ?_
    rintro e w' ⟨b, cc, rfl, h1, h2⟩
    exact ⟨b, cc, by rw [hlen, he], by rw [hz]; exact h1, h2⟩
  · have hz : layZ l = [] := if_neg he
    refine (rLay_bad a c l w (by unfold maxLen; omega) hl hw _ rfl he).mono ?_
    rintro e w' ⟨rfl, hb⟩
    exact ⟨none, 0, by rw [hz]; rfl, .inl hz, hb⟩
theorem find_is (l : List Se) (nm : ByteArray) (h : Int) : ∃ (s : Se) (e : Int), findV l nm h = .tuple #[.agg #[.string s.p.name, .int .i64 s.p.size, .int .i64 s.p.hart, .int .u64 s.addr], .int .i64 e] := by
  unfold findV
  split
  · exact ⟨⟨⟨⟨#[]⟩, 0, 0⟩, 0⟩, 6, rfl⟩
  · rename_i s _; exact ⟨s, 0, rfl⟩
theorem at_is (l : List Se) (addr : Int) : ∃ (s : Se) (k e : Int), atV l addr = .tuple #[.agg #[.string s.p.name, .int .i64 s.p.size, .int .i64 s.p.hart, .int .u64 s.addr], .int .i64 k, .int .i64 e] := by
  unfold atV
  split
  · exact ⟨⟨⟨⟨#[]⟩, 0, 0⟩, 0⟩, 0, 6, rfl⟩
  · rename_i s _; exact ⟨s, _, 0, rfl⟩
/-- a box with a seat -/
structure BoxS (g : Nat) (s : Se) (W : World) : Prop where
  n : W.cell? ⟨g, 0, none⟩ = some (.string s.p.name)
  z : W.cell? ⟨g, 1, none⟩ = some (.int .i64 s.p.size)
  h : W.cell? ⟨g, 2, none⟩ = some (.int .i64 s.p.hart)
  a : W.cell? ⟨g, 3, none⟩ = some (.int .u64 s.addr)
  lt : g < W.heap.size
theorem BoxS.on {g : Nat} {s : Se} {W W2 : World} (h : BoxS g s W) (hb : Below W.heap.size W W2) : BoxS g s W2 :=
  ⟨(hb.cell (p := ⟨g, 0, none⟩) h.lt).trans h.n, (hb.cell (p := ⟨g, 1, none⟩) h.lt).trans h.z, (hb.cell (p := ⟨g, 2, none⟩) h.lt).trans h.h, (hb.cell (p := ⟨g, 3, none⟩) h.lt).trans h.a, Nat.lt_of_lt_of_le h.lt hb.size⟩
theorem box_new (W : World) (s : Se) (v0 v1 v2 v3 : Value) : BoxS W.heap.size s (((((W.alloc (.cells #[v0, v1, v2, v3] 34)).setCell ⟨W.heap.size, 0, none⟩ (.string s.p.name)).setCell ⟨W.heap.size, 1, none⟩ (.int .i64 s.p.size)).setCell ⟨W.heap.size, 2, none⟩ (.int .i64 s.p.hart)).setCell ⟨W.heap.size, 3, none⟩ (.int .u64 s.addr)) := by
  obtain ⟨t0, t1, t2, t3⟩ := set_four (w := W.alloc (.cells #[v0, v1, v2, v3] 34)) (g := W.heap.size) (by simp; rfl) (by simp; rfl) (by simp; rfl) (by simp; rfl) (.string s.p.name) (.int .i64 s.p.size) (.int .i64 s.p.hart) (.int .u64 s.addr)
  refine ⟨?_, ?_, ?_, t3, by simp⟩
  · rw [World.cell?_setCell_other _ _ _ _ (by simp), World.cell?_setCell_other _ _ _ _ (by simp), World.cell?_setCell_other _ _ _ _ (by simp)]; exact t0
  · rw [World.cell?_setCell_other _ _ _ _ (by simp), World.cell?_setCell_other _ _ _ _ (by simp)]; exact t1
  · rw [World.cell?_setCell_other _ _ _ _ (by simp)]; exact t2
theorem box_below (W : World) (s : Se) (v0 v1 v2 v3 : Value) : Below W.heap.size W (((((W.alloc (.cells #[v0, v1, v2, v3] 34)).setCell ⟨W.heap.size, 0, none⟩ (.string s.p.name)).setCell ⟨W.heap.size, 1, none⟩ (.int .i64 s.p.size)).setCell ⟨W.heap.size, 2, none⟩ (.int .i64 s.p.hart)).setCell ⟨W.heap.size, 3, none⟩ (.int .u64 s.addr)) :=
  below_four (one_below W _) (Nat.le_refl _) _ _ _ _
end Go.Proofs.Ythkakikigccaaaa
