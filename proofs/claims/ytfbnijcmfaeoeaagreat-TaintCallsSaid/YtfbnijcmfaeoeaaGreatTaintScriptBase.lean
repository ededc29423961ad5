/-
  Proved here: a slice of instructions and a slice of bools that come in as arguments are rows of them. No condition.
  Proved here: words for TaintScript: the law's two taints, a step's two boxes, whole boxes stored. No condition.
-/
import Derived.Test.YtfbnijcmfaeoeaaGreatCodeArg
import Derived.Test.YtfbnijcmfaeoeaaGreatTaintWay
import Derived.Deep.Slices
import Derived.Test.YtfbnijcmfaeoeaaGreatRef06Base
import Derived.Test.YtfbnijcmfaeoeaaGreatRef06Step
import Derived.Test.YtfbnijcmfaeoeaaGreatTaintLocalBase
namespace Go.Proofs.YtfbnijcmfaeoeaaGreat
section
open Go.ChangeShapes Go.WideShapes Go.ChangeAt Go.RowKit Go.Deep

/-- an instruction within a block -/
def InsIn (i : Ins) (b o : Nat) (w : World) : Prop := ∀ (j : Nat) (v : Value), (insCells i)[j]? = some v → w.cell? ⟨b, o + j, none⟩ = some v
def FitIns (i : Ins) : Prop := -9223372036854775808 ≤ i.imm ∧ i.imm ≤ 9223372036854775807
/-- instructions in a row -/
def InsRow (w : World) (a : Option Addr) (n : Nat) (is : Nat → Ins) : Prop := ∀ k, k < n → ∃ b off, a = some ⟨b, off, none⟩ ∧ b < w.heap.size ∧ InsIn (is k) b (off + k * 9) w ∧ FitIns (is k)
/-- bools in a row -/
def BoolRow (w : World) (a : Option Addr) (n : Nat) (bs : Nat → Bool) : Prop := ∀ k, k < n → ∃ b off, a = some ⟨b, off, none⟩ ∧ b < w.heap.size ∧ w.cell? ⟨b, off + k, none⟩ = some (.bool (bs k))
theorem InsIn.below {i : Ins} {b o : Nat} {w w' : World} (h : InsIn i b o w) (hb : Below w.heap.size w w') (hl : b < w.heap.size) : InsIn i b o w' := fun j v hv => (hb.cell (p := ⟨b, o + j, none⟩) hl).trans (h j v hv)
theorem InsRow.on {w w' : World} {a : Option Addr} {n : Nat} {is : Nat → Ins} (h : InsRow w a n is) (hb : Below w.heap.size w w') : InsRow w' a n is := fun k hk => by
  obtain ⟨b, off, e, h1, h2, h3⟩ := h k hk
  exact ⟨b, off, e, Nat.lt_of_lt_of_le h1 hb.size, h2.below hb h1, h3⟩
theorem BoolRow.on {w w' : World} {a : Option Addr} {n : Nat} {bs : Nat → Bool} (h : BoolRow w a n bs) (hb : Below w.heap.size w w') : BoolRow w' a n bs := fun k hk => by
  obtain ⟨b, off, e, h1, h2⟩ := h k hk
  exact ⟨b, off, e, Nat.lt_of_lt_of_le h1 hb.size, (hb.cell (p := ⟨b, off + k, none⟩) h1).trans h2⟩
theorem run_load_in {P : Program} (w : World) (b o : Nat) (ty : TypeId) (ds : Array Value) (d : TypeDesc) (hc : ∀ (j : Nat) (v : Value), ds[j]? = some v → w.cell? ⟨b, o + j, none⟩ = some v)
    (hu : P.underlying ty = some d) (hd : (match d with | .struct _ | .array _ _ => true | _ => false) = true) (hi : (P.info? ty).map (·.size) = some ds.size) :
    (loadVar ty ⟨b, o, none⟩).run P w = .ok (.agg ds) w := by
  have hl : (loadCells ⟨b, o, none⟩ ds.toList.length).run P w = .ok ds.toList.toArray w :=
    run_loadCells_list (P := P) w ⟨b, o, none⟩ ds.toList (fun j v hv => by
      have hadd : (⟨b, o, none⟩ : Addr).add j = ⟨b, o + j, none⟩ := by unfold Addr.add; split <;> simp_all
      rw [hadd]
      exact hc j v (by simpa using hv))
  cases hq : P.info? ty with
  | none => simp [hq] at hi
  | some i =>
    have hs : i.size = ds.size := by simpa [hq] using hi
    have hagg : (isAgg ty).run P w = .ok true w := by
      unfold isAgg
      rw [Sem.run_bind, run_underlying hu w]
      cases d <;> simp_all
    simp only [Array.length_toList, Array.toArray_toList] at hl
    simp [loadVar, Sem.run_bind, hagg, sizeOf, typeInfo, hq, hs, hl]
theorem run_LoadI_in {i : Ins} {b o : Nat} {w : World} (H : InsIn i b o w) : (LoadI (.pointer (some ⟨b, o, none⟩))).run Tryz.prog w = .ok i.V w := by
  unfold LoadI Instr.loadAt Instr.sureAddr
  simp only [Sem.run_bind, Sem.run_pure, Result.andThen_ok, run_load_in w b o 27 (insCells i) _ H Tryz.underlying27 rfl (by as_aux_lemma => kernel_rfl)]
theorem InsIn.op {i : Ins} {b o : Nat} {w : World} (h : InsIn i b o w) : w.cell? ⟨b, o, none⟩ = some (.int .i64 i.op) := h 0 _ rfl
section
variable {H : Type} {enc : TypeId × Value → H} {w : World} {base : Nat} {held : Bool}
set_option maxRecDepth 100000 in
theorem probe_ins {fuel : Nat} {cs : List Value} {x : DataW H × List MemPlace} (h : DataW.trod enc Tryz.prog w base (fun _ => true) held fuel 27 cs = some x) : ∃ i : Ins, cs = (insCells i).toList ∧ FitIns i := by
  obtain ⟨xs, n, _, hx, hcl, hl, hq⟩ := DataW.trod_struct Tryz.underlying27 h
  rw [cells_ins] at hcl
  obtain ⟨x0, x1, x2, x3, x4, x5, x6, x7, x8, rfl⟩ := nine_xs (show xs.length = 9 from hl)
  have q0 := hq 0 _ rfl; have q1 := hq 1 _ rfl; have q2 := hq 2 _ rfl; have q3 := hq 3 _ rfl; have q4 := hq 4 _ rfl; have q5 := hq 5 _ rfl; have q6 := hq 6 _ rfl; have q7 := hq 7 _ rfl; have q8 := hq 8 _ rfl
  simp only [List.getElem?_cons_zero, List.getElem?_cons_succ] at q0 q1 q2 q3 q4 q5 q6 q7 q8
  clear hq h
  obtain ⟨n0, e0, _, w0⟩ := DataW.trod_int Tryz.underlying3 q0
  obtain ⟨n1, e1, _, w1⟩ := DataW.trod_int Tryz.underlying3 q1
  obtain ⟨n2, e2, _, w2⟩ := DataW.trod_int Tryz.underlying3 q2
  obtain ⟨n3, e3, _, w3⟩ := DataW.trod_int Tryz.underlying3 q3
  obtain ⟨n4, e4, _, w4⟩ := DataW.trod_int Tryz.underlying2 q4
  obtain ⟨b5, e5, _⟩ := DataW.trod_bool Tryz.underlying4 q5
  obtain ⟨b6, e6, _⟩ := DataW.trod_bool Tryz.underlying4 q6
  obtain ⟨n7, e7, _, w7⟩ := DataW.trod_int Tryz.underlying3 q7
  obtain ⟨n8, e8, _, w8⟩ := DataW.trod_int Tryz.underlying3 q8
  have hc := nine_of (l := cs) hcl _ _ _ _ _ _ _ _ _ e0 e1 e2 e3 e4 e5 e6 e7 e8
  exact ⟨⟨n0, n1, n2, n3, n4, b5, b6, n7, n8⟩, hc, bounds_i64 w4⟩
theorem cells_bool1 : Tryz.prog.cellsOf 4 = 1 := by kernel_rfl
/-- a slice of bools that came in -/
theorem open_bools {fuel : Nat} {a : Option Addr} {len cap : Nat} {x : DataW H × List MemPlace} (h : DataW.trod enc Tryz.prog w base (fun _ => true) held fuel 76 [.slice a len cap] = some x) : ∃ bs, BoolRow w a len bs := by
  rcases open_slice1 Tryz.underlying76 cells_bool1 h with ⟨hcs, _⟩ | ⟨y, l, c, m, n, V, D, Pl, hcs, _, hl, _, hm, _, hi⟩
  · simp at hcs
    obtain ⟨rfl, rfl, rfl⟩ := hcs
    exact ⟨fun _ => false, fun k hk => absurd hk (by omega)⟩
  · simp at hcs
    obtain ⟨rfl, rfl, rfl⟩ := hcs
    have hlm : len ≤ m := by rw [hm]; split <;> omega
    have each : ∀ i, ∃ p : Bool, i < len → w.cell? (y.add i) = some (.bool p) := by
      intro i
      by_cases hil : i < len
      · obtain ⟨hc, ht⟩ := hi i (by omega)
        obtain ⟨p, hp, _⟩ := DataW.trod_bool Tryz.underlying4 ht
        refine ⟨p, fun _ => ?_⟩
        rw [hc]
        simp at hp
        rw [hp]
      · exact ⟨false, fun h => absurd h hil⟩
    obtain ⟨f, hf⟩ := Classical.axiomOfChoice each
    obtain ⟨b, off, spot⟩ := y
    refine ⟨f, fun k hk => ?_⟩
    have hc := hf k hk
    have hspot : spot = none := by simpa [Addr.add] using World.cell?_spot (hf 0 (by omega))
    subst hspot
    rw [Addr.add_lit] at hc
    exact ⟨b, off, rfl, World.block_lt_of_cell? w _ hc, hc⟩
end
end
section
set_option linter.unusedVariables false
open Go.RowKit

theorem Below.al {w W : World} (h : Below w.heap.size w W) (o : Obj) : Below w.heap.size w (W.alloc o) := h.alloc h.size o
theorem Below.dr {w W : World} (h : Below w.heap.size w W) : Below w.heap.size w W.drew := h.drew
theorem Below.tr {w W W2 : World} (h : Below w.heap.size w W) (hb : Below W.heap.size W W2) : Below w.heap.size w W2 := h.trans (hb.mono h.size)
theorem Below.ro {w W : World} {g : Nat} {cs : Array Value} (h : Below w.heap.size w W) (hg : w.heap.size ≤ g) : Below w.heap.size w (W.setRow g cs) := h.trans (below_setRow.mono hg)
theorem ReadsI.setRow {W : World} {v : Value} {zs : List Int} (h : ReadsI W v zs) (g : Nat) (cs : Array Value) (hg : zs = [] ∨ v.ownBlock ≠ some g) : ReadsI (W.setRow g cs) v zs := by
  rcases h with h | ⟨b, off, c, e, h1, h2, h3, h4⟩
  · exact .inl h
  · subst e
    rcases hg with rfl | hg
    · exact .inl ⟨⟨_, _, rfl, fun e => by cases e⟩, rfl⟩
    have hne : b ≠ g := fun e => hg (by simp [Value.ownBlock, e])
    refine .inr ⟨b, off, c, rfl, h1, h2, by rw [setRow_size]; exact h3, fun j hj => ?_⟩
    rw [← h4 j hj]
    exact World.cell?_of_block (setRow_other W g b cs hne)
theorem TReads.setRow {W : World} {t t0 : Ta} {l l0 : Tl} {g : Nat} {T : TypeId} (h : TReads W t l) (cs : Array Value) (H : TAt T t0 g W) (h0 : TReads W t0 l0) : TReads (W.setRow g cs) t l :=
  ⟨fun k hk => (h.1 k hk).setRow g cs (apartT (h.1 k hk) H h0), h.2.setRow g cs (apartT h.2 H h0)⟩
/-- the law's two taints: the program's, the document's -/
structure Scr (w0 : World) (p : Nat) (t o : Ta) (l : Tl) (n : Nat) (W : World) : Prop where
  b0 : TAt 25 t p W
  b1 : TAt 25 o (p + 1) W
  r0 : TReads W t l
  r1 : TReads W o l
  ok : l.ok = true
  un : l.under (n : Int)
  low : Below w0.heap.size w0 W
  hp : w0.heap.size ≤ p
theorem Scr.on {w0 W W2 : World} {p : Nat} {t o : Ta} {l : Tl} {n : Nat} (h : Scr w0 p t o l n W) (hb : Below W.heap.size W W2) : Scr w0 p t o l n W2 :=
  ⟨h.b0.below hb h.b0.lt, h.b1.below hb h.b1.lt, h.r0.below hb, h.r1.below hb, h.ok, h.un, h.low.trans (hb.mono h.low.size), h.hp⟩
theorem Scr.more {w0 W : World} {p : Nat} {t o : Ta} {l : Tl} {n m : Nat} (h : Scr w0 p t o l n W) (hm : n ≤ m) : Scr w0 p t o l m W := ⟨h.b0, h.b1, h.r0, h.r1, h.ok, under_mono h.un (by omega), h.low, h.hp⟩
/-- both are stored anew -/
theorem Scr.next {w0 W : World} {p : Nat} {t o t2 o2 : Ta} {l l2 : Tl} {n m : Nat} (h : Scr w0 p t o l n W) (h0 : TReads W t2 l2) (h1 : TReads W o2 l2) (hok : l2.ok = true) (hun : l2.under (m : Int)) :
    Scr w0 p t2 o2 l2 m ((W.setRow p (tC t2)).setRow (p + 1) (tC o2)) := by
  have a1 := h0.setRow (tC t2) h.b0 h.r0
  have a2 := h1.setRow (tC t2) h.b0 h.r0
  have a3 := h.r1.setRow (tC t2) h.b0 h.r0
  have b1 : TAt 25 o (p + 1) (W.setRow p (tC t2)) := (setRow_other W p (p + 1) _ (by omega)).trans h.b1
  refine ⟨(setRow_other _ _ _ _ (by omega)).trans (TAt.setRow h.b0), TAt.setRow b1, a1.setRow _ b1 a3, a2.setRow _ b1 a3, hok, hun, (h.low.trans (below_setRow.mono h.hp)).trans (below_setRow.mono (by have := h.hp; omega)), h.hp⟩
theorem Scr.runs {w0 W : World} {p : Nat} {t o t2 o2 : Ta} {l l2 : Tl} {n : Nat} (h : Scr w0 p t o l n W) (h0 : TReads W t2 l2) (h1 : TReads W o2 l2) :
    (StoreT (.pointer (some ⟨p, 0, none⟩)) t2.V).run Tryz.prog W = .ok () (W.setRow p (tC t2)) ∧
    (StoreT (.pointer (some ⟨p + 1, 0, none⟩)) o2.V).run Tryz.prog (W.setRow p (tC t2)) = .ok () ((W.setRow p (tC t2)).setRow (p + 1) (tC o2)) :=
  ⟨run_StoreT h.b0 h0.flat, run_StoreT ((setRow_other W p (p + 1) _ (by omega)).trans h.b1) h1.flat⟩
/-- a step's two boxes, made behind world W0 -/
structure Bx (W0 : World) (l2 : Tl) (al dl yl : List Int) (p q : Nat) (tx : Ta) (ta td ty : Value) (W : World) : Prop where
  bel : Below W0.heap.size W0 W
  x : TAt 25 tx p W
  d : DAt ta td ty q W
  rx : TReads W tx l2
  ra : ReadsI W ta al
  rd : ReadsI W td dl
  ry : ReadsI W ty yl
  low : W0.heap.size ≤ p ∧ W0.heap.size ≤ q
theorem Bx.on {W0 W W2 : World} {l2 : Tl} {al dl yl : List Int} {p q : Nat} {tx : Ta} {ta td ty : Value} (h : Bx W0 l2 al dl yl p q tx ta td ty W) (hb : Below W.heap.size W W2) : Bx W0 l2 al dl yl p q tx ta td ty W2 :=
  ⟨Below.tr h.bel hb, h.x.below hb h.x.lt, h.d.below hb h.d.lt, h.rx.below hb, h.ra.below hb, h.rd.below hb, h.ry.below hb, h.low⟩
theorem Bx.of {W0 w4 W : World} {l2 : Tl} {al dl yl : List Int} {p q n : Nat} {tx : Ta} {ta td ty : Value} (hB : Below W0.heap.size W0 W) (hx : TAt 25 tx p W) (hd : DAt ta td ty q W) (hT : TReadsN n w4 tx l2) (hD : DepsN n w4 ta td ty al dl yl)
    (hz : w4.heap.size ≤ W.heap.size) (hk : ∀ j, n ≤ j → j < w4.heap.size → W.heap[j]? = w4.heap[j]?) (hp : W0.heap.size ≤ p) (hq : W0.heap.size ≤ q) : Bx W0 l2 al dl yl p q tx ta td ty W :=
  ⟨hB, hx, hd, ⟨fun k hk2 => reads_kept5 (hT.1 k hk2) hz hk, reads_kept5 hT.2 hz hk⟩, reads_kept5 hD.1 hz hk, reads_kept5 hD.2.1 hz hk, reads_kept5 hD.2.2 hz hk, hp, hq⟩
theorem two15 {W0 W : World} {t : Ta} {p b o : Nat} {i : Ins} (hB : Below W0.heap.size W0 W) (h : TAt 25 t p W0) (hi : InsIn i b o W0) (hl : b < W0.heap.size) :
    (LoadT (.pointer (some ⟨p, 0, none⟩))).run Tryz.prog W = .ok t.V W ∧ (LoadI (.pointer (some ⟨b, o, none⟩))).run Tryz.prog W = .ok i.V W :=
  ⟨run_LoadT (h.below hB h.lt), run_LoadI_in (hi.below hB hl)⟩
theorem two20 {W : World} {tx ox : Ta} {p q g h : Nat} {cs ds : Array Value} (H : TAt 25 tx g W) (H2 : TAt 25 ox h W) (h1 : g ≠ p) (h2 : h ≠ p) :
    (LoadT (.pointer (some ⟨g, 0, none⟩))).run Tryz.prog (W.setRow p cs) = .ok tx.V (W.setRow p cs) ∧ (LoadT (.pointer (some ⟨h, 0, none⟩))).run Tryz.prog (W.setRow p cs) = .ok ox.V (W.setRow p cs) :=
  ⟨run_LoadT ((setRow_other _ _ _ _ h1).trans H), run_LoadT ((setRow_other _ _ _ _ h2).trans H2)⟩
theorem two20b {W : World} {tx ox : Ta} {p g h : Nat} {cs ds : Array Value} (H : TAt 25 tx g W) (H2 : TAt 25 ox h W) (h1 : g ≠ p ∧ g ≠ p + 1) (h2 : h ≠ p ∧ h ≠ p + 1) :
    (LoadT (.pointer (some ⟨g, 0, none⟩))).run Tryz.prog ((W.setRow p cs).setRow (p + 1) ds) = .ok tx.V ((W.setRow p cs).setRow (p + 1) ds) ∧ (LoadT (.pointer (some ⟨h, 0, none⟩))).run Tryz.prog ((W.setRow p cs).setRow (p + 1) ds) = .ok ox.V ((W.setRow p cs).setRow (p + 1) ds) :=
  ⟨run_LoadT ((setRow_other _ _ _ _ h1.2).trans ((setRow_other _ _ _ _ h1.1).trans H)), run_LoadT ((setRow_other _ _ _ _ h2.2).trans ((setRow_other _ _ _ _ h2.1).trans H2))⟩
/-- what one step makes of both: the same lists, the same answer -/
structure StepIs (l : Tl) (i : Ins) (ev : Int) (m : Nat) (l2 : Tl) (al dl yl : List Int) (err : Int) : Prop where
  prog : ∀ (t : Ta) (W : World), TReads W t l → Calls Tryz.prog 6 #[t.V, i.V, .int .i64 ev] W fun e w' => StepOk W l2 al dl yl err e w'
  doc : ∀ (t : Ta) (W : World), TReads W t l → Calls Tryz.prog 8 #[t.V, i.V, .int .i64 ev] W fun e w' => StepOk W l2 al dl yl err e w'
  errs : (err = 0 ∧ l2.ok = true ∧ l2.under (m : Int)) ∨ err = 2
  short : l2.short
  lens : al.length ≤ 10000 ∧ dl.length ≤ 10000 ∧ yl.length ≤ 10000
theorem hang_under {l : Tl} {n : Nat} (h : l.under (n : Int)) (hok : l.ok = true) (rs : List Int) : (hangL l rs).length ≤ n := under_len _ n (rises_hang l (ok_x hok) rs) (under_hang h rs)
theorem zero_short : zeroTl.short := ⟨fun k _ => by rw [zeroTl_x]; simp, by show ([] : List Int).length ≤ 10000; simp⟩
theorem step_is (l : Tl) (i : Ins) (ev : Int) (n m : Nat) (hok : l.ok = true) (hun : l.under (n : Int)) (hn : n ≤ 1000) (hnm : n ≤ m) (hm : m ≤ 1000) (hev : ev < (m : Int)) (him : FitIns i) :
    ∃ (l2 : Tl) (al dl yl : List Int) (err : Int), StepIs l i ev m l2 al dl yl err := by
  have hs : l.short := under_short hun hok (by omega)
  cases hk : stepOkB l i ev
  · refine ⟨zeroTl, [], [], [], 2, ⟨fun t W h => step_bad t l i ev W h hs (Lib.hid hk), fun t W h => ?_, .inr rfl, zero_short, by simp, by simp, by simp⟩⟩
    have := rStep_any t l i ev W h hs him
    unfold stepRow at this
    rw [hk] at this; exact this
  · obtain ⟨h1, h2, h3⟩ := step_may hk
    have hrd : 0 ≤ i.rd ∧ i.rd < 32 := by have := (may_of i h2).rd; omega
    have hu := under_behind (under_mono hun (by omega : (n : Int) ≤ (m : Int))) i ev hev hrd
    have ho := behind_ok l i ev h3 hrd h1
    refine ⟨behindL l i ev, addrL l i, dataL l i, l.way, 0, ⟨fun t W h => step_ok t l i ev W h hs (Lib.hid hk), fun t W h => ?_, .inl ⟨rfl, ho, hu⟩, under_short hu ho (by omega), ?_, ?_, ?_⟩⟩
    · have := rStep_any t l i ev W h hs him
      unfold stepRow at this
      rw [hk] at this; exact this
    · unfold addrL; split
      · exact Nat.le_trans (hang_under hun hok _) (by omega)
      · simp
    · unfold dataL; split
      · exact Nat.le_trans (hang_under hun hok _) (by omega)
      · simp
    · exact hs.2
end
end Go.Proofs.YtfbnijcmfaeoeaaGreat
