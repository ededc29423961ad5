/-
  Proved here: cand's Last answers what memory has at the end, where that is not 0, rising; nothing that was there is changed. Condition: a light candidate that may be.
  (With it: the lists under way.)
-/
import Derived.Test.YtokhnjcbcpmmjaaCdSort
import Derived.Lib.ItoaWalk
namespace Go.Proofs.Ytokhnjcbcpmmjaa
set_option linter.unusedVariables false
set_option linter.unusedSimpArgs false
open Go.RowKit Go.Maps
attribute [local go_sem ↓] fold_E fold_SE

/-- the cells at first that were not written, so many looked at -/
structure PartA (c : Cd) (k : Nat) (l : List (Int × Int)) : Prop where
  mem : ∀ p, p ∈ l ↔ (p ∈ c.fs.take k ∧ metL c c.od.length p.1 = none ∧ p.2 ≠ 0)
  ne : l.Pairwise (fun p q => p.1 ≠ q.1)
  len : l.length ≤ k
/-- and those that were, but for what is still to come -/
structure PartB (c : Cd) (left : Lit → Bool) (l : List (Int × Int)) : Prop where
  mem : ∀ p, p ∈ l ↔ ((p ∈ c.fs ∧ metL c c.od.length p.1 = none ∧ p.2 ≠ 0) ∨ (metL c c.od.length p.1 = some p.2 ∧ p.2 ≠ 0 ∧ left (.int .u64 p.1) = false))
  ne : l.Pairwise (fun p q => p.1 ≠ q.1)
theorem PartA.start (c : Cd) : PartA c 0 [] := ⟨fun p => by simp, List.Pairwise.nil, Nat.le_refl _⟩
theorem PartA.skip {c : Cd} {k : Nat} {l : List (Int × Int)} (h : PartA c k l) (hk : k < c.fs.length) (hs : ¬ (metL c c.od.length (fA c.fs k) = none ∧ fV c.fs k ≠ 0)) : PartA c (k + 1) l :=
  ⟨fun p => by
    rw [h.mem p, take_fP _ _ hk, List.mem_append, List.mem_singleton]
    constructor
    · rintro ⟨h1, h2⟩; exact ⟨.inl h1, h2⟩
    · rintro ⟨h1 | h1, h2⟩
      · exact ⟨h1, h2⟩
      · subst h1; exact absurd h2 hs, h.ne, by have := h.len; omega⟩
theorem PartA.more {c : Cd} {k : Nat} {l : List (Int × Int)} (h : PartA c k l) (hr : ∀ i j, i < j → j < c.fs.length → fA c.fs i < fA c.fs j) (hk : k < c.fs.length) (h1 : metL c c.od.length (fA c.fs k) = none) (h2 : fV c.fs k ≠ 0) : PartA c (k + 1) (l ++ [fP c.fs k]) :=
  ⟨fun p => by
    rw [List.mem_append, h.mem p, take_fP _ _ hk, List.mem_append, List.mem_singleton]
    constructor
    · rintro (⟨a, b⟩ | rfl)
      · exact ⟨.inl a, b⟩
      · exact ⟨.inr rfl, h1, h2⟩
    · rintro ⟨a | a, b⟩
      · exact .inl ⟨a, b⟩
      · exact .inr a, by
    rw [List.pairwise_append]
    refine ⟨h.ne, List.pairwise_singleton _ _, fun p hp q hq => ?_⟩
    rw [List.mem_singleton] at hq
    subst hq
    have := mem_take_lt hr hk ((h.mem p).1 hp).1
    show p.1 ≠ fA c.fs k
    omega, by rw [List.length_append]; have := h.len; simp; omega⟩
theorem PartA.all {c : Cd} {l : List (Int × Int)} {D : DataW Unit} (h : PartA c c.fs.length l) (hD : MetD (metL c c.od.length) D) : PartB c (Maps.has D) l :=
  ⟨fun p => by
    rw [h.mem p, List.take_length]
    constructor
    · exact fun a => .inl a
    · rintro (a | ⟨a, b, d⟩)
      · exact a
      · exact absurd d (by rw [hD.has p.1, a]; simp), h.ne⟩
theorem same_u64 (x y : Int) : (Lit.int .u64 x).sameKey (.int .u64 y) = decide (x = y) := by
  by_cases h : x = y
  · subst h; simp [Lit.sameKey]
  · simp [Lit.sameKey, h]
theorem PartB.skip {c : Cd} {left : Lit → Bool} {l : List (Int × Int)} (h : PartB c left l) (x : Int) (hx : metL c c.od.length x = some 0) : PartB c (fun z => left z && !z.sameKey (.int .u64 x)) l :=
  ⟨fun p => by
    rw [h.mem p]
    apply or_congr Iff.rfl
    constructor
    · rintro ⟨a, b, d⟩; exact ⟨a, b, by rw [d]; rfl⟩
    · rintro ⟨a, b, d⟩
      refine ⟨a, b, ?_⟩
      rw [same_u64] at d
      by_cases e : p.1 = x
      · subst e; rw [hx] at a; exact absurd (Option.some.inj a).symm b
      · rw [decide_eq_false e] at d; simpa using d, h.ne⟩
theorem PartB.more {c : Cd} {left : Lit → Bool} {l : List (Int × Int)} (h : PartB c left l) (x v : Int) (hx : metL c c.od.length x = some v) (hv : v ≠ 0) (hl : left (.int .u64 x) = true) : PartB c (fun z => left z && !z.sameKey (.int .u64 x)) (l ++ [(x, v)]) :=
  ⟨fun p => by
    rw [List.mem_append, h.mem p, List.mem_singleton]
    constructor
    · rintro ((a | ⟨a, b, d⟩) | rfl)
      · exact .inl a
      · exact .inr ⟨a, b, by rw [d]; rfl⟩
      · exact .inr ⟨hx, hv, by rw [same_u64]; simp⟩
    · rintro (a | ⟨a, b, d⟩)
      · exact .inl (.inl a)
      · rw [same_u64] at d
        by_cases e : p.1 = x
        · right
          rw [e, hx] at a
          exact Prod.ext e (Option.some.inj a).symm
        · left; right
          refine ⟨a, b, ?_⟩
          rw [decide_eq_false e] at d
          simpa using d, by
    rw [List.pairwise_append]
    refine ⟨h.ne, List.pairwise_singleton _ _, fun p hp q hq => ?_⟩
    rw [List.mem_singleton] at hq
    subst hq
    show p.1 ≠ x
    intro e
    rcases (h.mem p).1 hp with ⟨_, a, _⟩ | ⟨_, _, d⟩
    · rw [e, hx] at a; cases a
    · exact absurd d (by rw [e, hl]; simp)⟩
theorem PartB.done {c : Cd} {left : Lit → Bool} {l : List (Int × Int)} (h : PartB c left l) (hl : ∀ kl, left kl = false) : (∀ p, p ∈ l ↔ LastSet c p) ∧ l.Pairwise (fun p q => p.1 ≠ q.1) :=
  ⟨fun p => by
    rw [h.mem p]
    unfold LastSet
    apply or_congr Iff.rfl
    constructor
    · rintro ⟨a, b, _⟩; exact ⟨a, b⟩
    · rintro ⟨a, b⟩; exact ⟨a, b, hl _⟩, h.ne⟩
/-- in order, each address once -/
theorem strict_of {l l' : List (Int × Int)} (hp : l'.Perm l) (hn : l.Pairwise (fun p q => p.1 ≠ q.1)) (hs : ∀ i j, i < j → j < l'.length → fA l' i ≤ fA l' j) : ∀ i j, i < j → j < l'.length → fA l' i < fA l' j := by
  have hn' : l'.Pairwise (fun p q => p.1 ≠ q.1) := (hp.pairwise_iff (fun h e => h e.symm)).2 hn
  intro i j hij hj
  have h1 := hs i j hij hj
  have h2 := List.pairwise_iff_getElem.1 hn' i j (by omega) hj hij
  have e1 : fA l' i = l'[i].1 := by simp [fA, show i < l'.length by omega]
  have e2 : fA l' j = l'[j].1 := by simp [fA, hj]
  omega
end Go.Proofs.Ytokhnjcbcpmmjaa
namespace Go.Proofs.Ytokhnjcbcpmmjaa
set_option linter.unusedVariables false
set_option linter.unusedSimpArgs false
open Go.RowKit Go.Maps
attribute [local go_sem ↓] fold_E fold_SE

/-- the list under way, and the map -/
structure La (base M n : Nat) (D : DataW Unit) (v : Value) (l : List (Int × Int)) (w wr : World) : Prop where
  own : wr.ownsRow base 35 2 v l.length (flatC l)
  map : OMu M n D wr
  below : Below w.heap.size w wr
  hb : w.heap.size ≤ base ∧ base ≤ wr.heap.size
theorem La.on {base M n : Nat} {D : DataW Unit} {v : Value} {l : List (Int × Int)} {w wr w2 : World} (h : La base M n D v l w wr) (hb : Below wr.heap.size wr w2) : La base M n D v l w w2 :=
  ⟨own_on h.own hb, h.map.on hb, h.below.trans (hb.mono h.below.size), h.hb.1, Nat.le_trans h.hb.2 hb.size⟩
theorem La.apart {base M n : Nat} {D : DataW Unit} {v : Value} {l : List (Int × Int)} {w wr : World} (h : La base M n D v l w wr) : v.ownBlock ≠ some M := fun e => by
  obtain ⟨es, clock, h1, _⟩ := h.map
  rcases h.own.2 with ⟨rfl, _⟩ | ⟨g, cap, cur, rfl, _, hgg, _⟩
  · simp [Value.ownBlock] at e
  · simp [Value.ownBlock] at e
    subst e
    rw [hgg] at h1
    simp at h1
theorem La.more {base M n : Nat} {D : DataW Unit} {v v2 : Value} {l : List (Int × Int)} {w wr w2 : World} (h : La base M n D v l w wr) (p : Int × Int) (ho : w2.ownsRow base 35 2 v2 (l.length + 1) (flatC l ++ [.int .u64 p.1, .int .u64 p.2])) (hg : wr.grownBy w2 v.ownBlock) : La base M n D v2 (l ++ [p]) w w2 :=
  ⟨by rw [flatC_more, List.length_append]; exact ho, h.map.kept hg (fun e => h.apart e.symm), h.below.grown hg h.below.size (fun k hk => Nat.le_trans h.hb.1 (h.own.lt k hk).1), h.hb.1, Nat.le_trans h.hb.2 hg.size⟩
/-- a row of the call's own, put in order -/
def SortedIs (v : Value) (l : List (Int × Int)) (base : Nat) (w : World) (e : Ending) (w' : World) : Prop := e = .returned (.tuple #[]) ∧ ∃ l' : List (Int × Int), l'.Perm l ∧ (∀ i j, i < j → j < l'.length → fA l' i ≤ fA l' j) ∧ ReadsF w' v l' ∧ Below base w w'
theorem sort_own {base : Nat} {v : Value} {l : List (Int × Int)} {w : World} (h : w.ownsRow base 35 2 v l.length (flatC l)) (hl : l.length ≤ 1000) : Calls Try.prog 18 #[v, .func (.func 19) #[] #[]] w fun e w' => SortedIs v l base w e w' := by
  rcases Nat.eq_zero_or_pos l.length with h0 | h0
  · obtain ⟨a, cc, rfl⟩ := own_len h
    have hnil : l = [] := List.length_eq_zero_iff.1 h0
    subst hnil
    have he : EmptyS (.slice a ([] : List (Int × Int)).length cc) := by
      rcases h.2 with ⟨e, _⟩ | ⟨g, cap, cur, e, _⟩
      · injection e with e1 e2 e3
        exact ⟨a, cc, rfl, fun _ => e3⟩
      · injection e with e1 e2 e3
        exact ⟨a, cc, rfl, fun ha => by rw [ha] at e1; cases e1⟩
    refine (sort_none a cc w).mono fun e w' ⟨h1, h2⟩ => ?_
    subst h2
    exact ⟨h1, [], List.Perm.refl _, fun i j _ hj => absurd hj (by simp), .inl ⟨he, rfl⟩, Below.refl _ _⟩
  · have h' := h
    rcases h.2 with ⟨rfl, h1⟩ | ⟨g, cap, cur, rfl, hn, hgg, hcap, hmax, hs, ht⟩
    · omega
    have hlt := (Array.getElem?_eq_some_iff.1 hgg).1
    refine (sort_some l g cap w (fun t u hu => ⟨?_, frozen_of_row w g t _ _ hgg⟩) hlt (by omega)).mono fun e w' ⟨h1, l', hp, hso, hcell, hg2, hbel⟩ => ?_
    · have := h'.cells (g := g) (by simp [Value.ownBlock]) t u hu
      rw [Addr.add_lit, Nat.zero_add] at this
      exact this
    · refine ⟨h1, l', hp, hso, .inr ⟨g, 0, cap, by rw [hp.length_eq], by rw [hp.length_eq]; exact hcap, by unfold maxLen at hmax; omega, hg2, hcell⟩, hbel.mono hn⟩
/-- the map gone through -/
structure Lb (base M r n : Nat) (D : DataW Unit) (left : Lit → Bool) (cnt : Nat) (v : Value) (l : List (Int × Int)) (w wr : World) : Prop where
  own : wr.ownsRow base 35 2 v l.length (flatC l)
  rng : wr.ranges Try.prog 33 (plainElem (H := Unit) Try.prog 33) M r n D left cnt
  below : Below w.heap.size w wr
  hb : w.heap.size ≤ base ∧ base ≤ wr.heap.size
  hr : w.heap.size ≤ r
theorem Lb.apart {base M r n : Nat} {D : DataW Unit} {left : Lit → Bool} {cnt : Nat} {v : Value} {l : List (Int × Int)} {w wr : World} (h : Lb base M r n D left cnt v l w wr) : v.ownBlock ≠ some M ∧ v.ownBlock ≠ some r := by
  obtain ⟨es, clock, since, seen, c0, h1, _, _, _, h2, _⟩ := h.rng
  refine ⟨fun e => ?_, fun e => ?_⟩
  · rcases h.own.2 with ⟨rfl, _⟩ | ⟨g, cap, cur, rfl, _, hgg, _⟩
    · simp [Value.ownBlock] at e
    · simp [Value.ownBlock] at e
      subst e
      rw [hgg] at h1
      simp at h1
  · rcases h.own.2 with ⟨rfl, _⟩ | ⟨g, cap, cur, rfl, _, hgg, _⟩
    · simp [Value.ownBlock] at e
    · simp [Value.ownBlock] at e
      subst e
      rw [hgg] at h2
      simp at h2
theorem Lb.next {base M r n : Nat} {D : DataW Unit} {left left2 : Lit → Bool} {cnt cnt2 : Nat} {v : Value} {l : List (Int × Int)} {w wr w2 : World} (h : Lb base M r n D left cnt v l w wr) (hr : w2.ranges Try.prog 33 (plainElem (H := Unit) Try.prog 33) M r n D left2 cnt2) (hg : wr.grownBy w2 (some r)) : Lb base M r n D left2 cnt2 v l w w2 :=
  ⟨h.own.kept hg (.inr h.apart.2), hr, h.below.grown hg h.below.size (fun k hk => by cases hk; exact h.hr), ⟨h.hb.1, Nat.le_trans h.hb.2 hg.size⟩, h.hr⟩
theorem Lb.boxed {base M r n : Nat} {D : DataW Unit} {left : Lit → Bool} {cnt : Nat} {v : Value} {l : List (Int × Int)} {w wr : World} (h : Lb base M r n D left cnt v l w wr) (o : Obj) : Lb base M r n D left cnt v l w (wr.alloc o) :=
  ⟨h.own.alloc o, h.rng.alloc o, h.below.alloc h.below.size o, ⟨h.hb.1, by simp; have := h.hb.2; omega⟩, h.hr⟩
theorem Lb.more {base M r n : Nat} {D : DataW Unit} {left : Lit → Bool} {cnt : Nat} {v v2 : Value} {l : List (Int × Int)} {w wr w2 : World} (h : Lb base M r n D left cnt v l w wr) (p : Int × Int) (ho : w2.ownsRow base 35 2 v2 (l.length + 1) (flatC l ++ [.int .u64 p.1, .int .u64 p.2])) (hg : wr.grownBy w2 v.ownBlock) : Lb base M r n D left cnt v2 (l ++ [p]) w w2 :=
  ⟨by rw [flatC_more, List.length_append]; exact ho, h.rng.kept hg (fun e => h.apart.1 e.symm) (fun e => h.apart.2 e.symm), h.below.grown hg h.below.size (fun k hk => Nat.le_trans h.hb.1 (h.own.lt k hk).1), ⟨h.hb.1, Nat.le_trans h.hb.2 hg.size⟩, h.hr⟩
def LastIs (c : Cd) (w : World) (e : Ending) (w' : World) : Prop := ∃ v l, e = .returned v ∧ ReadsF w' v l ∧ (∀ i j, i < j → j < l.length → fA l i < fA l j) ∧ (∀ p, p ∈ l ↔ LastSet c p) ∧ Below w.heap.size w w' ∧ l.length ≤ 180
set_option maxRecDepth 100000 in
set_option maxHeartbeats 16000000 in
theorem Last_yes (c : Cd) (q : Cv) (w : World) (hL : Lt c) (h : CAt c q w) (hm : c.may = true) : Calls Try.prog 11 #[cdV c q] w fun e w' => LastIs c w e w' := by
  have KK : Hid (∀ w0, CAt c q w0 → Calls Try.prog 15 #[cdV c q] w0 fun e w' => LookIs c true w0 e w') := Lib.hid (fun w0 h0 => by rw [← hm]; exact look_any2 c q w0 hL h0)
  have KS := Lib.hid (fun g w0 h0 h1 => stored_any c q g w0 hL hm h0 h1)
  have S0 := Lib.hid (Lk.start h)
  have HRS := Lib.hid (rise_lt (may_rise hm))
  have HFW := Lib.hid hL.fw
  have hfs60 := hL.fs
  have ho120 := hL.od
  have HFC : Hid (c.fs.length = 0 ∨ ∃ b off, q.aF = some ⟨b, off, none⟩ ∧ b < w.heap.size ∧ CellsIn w b off c.fs) := Lib.hid (by
    rcases h.first with ⟨_, h0⟩ | ⟨b, off, c2, e, _, _, h3, h4⟩
    · exact .inl (by rw [h0]; rfl)
    · injection e with e1 e2 e3
      exact .inr ⟨b, off, e1, h3, h4⟩)
  clear h hm hL
  obtain ⟨u0, u1, u2, u3⟩ := S0.out.box.facts
  go_enter Try.func11, Try.ntmps11
  go_upto_region 4 with (go_at_call 15; (with_reducible refine (KK.out _ S0.out.at_).mono ?_); rintro e' w1 ⟨v, rfl, h1, h2, hb⟩; obtain ⟨g, rfl, h3, h4⟩ := h1 rfl; have S1 := Lib.hid (S0.out.on hb); have A1 := Lib.hid h4; clear hb h1 h2 h3 h4 u0 u1 u2 u3)
  obtain ⟨u0, u1, u2, u3⟩ := S1.out.box.facts
  go_upto_region 6 with (go_at_call 17; (with_reducible refine (KS.out g w1 A1.out S1.out.at_.order).mono ?_); rintro e' w2 ⟨D, rfl, hMD, hO, hb⟩; have S2 := Lib.hid (S1.out.on hb); have M2 := Lib.hid hMD; have O2 := Lib.hid hO; clear hMD hO hb u0 u1 u2 u3)
  obtain ⟨u0, u1, u2, u3⟩ := S2.out.box.facts
  have L0 : Hid (La w2.heap.size w1.heap.size c.od.length D (.slice none 0 0) [] w w2) := Lib.hid ⟨World.ownsRow_nil _ _ _ _, O2.out, S2.out.below, S2.out.below.size, Nat.le_refl _⟩
  go_wp2
  go_loopw [6, 27] (fun vl vi wr => ∃ (k : Nat) (l : List (Int × Int)) (v : Value), v = vl ∧ k ≤ c.fs.length ∧ vi = .int .i64 k ∧ Hid (PartA c k l) ∧ Hid (La w2.heap.size w1.heap.size c.od.length D vl l w wr)) (fun _ vi _ => c.fs.length - (intOf vi).toNat)
  case atStart => exact ⟨0, [], _, rfl, Nat.zero_le _, rfl, Lib.hid (PartA.start c), L0⟩
  case round =>
    obtain ⟨k, l, v, rfl, hk, rfl, hP, hLa⟩ := hrel
    by_cases hlt : k < c.fs.length
    · rcases HFC.out with h0 | ⟨b, off, hq, hbl, hcell⟩
      · exact absurd h0 (by omega)
      obtain ⟨c0, c1⟩ := hcell k hlt
      have d0 := (hLa.out.below.cell (p := ⟨b, off + k * 2, none⟩) hbl).trans c0
      have d1 := (hLa.out.below.cell (p := ⟨b, off + k * 2 + 1, none⟩) hbl).trans c1
      clear c0 c1 hcell
      rw [hq]
      have hwx : (Lit.int .u64 (fA c.fs k)).wf = true := WalkArith.wf_u64 (by have := (HFW.out k hlt).1; omega)
      have HPA := Lib.hid (fun h1 h2 => hP.out.more HRS.out hlt h1 h2)
      have HPS := Lib.hid (fun hs => hP.out.skip hlt hs)
      unfold fP at HPA
      have HM := Lib.hid (M2.out.has (fA c.fs k))
      obtain ⟨x, hx⟩ : ∃ x, Hid (fA c.fs k = x) := ⟨_, Lib.hid rfl⟩
      obtain ⟨y, hy⟩ : ∃ y, Hid (fV c.fs k = y) := ⟨_, Lib.hid rfl⟩
      rw [hx.out] at d0 hwx HPA HPS HM
      rw [hy.out] at d1 HPA HPS
      obtain ⟨r, hr⟩ : ∃ r, Hid (Maps.has D (.int .u64 x) = r) := ⟨_, Lib.hid rfl⟩
      rw [hr.out] at HM
      have L1 := Lib.hid (hLa.out.on (box_below wr (.cells #[.int .u64 x, .int .u64 y] 35)))
      have P1 : PairAt x y wr.heap.size (wr.alloc (.cells #[.int .u64 x, .int .u64 y] 35)) := Array.getElem?_push_size
      have hlen := hP.out.len
      go_upto_region 9 with fail
      go_name_world W hW
      rw [hW] at P1 L1
      clear hW
      obtain ⟨p0, p1⟩ := P1.facts
      go_upto_region 10 with (at_lookup; refine wpList_lookup_own_ok_int _ rfl _ _ 51 rfl 33 33 .u64 law_u64 Try.underlying51 Try.underlying33 (zero_u64 _) w1.heap.size c.od.length D rfl L1.out.map _ _ rfl (keyOf_int_mk Try.underlying33 hwx) ?_; intro cc hat hwc; rw [hr.out]; clear hat hwc)
      cases r with
      | true =>
        have hno := Lib.hid (HPS.out (fun h => by have h2 := HM.out; rw [h.1] at h2; cases h2))
        go_wp2
        go_roundw
        case rel => exact ⟨k + 1, l, _, rfl, by omega, by go_num, hno, L1⟩
        case measure => simp [intOf]; omega
      | false =>
        have hnone : Hid (metL c c.od.length x = none) := Lib.hid (by
          have h2 := HM.out
          cases hh : metL c c.od.length x with
          | none => rfl
          | some u => rw [hh] at h2; cases h2)
        by_cases hy0 : y = 0
        · have hno := Lib.hid (HPS.out (fun h => h.2 hy0))
          subst hy0
          go_wp2
          go_roundw
          case rel => exact ⟨k + 1, l, _, rfl, by omega, by go_num, hno, L1⟩
          case measure => simp [intOf]; omega
        · have hyes := Lib.hid (HPA.out hnone.out hy0)
          have hy1 : (y != 0) = true := by simpa using hy0
          have L2 := Lib.hid (L1.out.on (box_below W (.cells #[.int .u64 x, .int .u64 y] 35)))
          have P2 : Hid (PairAt x y W.heap.size (W.alloc (.cells #[.int .u64 x, .int .u64 y] 35))) := Lib.hid Array.getElem?_push_size
          have hl1000 : l.length ≤ 1000 := by omega
          clear hy0
          go_wp2_with (refine append_cell rfl (.tmp 45) (.tmp 47) rfl w2.heap.size v l.length (flatC l) rfl L2.out.own x y W.heap.size rfl P2.out hl1000 L2.out.hb.2 ?_; intro v2 w4 ho hg; have L4 := Lib.hid (L2.out.more (x, y) ho hg); clear ho hg)
          go_roundw
          case rel => exact ⟨k + 1, l ++ [(x, y)], _, rfl, by omega, by go_num, hyes, L4⟩
          case measure => simp [intOf]; omega
    · obtain rfl : k = c.fs.length := by omega
      have HPB := Lib.hid (hP.out.all M2.out)
      have HSZ := Lib.hid (hLa.out.map.size_le)
      have hlen := hP.out.len
      go_wp2_with (first
        | (at_range; refine wpList_range_own _ rfl _ 51 rfl 33 33 law_u64 Try.underlying51 _ w1.heap.size c.od.length D rfl hLa.out.map ?_; intro w5 hrg hg5 hs5)
        | go_in)
      go_frame
      have B5 : Hid (Lb w2.heap.size w1.heap.size wr.heap.size c.od.length D (Maps.has D) (Maps.size D) v l w w5) := Lib.hid ⟨hLa.out.own.kept hg5 (by cases v.ownBlock <;> simp), hrg, hLa.out.below.grown hg5 hLa.out.below.size (fun j hj => by cases hj), ⟨hLa.out.hb.1, Nat.le_trans hLa.out.hb.2 hg5.size⟩, hLa.out.below.size⟩
      clear hrg hg5 hs5
      go_loopw [6] (fun vl wr2 => ∃ (left : Lit → Bool) (cnt : Nat) (l2 : List (Int × Int)) (v2 : Value), v2 = vl ∧ Hid (PartB c left l2) ∧ l2.length + cnt ≤ 180 ∧ Hid (Lb w2.heap.size w1.heap.size wr.heap.size c.od.length D left cnt vl l2 w wr2)) (fun _ wr2 => wr2.rangeLeft w1.heap.size wr.heap.size)
      case atStart => exact ⟨_, _, l, _, rfl, HPB, by have := HSZ.out; omega, B5⟩
      case round =>
        obtain ⟨left, cnt, l2, v2, rfl, hB, hcl, hLb⟩ := hrel
        go_wp2_with (first
          | (at_next; refine wpList_next_ranges_ii _ rfl _ rfl 33 33 .u64 .u64 law_u64 Try.underlying33 Try.underlying33 w1.heap.size _ c.od.length _ _ _ rfl hLb.out.rng ?_ ?_)
          | go_in)
        · intro hc0 hl0
          have HD := Lib.hid (hB.out.done hl0)
          have hl1000 : l2.length ≤ 1000 := by omega
          have hl180 : l2.length ≤ 180 := by omega
          clear hc0 hl0
          go_wp2_with (go_at_call 18; (with_reducible refine (sort_own hLb.out.own hl1000).mono ?_); rintro e' w9 ⟨rfl, l', hp, hso, hrd, hb⟩; have R9 := Lib.hid hrd; have P9 := Lib.hid hp; have Q9 := Lib.hid hso; have B9 := Lib.hid (hLb.out.below.trans (hb.mono hLb.out.hb.1)); clear hp hso hrd hb)
          go_ret
          exact ⟨_, l', rfl, R9.out, strict_of P9.out HD.out.2 Q9.out, fun p => by rw [P9.out.mem_iff]; exact HD.out.1 p, B9.out, by rw [P9.out.length_eq]; exact hl180⟩
        · intro x y w6 cnt1 hwx hwy hlx hat hrg1 hlt1 hg1 hs1 hen
          have L6 := Lib.hid (hLb.out.next hrg1 hg1)
          have hl1000 : l2.length ≤ 1000 := by omega
          have HXY : Hid (metL c c.od.length x = some y) := Lib.hid (M2.out.of_at x y hat)
          have hl1 := Lib.hid hlx
          clear hat hlx hwx hwy hs1
          by_cases hy0 : y = 0
          · subst hy0
            have HB2 := Lib.hid (hB.out.skip x HXY.out)
            go_wp2
            go_roundw
            case rel => exact ⟨_, cnt1, l2, _, rfl, HB2, by omega, L6⟩
            case measure => rw [L6.out.rng.left_eq, hLb.out.rng.left_eq]; exact hlt1
          · have hy1 : (y != 0) = true := by simpa using hy0
            have HB2 := Lib.hid (hB.out.more x y HXY.out hy0 hl1.out)
            have L7 := Lib.hid (L6.out.boxed (.cells #[.int .u64 x, .int .u64 y] 35))
            have P7 : Hid (PairAt x y w6.heap.size (w6.alloc (.cells #[.int .u64 x, .int .u64 y] 35))) := Lib.hid Array.getElem?_push_size
            clear hy0
            go_wp2_with (refine append_cell rfl (.tmp 59) (.tmp 63) rfl w2.heap.size v2 l2.length (flatC l2) rfl L7.out.own x y w6.heap.size rfl P7.out hl1000 L7.out.hb.2 ?_; intro v3 w8 ho hg; have L8 := Lib.hid (L7.out.more (x, y) ho hg); clear ho hg)
            go_roundw
            case rel => exact ⟨_, cnt1, l2 ++ [(x, y)], _, rfl, HB2, by rw [List.length_append]; simp; omega, L8⟩
            case measure => rw [L8.out.rng.left_eq, hLb.out.rng.left_eq]; exact hlt1
end Go.Proofs.Ytokhnjcbcpmmjaa
