/-
  Proved here: package data's Find and At and the document's answer the first seat that fits; nothing that was there is changed. Condition: numbers of 64 bits.
-/
import Derived.Test.YthkakikigccaaaaDtRow
namespace Go.Proofs.Ythkakikigccaaaa
open Go.RowKit Go.Lib
set_option linter.unusedVariables false
set_option linter.unusedSimpArgs false

/-- the first that fits -/
def FirstAt (f : Se → Bool) (l : List Se) (k : Nat) : Prop := ∀ j (h : j < l.length), j < k → f l[j] = false
theorem FirstAt.zero (f : Se → Bool) (l : List Se) : FirstAt f l 0 := fun j _ h => by omega
theorem FirstAt.succ {f : Se → Bool} {l : List Se} {k : Nat} (h : FirstAt f l k) (hk : k < l.length) (e : f l[k] = false) : FirstAt f l (k + 1) := fun j hj hjk => by
  rcases Nat.lt_succ_iff_lt_or_eq.1 hjk with h1 | h1
  · exact h j hj h1
  · subst h1; exact e
theorem find_at {f : Se → Bool} : ∀ {l : List Se} {k : Nat}, FirstAt f l k → ∀ (hk : k < l.length), f l[k] = true → l.find? f = some l[k]
  | [], k, _, hk, _ => by simp at hk
  | x :: l, 0, _, _, e => by simp at e; simp [List.find?_cons, e]
  | x :: l, k + 1, h, hk, e => by
    have h0 := h 0 (by simp) (by omega)
    simp only [List.getElem_cons_zero] at h0
    rw [List.find?_cons, h0]
    simp only [List.getElem_cons_succ] at e ⊢
    exact find_at (fun j hj hjk => by have := h (j + 1) (by simpa using hj) (by omega); simpa using this) (by simpa using hk) e
theorem find_none {f : Se → Bool} {l : List Se} (h : FirstAt f l l.length) : l.find? f = none := by
  rw [List.find?_eq_none]
  intro x hx
  obtain ⟨i, hi, rfl⟩ := List.getElem_of_mem hx
  rw [h i hi hi]; simp
/-- is a seat of this Name and Hart? -/
def isS (nm : ByteArray) (h : Int) (s : Se) : Bool := s.p.name.toList == nm.toList && s.p.hart == h
def findV (l : List Se) (nm : ByteArray) (h : Int) : Value := match l.find? (isS nm h) with
  | none => .tuple #[.agg #[.string ⟨#[]⟩, .int .i64 0, .int .i64 0, .int .u64 0], .int .i64 6]
  | some s => .tuple #[.agg #[.string s.p.name, .int .i64 s.p.size, .int .i64 s.p.hart, .int .u64 s.addr], .int .i64 0]
def atOk (addr : Int) : Bool := addr % 8 == 0
def atF (l : List Se) (addr : Int) : Option Se := if addr % 8 = 0 then l.find? (fun s => dbB s addr) else none
def atV (l : List Se) (addr : Int) : Value := match atF l addr with
  | none => .tuple #[.agg #[.string ⟨#[]⟩, .int .i64 0, .int .i64 0, .int .u64 0], .int .i64 0, .int .i64 6]
  | some s => .tuple #[.agg #[.string s.p.name, .int .i64 s.p.size, .int .i64 s.p.hart, .int .u64 s.addr], .int .i64 (dbN s addr), .int .i64 0]
/-- boxes of a name and a hart -/
structure Nb (nm : ByteArray) (h : Int) (g1 g2 : Nat) (W : World) : Prop where
  n : W.cell? ⟨g1, 0, none⟩ = some (.string nm)
  h : W.cell? ⟨g2, 0, none⟩ = some (.int .i64 h)
  l1 : g1 < W.heap.size
  l2 : g2 < W.heap.size
theorem Nb.on {nm : ByteArray} {h : Int} {g1 g2 : Nat} {W W2 : World} (x : Nb nm h g1 g2 W) (hb : Below W.heap.size W W2) : Nb nm h g1 g2 W2 :=
  ⟨(hb.cell (p := ⟨g1, 0, none⟩) x.l1).trans x.n, (hb.cell (p := ⟨g2, 0, none⟩) x.l2).trans x.h, Nat.lt_of_lt_of_le x.l1 hb.size, Nat.lt_of_lt_of_le x.l2 hb.size⟩
theorem find1_any (s : Se) (nm : ByteArray) (h : Int) (g1 g2 : Nat) (w : World) (B : Nb nm h g1 g2 w) :
    Calls Try.prog 31 #[.agg #[.string s.p.name, .int .i64 s.p.size, .int .i64 s.p.hart, .int .u64 s.addr], .pointer (some ⟨g1, 0, none⟩), .pointer (some ⟨g2, 0, none⟩)] w fun e w' => e = .returned (.bool (isS nm h s)) ∧ Below w.heap.size w w' := by
  obtain ⟨⟨snm, sz, ht⟩, ad⟩ := s
  obtain ⟨c1, c2, l1, l2⟩ := B
  obtain ⟨q, hq⟩ : ∃ q, (snm.toList == nm.toList) = q := ⟨_, rfl⟩
  obtain ⟨t, ht'⟩ : ∃ t, (ht == h) = t := ⟨_, rfl⟩
  have HV : Hid (isS nm h ⟨⟨snm, sz, ht⟩, ad⟩ = (q && t)) := Lib.hid (by unfold isS; rw [hq, ht'])
  have HQ := Lib.hid (And.intro hq ht')
  cases q with
  | false =>
    go_enter Try.func31, Try.ntmps31
    go_wp2
    go_ret
    exact ⟨by rw [HV.out]; rfl, one_below _ _⟩
  | true =>
    cases t with
    | false =>
      go_enter Try.func31, Try.ntmps31
      go_wp2
      go_ret
      exact ⟨by rw [HV.out]; rfl, one_below _ _⟩
    | true =>
      go_enter Try.func31, Try.ntmps31
      go_wp2
      go_ret
      exact ⟨by rw [HV.out]; rfl, one_below _ _⟩
/-- slices.IndexFunc with Find's question -/
def ixI (l : List Se) (f : Se → Bool) (i : Int) : Prop := (i = -1 ∧ FirstAt f l l.length) ∨ ∃ k : Nat, i = k ∧ ∃ h : k < l.length, FirstAt f l k ∧ f l[k] = true
def IxOut (l : List Se) (f : Se → Bool) (w : World) (e : Ending) (w' : World) : Prop := ∃ i : Int, e = .returned (.int .i64 i) ∧ ixI l f i ∧ Below w.heap.size w w'
set_option maxHeartbeats 1000000 in
theorem index_any (a : Option Addr) (c : Nat) (l : List Se) (nm : ByteArray) (h : Int) (g1 g2 : Nat) (w : World) (hn : l.length ≤ maxLen) (hl : Sm w a l) (hB : Nb nm h g1 g2 w) :
    Calls Try.prog 30 #[.slice a l.length c, .func (.func 31) #[] #[.pointer (some ⟨g1, 0, none⟩), .pointer (some ⟨g2, 0, none⟩)]] w (IxOut l (isS nm h) w) := by
  have HL := Lib.hid hl
  have HN := Lib.hid hB
  unfold maxLen at hn
  clear hl hB
  have e31 : ∀ args w, (callFunc 31 args).run Try.prog w = .ok (.enter 31 args) w := enters_of Try.func31 (by kernel_rfl) rfl
  go_enter Try.func30, Try.ntmps30
  go_wp2
  go_loopw [8] (fun vi wr => ∃ k : Nat, k ≤ l.length ∧ vi = .int .i64 k ∧ Hid (FirstAt (isS nm h) l k) ∧ Hid (Below w.heap.size w wr)) (fun vi _ => l.length - (intOf vi).toNat)
  case atStart => exact ⟨0, Nat.zero_le _, rfl, Lib.hid (FirstAt.zero _ _), Lib.hid (Below.refl _ _)⟩
  case round =>
    obtain ⟨k, hk, rfl, HF, HB⟩ := hrel
    by_cases hlt : k < l.length
    · obtain ⟨b, off, ha, hbl, hP⟩ := Sm.at_ (HL.out.below HB.out) hlt
      subst ha
      obtain ⟨s, hs⟩ : ∃ s, s = l[k] := ⟨_, rfl⟩
      rw [← hs] at hP
      obtain ⟨⟨n1, n2, n3⟩, n4⟩ := hP
      have K1 := find1_any s nm h g1 g2 wr (HN.out.on HB.out)
      obtain ⟨q, hq⟩ : ∃ q, isS nm h s = q := ⟨_, rfl⟩
      rw [hq] at K1
      have HQ : Hid (isS nm h l[k] = q) := Lib.hid (by rw [← hs]; exact hq)
      clear hq hs
      have hlz : (k : Int) < (l.length : Int) := by omega
      have r1 : IntKind.i64.wrap ((k : Int) + 1) = (k : Int) + 1 := by rw [IntKind.wrap_i64]; omega
      cases q with
      | true =>
        go_wp2_with (go_at_fn 31; refine K1.mono ?_; rintro e w1 ⟨rfl, hb⟩; have HB1 := Lib.hid (HB.out.trans (hb.mono HB.out.size)); clear hb)
        go_ret
        exact ⟨k, rfl, .inr ⟨k, rfl, hlt, HF.out, HQ.out⟩, HB1.out⟩
      | false =>
        go_wp2_with (go_at_fn 31; refine K1.mono ?_; rintro e w1 ⟨rfl, hb⟩; have HB1 := Lib.hid (HB.out.trans (hb.mono HB.out.size)); clear hb)
        go_roundw
        case rel => exact ⟨k + 1, by omega, by go_num, Lib.hid (HF.out.succ hlt HQ.out), HB1⟩
        case measure => simp [intOf]; omega
    · obtain rfl : k = l.length := by omega
      go_wp2
      go_ret
      exact ⟨-1, rfl, .inl ⟨rfl, HF.out⟩, HB.out⟩
/-- a box for a seat that is told -/
structure Bz (g : Nat) (W : World) : Prop where
  c0 : ∃ v, W.cell? ⟨g, 0, none⟩ = some v
  c1 : ∃ v, W.cell? ⟨g, 1, none⟩ = some v
  c2 : ∃ v, W.cell? ⟨g, 2, none⟩ = some v
  c3 : ∃ v, W.cell? ⟨g, 3, none⟩ = some v
  f0 : W.frozen? ⟨g, 0, none⟩ = false
  f1 : W.frozen? ⟨g, 1, none⟩ = false
  f2 : W.frozen? ⟨g, 2, none⟩ = false
  f3 : W.frozen? ⟨g, 3, none⟩ = false
  lt : g < W.heap.size
theorem Bz.on {g : Nat} {W W2 : World} (h : Bz g W) (hb : Below W.heap.size W W2) : Bz g W2 := by
  obtain ⟨⟨v0, c0⟩, ⟨v1, c1⟩, ⟨v2, c2⟩, ⟨v3, c3⟩, f0, f1, f2, f3, lt⟩ := h
  exact ⟨⟨v0, (hb.cell (p := ⟨g, 0, none⟩) lt).trans c0⟩, ⟨v1, (hb.cell (p := ⟨g, 1, none⟩) lt).trans c1⟩, ⟨v2, (hb.cell (p := ⟨g, 2, none⟩) lt).trans c2⟩, ⟨v3, (hb.cell (p := ⟨g, 3, none⟩) lt).trans c3⟩,
    (hb.frozen (p := ⟨g, 0, none⟩) lt).trans f0, (hb.frozen (p := ⟨g, 1, none⟩) lt).trans f1, (hb.frozen (p := ⟨g, 2, none⟩) lt).trans f2, (hb.frozen (p := ⟨g, 3, none⟩) lt).trans f3, Nat.lt_of_lt_of_le lt hb.size⟩
theorem Bz.new (W : World) : Bz W.heap.size (W.alloc (.cells #[.string ⟨#[]⟩, .int .i64 0, .int .i64 0, .int .u64 0] 34)) := ⟨⟨.string ⟨#[]⟩, by simp⟩, ⟨.int .i64 0, by simp⟩, ⟨.int .i64 0, by simp⟩, ⟨.int .u64 0, by simp⟩, by simp, by simp, by simp, by simp, by simp⟩
theorem set_four {w : World} {g : Nat} {v0 v1 v2 v3 : Value} (c0 : w.cell? ⟨g, 0, none⟩ = some v0) (c1 : w.cell? ⟨g, 1, none⟩ = some v1) (c2 : w.cell? ⟨g, 2, none⟩ = some v2) (c3 : w.cell? ⟨g, 3, none⟩ = some v3) (a b c d : Value) :
    (w.setCell ⟨g, 0, none⟩ a).cell? ⟨g, 0, none⟩ = some a ∧ ((w.setCell ⟨g, 0, none⟩ a).setCell ⟨g, 1, none⟩ b).cell? ⟨g, 1, none⟩ = some b ∧ (((w.setCell ⟨g, 0, none⟩ a).setCell ⟨g, 1, none⟩ b).setCell ⟨g, 2, none⟩ c).cell? ⟨g, 2, none⟩ = some c ∧
      ((((w.setCell ⟨g, 0, none⟩ a).setCell ⟨g, 1, none⟩ b).setCell ⟨g, 2, none⟩ c).setCell ⟨g, 3, none⟩ d).cell? ⟨g, 3, none⟩ = some d :=
  by
  have e1 : (w.setCell ⟨g, 0, none⟩ a).cell? ⟨g, 1, none⟩ = some v1 := by rw [World.cell?_setCell_other _ _ _ _ (by simp)]; exact c1
  have e2 : ((w.setCell ⟨g, 0, none⟩ a).setCell ⟨g, 1, none⟩ b).cell? ⟨g, 2, none⟩ = some v2 := by rw [World.cell?_setCell_other _ _ _ _ (by simp), World.cell?_setCell_other _ _ _ _ (by simp)]; exact c2
  have e3 : (((w.setCell ⟨g, 0, none⟩ a).setCell ⟨g, 1, none⟩ b).setCell ⟨g, 2, none⟩ c).cell? ⟨g, 3, none⟩ = some v3 := by rw [World.cell?_setCell_other _ _ _ _ (by simp), World.cell?_setCell_other _ _ _ _ (by simp), World.cell?_setCell_other _ _ _ _ (by simp)]; exact c3
  exact ⟨World.cell?_setCell_same' _ _ _ (by rw [c0]; rfl), World.cell?_setCell_same' _ _ _ (by rw [e1]; rfl), World.cell?_setCell_same' _ _ _ (by rw [e2]; rfl), World.cell?_setCell_same' _ _ _ (by rw [e3]; rfl)⟩
theorem nb_new (nm : ByteArray) (h : Int) (w : World) (o : Obj) : Nb nm h w.heap.size (w.heap.size + 1) (((w.alloc (.cells #[.string nm] 9)).alloc (.cells #[.int .i64 h] 3)).alloc o) := by
  have e1 : ((w.alloc (.cells #[.string nm] 9)).alloc (.cells #[.int .i64 h] 3)).cell? ⟨w.heap.size, 0, none⟩ = some (.string nm) := by simp
  have e2 : ((w.alloc (.cells #[.string nm] 9)).alloc (.cells #[.int .i64 h] 3)).cell? ⟨w.heap.size + 1, 0, none⟩ = some (.int .i64 h) := by simp
  have l : ((w.alloc (.cells #[.string nm] 9)).alloc (.cells #[.int .i64 h] 3)).heap.size = w.heap.size + 1 + 1 := by simp
  exact Nb.on ⟨e1, e2, by omega, by omega⟩ (one_below _ o)
theorem below_four {w W : World} {g : Nat} (h : Below w.heap.size w W) (hg : w.heap.size ≤ g) (a b c d : Value) : Below w.heap.size w ((((W.setCell ⟨g, 0, none⟩ a).setCell ⟨g, 1, none⟩ b).setCell ⟨g, 2, none⟩ c).setCell ⟨g, 3, none⟩ d) :=
  Below.setCell (Below.setCell (Below.setCell (Below.setCell h (by exact hg) _) (by exact hg) _) (by exact hg) _) (by exact hg) _
theorem find_of_none {l : List Se} {nm : ByteArray} {h : Int} (hf : FirstAt (isS nm h) l l.length) : findV l nm h = .tuple #[.agg #[.string ⟨#[]⟩, .int .i64 0, .int .i64 0, .int .u64 0], .int .i64 6] := by
  unfold findV; rw [find_none hf]
theorem find_of_some {l : List Se} {nm : ByteArray} {h : Int} {k : Nat} {s : Se} (hk : k < l.length) (hs : s = l[k]) (hf : FirstAt (isS nm h) l k) (e : isS nm h l[k] = true) : findV l nm h = .tuple #[.agg #[.string s.p.name, .int .i64 s.p.size, .int .i64 s.p.hart, .int .u64 s.addr], .int .i64 0] := by
  unfold findV; rw [find_at hf hk e, hs]
set_option maxHeartbeats 1000000 in
theorem Find_any (a : Option Addr) (c : Nat) (l : List Se) (nm : ByteArray) (h : Int) (w : World) (hn : l.length ≤ maxLen) (hl : Sm w a l) :
    Calls Try.prog 11 #[.slice a l.length c, .string nm, .int .i64 h] w fun e w' => e = .returned (findV l nm h) ∧ Below w.heap.size w w' := by
  have HL := Lib.hid hl
  have HNL := Lib.hid hn
  unfold maxLen at hn
  have KI := Lib.hid (fun W (hb : Below w.heap.size w W) g1 g2 (hB : Nb nm h g1 g2 W) => index_any a c l nm h g1 g2 W HNL.out (hl.below hb) hB)
  clear hl
  go_enter Try.func11, Try.ntmps11
  go_wp2_with fail
  have H0 : Hid (Below w.heap.size w (((w.alloc (.cells #[.string nm] 9)).alloc (.cells #[.int .i64 h] 3)).alloc (.cells #[.string ⟨#[]⟩, .int .i64 0, .int .i64 0, .int .u64 0] 34))) := Lib.hid ((two_below w _ _).trans ((one_below _ _).mono (by simp; omega)))
  have N0 : Hid (Nb nm h w.heap.size (w.heap.size + 1) (((w.alloc (.cells #[.string nm] 9)).alloc (.cells #[.int .i64 h] 3)).alloc (.cells #[.string ⟨#[]⟩, .int .i64 0, .int .i64 0, .int .u64 0] 34))) := Lib.hid (nb_new nm h w _)
  have Z0 : Hid (Bz (w.heap.size + 1 + 1) (((w.alloc (.cells #[.string nm] 9)).alloc (.cells #[.int .i64 h] 3)).alloc (.cells #[.string ⟨#[]⟩, .int .i64 0, .int .i64 0, .int .u64 0] 34))) := Lib.hid (by have := Bz.new ((w.alloc (.cells #[.string nm] 9)).alloc (.cells #[.int .i64 h] 3)); simpa using this)
  obtain ⟨g, hg'⟩ : ∃ g, w.heap.size + 1 + 1 = g := ⟨_, rfl⟩
  have hg : w.heap.size ≤ g := by omega
  rw [hg'] at Z0 ⊢
  generalize (((w.alloc (.cells #[.string nm] 9)).alloc (.cells #[.int .i64 h] 3)).alloc (.cells #[.string ⟨#[]⟩, .int .i64 0, .int .i64 0, .int .u64 0] 34)) = W at H0 N0 Z0 ⊢
  clear hg'
  refine (KI.out W H0.out _ _ N0.out).mono ?_
  rintro e w1 ⟨i, rfl, hi, hb⟩
  have HB := Lib.hid (H0.out.trans (hb.mono H0.out.size))
  have Z1 := Lib.hid (Z0.out.on hb)
  clear hb Z0 H0 N0 KI
  obtain ⟨⟨v0, c0⟩, ⟨v1, c1⟩, ⟨v2, c2⟩, ⟨v3, c3⟩, f0, f1, f2, f3, lt⟩ := Z1.out
  rcases hi with ⟨rfl, hf⟩ | ⟨k, rfl, hk, hf, he⟩
  · have HV := Lib.hid (find_of_none hf)
    clear hf
    go_wp2
    refine bodyPost_ret (v := .tuple #[.agg #[.string ⟨#[]⟩, .int .i64 0, .int .i64 0, .int .u64 0], .int .i64 6]) (by obtain ⟨t0, t1, t2, t3⟩ := set_four c0 c1 c2 c3 (.string ⟨#[]⟩) (.int .i64 0) (.int .i64 0) (.int .u64 0); simp [results, Try.results11, go_sem, t0, t1, t2, t3]) rfl ⟨?_, below_four HB.out hg _ _ _ _⟩
    rw [HV.out]
  · obtain ⟨s, hs⟩ : ∃ s, s = l[k] := ⟨_, rfl⟩
    have HV := Lib.hid (find_of_some hk hs hf he)
    obtain ⟨b, off, ha, hbl, hP⟩ := Sm.at_ (HL.out.below HB.out) hk
    subst ha
    rw [← hs] at hP
    obtain ⟨⟨n1, n2, n3⟩, n4⟩ := hP
    have hkz : (k : Int) < (l.length : Int) := by omega
    clear hf he hs
    go_wp2
    refine bodyPost_ret (v := .tuple #[.agg #[.string s.p.name, .int .i64 s.p.size, .int .i64 s.p.hart, .int .u64 s.addr], .int .i64 0]) (by obtain ⟨t0, t1, t2, t3⟩ := set_four c0 c1 c2 c3 (.string s.p.name) (.int .i64 s.p.size) (.int .i64 s.p.hart) (.int .u64 s.addr); simp [results, Try.results11, go_sem, t0, t1, t2, t3]) rfl ⟨?_, below_four HB.out hg _ _ _ _⟩
    rw [HV.out]
set_option maxHeartbeats 1000000 in
theorem rFind_any (a : Option Addr) (c : Nat) (l : List Se) (nm : ByteArray) (h : Int) (w : World) (hn : l.length ≤ maxLen) (hl : Sm w a l) :
    Calls Try.prog 19 #[.slice a l.length c, .string nm, .int .i64 h] w fun e w' => e = .returned (findV l nm h) ∧ Below w.heap.size w w' := by
  have HL := Lib.hid hl
  unfold maxLen at hn
  clear hl
  obtain ⟨g, hg'⟩ : ∃ g, w.heap.size = g := ⟨_, rfl⟩
  have hg : w.heap.size ≤ g := by omega
  have H0 := Lib.hid (one_below w (.cells #[.string ⟨#[]⟩, .int .i64 0, .int .i64 0, .int .u64 0] 34))
  have Z0 := Lib.hid (Bz.new w)
  rw [hg'] at Z0
  go_enter Try.func19, Try.ntmps19
  go_wp2
  go_loopw [8] (fun vi wr => ∃ k : Nat, k ≤ l.length ∧ vi = .int .i64 k ∧ Hid (FirstAt (isS nm h) l k) ∧ Hid (Below w.heap.size w wr) ∧ Hid (Bz g wr)) (fun vi _ => l.length - (intOf vi).toNat)
  case atStart => exact ⟨0, Nat.zero_le _, rfl, Lib.hid (FirstAt.zero _ _), H0, Z0⟩
  case round =>
    clear H0 Z0 hg'
    obtain ⟨k, hk, rfl, HF, HB, Z1⟩ := hrel
    have hlt9 := Z1.out.lt
    by_cases hlt : k < l.length
    · obtain ⟨b, off, ha, hbl, hP⟩ := Sm.at_ (HL.out.below HB.out) hlt
      subst ha
      obtain ⟨s, hs⟩ : ∃ s, s = l[k] := ⟨_, rfl⟩
      rw [← hs] at hP
      obtain ⟨⟨n1, n2, n3⟩, n4⟩ := hP
      have hlz : (k : Int) < (l.length : Int) := by omega
      have r1 : IntKind.i64.wrap ((k : Int) + 1) = (k : Int) + 1 := by rw [IntKind.wrap_i64]; omega
      obtain ⟨q, hq⟩ : ∃ q, (s.p.name.toList == nm.toList) = q := ⟨_, rfl⟩
      obtain ⟨t, ht⟩ : ∃ t, (s.p.hart == h) = t := ⟨_, rfl⟩
      have HQ : Hid (isS nm h l[k] = (q && t)) := Lib.hid (by rw [← hs]; unfold isS; rw [hq, ht])
      have HS := Lib.hid (And.intro hs (And.intro hq ht))
      clear hs
      cases q with
      | false =>
        go_wp2
        go_roundw
        case rel => exact ⟨k + 1, by omega, by go_num, Lib.hid (HF.out.succ hlt (by rw [HQ.out]; rfl)), HB, Z1⟩
        case measure => simp [intOf]; omega
      | true =>
        cases t with
        | false =>
          go_wp2
          go_roundw
          case rel => exact ⟨k + 1, by omega, by go_num, Lib.hid (HF.out.succ hlt (by rw [HQ.out]; rfl)), HB, Z1⟩
          case measure => simp [intOf]; omega
        | true =>
          have HV := Lib.hid (find_of_some hlt HS.out.1 HF.out (by rw [HQ.out]; rfl))
          obtain ⟨⟨v0, c0⟩, ⟨v1, c1⟩, ⟨v2, c2⟩, ⟨v3, c3⟩, f0, f1, f2, f3, lt⟩ := Z1.out
          go_wp2
          refine bodyPost_ret (v := .tuple #[.agg #[.string s.p.name, .int .i64 s.p.size, .int .i64 s.p.hart, .int .u64 s.addr], .int .i64 0]) (by obtain ⟨t0, t1, t2, t3⟩ := set_four c0 c1 c2 c3 (.string s.p.name) (.int .i64 s.p.size) (.int .i64 s.p.hart) (.int .u64 s.addr); simp [results, Try.results19, go_sem, t0, t1, t2, t3]) rfl ⟨?_, below_four HB.out hg _ _ _ _⟩
          rw [HV.out]
    · obtain rfl : k = l.length := by omega
      have HV := Lib.hid (find_of_none HF.out)
      obtain ⟨⟨v0, c0⟩, ⟨v1, c1⟩, ⟨v2, c2⟩, ⟨v3, c3⟩, f0, f1, f2, f3, lt⟩ := Z1.out
      go_wp2
      refine bodyPost_ret (v := .tuple #[.agg #[.string ⟨#[]⟩, .int .i64 0, .int .i64 0, .int .u64 0], .int .i64 6]) (by obtain ⟨t0, t1, t2, t3⟩ := set_four c0 c1 c2 c3 (.string ⟨#[]⟩) (.int .i64 0) (.int .i64 0) (.int .u64 0); simp [results, Try.results19, go_sem, t0, t1, t2, t3]) rfl ⟨?_, below_four HB.out hg _ _ _ _⟩
      rw [HV.out]
theorem at_of_none {l : List Se} {addr : Int} (hf : FirstAt (fun s => dbB s addr) l l.length) : atV l addr = .tuple #[.agg #[.string ⟨#[]⟩, .int .i64 0, .int .i64 0, .int .u64 0], .int .i64 0, .int .i64 6] := by
  unfold atV atF; rw [find_none hf]; simp
theorem at_of_odd {l : List Se} {addr : Int} (hf : ¬ addr % 8 = 0) : atV l addr = .tuple #[.agg #[.string ⟨#[]⟩, .int .i64 0, .int .i64 0, .int .u64 0], .int .i64 0, .int .i64 6] := by
  unfold atV atF; rw [if_neg hf]
theorem at_of_some {l : List Se} {addr : Int} {k : Nat} {s : Se} (h8 : addr % 8 = 0) (hk : k < l.length) (hs : s = l[k]) (hf : FirstAt (fun s => dbB s addr) l k) (e : dbB l[k] addr = true) : atV l addr = .tuple #[.agg #[.string s.p.name, .int .i64 s.p.size, .int .i64 s.p.hart, .int .u64 s.addr], .int .i64 (dbN s addr), .int .i64 0] := by
  unfold atV atF; rw [if_pos h8, find_at hf hk e, hs]
set_option maxHeartbeats 1000000 in
theorem At_any (a : Option Addr) (c : Nat) (l : List Se) (addr : Int) (w : World) (hn : l.length ≤ maxLen) (hl : Sm w a l) (hw : ∀ s ∈ l, SeW s) (a1 : 0 ≤ addr) (a2 : addr ≤ 18446744073709551615) :
    Calls Try.prog 10 #[.slice a l.length c, .int .u64 addr] w fun e w' => e = .returned (atV l addr) ∧ Below w.heap.size w w' := by
  have HL := Lib.hid hl
  have HW := Lib.hid hw
  unfold maxLen at hn
  clear hl hw
  obtain ⟨g, hg'⟩ : ∃ g, w.heap.size = g := ⟨_, rfl⟩
  have hg : w.heap.size ≤ g := by omega
  have H0 := Lib.hid (one_below w (.cells #[.string ⟨#[]⟩, .int .i64 0, .int .i64 0, .int .u64 0] 34))
  have Z0 := Lib.hid (Bz.new w)
  rw [hg'] at Z0
  by_cases h8 : addr % 8 = 0
  · have h8b : (addr % 8 == 0) = true := by simpa using h8
    have h8c : (addr % 8 != 0) = false := by simpa using h8
    have H8 := Lib.hid h8
    clear h8
    go_enter Try.func10, Try.ntmps10
    go_wp2
    go_loopw [17] (fun vi wr => ∃ k : Nat, k ≤ l.length ∧ vi = .int .i64 k ∧ Hid (FirstAt (fun s => dbB s addr) l k) ∧ Hid (Below w.heap.size w wr) ∧ Hid (Bz g wr)) (fun vi _ => l.length - (intOf vi).toNat)
    case atStart => exact ⟨0, Nat.zero_le _, rfl, Lib.hid (FirstAt.zero _ _), H0, Z0⟩
    case round =>
      clear H0 Z0 hg'
      obtain ⟨k, hk, rfl, HF, HB, Z1⟩ := hrel
      by_cases hlt : k < l.length
      · obtain ⟨b, off, ha, hbl, hP⟩ := Sm.at_ (HL.out.below HB.out) hlt
        subst ha
        obtain ⟨s, hs⟩ : ∃ s, s = l[k] := ⟨_, rfl⟩
        rw [← hs] at hP
        obtain ⟨⟨n1, n2, n3⟩, n4⟩ := hP
        have hlz : (k : Int) < (l.length : Int) := by omega
        have r1 : IntKind.i64.wrap ((k : Int) + 1) = (k : Int) + 1 := by rw [IntKind.wrap_i64]; omega
        have HSW := Lib.hid (show SeW s by rw [hs]; exact HW.out _ (List.getElem_mem hlt))
        obtain ⟨q, hq⟩ : ∃ q, dbB s addr = q := ⟨_, rfl⟩
        have HQ : Hid (dbB l[k] addr = q) := Lib.hid (by rw [← hs]; exact hq)
        have HS := Lib.hid (And.intro hs hq)
        clear hs hq
        have SB0 : Hid ((wr.alloc (.cells #[.string s.p.name, .int .i64 s.p.size, .int .i64 s.p.hart, .int .u64 s.addr] 34)).cell? ⟨wr.heap.size, 0, none⟩ = some (.string s.p.name) ∧ (wr.alloc (.cells #[.string s.p.name, .int .i64 s.p.size, .int .i64 s.p.hart, .int .u64 s.addr] 34)).cell? ⟨wr.heap.size, 1, none⟩ = some (.int .i64 s.p.size) ∧ (wr.alloc (.cells #[.string s.p.name, .int .i64 s.p.size, .int .i64 s.p.hart, .int .u64 s.addr] 34)).cell? ⟨wr.heap.size, 2, none⟩ = some (.int .i64 s.p.hart) ∧ (wr.alloc (.cells #[.string s.p.name, .int .i64 s.p.size, .int .i64 s.p.hart, .int .u64 s.addr] 34)).cell? ⟨wr.heap.size, 3, none⟩ = some (.int .u64 s.addr)) := Lib.hid (by refine ⟨?_, ?_, ?_, ?_⟩ <;> simp)
        cases q with
        | false =>
          have K := Lib.hid (fun W => double_no s addr W HSW.out a1 a2 HS.out.2)
          go_wp2_with (go_at_call 29; (with_reducible refine (K.out _).mono ?_); rintro e w1 ⟨rfl, hb⟩; have HB1 := Lib.hid (HB.out.trans (((one_below wr _).trans (hb.mono (by simp))).mono HB.out.size)); have Z2 := Lib.hid (Z1.out.on ((one_below wr _).trans (hb.mono (by simp)))); clear hb)
          go_roundw
          case rel => exact ⟨k + 1, by omega, by go_num, Lib.hid (HF.out.succ hlt HQ.out), HB1, Z2⟩
          case measure => simp [intOf]; omega
        | true =>
          have K := Lib.hid (fun W => double_yes s addr W HSW.out a1 a2 HS.out.2)
          have HV := Lib.hid (at_of_some H8.out hlt HS.out.1 HF.out HQ.out)
          generalize dbN s addr = dn at K HV
          go_wp2_with fail
          clear n1 n2 n3 n4
          obtain ⟨g2, hg2⟩ : ∃ g2, wr.heap.size = g2 := ⟨_, rfl⟩
          have HBW := Lib.hid (one_below wr (.cells #[.string s.p.name, .int .i64 s.p.size, .int .i64 s.p.hart, .int .u64 s.addr] 34))
          have hl2 : g2 < (wr.alloc (.cells #[.string s.p.name, .int .i64 s.p.size, .int .i64 s.p.hart, .int .u64 s.addr] 34)).heap.size := by simp; omega
          rw [hg2] at SB0 ⊢
          generalize wr.alloc (.cells #[.string s.p.name, .int .i64 s.p.size, .int .i64 s.p.hart, .int .u64 s.addr] 34) = W at SB0 HBW hl2 ⊢
          refine (K.out W).mono ?_
          rintro e w1 ⟨rfl, hb⟩
          have HB1 := Lib.hid (HB.out.trans ((HBW.out.trans (hb.mono HBW.out.size)).mono HB.out.size))
          have Z2 := Lib.hid (Z1.out.on (HBW.out.trans (hb.mono HBW.out.size)))
          obtain ⟨m1, m2, m3, m4⟩ : w1.cell? ⟨g2, 0, none⟩ = some (.string s.p.name) ∧ w1.cell? ⟨g2, 1, none⟩ = some (.int .i64 s.p.size) ∧ w1.cell? ⟨g2, 2, none⟩ = some (.int .i64 s.p.hart) ∧ w1.cell? ⟨g2, 3, none⟩ = some (.int .u64 s.addr) :=
            ⟨(hb.cell (p := ⟨g2, 0, none⟩) hl2).trans SB0.out.1, (hb.cell (p := ⟨g2, 1, none⟩) hl2).trans SB0.out.2.1, (hb.cell (p := ⟨g2, 2, none⟩) hl2).trans SB0.out.2.2.1, (hb.cell (p := ⟨g2, 3, none⟩) hl2).trans SB0.out.2.2.2⟩
          clear hb hg2 hl2 HBW SB0
          obtain ⟨⟨v0, c0⟩, ⟨v1, c1⟩, ⟨v2, c2⟩, ⟨v3, c3⟩, f0, f1, f2, f3, lt⟩ := Z2.out
          go_wp2
          refine bodyPost_ret (v := .tuple #[.agg #[.string s.p.name, .int .i64 s.p.size, .int .i64 s.p.hart, .int .u64 s.addr], .int .i64 dn, .int .i64 0]) (by obtain ⟨t0, t1, t2, t3⟩ := set_four c0 c1 c2 c3 (.string s.p.name) (.int .i64 s.p.size) (.int .i64 s.p.hart) (.int .u64 s.addr); simp [results, Try.results10, go_sem, t0, t1, t2, t3]) rfl ⟨?_, below_four HB1.out hg _ _ _ _⟩
          rw [HV.out]
      · obtain rfl : k = l.length := by omega
        have HV := Lib.hid (at_of_none HF.out)
        obtain ⟨⟨v0, c0⟩, ⟨v1, c1⟩, ⟨v2, c2⟩, ⟨v3, c3⟩, f0, f1, f2, f3, lt⟩ := Z1.out
        go_wp2
        refine bodyPost_ret (v := .tuple #[.agg #[.string ⟨#[]⟩, .int .i64 0, .int .i64 0, .int .u64 0], .int .i64 0, .int .i64 6]) (by obtain ⟨t0, t1, t2, t3⟩ := set_four c0 c1 c2 c3 (.string ⟨#[]⟩) (.int .i64 0) (.int .i64 0) (.int .u64 0); simp [results, Try.results10, go_sem, t0, t1, t2, t3]) rfl ⟨?_, below_four HB.out hg _ _ _ _⟩
        rw [HV.out]
  · have h8b : (addr % 8 == 0) = false := by simpa using h8
    have h8c : (addr % 8 != 0) = true := by simpa using h8
    have HV := Lib.hid (at_of_odd (l := l) h8)
    clear h8
    subst hg'
    go_enter Try.func10, Try.ntmps10
    go_wp2
    refine bodyPost_ret (v := .tuple #[.agg #[.string ⟨#[]⟩, .int .i64 0, .int .i64 0, .int .u64 0], .int .i64 0, .int .i64 6]) (by simp [results, Try.results10, go_sem]) rfl ⟨?_, ?_⟩
    · rw [HV.out]
    · exact H0.out
end Go.Proofs.Ythkakikigccaaaa
