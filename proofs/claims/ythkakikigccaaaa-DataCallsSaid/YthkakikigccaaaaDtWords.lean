/-
  Words: pieces and seats as values, and where they lie in memory; the small functions of package data: what each answers. No condition but bounds of 64 bits.
-/
import Derived.Test.YthkakikigccaaaaProg
import Derived.WalkKit
import Derived.Below
import Derived.IntWalk
import Derived.Lib.Hide
import Derived.Sort.Grow
import Derived.Deep.CutBlock
import Derived.Deep.DeepCutAuto
namespace Go.Proofs.Ythkakikigccaaaa
set_option linter.unusedVariables false
set_option linter.unusedSimpArgs false
open Go.RowKit

structure Pc where
  name : ByteArray
  size : Int
  hart : Int
instance : Inhabited Pc := ⟨⟨⟨#[]⟩, 0, 0⟩⟩
structure Se where
  p : Pc
  addr : Int
instance : Inhabited Se := ⟨⟨default, 0⟩⟩
def pcV (p : Pc) : List Value := [.string p.name, .int .i64 p.size, .int .i64 p.hart]
def pcA (p : Pc) : Value := .agg #[.string p.name, .int .i64 p.size, .int .i64 p.hart]
def seA (s : Se) : Value := .agg #[.string s.p.name, .int .i64 s.p.size, .int .i64 s.p.hart, .int .u64 s.addr]
structure PcW (p : Pc) : Prop where
  name : p.name.size ≤ maxLen
  s1 : -9223372036854775808 ≤ p.size
  s2 : p.size ≤ 9223372036854775807
  h1 : -9223372036854775808 ≤ p.hart
  h2 : p.hart ≤ 9223372036854775807
structure SeW (s : Se) : Prop where
  p : PcW s.p
  a1 : 0 ≤ s.addr
  a2 : s.addr ≤ 18446744073709551615
theorem bcell {W w1 : World} (hb : Below W.heap.size W w1) : (∀ b o, b < W.heap.size → w1.cell? ⟨b, o, none⟩ = W.cell? ⟨b, o, none⟩) ∧ (∀ b o, b < W.heap.size → w1.frozen? ⟨b, o, none⟩ = W.frozen? ⟨b, o, none⟩) :=
  ⟨fun b o h => hb.cell (p := ⟨b, o, none⟩) h, fun b o h => hb.frozen (p := ⟨b, o, none⟩) h⟩
/-- a piece lies at b, o -/
structure PAt (w : World) (b o : Nat) (p : Pc) : Prop where
  n : w.cell? ⟨b, o, none⟩ = some (.string p.name)
  s : w.cell? ⟨b, o + 1, none⟩ = some (.int .i64 p.size)
  h : w.cell? ⟨b, o + 2, none⟩ = some (.int .i64 p.hart)
theorem PAt.below {w w' : World} {b o : Nat} {p : Pc} (h : PAt w b o p) (hl : b < w.heap.size) (hb : Below w.heap.size w w') : PAt w' b o p :=
  ⟨(hb.cell (p := ⟨b, o, none⟩) hl).trans h.n, (hb.cell (p := ⟨b, o + 1, none⟩) hl).trans h.s, (hb.cell (p := ⟨b, o + 2, none⟩) hl).trans h.h⟩
/-- a row of pieces -/
structure Ps (w : World) (b off : Nat) (l : List Pc) : Prop where
  at_ : ∀ k (h : k < l.length), PAt w b (off + k * 3) l[k]
  lt : b < w.heap.size
theorem Ps.below {w w' : World} {b off : Nat} {l : List Pc} (h : Ps w b off l) (hb : Below w.heap.size w w') : Ps w' b off l :=
  ⟨fun k hk => (h.at_ k hk).below h.lt hb, Nat.lt_of_lt_of_le h.lt hb.size⟩
/-- a slice of pieces: where it begins, what it has -/
def Sl (w : World) (a : Option Addr) (l : List Pc) : Prop := l = [] ∨ ∃ b off, a = some ⟨b, off, none⟩ ∧ Ps w b off l
theorem Sl.below {w w' : World} {a : Option Addr} {l : List Pc} (h : Sl w a l) (hb : Below w.heap.size w w') : Sl w' a l := by
  rcases h with h | ⟨b, off, rfl, h⟩
  · exact .inl h
  · exact .inr ⟨b, off, rfl, h.below hb⟩
theorem Sl.at_ {w : World} {a : Option Addr} {l : List Pc} (h : Sl w a l) {k : Nat} (hk : k < l.length) : ∃ b off, a = some ⟨b, off, none⟩ ∧ b < w.heap.size ∧ PAt w b (off + k * 3) l[k] := by
  rcases h with h | ⟨b, off, rfl, h⟩
  · subst h; simp at hk
  · exact ⟨b, off, rfl, h.lt, h.at_ k hk⟩
structure SAt (w : World) (b o : Nat) (s : Se) : Prop where
  p : PAt w b o s.p
  a : w.cell? ⟨b, o + 3, none⟩ = some (.int .u64 s.addr)
theorem SAt.below {w w' : World} {b o : Nat} {s : Se} (h : SAt w b o s) (hl : b < w.heap.size) (hb : Below w.heap.size w w') : SAt w' b o s :=
  ⟨h.p.below hl hb, (hb.cell (p := ⟨b, o + 3, none⟩) hl).trans h.a⟩
structure Ss (w : World) (b off : Nat) (l : List Se) : Prop where
  at_ : ∀ k (h : k < l.length), SAt w b (off + k * 4) l[k]
  lt : b < w.heap.size
theorem Ss.below {w w' : World} {b off : Nat} {l : List Se} (h : Ss w b off l) (hb : Below w.heap.size w w') : Ss w' b off l :=
  ⟨fun k hk => (h.at_ k hk).below h.lt hb, Nat.lt_of_lt_of_le h.lt hb.size⟩
def Sm (w : World) (a : Option Addr) (l : List Se) : Prop := l = [] ∨ ∃ b off, a = some ⟨b, off, none⟩ ∧ Ss w b off l
theorem Sm.below {w w' : World} {a : Option Addr} {l : List Se} (h : Sm w a l) (hb : Below w.heap.size w w') : Sm w' a l := by
  rcases h with h | ⟨b, off, rfl, h⟩
  · exact .inl h
  · exact .inr ⟨b, off, rfl, h.below hb⟩
theorem Sm.at_ {w : World} {a : Option Addr} {l : List Se} (h : Sm w a l) {k : Nat} (hk : k < l.length) : ∃ b off, a = some ⟨b, off, none⟩ ∧ b < w.heap.size ∧ SAt w b (off + k * 4) l[k] := by
  rcases h with h | ⟨b, off, rfl, h⟩
  · subst h; simp at hk
  · exact ⟨b, off, rfl, h.lt, h.at_ k hk⟩

/-! ### small functions -/
theorem ret_eq {v v' : Value} (h : v = v') : Ending.returned v = .returned v' := by rw [h]
def ownB (h : Int) : Bool := decide (-1 ≤ h) && decide (h < 8)
theorem isOwner_any (h : Int) (w : World) : Calls Try.prog 27 #[.int .i64 h] w fun e w' => e = .returned (.bool (ownB h)) ∧ w = w' := by
  have key : ¬ -1 ≤ h ∨ (-1 ≤ h ∧ ¬ h < 8) ∨ (-1 ≤ h ∧ h < 8) := by omega
  rcases key with h1 | ⟨h1, h2⟩ | ⟨h1, h2⟩
  · have HM := Lib.hid (show ownB h = false by simp only [ownB, Bool.and_eq_false_iff, decide_eq_false_iff_not]; omega)
    go_enter Try.func27, Try.ntmps27
    go_wp2
    go_ret
    exact ⟨ret_eq (by rw [HM.out]; rfl), rfl⟩
  · have HM := Lib.hid (show ownB h = false by simp only [ownB, Bool.and_eq_false_iff, decide_eq_false_iff_not]; omega)
    go_enter Try.func27, Try.ntmps27
    go_wp2
    go_ret
    exact ⟨ret_eq (by rw [HM.out]; rfl), rfl⟩
  · have HM := Lib.hid (show ownB h = true by simp only [ownB, Bool.and_eq_true, decide_eq_true_eq]; omega)
    go_enter Try.func27, Try.ntmps27
    go_wp2
    go_ret
    exact ⟨ret_eq (by rw [HM.out]; rfl), rfl⟩
/-- where so many doubles end -/
def plI (n : Int) : Int := 1048576 + 8 * n
theorem place_any (n : Int) (w : World) (h0 : 0 ≤ n) (h1 : n ≤ 1000000000) : Calls Try.prog 28 #[.int .i64 n] w fun e w' => e = .returned (.int .u64 (plI n)) ∧ w = w' := by
  go_enter Try.func28, Try.ntmps28
  go_wp2
  go_ret
  exact ⟨ret_eq rfl, rfl⟩
/-- what pieces are laid by -/
def rk (p : Pc) : Int := wrap64 (p.hart + 1)
theorem rank_any (p : Pc) (w : World) : Calls Try.prog 37 #[.agg #[.string p.name, .int .i64 p.size, .int .i64 p.hart]] w fun e w' => e = .returned (.int .i64 (rk p)) ∧ ∃ o, w' = w.alloc o := by
  obtain ⟨nm, sz, ht⟩ := p
  go_enter Try.func37, Try.ntmps37
  go_wp2
  go_ret
  exact ⟨ret_eq rfl, _, rfl⟩
/-- may a piece be? -/
def mayB (p : Pc) : Bool := decide (1 ≤ p.name.size) && decide (p.name.size ≤ 32) && decide (1 ≤ p.size) && decide (p.size ≤ 65536) && ownB p.hart
theorem own_cases (h : Int) : (ownB h = true ∧ -1 ≤ h ∧ h < 8) ∨ (ownB h = false ∧ (¬ -1 ≤ h ∨ ¬ h < 8)) := by
  unfold ownB
  by_cases h1 : -1 ≤ h <;> by_cases h2 : h < 8 <;> simp [h1, h2] <;> omega
theorem mayBe_any (p : Pc) (w : World) : Calls Try.prog 38 #[.agg #[.string p.name, .int .i64 p.size, .int .i64 p.hart]] w fun e w' => e = .returned (.bool (mayB p)) ∧ Below w.heap.size w w' := by
  obtain ⟨nm, sz, ht⟩ := p
  have key : ¬ 1 ≤ nm.size ∨ (1 ≤ nm.size ∧ ¬ nm.size ≤ 32) ∨ (1 ≤ nm.size ∧ nm.size ≤ 32 ∧ ¬ 1 ≤ sz) ∨ (1 ≤ nm.size ∧ nm.size ≤ 32 ∧ 1 ≤ sz ∧ ¬ sz ≤ 65536) ∨ (1 ≤ nm.size ∧ nm.size ≤ 32 ∧ 1 ≤ sz ∧ sz ≤ 65536) := by omega
  rcases key with h1 | ⟨h1, h2⟩ | ⟨h1, h2, h3⟩ | ⟨h1, h2, h3, h4⟩ | ⟨h1, h2, h3, h4⟩
  · have HM := Lib.hid (show mayB ⟨nm, sz, ht⟩ = false by simp [mayB, h1])
    go_enter Try.func38, Try.ntmps38
    go_wp2_with (go_at_call 27; (with_reducible refine (isOwner_any _ _).mono ?_); rintro e w' ⟨rfl, rfl⟩)
    go_ret
    exact ⟨ret_eq (by rw [HM.out]; rfl), (Below.refl _ _).alloc (Nat.le_refl _) _⟩
  · have HM := Lib.hid (show mayB ⟨nm, sz, ht⟩ = false by simp [mayB, h1, h2])
    go_enter Try.func38, Try.ntmps38
    go_wp2_with (go_at_call 27; (with_reducible refine (isOwner_any _ _).mono ?_); rintro e w' ⟨rfl, rfl⟩)
    go_ret
    exact ⟨ret_eq (by rw [HM.out]; rfl), (Below.refl _ _).alloc (Nat.le_refl _) _⟩
  · have HM := Lib.hid (show mayB ⟨nm, sz, ht⟩ = false by simp [mayB, h1, h2, h3])
    go_enter Try.func38, Try.ntmps38
    go_wp2_with (go_at_call 27; (with_reducible refine (isOwner_any _ _).mono ?_); rintro e w' ⟨rfl, rfl⟩)
    go_ret
    exact ⟨ret_eq (by rw [HM.out]; rfl), (Below.refl _ _).alloc (Nat.le_refl _) _⟩
  · have HM := Lib.hid (show mayB ⟨nm, sz, ht⟩ = false by simp [mayB, h1, h2, h3, h4])
    go_enter Try.func38, Try.ntmps38
    go_wp2_with (go_at_call 27; (with_reducible refine (isOwner_any _ _).mono ?_); rintro e w' ⟨rfl, rfl⟩)
    go_ret
    exact ⟨ret_eq (by rw [HM.out]; rfl), (Below.refl _ _).alloc (Nat.le_refl _) _⟩
  · have HM := Lib.hid (show mayB ⟨nm, sz, ht⟩ = ownB ht by simp [mayB, h1, h2, h3, h4])
    go_enter Try.func38, Try.ntmps38
    go_wp2_with (go_at_call 27; (with_reducible refine (isOwner_any _ _).mono ?_); rintro e w' ⟨rfl, rfl⟩)
    go_ret
    exact ⟨ret_eq (by rw [HM.out]; rfl), (Below.refl _ _).alloc (Nat.le_refl _) _⟩
theorem rmay_any (p : Pc) (w : World) : Calls Try.prog 33 #[.agg #[.string p.name, .int .i64 p.size, .int .i64 p.hart]] w fun e w' => e = .returned (.bool (mayB p)) ∧ Below w.heap.size w w' := by
  obtain ⟨nm, sz, ht⟩ := p
  have key : ¬ 1 ≤ nm.size ∨ (1 ≤ nm.size ∧ ¬ nm.size ≤ 32) ∨ (1 ≤ nm.size ∧ nm.size ≤ 32 ∧ ¬ 1 ≤ sz) ∨ (1 ≤ nm.size ∧ nm.size ≤ 32 ∧ 1 ≤ sz ∧ ¬ sz ≤ 65536) ∨ (1 ≤ nm.size ∧ nm.size ≤ 32 ∧ 1 ≤ sz ∧ sz ≤ 65536 ∧ ¬ -1 ≤ ht) ∨ (1 ≤ nm.size ∧ nm.size ≤ 32 ∧ 1 ≤ sz ∧ sz ≤ 65536 ∧ -1 ≤ ht ∧ ¬ ht < 8) ∨ (1 ≤ nm.size ∧ nm.size ≤ 32 ∧ 1 ≤ sz ∧ sz ≤ 65536 ∧ -1 ≤ ht ∧ ht < 8) := by omega
  rcases key with h1 | ⟨h1, h2⟩ | ⟨h1, h2, h3⟩ | ⟨h1, h2, h3, h4⟩ | ⟨h1, h2, h3, h4, h5⟩ | ⟨h1, h2, h3, h4, h5, h6⟩ | ⟨h1, h2, h3, h4, h5, h6⟩
  · have HM := Lib.hid (show mayB ⟨nm, sz, ht⟩ = false by simp [mayB, ownB, h1])
    go_enter Try.func33, Try.ntmps33
    go_wp2
    go_ret
    exact ⟨ret_eq (by rw [HM.out]; rfl), (Below.refl _ _).alloc (Nat.le_refl _) _⟩
  · have HM := Lib.hid (show mayB ⟨nm, sz, ht⟩ = false by simp [mayB, ownB, h1, h2])
    go_enter Try.func33, Try.ntmps33
    go_wp2
    go_ret
    exact ⟨ret_eq (by rw [HM.out]; rfl), (Below.refl _ _).alloc (Nat.le_refl _) _⟩
  · have HM := Lib.hid (show mayB ⟨nm, sz, ht⟩ = false by simp [mayB, ownB, h1, h2, h3])
    go_enter Try.func33, Try.ntmps33
    go_wp2
    go_ret
    exact ⟨ret_eq (by rw [HM.out]; rfl), (Below.refl _ _).alloc (Nat.le_refl _) _⟩
  · have HM := Lib.hid (show mayB ⟨nm, sz, ht⟩ = false by simp [mayB, ownB, h1, h2, h3, h4])
    go_enter Try.func33, Try.ntmps33
    go_wp2
    go_ret
    exact ⟨ret_eq (by rw [HM.out]; rfl), (Below.refl _ _).alloc (Nat.le_refl _) _⟩
  · have HM := Lib.hid (show mayB ⟨nm, sz, ht⟩ = false by simp [mayB, ownB, h1, h2, h3, h4, h5])
    go_enter Try.func33, Try.ntmps33
    go_wp2
    go_ret
    exact ⟨ret_eq (by rw [HM.out]; rfl), (Below.refl _ _).alloc (Nat.le_refl _) _⟩
  · have HM := Lib.hid (show mayB ⟨nm, sz, ht⟩ = false by simp [mayB, ownB, h1, h2, h3, h4, h5, h6])
    go_enter Try.func33, Try.ntmps33
    go_wp2
    go_ret
    exact ⟨ret_eq (by rw [HM.out]; rfl), (Below.refl _ _).alloc (Nat.le_refl _) _⟩
  · have HM := Lib.hid (show mayB ⟨nm, sz, ht⟩ = true by simp [mayB, ownB, h1, h2, h3, h4, h5, h6])
    go_enter Try.func33, Try.ntmps33
    go_wp2
    go_ret
    exact ⟨ret_eq (by rw [HM.out]; rfl), (Below.refl _ _).alloc (Nat.le_refl _) _⟩

/-- a Name and a Hart -/
def tiA (p : Pc) : Value := .agg #[.string p.name, .int .i64 p.hart]
theorem title_any (p : Pc) (w : World) : Calls Try.prog 39 #[.agg #[.string p.name, .int .i64 p.size, .int .i64 p.hart]] w fun e w' => e = .returned (.agg #[.string p.name, .int .i64 p.hart]) ∧ Below w.heap.size w w' := by
  obtain ⟨nm, sz, ht⟩ := p
  go_enter Try.func39, Try.ntmps39
  go_wp2
  refine bodyPost_ret (v := .agg #[.string nm, .int .i64 ht]) (by simp [results, Try.results39, go_sem]) rfl ⟨rfl, ?_⟩
  exact (((Below.refl _ _).alloc (Nat.le_refl _) _).alloc (by simp) _)
/-- which double of a seat an address stands in -/
def dbB (s : Se) (addr : Int) : Bool := decide (0 < s.p.size) && decide (s.addr ≤ addr) && decide ((addr - s.addr) / 8 < s.p.size)
def dbN (s : Se) (addr : Int) : Int := (addr - s.addr) / 8
theorem double_no (s : Se) (addr : Int) (w : World) (hs : SeW s) (a1 : 0 ≤ addr) (a2 : addr ≤ 18446744073709551615) (h : dbB s addr = false) :
    Calls Try.prog 29 #[.agg #[.string s.p.name, .int .i64 s.p.size, .int .i64 s.p.hart, .int .u64 s.addr], .int .u64 addr] w fun e w' => e = .returned (.tuple #[.int .i64 0, .bool false]) ∧ Below w.heap.size w w' := by
  obtain ⟨⟨nm, sz, ht⟩, ad⟩ := s
  obtain ⟨⟨_, s1, s2, _, _⟩, d1, d2⟩ := hs
  simp only at s1 s2 d1 d2
  have key : sz ≤ 0 ∨ (¬ sz ≤ 0 ∧ addr < ad) ∨ (¬ sz ≤ 0 ∧ ¬ addr < ad ∧ sz ≤ (addr - ad) / 8) := by
    simp only [dbB, Bool.and_eq_false_iff, decide_eq_false_iff_not] at h
    omega
  clear h
  rcases key with h1 | ⟨h1, h2⟩ | ⟨h1, h2, h3⟩
  · go_enter Try.func29, Try.ntmps29
    go_wp2
    go_ret2
    exact ⟨rfl, (Below.refl _ _).alloc (Nat.le_refl _) _⟩
  · go_enter Try.func29, Try.ntmps29
    go_wp2
    go_ret2
    exact ⟨rfl, (Below.refl _ _).alloc (Nat.le_refl _) _⟩
  · have p1 : 0 < sz := by omega
    have p2 : ad ≤ addr := by omega
    have p3 : 0 ≤ addr - ad := by omega
    have p4 : addr - ad ≤ 18446744073709551615 := by omega
    go_enter Try.func29, Try.ntmps29
    go_wp2
    go_ret2
    exact ⟨rfl, (Below.refl _ _).alloc (Nat.le_refl _) _⟩
theorem double_yes (s : Se) (addr : Int) (w : World) (hs : SeW s) (a1 : 0 ≤ addr) (a2 : addr ≤ 18446744073709551615) (h : dbB s addr = true) :
    Calls Try.prog 29 #[.agg #[.string s.p.name, .int .i64 s.p.size, .int .i64 s.p.hart, .int .u64 s.addr], .int .u64 addr] w fun e w' => e = .returned (.tuple #[.int .i64 (dbN s addr), .bool true]) ∧ Below w.heap.size w w' := by
  obtain ⟨⟨nm, sz, ht⟩, ad⟩ := s
  obtain ⟨⟨_, s1, s2, _, _⟩, d1, d2⟩ := hs
  simp only at s1 s2 d1 d2
  have key : ¬ sz ≤ 0 ∧ ¬ addr < ad ∧ ¬ sz ≤ (addr - ad) / 8 := by
    simp only [dbB, Bool.and_eq_true, decide_eq_true_eq] at h
    omega
  clear h
  obtain ⟨h1, h2, h3⟩ := key
  have p1 : 0 < sz := by omega
  have p2 : ad ≤ addr := by omega
  have p3 : 0 ≤ addr - ad := by omega
  have p4 : addr - ad ≤ 18446744073709551615 := by omega
  have p5 : (addr - ad) / 8 ≤ 9223372036854775807 := by omega
  have p6 : 0 ≤ (addr - ad) / 8 := by omega
  go_enter Try.func29, Try.ntmps29
  go_wp2
  go_ret2
  exact ⟨ret_eq rfl, (Below.refl _ _).alloc (Nat.le_refl _) _⟩
end Go.Proofs.Ythkakikigccaaaa
