/-
  Proved here: what the laws of layer 14 call besides: Own of pieces, two, light, Pick; the chapter's example. No condition but bounds of 64 bits.
-/
import Derived.Test.YthkakikigccaaaaDtPart
import Derived.LoopN
namespace Go.Proofs.Ythkakikigccaaaa
open Go.RowKit Go.Lib
set_option linter.unusedVariables false
set_option linter.unusedSimpArgs false

def pA : Pc := ⟨⟨#[97]⟩, 2, 1⟩
def pB : Pc := ⟨⟨#[98]⟩, 1, -1⟩
def twoL : List Pc := [pA, pB]
theorem twoW : ∀ p ∈ twoL, PcW p := by
  intro p hp
  simp only [twoL, List.mem_cons, List.not_mem_nil, or_false] at hp
  rcases hp with rfl | rfl
  · exact ⟨by unfold maxLen; decide, by decide, by decide, by decide, by decide⟩
  · exact ⟨by unfold maxLen; decide, by decide, by decide, by decide, by decide⟩
/-- a new slice of pieces -/
def PsOut (l : List Pc) (w : World) (e : Ending) (w' : World) : Prop := ∃ (a : Option Addr) (c : Nat), e = .returned (.slice a l.length c) ∧ Sl w' a l ∧ Below w.heap.size w w'
theorem two_any (w : World) : Calls Try.prog 8 #[] w (PsOut twoL w) := by
  go_enter Try.func8, Try.ntmps8
  go_wp2
  go_ret
  refine ⟨some ⟨w.heap.size, 0, none⟩, 2, rfl, .inr ⟨w.heap.size, 0, rfl, ⟨fun k hk => ?_, by simp⟩⟩, one_below _ _⟩
  have : k = 0 ∨ k = 1 := by simp [twoL] at hk; omega
  rcases this with rfl | rfl
  · exact ⟨by simp [twoL, pA], by simp [twoL, pA], by simp [twoL, pA]⟩
  · exact ⟨by simp [twoL, pB], by simp [twoL, pB], by simp [twoL, pB]⟩
def lightB (l : List Pc) : Bool := decide (l.length ≤ 40) && (l.all fun p => decide (p.name.size ≤ 100))
/-- which pieces are gone through -/
def PrefL (l : List Pc) (k : Nat) : Prop := ∀ j (h : j < l.length), j < k → l[j].name.size ≤ 100
def LightOk (l : List Pc) (w : World) (e : Ending) (w' : World) : Prop := ∃ q : Bool, e = .returned (.bool q) ∧ (q = true → l.length ≤ 40 ∧ ∀ p ∈ l, p.name.size ≤ 100) ∧ Below w.heap.size w w'
theorem light_any (a : Option Addr) (c : Nat) (l : List Pc) (w : World) (hn : l.length ≤ maxLen) (hl : Sl w a l) : Calls Try.prog 15 #[.slice a l.length c] w (LightOk l w) := by
  have HL := Lib.hid hl
  unfold maxLen at hn
  clear hl
  go_enter Try.func15, Try.ntmps15
  go_wp2
  go_loop [3] (fun vi => ∃ k : Nat, k ≤ l.length ∧ k ≤ 41 ∧ vi = .int .i64 k ∧ Hid (PrefL l k)) (fun vi => l.length - (intOf vi).toNat)
  case atStart => exact ⟨0, Nat.zero_le _, by omega, rfl, Lib.hid (fun j _ h => by omega)⟩
  case round =>
    obtain ⟨k, hk, hk41, rfl, HP⟩ := hrel
    by_cases hlt : k < l.length
    · have hlz : (k : Int) < (l.length : Int) := by omega
      by_cases h40 : k ≤ 40
      · have h40z : (k : Int) ≤ 40 := by omega
        obtain ⟨b, off, ha, hbl, hP⟩ := Sl.at_ HL.out hlt
        subst ha
        obtain ⟨p, hp⟩ : ∃ p, p = l[k] := ⟨_, rfl⟩
        rw [← hp] at hP
        obtain ⟨n1, n2, n3⟩ := hP
        have HPP := Lib.hid hp
        clear hp
        by_cases h100 : p.name.size ≤ 100
        · have z1 : ¬ (100 : Int) < (p.name.size : Int) := by omega
          have z2 : ¬ 100 < p.name.size := by omega
          go_wp2
          go_round
          case rel => exact ⟨k + 1, by omega, by omega, by go_num, Lib.hid (fun j hj hjk => by
            rcases Nat.lt_succ_iff_lt_or_eq.1 hjk with h1 | h1
            · exact HP.out j hj h1
            · subst h1; rw [← HPP.out]; exact h100)⟩
          case measure => simp [intOf]; omega
        · have z1 : (100 : Int) < (p.name.size : Int) := by omega
          have z2 : 100 < p.name.size := by omega
          go_wp2
          go_ret
          exact ⟨false, rfl, (fun h => nomatch h), Below.refl _ _⟩
      · have h40z : ¬ (k : Int) ≤ 40 := by omega
        have z1 : ¬ (l.length : Int) ≤ 40 := by omega
        have z2 : ¬ l.length ≤ 40 := by omega
        go_wp2
        go_ret
        exact ⟨false, ret_eq (by first | rfl | simp [z2]), (fun h => nomatch h), Below.refl _ _⟩
    · obtain rfl : k = l.length := by omega
      have hlz : ¬ (l.length : Int) < (l.length : Int) := by omega
      by_cases h40 : l.length ≤ 40
      · have z1 : (l.length : Int) ≤ 40 := by omega
        go_wp2
        go_ret
        refine ⟨true, by first | rfl | (refine ret_eq ?_; simp [h40]), (fun _ => ⟨h40, fun p hp => ?_⟩), Below.refl _ _⟩
        obtain ⟨i, hi, rfl⟩ := List.getElem_of_mem hp
        exact HP.out i hi hi
      · have z1 : ¬ (l.length : Int) ≤ 40 := by omega
        go_wp2
        go_ret
        exact ⟨false, by first | rfl | (refine ret_eq ?_; simp [h40]), (fun h => nomatch h), Below.refl _ _⟩
/-- a place within n -/
def pickN (a n : Int) : Int := if n < 1 then 0 else a % n
theorem Pick_any (a n : Int) (w : World) (n0 : 1 ≤ n) (n1 : n ≤ 9223372036854775807) (a1 : -9223372036854775808 ≤ a) (a2 : a ≤ 9223372036854775807) :
    Calls Try.prog 24 #[.int .i64 a, .int .i64 n] w fun e w' => (∃ r : Int, e = .returned (.int .i64 r) ∧ 0 ≤ r ∧ r < n) ∧ w = w' := by
  have z1 : ¬ n < 1 := by omega
  have hb : -n < a.tmod n ∧ a.tmod n < n := by
    have h1 := Int.tmod_lt_of_pos a (show 0 < n by omega)
    have h2 := Int.tmod_lt_of_pos (-a) (show 0 < n by omega)
    rw [Int.neg_tmod] at h2
    omega
  obtain ⟨b1, b2⟩ := hb
  by_cases hs : a.tmod n < 0
  · go_enter Try.func24, Try.ntmps24
    go_wp2
    go_ret
    exact ⟨⟨a.tmod n + n, by first | rfl | (refine ret_eq ?_; congr 1), by omega, by omega⟩, rfl⟩
  · go_enter Try.func24, Try.ntmps24
    go_wp2
    go_ret
    exact ⟨⟨a.tmod n, by first | rfl | (refine ret_eq ?_; congr 1), by omega, by omega⟩, rfl⟩
end Go.Proofs.Ythkakikigccaaaa
