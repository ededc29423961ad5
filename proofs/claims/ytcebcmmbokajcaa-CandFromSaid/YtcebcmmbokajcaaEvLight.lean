/-
  Proved here: the kit's LightEvents; nothing that was there is changed. Condition: a row of events.
-/
import Derived.Test.YtcebcmmbokajcaaEvRow
import Derived.Test.YtcebcmmbokajcaaEvRowsArg
import Derived.Test.YtcebcmmbokajcaaEvKit
namespace Go.Proofs.Ytcebcmmbokajcaa
set_option linter.unusedVariables false
set_option linter.unusedSimpArgs false
open Go.RowKit
attribute [local go_sem ↓] fold_E fold_SE

def small (l : El) : Prop := l.a.length ≤ 60 ∧ l.d.length ≤ 60 ∧ l.y.length ≤ 60
theorem small.n {l : El} (h : small l) : l.n := ⟨Nat.le_trans h.1 (by omega), Nat.le_trans h.2.1 (by omega), Nat.le_trans h.2.2 (by omega)⟩
def LightIs (w : World) (n : Nat) (el : Nat → El) (e : Ending) (w' : World) : Prop := ∃ r, e = .returned (.bool r) ∧ (r = true → n ≤ 60 ∧ ∀ k, k < n → small (el k)) ∧ Below w.heap.size w w'
theorem light_b (a d y : Option Addr) (n1 n2 n3 c1 c2 c3 : Nat) (r : Bool) (hr : Hid ((decide (n1 ≤ 60) && (decide (n2 ≤ 60) && decide (n3 ≤ 60))) = r)) (w : World) : Calls Try.prog 68 #[.agg #[.slice a n1 c1, .slice d n2 c2, .slice y n3 c3], .int .i64 60] w fun e w' => SameOk w r e w' := by
  have := light_any a d y n1 n2 n3 c1 c2 c3 60 w
  rw [hr.out] at this
  exact this
theorem EvIn.deps {e : Ev} {b o : Nat} {w : World} (h : EvIn e b o w) : w.cell? ⟨b, o + 11, none⟩ = some e.a ∧ w.cell? ⟨b, o + 12, none⟩ = some e.d ∧ w.cell? ⟨b, o + 13, none⟩ = some e.y := ⟨h 11 _ rfl, h 12 _ rfl, h 13 _ rfl⟩
theorem light_none (a : Option Addr) (c : Nat) (el : Nat → El) (w : World) : Calls Try.prog 43 #[.slice a 0 c, .int .i64 60] w fun e w' => LightIs w 0 el e w' := by
  go_enter Try.func43, Try.ntmps43
  go_wp2
  refine wp_loop_rounds 1 ?_
  rw [rounds_succ]
  go_wp2
  go_ret
  exact ⟨true, rfl, fun _ => ⟨by omega, fun k hk => absurd hk (by omega)⟩, Below.refl _ _⟩
theorem light_long (a : Option Addr) (n c : Nat) (el : Nat → El) (w : World) (hn : 60 < n) : Calls Try.prog 43 #[.slice a n c, .int .i64 60] w fun e w' => LightIs w n el e w' := by
  have d1 : decide (60 < n) = true := by simpa using hn
  go_enter Try.func43, Try.ntmps43
  go_wp2
  go_ret
  exact ⟨false, rfl, (fun h => by cases h), Below.refl _ _⟩
set_option maxRecDepth 100000 in
set_option maxHeartbeats 4000000 in
theorem light_row (n b off c : Nat) (ev : Nat → Ev) (el : Nat → El) (w : World) (hn : n ≤ 60) (h : Rw n b off ev el w) :
    Calls Try.prog 43 #[.slice (some ⟨b, off, none⟩) n c, .int .i64 60] w fun e w' => LightIs w n el e w' := by
  have HV := Lib.hid h
  have d1 : decide (60 < n) = false := by simp; omega
  clear h
  go_enter Try.func43, Try.ntmps43
  go_wp2
  go_loopw [5] (fun vi wr => ∃ (k : Nat), k ≤ n ∧ vi = .int .i64 k ∧ Hid (∀ j, j < k → small (el j)) ∧ Below w.heap.size w wr) (fun vi _ => n - (intOf vi).toNat)
  case atStart => exact ⟨0, Nat.zero_le _, rfl, Lib.hid (fun j hj => absurd hj (by omega)), Below.refl _ _⟩
  case round =>
    obtain ⟨k, hk, rfl, hR, hbel⟩ := hrel
    have HL := Lib.hid hbel
    clear hbel
    by_cases hlt : k < n
    · have HE := Lib.hid (HV.out.below HL.out)
      obtain ⟨u0, u1, u2⟩ := (HE.out.at_ k hlt).deps
      obtain ⟨a1, c1, e1⟩ := (HE.out.reads k hlt).1.len
      obtain ⟨a2, c2, e2⟩ := (HE.out.reads k hlt).2.1.len
      obtain ⟨a3, c3, e3⟩ := (HE.out.reads k hlt).2.2.len
      rw [e1] at u0
      rw [e2] at u1
      rw [e3] at u2
      clear e1 e2 e3
      by_cases hs : small (el k)
      · have KL := Lib.hid (fun w0 => light_b a1 a2 a3 (el k).a.length (el k).d.length (el k).y.length c1 c2 c3 true (Lib.hid (by simp [hs.1, hs.2.1, hs.2.2])) w0)
        have HS2 : Hid (∀ j, j < k + 1 → small (el j)) := Lib.hid (fun j hj => by
          by_cases h : j < k
          · exact hR.out j h
          · obtain rfl : j = k := by omega
            exact hs)
        clear hs
        go_wp2_with (go_at_call 68; (with_reducible refine (KL.out _).mono ?_); rintro e' w1 ⟨rfl, hb⟩; have L1 := Lib.hid (HL.out.trans (hb.mono HL.out.size)); clear hb)
        go_roundw
        case rel => exact ⟨k + 1, by omega, by go_num, HS2, L1.out⟩
        case measure => simp [intOf]; omega
      · have KL := Lib.hid (fun w0 => light_b a1 a2 a3 (el k).a.length (el k).d.length (el k).y.length c1 c2 c3 false (Lib.hid (by
          have hs' : ¬ ((el k).a.length ≤ 60 ∧ (el k).d.length ≤ 60 ∧ (el k).y.length ≤ 60) := hs
          cases h : (decide ((el k).a.length ≤ 60) && (decide ((el k).d.length ≤ 60) && decide ((el k).y.length ≤ 60))) with
          | false => rfl
          | true => exact absurd (by simpa using h) hs')) w0)
        clear hs
        go_wp2_with (go_at_call 68; (with_reducible refine (KL.out _).mono ?_); rintro e' w1 ⟨rfl, hb⟩; have L1 := Lib.hid (HL.out.trans (hb.mono HL.out.size)); clear hb)
        go_ret
        exact ⟨false, rfl, (fun h => by cases h), L1.out⟩
    · obtain rfl : k = n := by omega
      go_wp2
      go_ret
      exact ⟨true, rfl, fun _ => ⟨hn, hR.out⟩, HL.out⟩
/-- a slice of events that comes in -/
def RowIn (w : World) (a : Option Addr) (n : Nat) (ev : Nat → Ev) (el : Nat → El) : Prop := n = 0 ∨ ∃ b off, a = some ⟨b, off, none⟩ ∧ n ≤ maxLen ∧ Rw n b off ev el w
theorem light_events (a : Option Addr) (n c : Nat) (ev : Nat → Ev) (el : Nat → El) (w : World) (h : RowIn w a n ev el) : Calls Try.prog 43 #[.slice a n c, .int .i64 60] w fun e w' => LightIs w n el e w' := by
  rcases h with rfl | ⟨b, off, rfl, _, h⟩
  · exact light_none a c el w
  · by_cases hn : n ≤ 60
    · exact light_row n b off c ev el w hn h
    · exact light_long _ n c el w (by omega)
end Go.Proofs.Ytcebcmmbokajcaa
