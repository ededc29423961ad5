/-
  Proved here: the law EventRows answers true of rows that it does not look at; nothing that was there is changed. Condition: the tables of strconv and math/bits as the library lays them.
-/
import Derived.Test.YtjdfhohchicgbaaDoorEvRowsPlain
import Derived.Test.YtjdfhohchicgbaaDoorEvLives
import Derived.Maps.OwnOps
import Derived.Maps.OwnSet
import Derived.Carry
namespace Go.Proofs.YtjdfhohchicgbaaDoor
open Go.RowKit
attribute [local go_sem ↓] fold_E fold_SE

def AllSmall (n : Nat) (el : Nat → El) : Prop := n ≤ 60 ∧ ∀ k, k < n → small (el k)
theorem light_no (a : Option Addr) (n c : Nat) (ev : Nat → Ev) (el : Nat → El) (w : World) (h : RowIn w a n ev el) (hs : ¬ AllSmall n el) : Calls Tryd.prog 22 #[.slice a n c, .int .i64 60] w fun e w' => SameOk w false e w' := by
  refine (light_events a n c ev el w h).mono ?_
  rintro e w' ⟨r, rfl, hr, hb⟩
  cases r with
  | false => exact ⟨rfl, hb⟩
  | true => exact absurd (hr rfl) hs
set_option maxRecDepth 100000 in
set_option maxHeartbeats 4000000 in
theorem light_yes (n b off c : Nat) (ev : Nat → Ev) (el : Nat → El) (w : World) (hs : AllSmall n el) (h : Rw n b off ev el w) :
    Calls Tryd.prog 22 #[.slice (some ⟨b, off, none⟩) n c, .int .i64 60] w fun e w' => SameOk w true e w' := by
  have HV := Lib.hid h
  have HS := Lib.hid hs
  have hn : n ≤ 60 := hs.1
  have d1 : decide (60 < n) = false := by simp; omega
  clear h hs
  go_enter Tryd.func22, Tryd.ntmps22
  go_wp2
  go_loopw [5] (fun vi wr => ∃ (k : Nat), k ≤ n ∧ vi = .int .i64 k ∧ Below w.heap.size w wr) (fun vi _ => n - (intOf vi).toNat)
  case atStart => exact ⟨0, Nat.zero_le _, rfl, Below.refl _ _⟩
  case round =>
    obtain ⟨k, hk, rfl, hbel⟩ := hrel
    have HL := Lib.hid hbel
    clear hbel
    by_cases hlt : k < n
    · have HE := Lib.hid (HV.out.below HL.out)
      obtain ⟨u0, u1, u2⟩ := (HE.out.at_ k hlt).deps
      obtain ⟨a1, c1, e1⟩ := (HE.out.reads k hlt).1.len
      obtain ⟨a2, c2, e2⟩ := (HE.out.reads k hlt).2.1.len
      obtain ⟨a3, c3, e3⟩ := (HE.out.reads k hlt).2.2.len
      rw [e1] at u0
      rw [e2] at u1
      rw [e3] at u2
      clear e1 e2 e3
      have KL := Lib.hid (fun w0 => light_b a1 a2 a3 (el k).a.length (el k).d.length (el k).y.length c1 c2 c3 true (Lib.hid (by have hs := HS.out.2 k hlt; simp [hs.1, hs.2.1, hs.2.2])) w0)
      go_wp2_with (go_at_call 16; (with_reducible refine (KL.out _).mono ?_); rintro e' w1 ⟨rfl, hb⟩; have L1 := Lib.hid (HL.out.trans (hb.mono HL.out.size)); clear hb)
      go_roundw
      case rel => exact ⟨k + 1, by omega, by go_num, L1.out⟩
      case measure => simp [intOf]; omega
    · obtain rfl : k = n := by omega
      go_wp2
      go_ret
      exact ⟨rfl, HL.out⟩
theorem light_zero (a : Option Addr) (c : Nat) (w : World) : Calls Tryd.prog 22 #[.slice a 0 c, .int .i64 60] w fun e w' => SameOk w true e w' := by
  go_enter Tryd.func22, Tryd.ntmps22
  go_wp2
  refine wp_loop_rounds 1 ?_
  rw [rounds_succ]
  go_wp2
  go_ret
  exact ⟨rfl, Below.refl _ _⟩
theorem row_b (hart : Int) (n b off c : Nat) (ev : Nat → Ev) (el : Nat → El) (w : World) (r : Bool) (hr : (rowL hart ev el n).isSome = r) (hn : n ≤ 1000) (h : Evs n b off ev el w) :
    Calls Tryd.prog 12 #[.int .i64 hart, .slice (some ⟨b, off, none⟩) n c] w fun e w' => RowIs w r e w' := by
  rw [← hr]; exact row_some hart n b off c ev el w hn h
set_option maxRecDepth 100000 in
set_option maxHeartbeats 8000000 in
theorem rows_heavy (hart pos : Int) (a : Option Addr) (n c : Nat) (ev : Nat → Ev) (el : Nat → El) (w : World) (hT : TabB w) (h : RowIn w a n ev el) (hs : ¬ AllSmall n el) :
    Calls Tryd.prog 5 #[.int .i64 hart, .slice a n c, .int .i64 pos] w fun e w' => SameOk w true e w' := by
  have HT := Lib.hid hT
  have KL : Hid (∀ w0, Below w.heap.size w w0 → Calls Tryd.prog 22 #[.slice a n c, .int .i64 60] w0 fun e w' => SameOk w0 false e w') := Lib.hid (fun w0 hb => light_no a n c ev el w0 (by
    rcases h with h0 | ⟨b, off, e, h1, h2⟩
    · exact .inl h0
    · exact .inr ⟨b, off, e, h1, h2.below hb⟩) hs)
  clear hT h hs
  go_enter Tryd.func5, Tryd.ntmps5
  go_wp2_with (first
    | (go_at_call 7; (with_reducible refine (lives_any _ HT.out).mono ?_); rintro e' w1 ⟨rfl, hb⟩; have L1 := Lib.hid hb; clear hb)
    | (go_at_call 22; (with_reducible refine (KL.out _ L1.out).mono ?_); rintro e' w2 ⟨rfl, hb⟩; have L2 := Lib.hid (L1.out.trans (hb.mono L1.out.size)); clear hb))
  go_ret
  exact ⟨rfl, L2.out⟩
set_option maxRecDepth 100000 in
set_option maxHeartbeats 8000000 in
theorem rows_bad (hart pos : Int) (n b off c : Nat) (ev : Nat → Ev) (el : Nat → El) (w : World) (hT : TabB w) (h : Rw n b off ev el w) (hs : AllSmall n el) (hr : (rowL hart ev el n).isSome = false) :
    Calls Tryd.prog 5 #[.int .i64 hart, .slice (some ⟨b, off, none⟩) n c, .int .i64 pos] w fun e w' => SameOk w true e w' := by
  have HT := Lib.hid hT
  have KL := Lib.hid (fun w0 (hb : Below w.heap.size w w0) => light_yes n b off c ev el w0 hs (h.below hb))
  have KR := Lib.hid (fun w0 (hb : Below w.heap.size w w0) => row_b hart n b off c ev el w0 false hr (by have := hs.1; omega) ((h.evs (fun k hk => (hs.2 k hk).n)).below hb))
  clear hT h hs hr
  go_enter Tryd.func5, Tryd.ntmps5
  go_wp2_with (first
    | (go_at_call 7; (with_reducible refine (lives_any _ HT.out).mono ?_); rintro e' w1 ⟨rfl, hb⟩; have L1 := Lib.hid hb; clear hb)
    | (go_at_call 22; (with_reducible refine (KL.out _ L1.out).mono ?_); rintro e' w2 ⟨rfl, hb⟩; have L2 := Lib.hid (L1.out.trans (hb.mono L1.out.size)); clear hb)
    | (go_at_call 12; (with_reducible refine (KR.out _ L2.out).mono ?_); rintro e' w3 ⟨rfl, hb⟩; have L3 := Lib.hid (L2.out.trans (hb.mono L2.out.size)); clear hb))
  go_ret
  exact ⟨rfl, L3.out⟩
set_option maxRecDepth 100000 in
set_option maxHeartbeats 8000000 in
theorem rows_nil (hart pos : Int) (a : Option Addr) (c : Nat) (w : World) (hT : TabB w) :
    Calls Tryd.prog 5 #[.int .i64 hart, .slice a 0 c, .int .i64 pos] w fun e w' => SameOk w true e w' := by
  have HT := Lib.hid hT
  clear hT
  have hmm := @run_makeMap Tryd.prog
  go_enter Tryd.func5, Tryd.ntmps5
  go_wp2_with (first
    | (go_at_call 7; (with_reducible refine (lives_any _ HT.out).mono ?_); rintro e' w1 ⟨rfl, hb⟩; have L1 := Lib.hid hb; clear hb)
    | (go_at_call 22; (with_reducible refine (light_zero a c _).mono ?_); rintro e' w2 ⟨rfl, hb⟩; have L2 := Lib.hid (L1.out.trans (hb.mono L1.out.size)); clear hb)
    | (go_at_call 12; (with_reducible refine (row_nil hart a c _).mono ?_); rintro e' w3 ⟨rfl, hb⟩; have L3 := Lib.hid (L2.out.trans (hb.mono L2.out.size)); clear hb))
  refine wp_loop_rounds 1 ?_
  rw [rounds_succ]
  go_wp2
  go_ret
  exact ⟨rfl, L3.out.alloc L3.out.size _⟩
end Go.Proofs.YtjdfhohchicgbaaDoor
