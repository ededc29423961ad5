/-
  Proved here: single operations of a region that draws its order and changes nothing. No condition.
  (With it: Proved here: cand's rows tells whether each hart's events are its row; nothing that was there is changed. Condition: at most 60 events.)
-/
import Derived.Test.YtokhnjcbcpmmjaaRf07Pure
import Derived.StillTailTactics
import Derived.Deep.QuietTactic
import Derived.BigQuiet
namespace Go.Proofs.Ytokhnjcbcpmmjaa
set_option linter.unusedVariables false
set_option linter.unusedSimpArgs false
open Go.RowKit
attribute [local go_sem ↓] fold_E fold_SE

theorem row_v {w : World} {a : Option Addr} {n c : Nat} {ev : Nat → Ev} {el : Nat → El} (hart : Int) (h : RowV w (.slice a n c) n ev el) (hs : n ≤ 60 ∧ ∀ k, k < n → small (el k)) (r : Bool) (hr : (rowL hart ev el n).isSome = r) :
    Calls Try.prog 34 #[.int .i64 hart, .slice a n c] w fun e w' => RowIs w r e w' := by
  obtain ⟨a', c', e, _, h⟩ := h
  injection e with e1 e2 e3
  subst e1 e3
  subst hr
  rcases h with rfl | ⟨b, off, rfl, h⟩
  · exact row_nil hart a c w
  · exact row_some hart n b off c ev el w (by omega) (h.evs (fun k hk => (hs.2 k hk).n))
def TellsIs (w : World) (b : Bool) (e : Ending) (w' : World) : Prop := e = .returned (.bool b) ∧ Below w.heap.size w w'
theorem TellsIs.mk {w w' : World} {b c : Bool} (h : c = b) (hb : Below w.heap.size w w') : TellsIs w c (.returned (.bool b)) w' := ⟨by rw [h], hb⟩
set_option maxRecDepth 100000 in
set_option maxHeartbeats 4000000 in
theorem rows_any (c : Cd) (a : Option Addr) (cp : Nat) (w : World) (hL : Lt c) (h : HsAt c c.nh a w) : Calls Try.prog 25 #[.slice a c.nh cp] w fun e w' => TellsIs w (rowsL c c.nh) e w' := by
  have HV := Lib.hid h
  have HL := Lib.hid hL
  have hk9 := hL.nh
  obtain ⟨n, hn⟩ : ∃ n, Hid (c.nh = n) := ⟨_, Lib.hid rfl⟩
  rw [hn.out] at HV hk9 ⊢
  clear h hL
  go_enter Try.func25, Try.ntmps25
  go_wp2
  go_loopw [7] (fun vi wr => ∃ (j : Nat), j ≤ n ∧ vi = .int .i64 j ∧ Hid (rowsL c j = true) ∧ Below w.heap.size w wr) (fun vi _ => n - (intOf vi).toNat)
  case atStart => exact ⟨0, Nat.zero_le _, rfl, Lib.hid rfl, Below.refl _ _⟩
  case round =>
    obtain ⟨j, hj, rfl, hR, hbel⟩ := hrel
    have HB := Lib.hid hbel
    clear hbel
    by_cases hlt : j < n
    · obtain ⟨b, off, a2, c2, rfl, hc, _, hrow⟩ := (HV.out.below HB.out).row j hlt
      have KR := Lib.hid (fun r hr => row_v (w := wr) (j : Int) hrow (HL.out.small j (by rw [hn.out]; exact hlt)) r hr)
      clear hrow
      cases hb : rowB c j with
      | true =>
        have HY := Lib.hid (all_next (rowB c) j hR.out hb)
        have KR2 := Lib.hid (KR.out true hb)
        clear hb KR
        go_wp2_with (go_at_call 34; (with_reducible refine (KR2.out).mono ?_); rintro e' w2 ⟨rfl, hb⟩; have L2 := Lib.hid (HB.out.trans (hb.mono HB.out.size)); clear hb)
        go_roundw
        case rel => exact ⟨j + 1, by omega, by go_num, HY, L2.out⟩
        case measure => simp [intOf]; omega
      | false =>
        have HN := Lib.hid (all_stop (rowB c) j n hlt hb)
        have KR2 := Lib.hid (KR.out false hb)
        clear hb KR
        go_wp2_with (go_at_call 34; (with_reducible refine (KR2.out).mono ?_); rintro e' w2 ⟨rfl, hb⟩; have L2 := Lib.hid (HB.out.trans (hb.mono HB.out.size)); clear hb)
        go_ret
        exact TellsIs.mk HN.out L2.out
    · obtain rfl : j = n := by omega
      go_wp2
      go_ret
      exact TellsIs.mk hR.out HB.out
end Go.Proofs.Ytokhnjcbcpmmjaa
namespace Go.Proofs.Ytokhnjcbcpmmjaa
set_option linter.unusedVariables false
set_option linter.unusedSimpArgs false
open Go.RowKit

section
variable {P : Program} {ops : Array Oper} {w : World} {Q : Act → Prop} {a : Act} {o : Oper} {rest : List Oper}
theorem wpStill_skip (hw : Region.wanted o (yielded ops a.tmps) = false) (k : wpStill P ops w Q rest (a.put o.dst undef)) : wpStill P ops w Q (o :: rest) a := by
  unfold wpStill
  rw [if_neg (by rw [hw]; decide)]
  exact k
end
end Go.Proofs.Ytokhnjcbcpmmjaa
