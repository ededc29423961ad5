/-
  Proved here: Reads answers the registers that an instruction reads, rising, each once, without 0 (nil of what may not be); Writes answers Rd (0 of what may not be); Pick answers a number from 0 to m - 1. Conditions: Pick's number is of 64 bits, m is 9.
-/
import Derived.Test.YtfbnijcmfaeoeaaGreatInsnIter
import Derived.Test.YtfbnijcmfaeoeaaGreatInsnStand
namespace Go.Proofs.YtfbnijcmfaeoeaaGreat
open Go.RowKit
def readsL (i : Ins) : List Int := if i.op = 64 then regsL 10 17 else regsL i.rs1 i.rs2
def writesI (i : Ins) : Int := if i.ok then i.rd else 0
/-- the registers read, as they come back -/
def ReadsOk (i : Ins) (w : World) (e : Ending) (w' : World) : Prop := ∃ g c, e = .returned (.slice (some ⟨g, 0, none⟩) (readsL i).length c) ∧ ReadRow w.heap.size w' g (readsL i) ∧ Below w.heap.size w w'
set_option maxRecDepth 100000 in
set_option maxHeartbeats 2000000 in
theorem Writes_any (i : Ins) (w : World) : Calls Tryz.prog 43 #[i.V] w fun e w' => e = .returned (.int .i64 (writesI i)) ∧ Below w.heap.size w w' := by
  have HS0 := Lib.hid (Stand.start i w)
  cases hb : i.ok with
  | false =>
    have e : writesI i = 0 := by unfold writesI; rw [hb]; rfl
    rw [e]
    have HN := Lib.hid hb
    clear hb e
    go_enter Tryz.func43, Tryz.ntmps43
    go_wp2_with (go_at_call 21; (with_reducible refine (Check_no i HN _).mono ?_); rintro e w2 ⟨rfl, hb2⟩; have HS2 := Lib.hid (Stand.on HS0.out hb2); clear hb2)
    go_ret
    exact ⟨rfl, Stand.below HS2.out⟩
  | true =>
    have e : writesI i = i.rd := by unfold writesI; rw [hb]; rfl
    rw [e]
    have HN := Lib.hid hb
    clear hb e
    go_enter Tryz.func43, Tryz.ntmps43
    go_wp2_with (go_at_call 21; (with_reducible refine (Check_ok i HN _).mono ?_); rintro e w2 ⟨rfl, hb2⟩; have HS2 := Lib.hid (Stand.on HS0.out hb2); clear hb2; obtain ⟨hz, c0, c1, c2, c3, c4, c5, c6, c7, c8⟩ := InsAt.facts (Stand.ins HS2.out))
    go_ret
    exact ⟨rfl, Stand.below HS2.out⟩
theorem Reads_no (i : Ins) (hb : Hid (i.ok = false)) (w : World) : Calls Tryz.prog 59 #[i.V] w fun e w' => e = .returned (.slice none 0 0) ∧ Below w.heap.size w w' := by
  have HS0 := Lib.hid (Stand.start i w)
  go_enter Tryz.func59, Tryz.ntmps59
  go_wp2_with (go_at_call 21; (with_reducible refine (Check_no i hb _).mono ?_); rintro e w2 ⟨rfl, hb2⟩; have HS2 := Lib.hid (Stand.on HS0.out hb2); clear hb2)
  go_ret
  exact ⟨rfl, Stand.below HS2.out⟩
theorem alloc_below (w : World) (o : Obj) : Below w.heap.size w (w.alloc o) := (Below.refl _ _).alloc (Nat.le_refl _) _
theorem alloc_row0 (w : World) (a b : Int) (t : TypeId) : (w.alloc (.cells #[.int .i64 a, .int .i64 b] t)).cell? ⟨w.heap.size, 0, none⟩ = some (.int .i64 a) := by simp
theorem alloc_row1 (w : World) (a b : Int) (t : TypeId) : (w.alloc (.cells #[.int .i64 a, .int .i64 b] t)).cell? ⟨w.heap.size, 1, none⟩ = some (.int .i64 b) := by simp
theorem registers_new (a b : Int) (ha : 0 ≤ a) (hb : 0 ≤ b) (cap : Nat) (w : World) (t : TypeId) :
    Calls Tryz.prog 68 #[.slice (some ⟨w.heap.size, 0, none⟩) 2 cap] (w.alloc (.cells #[.int .i64 a, .int .i64 b] t)) fun e w' => ∃ g c, e = .returned (.slice (some ⟨g, 0, none⟩) (regsL a b).length c) ∧ ReadRow w.heap.size w' g (regsL a b) ∧ Below w.heap.size w w' := by
  refine (registers_any a b ha hb w.heap.size cap _ (by simp) (alloc_row0 w a b t) (alloc_row1 w a b t)).mono ?_
  rintro e w' ⟨g, c, rfl, hr, hbl⟩
  have hs := (alloc_below w (.cells #[.int .i64 a, .int .i64 b] t)).size
  exact ⟨g, c, rfl, ⟨Nat.le_trans hs hr.1, hr.2⟩, (alloc_below w _).trans (hbl.mono hs)⟩
theorem ReadRow.lower {n m : Nat} {w : World} {g : Nat} {zs : List Int} (hm : m ≤ n) (h : ReadRow n w g zs) : ReadRow m w g zs := ⟨Nat.le_trans hm h.1, h.2⟩
set_option maxRecDepth 100000 in
set_option maxHeartbeats 2000000 in
theorem Reads_ok (i : Ins) (hb : Hid (i.ok = true)) (w : World) : Calls Tryz.prog 59 #[i.V] w fun e w' => ReadsOk i w e w' := by
  have HS0 := Lib.hid (Stand.start i w)
  have hm := may_of i hb.out
  have h1 := Lib.hid hm.rs1.1
  have h2 := Lib.hid hm.rs2.1
  clear hm
  unfold ReadsOk
  by_cases hop : i.op = 64
  · have e : readsL i = regsL 10 17 := by unfold readsL; rw [if_pos hop]
    rw [e]
    clear e
    have HO := Lib.hid hop
    clear hop
    go_enter Tryz.func59, Tryz.ntmps59
    go_wp2_with (first
      | (go_at_call 21; (with_reducible refine (Check_ok i hb _).mono ?_); rintro e w2 ⟨rfl, hb2⟩; have HS2 := Lib.hid (Stand.on HS0.out hb2); clear hb2; obtain ⟨hz, c0, c1, c2, c3, c4, c5, c6, c7, c8⟩ := InsAt.facts (Stand.ins HS2.out); rw [HO.out] at c0)
      | (go_at_call 68; (with_reducible refine (registers_new 10 17 (by omega) (by omega) _ _ _).mono ?_); rintro e w3 ⟨g, c, rfl, hr, hb3⟩; have HR := Lib.hid hr; have HS3 := Lib.hid (Stand.on HS2.out hb3); clear hr hb3))
    go_ret
    exact ⟨g, c, rfl, HR.out.lower (Stand.below HS2.out).size, Stand.below HS3.out⟩
  · have e : readsL i = regsL i.rs1 i.rs2 := by unfold readsL; rw [if_neg hop]
    rw [e]
    clear e
    go_enter Tryz.func59, Tryz.ntmps59
    go_wp2_with (first
      | (go_at_call 21; (with_reducible refine (Check_ok i hb _).mono ?_); rintro e w2 ⟨rfl, hb2⟩; have HS2 := Lib.hid (Stand.on HS0.out hb2); clear hb2; obtain ⟨hz, c0, c1, c2, c3, c4, c5, c6, c7, c8⟩ := InsAt.facts (Stand.ins HS2.out))
      | (go_at_call 68; (with_reducible refine (registers_new i.rs1 i.rs2 h1.out h2.out _ _ _).mono ?_); rintro e w3 ⟨g, c, rfl, hr, hb3⟩; have HR := Lib.hid hr; have HS3 := Lib.hid (Stand.on HS2.out hb3); clear hr hb3))
    go_ret
    exact ⟨g, c, rfl, HR.out.lower (Stand.below HS2.out).size, Stand.below HS3.out⟩
end Go.Proofs.YtfbnijcmfaeoeaaGreat
