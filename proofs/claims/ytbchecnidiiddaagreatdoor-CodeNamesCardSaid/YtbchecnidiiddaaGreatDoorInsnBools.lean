/-
  Proved here: 'all' of the package insn tells whether each of some bools is true, and changes nothing; a register or part of a fence may be what goodImm and the closures of Check say. No condition.
-/
import Derived.Test.YtbchecnidiiddaaGreatDoorInsnShape
import Derived.LoopTactic
namespace Go.Proofs.YtbchecnidiiddaaGreatDoor
open Go.RowKit

def AllIdx (bs : List Bool) (w : World) (e : Ending) (w' : World) : Prop := ∃ n : Int, e = .returned (.int .i64 n) ∧ decide (n < 0) = bs.all id ∧ w' = w
theorem all_false (bs : List Bool) (k : Nat) (h : k < bs.length) (hb : bs.getD k true = false) : bs.all id = false := by
  rw [List.all_eq_false]
  refine ⟨bs[k], List.getElem_mem h, ?_⟩
  rw [List.getD_eq_getElem?_getD, List.getElem?_eq_getElem h] at hb
  simp at hb; simp [hb]
theorem all_true (bs : List Bool) (h : ∀ j, j < bs.length → bs.getD j true = true) : bs.all id = true := by
  rw [List.all_eq_true]
  intro x hx
  obtain ⟨k, hk, rfl⟩ := List.getElem_of_mem hx
  have := h k hk
  rw [List.getD_eq_getElem?_getD, List.getElem?_eq_getElem hk] at this
  simpa using this
set_option maxHeartbeats 1000000 in
theorem Index_bools (bs : List Bool) (g cap : Nat) (w : World) (hn : bs.length ≤ 100) (hc : ∀ i, i < bs.length → w.cell? ⟨g, i, none⟩ = some (.bool (bs.getD i true))) :
    Calls Tryz.prog 112 #[.slice (some ⟨g, 0, none⟩) bs.length cap, .bool false] w fun e w' => AllIdx bs w e w' := by
  have HC := Lib.hid hc
  clear hc
  go_enter Tryz.func112, Tryz.ntmps112
  go_wp2
  go_loop [8] (fun i => ∃ k : Nat, k ≤ bs.length ∧ i = .int .i64 k ∧ Hid (∀ j, j < k → bs.getD j true = true)) (fun i => bs.length - (intOf i).toNat)
  case atStart => exact ⟨0, Nat.zero_le _, rfl, Lib.hid (fun j h => by omega)⟩
  case round =>
    obtain ⟨k, hk, rfl, ht⟩ := hrel
    by_cases hlt : k < bs.length
    · have hcell := HC.out k hlt
      cases hb : bs.getD k true with
      | true =>
        rw [hb] at hcell
        have HB := Lib.hid hb
        clear hb
        go_wp2
        go_round
        case rel => exact ⟨k + 1, by omega, by go_num, Lib.hid (fun j hj => by
          by_cases e : j = k
          · subst e; exact HB.out
          · exact ht.out j (by omega))⟩
        case measure => simp [intOf]; omega
      | false =>
        rw [hb] at hcell
        have HB := Lib.hid hb
        clear hb
        go_wp2
        go_ret
        exact ⟨_, rfl, by rw [all_false bs k hlt HB.out]; simp, rfl⟩
    · obtain rfl : k = bs.length := by omega
      go_wp2
      go_ret
      exact ⟨_, rfl, by rw [all_true bs ht.out]; simp, rfl⟩
end Go.Proofs.YtbchecnidiiddaaGreatDoor
