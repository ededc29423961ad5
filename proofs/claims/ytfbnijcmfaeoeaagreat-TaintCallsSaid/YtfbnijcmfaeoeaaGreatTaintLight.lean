/-
  Proved here: the laws' light tells whether a taint's lists are of at most 60 numbers; it writes nothing that was there. Condition: lists of at most 10,000 numbers (of its slices the lengths alone are read).
-/
import Derived.Test.YtfbnijcmfaeoeaaGreatTaintKit
namespace Go.Proofs.YtfbnijcmfaeoeaaGreat
open Go.RowKit
theorem index_xa (n a : Nat) (ha : a < 32) (w : World) : (Instr.indexAt 23 (.pointer (some ⟨n, 0, none⟩)) (.int .i64 (a : Int))).run Tryz.prog w = .ok (.pointer (some ⟨n, a, none⟩)) w := by
  have h1 : (0 : Int) ≤ a ∧ (a : Int) < 32 := by omega
  simp [Instr.indexAt, go_sem, Tryz.sizeOf22, Instr.sureAddr, h1, ha, Addr.add]
  exact fun h => h.symm
def lightB (l : Tl) : Bool := (List.range 32).all (fun k => decide ((l.x k).length ≤ 60)) && decide (l.way.length ≤ 60)
theorem lightB_no (l : Tl) (k : Nat) (hk : k < 32) (h : 60 < (l.x k).length) : lightB l = false := by
  unfold lightB
  rw [Bool.and_eq_false_iff]
  left
  rw [List.all_eq_false]
  exact ⟨k, List.mem_range.2 hk, by simp; omega⟩
theorem lightB_all (l : Tl) (h : ∀ k, k < 32 → (l.x k).length ≤ 60) : lightB l = decide (l.way.length ≤ 60) := by
  unfold lightB
  have e : (List.range 32).all (fun k => decide ((l.x k).length ≤ 60)) = true := by
    rw [List.all_eq_true]
    exact fun k hk => decide_eq_true (h k (List.mem_range.1 hk))
  rw [e, Bool.true_and]
set_option maxRecDepth 100000 in
set_option maxHeartbeats 2000000 in
theorem light_any (t : Ta) (l : Tl) (w : World) (h : ∀ k, k < 32 → ∃ a c, t.v k = .slice a (l.x k).length c) (hw : ∃ a c, t.way = .slice a l.way.length c) : Calls Tryz.prog 5 #[t.V] w fun e w' => e = .returned (.bool (lightB l)) ∧ Below w.heap.size w w' := by
  have HB := Lib.hid (box_below w (.cells (tC t) 25))
  have H := TAt.new 25 t w
  obtain ⟨W, HW⟩ : ∃ W, Hid (w.alloc (.cells (tC t) 25) = W) := ⟨_, Lib.hid rfl⟩
  rw [HW.out] at H HB
  have HA := Lib.hid H
  have HL := Lib.hid h
  have HV := Lib.hid hw
  clear H h hw
  go_enter Tryz.func5, Tryz.ntmps5
  go_upto_region 1 with fail
  rw [HW.out]
  go_wp2
  go_loop [3] (fun i => ∃ k : Nat, k ≤ 32 ∧ i = .int .i64 k ∧ Hid (∀ j, j < k → (l.x j).length ≤ 60)) (fun i => 32 - (intOf i).toNat)
  case atStart => exact ⟨0, Nat.zero_le _, rfl, Lib.hid (fun j hj => absurd hj (by omega))⟩
  case round =>
    obtain ⟨k, hk, rfl, hr⟩ := hrel
    by_cases hlt : k < 32
    · have hi := index_xa w.heap.size k hlt
      have hcx := HA.out.cx k hlt
      obtain ⟨a0, c0, e0⟩ := HL.out k hlt
      rw [e0] at hcx
      by_cases h60 : 60 < (l.x k).length
      · have HN := Lib.hid h60
        have hg : (60 : Int) < ((l.x k).length : Int) := by omega
        go_wp2
        go_ret
        exact ⟨by rw [lightB_no l k hlt HN.out]; rfl, HB.out⟩
      · have HN := Lib.hid h60
        have hg : ¬ (60 : Int) < ((l.x k).length : Int) := by omega
        go_wp2
        go_round
        case rel => exact ⟨k + 1, by omega, by go_num, Lib.hid (fun j hj => (Nat.lt_succ_iff_lt_or_eq.1 hj).elim (hr.out j) (fun h => h ▸ (by have := HN.out; omega)))⟩
        case measure => simp [intOf]; omega
    · obtain rfl : k = 32 := by omega
      have hcw := HA.out.cw
      obtain ⟨a0, c0, e0⟩ := HV.out
      rw [e0] at hcw
      go_wp2
      go_ret
      exact ⟨(by rw [lightB_all l hr.out]; exact retBool (decide_eq_decide.2 (by omega))), HB.out⟩
end Go.Proofs.YtfbnijcmfaeoeaaGreat
