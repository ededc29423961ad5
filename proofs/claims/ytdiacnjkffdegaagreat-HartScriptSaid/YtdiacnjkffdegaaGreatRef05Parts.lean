/-
  Proved here: the document's own Writes (layer 2), address (layer 5) answer which register is written, where an access is; each writes nothing that was there. Conditions: the number is of 64 bits; the register is one of 32.
-/
import Derived.Test.YtdiacnjkffdegaaGreatRef05May
import Derived.Test.YtdiacnjkffdegaaGreatHartAccess
import Derived.Test.YtdiacnjkffdegaaGreatRef02Memory
import Derived.Deep.RegionHeld3
namespace Go.Proofs.YtdiacnjkffdegaaGreat
set_option linter.unusedSimpArgs false
set_option linter.unusedVariables false
open Go.RowKit
set_option maxHeartbeats 1000000 in
set_option maxRecDepth 100000 in
theorem writes5_any (op d a b : Int) (v : BitVec 64) (aq rl : Bool) (p q : Int) (w : World) : Calls Tryz.prog 21 #[insV op d a b (S v) aq rl p q] w fun e w' => e = .returned (.int .i64 (if Ins.ok ⟨op, d, a, b, S v, aq, rl, p, q⟩ = true then d else 0)) ∧ Below w.heap.size w w' := by
  have HI := Lib.hid (rCheck_any op d a b v aq rl p q)
  cases hk : Ins.ok ⟨op, d, a, b, S v, aq, rl, p, q⟩ with
  | true =>
    rw [hk] at HI
    have HI : Hid (∀ w, Calls Tryz.prog 7 #[insV op d a b (S v) aq rl p q] w fun e w' => e = .returned (.int .i64 0) ∧ Below w.heap.size w w') := HI
    clear hk
    go_enter Tryz.func21, Tryz.ntmps21
    go_wp2_with (first | (go_at_call 7; (with_reducible refine (HI.out _).mono ?_); rintro e w1 ⟨rfl, hb⟩; obtain ⟨hc1, hf1⟩ := bcell hb; have HB := Lib.hid hb; clear hb))
    go_ret
    exact ⟨rfl, ((Below.refl _ _).alloc (Nat.le_refl _) _).trans (HB.out.mono (by simp))⟩
  | false =>
    rw [hk] at HI
    have HI : Hid (∀ w, Calls Tryz.prog 7 #[insV op d a b (S v) aq rl p q] w fun e w' => e = .returned (.int .i64 2) ∧ Below w.heap.size w w') := HI
    clear hk
    go_enter Tryz.func21, Tryz.ntmps21
    go_wp2_with (first | (go_at_call 7; (with_reducible refine (HI.out _).mono ?_); rintro e w1 ⟨rfl, hb⟩; obtain ⟨hc1, hf1⟩ := bcell hb; have HB := Lib.hid hb; clear hb))
    go_ret
    exact ⟨rfl, ((Below.refl _ _).alloc (Nat.le_refl _) _).trans (HB.out.mono (by simp))⟩
set_option maxHeartbeats 1000000 in
set_option maxRecDepth 100000 in
theorem address5_any (h : Ha) (op : Int) (d a b : Nat) (ha : a < 32) (v : BitVec 64) (aq rl : Bool) (p q : Int) (w : World) : Calls Tryz.prog 33 #[h.V, insV op d a b (S v) aq rl p q] w fun e w' => e = .returned (.tuple #[.int .u64 (U (h.x a + v)), .int .i64 (sizeOf' op)]) ∧ Below w.heap.size w w' := by
  unfold Ha.V
  have HM := Lib.hid (rMem_any op)
  have t1 := wrapU_S v
  have t2 := add_U (h.x a) v
  obtain ⟨W, hW⟩ : ∃ W, (w.alloc (.cells (hC h) 25)).alloc (.cells #[.int .i64 op, .int .i64 (d : Int), .int .i64 (a : Int), .int .i64 (b : Int), .int .i64 (S v), .bool aq, .bool rl, .int .i64 p, .int .i64 q] 34) = W := ⟨_, rfl⟩
  have HW := Lib.hid hW
  clear hW
  have hs : W.heap.size = w.heap.size + 2 := by rw [← HW.out]; simp
  have c0 : W.cell? ⟨w.heap.size + 1, 0, none⟩ = some (.int .i64 op) := by rw [← HW.out]; go_simp
  have c2 : W.cell? ⟨w.heap.size + 1, 2, none⟩ = some (.int .i64 (a : Int)) := by rw [← HW.out]; go_simp
  have c4 : W.cell? ⟨w.heap.size + 1, 4, none⟩ = some (.int .i64 (S v)) := by rw [← HW.out]; go_simp
  have ca : W.cell? ⟨w.heap.size, 1 + a, none⟩ = some (.int .u64 (U (h.x a))) := by rw [← HW.out]; exact ((HAt.new 25 h w).alloc _).cx a ha
  have ia := index_x w.heap.size a ha
  have hz1 : w.heap.size + 1 < W.heap.size := by omega
  have hz0 : w.heap.size < W.heap.size := by omega
  have HB0 : Hid (Below w.heap.size w W) := by rw [← HW.out]; exact Lib.hid (((Below.refl _ _).alloc (Nat.le_refl _) _).alloc (by simp) _)
  have HS := Lib.hid hs
  clear hs
  go_enter Tryz.func33, Tryz.ntmps33
  go_wp2_with (first | (rw [HW.out]; done) | (go_at_call 19; (try rw [HW.out]); (with_reducible refine (HM.out _).mono ?_); rintro e w2 ⟨rfl, hb⟩; obtain ⟨hc2, hf2⟩ := bcell hb; have d2 : w2.cell? ⟨w.heap.size + 1, 2, none⟩ = some (.int .i64 (a : Int)) := (by rw [hc2 _ _ hz1]; exact c2); have d4 : w2.cell? ⟨w.heap.size + 1, 4, none⟩ = some (.int .i64 (S v)) := (by rw [hc2 _ _ hz1]; exact c4); have da : w2.cell? ⟨w.heap.size, 1 + a, none⟩ = some (.int .u64 (U (h.x a))) := (by rw [hc2 _ _ hz0]; exact ca); have HB2 := Lib.hid hb; clear hb hc2 hf2))
  go_region_held3 (fun w' => w'.cell? ⟨w.heap.size + 1, 2, none⟩ = some (.int .i64 (a : Int)) ∧ w'.cell? ⟨w.heap.size + 1, 4, none⟩ = some (.int .i64 (S v)) ∧ w'.cell? ⟨w.heap.size, 1 + a, none⟩ = some (.int .u64 (U (h.x a)))) (exact ⟨d2, d4, da⟩) (fail)
  all_goals
    go_wp2_with fail
    go_ret2
    exact ⟨rfl, HB0.out.trans (HB2.out.drew.mono (by omega))⟩
end Go.Proofs.YtdiacnjkffdegaaGreat
