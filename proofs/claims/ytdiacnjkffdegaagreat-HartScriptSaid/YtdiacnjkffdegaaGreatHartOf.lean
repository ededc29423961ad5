/-
  Proved here: the package hart's end.of answers a hart that ended so. No condition.
-/
import Derived.Test.YtdiacnjkffdegaaGreatHartWords
import Derived.WalkLawsBesides
import Derived.WalkSpells
import Derived.Laws.EntriesVeiled
import Derived.IntWalk
import Derived.Deep.RegionHeld3
namespace Go.Proofs.YtdiacnjkffdegaaGreat
open Go.RowKit
def zeroHa : Ha := ⟨0, List.replicate 32 0, 0, 0, by simp⟩
theorem zero_cells : (#[.int .u64 0, .int .u64 0, .int .u64 0, .int .u64 0, .int .u64 0, .int .u64 0, .int .u64 0, .int .u64 0, .int .u64 0, .int .u64 0, .int .u64 0, .int .u64 0, .int .u64 0, .int .u64 0, .int .u64 0, .int .u64 0, .int .u64 0, .int .u64 0, .int .u64 0, .int .u64 0, .int .u64 0, .int .u64 0, .int .u64 0, .int .u64 0, .int .u64 0, .int .u64 0, .int .u64 0, .int .u64 0, .int .u64 0, .int .u64 0, .int .u64 0, .int .u64 0, .int .u64 0, .int .i64 0, .int .u64 0] : Array Value) = hC zeroHa := by as_aux_lemma => kernel_rfl
set_option maxHeartbeats 1000000 in
set_option maxRecDepth 100000 in
theorem of_any (how : Int) (c : BitVec 64) (h : Ha) (w : World) : Calls Tryz.prog 13 #[.agg #[.int .i64 how, .int .u64 (U c)], h.V] w fun e w' => e = .returned ((h.atE how).atCode c).V ∧ Below w.heap.size w w' := by
  obtain ⟨W, hW⟩ : ∃ W, (((w.alloc (.cells #[.int .i64 how, .int .u64 (U c)] 45)).alloc (.cells (hC h) 25)).alloc (.cells (hC zeroHa) 25)) = W := ⟨_, rfl⟩
  have HW := Lib.hid hW
  clear hW
  have e0 : W.cell? ⟨w.heap.size, 0, none⟩ = some (.int .i64 how) := by rw [← HW.out]; go_simp
  have e1 : W.cell? ⟨w.heap.size, 1, none⟩ = some (.int .u64 (U c)) := by rw [← HW.out]; go_simp
  have H1 : HAt 25 h (w.heap.size + 1) W := by
    rw [← HW.out]
    have := HAt.new 25 h (w.alloc (.cells #[.int .i64 how, .int .u64 (U c)] 45))
    simp only [World.size_alloc] at this
    exact this.alloc _
  have H2 : HAt 25 zeroHa (w.heap.size + 1 + 1) W := by
    rw [← HW.out]
    have := HAt.new 25 zeroHa ((w.alloc (.cells #[.int .i64 how, .int .u64 (U c)] 45)).alloc (.cells (hC h) 25))
    simp only [World.size_alloc] at this
    exact this
  have HB : Hid (Below w.heap.size w W) := by
    rw [← HW.out]
    exact Lib.hid ((((Below.refl _ _).alloc (Nat.le_refl _) _).alloc (by simp) _).alloc (by simp; omega) _)
  have c33 := H1.c33
  have c34 := H1.c34
  have f33 := H1.frozen 33
  have f34 := H1.frozen 34
  have HN := Lib.hid (And.intro H1 H2)
  clear H1 H2
  go_enter Tryz.func13, Tryz.ntmps13
  go_wp2_with fail
  rw [zero_cells, HW.out]
  go_region_held3 (fun w' => w'.cell? ⟨w.heap.size, 0, none⟩ = some (.int .i64 how) ∧ w'.cell? ⟨w.heap.size, 1, none⟩ = some (.int .u64 (U c))) (go_keep) ((fail))
  all_goals
    go_wp2_with (first | (refine load_ha row_hart (HAt.setCode (HAt.setE (w := World.drew W) HN.out.1 how) c) rfl _ rfl rfl ?_) | (refine store_ha row_hart ((h.atE how).atCode c) (HAt.setOther (HAt.setOther (w := World.drew W) HN.out.2 _ _ (by simp)) _ _ (by simp)) rfl _ _ rfl rfl rfl ?_; intro w3 h3 ho3 hb3 hz3; have H3 := Lib.hid (And.intro h3 hb3); clear h3 ho3 hb3 hz3))
    (try simp only [Exit.inBlock, Exit.then])
    refine bodyPost_ret (results_ha row_hart H3.out.1 rfl rfl) rfl ⟨rfl, ?_⟩
    exact ((HB.out.drew.setCell (by simp) _).setCell (by simp) _).trans (H3.out.2.mono (by omega))
end Go.Proofs.YtdiacnjkffdegaaGreat
