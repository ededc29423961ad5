/-
  Proved here: the laws' first question, lives, returns true and writes nothing that was there. No condition.
-/
import Derived.Test.YtdiacnjkffdegaaGreatHartStep
namespace Go.Proofs.YtdiacnjkffdegaaGreat
set_option linter.unusedSimpArgs false
set_option linter.unusedVariables false
open Go.RowKit
def newHa (pc : BitVec 64) : Ha := zeroHa.atPc pc
theorem new_cells (pc : BitVec 64) : (#[.int .u64 (U pc), .int .u64 0, .int .u64 0, .int .u64 0, .int .u64 0, .int .u64 0, .int .u64 0, .int .u64 0, .int .u64 0, .int .u64 0, .int .u64 0, .int .u64 0, .int .u64 0, .int .u64 0, .int .u64 0, .int .u64 0, .int .u64 0, .int .u64 0, .int .u64 0, .int .u64 0, .int .u64 0, .int .u64 0, .int .u64 0, .int .u64 0, .int .u64 0, .int .u64 0, .int .u64 0, .int .u64 0, .int .u64 0, .int .u64 0, .int .u64 0, .int .u64 0, .int .u64 0, .int .i64 0, .int .u64 0] : Array Value) = hC (newHa pc) := by
  unfold newHa
  rw [← hC_atPc, ← zero_cells]
  rfl
set_option maxRecDepth 100000 in
theorem New_any (pc : BitVec 64) (w : World) : Calls Tryz.prog 27 #[.int .u64 (U pc)] w fun e w' => e = .returned (newHa pc).V ∧ Below w.heap.size w w' := by
  have HZ := Lib.hid (HAt.zero 25 w)
  go_enter Tryz.func27, Tryz.ntmps27
  go_wp2_with (first | (refine store_ha row_hart (newHa pc) HZ.out rfl _ _ rfl rfl (by exact congrArg Value.agg (new_cells pc)) ?_; intro w3 h3 ho3 hb3 hz3; have H3 := Lib.hid (And.intro h3 hb3); clear h3 ho3 hb3 hz3))
  (try simp only [Exit.inBlock, Exit.then])
  refine bodyPost_ret (results_ha row_hart H3.out.1 rfl rfl) rfl ⟨rfl, ?_⟩
  exact ((Below.refl _ _).alloc (Nat.le_refl _) _).trans H3.out.2
set_option maxRecDepth 100000 in
theorem with_any (pc : BitVec 64) (r : Nat) (hr : r < 32) (v : BitVec 64) (w : World) : Calls Tryz.prog 10 #[.int .u64 (U pc), .int .i64 (r : Int), .int .u64 (U v)] w fun e w' => e = .returned ((newHa pc).atX r v).V ∧ Below w.heap.size w w' := by
  have HN := Lib.hid (fun w => New_any pc w)
  have HZ := Lib.hid (HAt.zero 25 w)
  have ir := fun n => index_x n r hr
  go_enter Tryz.func10, Tryz.ntmps10
  go_wp2_with (first | (go_at_call 27; (with_reducible refine (HN.out _).mono ?_); rintro e w1 ⟨rfl, hb⟩; have hz1 : w.heap.size + 1 ≤ w1.heap.size := (by simpa using hb.size); have HB : Hid (Below w.heap.size w w1) := Lib.hid (((Below.refl _ _).alloc (Nat.le_refl _) _).trans (hb.mono (by simp))); have HR := Lib.hid (HZ.out.below hb (by simp)); clear hb) | (refine store_ha row_hart (newHa pc) (HAt.zero 25 w1) rfl _ _ rfl rfl rfl ?_; intro w2 h2 ho2 hb2 hz2; have hz2' : w2.heap.size = w1.heap.size + 1 := (by simpa using hz2); have HS := Lib.hid h2; have cS := h2.cx r hr; have fS := h2.frozen (1 + r); have HB2 : Hid (Below w1.heap.size w1 w2) := Lib.hid (((Below.refl _ _).alloc (Nat.le_refl _) _).trans hb2); have HR2 := Lib.hid (HR.out.below HB2.out (by omega)); clear h2 ho2 hb2 hz2) | (refine load_ha row_hart (HAt.setX HS.out r hr v) rfl _ rfl rfl ?_) | (refine store_ha row_hart ((newHa pc).atX r v) (HAt.setOther HR2.out _ _ (by show w.heap.size ≠ w1.heap.size; omega)) rfl _ _ rfl rfl rfl ?_; intro w3 h3 ho3 hb3 hz3; have H3 := Lib.hid (And.intro h3 hb3); clear h3 ho3 hb3 hz3))
  (try simp only [Exit.inBlock, Exit.then])
  refine bodyPost_ret (results_ha row_hart H3.out.1 rfl rfl) rfl ⟨rfl, ?_⟩
  exact ((HB.out.trans (HB2.out.mono (by omega))).setCell (by show w.heap.size ≤ w1.heap.size; omega) _).trans H3.out.2
/-! ### the chapter's examples -/
def h1 : Ha := (newHa 100).atX 1 5
def h2 : Ha := (newHa 100).atX 1 4
def h3 : Ha := (newHa 0).atX 10 9
def x1 : Ha := stepHa h1 22 2 1 0 1 0 false
def x2 : Ha := stepHa h2 14 2 1 0 0 0 false
def x3 : Ha := stepHa h3 64 0 0 0 0 0 false
theorem m1 : mayH h1 ⟨22, (2 : Nat), (1 : Nat), (0 : Nat), S 1, false, false, 0, 0⟩ = 0 := by decide +kernel
theorem m2 : mayH h2 ⟨14, (2 : Nat), (1 : Nat), (0 : Nat), S 0, false, false, 0, 0⟩ = 0 := by decide +kernel
theorem m3 : mayH h3 ⟨64, (0 : Nat), (0 : Nat), (0 : Nat), S 0, false, false, 0, 0⟩ = 0 := by decide +kernel
theorem step_1 (w : World) : Calls Tryz.prog 5 #[h1.V, insV 22 2 1 0 1 false false 0 0, .int .u64 0, .bool false] w fun e w' => e = .returned (.tuple #[x1.V, .int .i64 0]) ∧ Below w.heap.size w w' := Step_any 22 2 1 0 (by omega) (by omega) (by omega) 1 false false 0 0 0 false h1 w m1
theorem step_2 (w : World) : Calls Tryz.prog 5 #[h2.V, insV 14 2 1 0 0 false false 0 0, .int .u64 0, .bool false] w fun e w' => e = .returned (.tuple #[x2.V, .int .i64 0]) ∧ Below w.heap.size w w' := Step_any 14 2 1 0 (by omega) (by omega) (by omega) 0 false false 0 0 0 false h2 w m2
theorem step_3 (w : World) : Calls Tryz.prog 5 #[h3.V, insV 64 0 0 0 0 false false 0 0, .int .u64 0, .bool false] w fun e w' => e = .returned (.tuple #[x3.V, .int .i64 0]) ∧ Below w.heap.size w w' := Step_any 64 0 0 0 (by omega) (by omega) (by omega) 0 false false 0 0 0 false h3 w m3
theorem with_1 (w : World) : Calls Tryz.prog 10 #[.int .u64 100, .int .i64 1, .int .u64 5] w fun e w' => e = .returned h1.V ∧ Below w.heap.size w w' := with_any 100 1 (by omega) 5 w
theorem with_2 (w : World) : Calls Tryz.prog 10 #[.int .u64 100, .int .i64 1, .int .u64 4] w fun e w' => e = .returned h2.V ∧ Below w.heap.size w w' := with_any 100 1 (by omega) 4 w
theorem with_3 (w : World) : Calls Tryz.prog 10 #[.int .u64 0, .int .i64 10, .int .u64 9] w fun e w' => e = .returned h3.V ∧ Below w.heap.size w w' := with_any 0 10 (by omega) 9 w
theorem facts_x : U x1.pc = 104 ∧ U (x1.x 2) = 6 ∧ x2.e = 4 ∧ U x2.pc = 100 ∧ x3.e = 1 ∧ U x3.code = 9 := by decide +kernel
attribute [local irreducible] x1 x2 x3 h1 h2 h3
set_option maxHeartbeats 2000000 in
set_option maxRecDepth 100000 in
theorem lives_any (w : World) : Calls Tryz.prog 4 #[] w fun e w' => e = .returned (.bool true) ∧ Below w.heap.size w w' := by
  have HX := Lib.hid facts_x
  go_enter Tryz.func4, Tryz.ntmps4
  go_upto_region 4 with (first | (go_at_call 10; (with_reducible refine (with_1 _).mono ?_); rintro e wa1 ⟨rfl, hb⟩; have HA1 : Hid (Below w.heap.size w wa1) := Lib.hid (hb); have za1 := hb.size; clear hb) | (go_at_call 5; (with_reducible refine (step_1 _).mono ?_); rintro e wb1 ⟨rfl, hb⟩; have HB1 : Hid (Below w.heap.size w wb1) := Lib.hid (HA1.out.trans (hb.mono (by have := HA1.out.size; omega))); have zb1 := hb.size; clear hb) | (refine store_ha row_hart x1 (HAt.zero 25 wb1) rfl _ _ rfl rfl rfl ?_; intro wc1 g3 go3 gb3 gz3; have zc1 : wc1.heap.size = wb1.heap.size + 1 := (by simpa using gz3); have HC1 : Hid (Below w.heap.size w wc1) := Lib.hid ((HB1.out.alloc HB1.out.size _).trans (gb3.mono HB1.out.size)); have yc11 := Lib.hid g3; clear g3 go3 gb3 gz3) | (go_at_call 10; (with_reducible refine (with_2 _).mono ?_); rintro e wa2 ⟨rfl, hb⟩; have HA2 : Hid (Below w.heap.size w wa2) := Lib.hid (HC1.out.trans (hb.mono (by have := HC1.out.size; omega))); have za2 := hb.size; have ya12 := Lib.hid (yc11.out.below hb (by omega)); clear hb) | (go_at_call 5; (with_reducible refine (step_2 _).mono ?_); rintro e wb2 ⟨rfl, hb⟩; have HB2 : Hid (Below w.heap.size w wb2) := Lib.hid (HA2.out.trans (hb.mono (by have := HA2.out.size; omega))); have zb2 := hb.size; have yb12 := Lib.hid (ya12.out.below hb (by omega)); clear hb) | (refine store_ha row_hart x2 (HAt.zero 25 wb2) rfl _ _ rfl rfl rfl ?_; intro wc2 g3 go3 gb3 gz3; have zc2 : wc2.heap.size = wb2.heap.size + 1 := (by simpa using gz3); have HC2 : Hid (Below w.heap.size w wc2) := Lib.hid ((HB2.out.alloc HB2.out.size _).trans (gb3.mono HB2.out.size)); have yc22 := Lib.hid g3; have yc12 := Lib.hid ((yb12.out.alloc _).below gb3 (by omega)); clear g3 go3 gb3 gz3) | (go_at_call 10; (with_reducible refine (with_3 _).mono ?_); rintro e wa3 ⟨rfl, hb⟩; have HA3 : Hid (Below w.heap.size w wa3) := Lib.hid (HC2.out.trans (hb.mono (by have := HC2.out.size; omega))); have za3 := hb.size; have ya13 := Lib.hid (yc12.out.below hb (by omega)); have ya23 := Lib.hid (yc22.out.below hb (by omega)); clear hb) | (go_at_call 5; (with_reducible refine (step_3 _).mono ?_); rintro e wb3 ⟨rfl, hb⟩; have HB3 : Hid (Below w.heap.size w wb3) := Lib.hid (HA3.out.trans (hb.mono (by have := HA3.out.size; omega))); have zb3 := hb.size; have yb13 := Lib.hid (ya13.out.below hb (by omega)); have yb23 := Lib.hid (ya23.out.below hb (by omega)); clear hb) | (refine store_ha row_hart x3 (HAt.zero 25 wb3) rfl _ _ rfl rfl rfl ?_; intro wc3 g3 go3 gb3 gz3; have zc3 : wc3.heap.size = wb3.heap.size + 1 := (by simpa using gz3); have HC3 : Hid (Below w.heap.size w wc3) := Lib.hid ((HB3.out.alloc HB3.out.size _).trans (gb3.mono HB3.out.size)); have yc33 := Lib.hid g3; have yc13 := Lib.hid ((yb13.out.alloc _).below gb3 (by omega)); have yc23 := Lib.hid ((yb23.out.alloc _).below gb3 (by omega)); clear g3 go3 gb3 gz3))
  have HC := HC3
  have q1 := yc13.out.c0
  have q2 : wc3.cell? ⟨wb1.heap.size, 3, none⟩ = some (.int .u64 (U (x1.x 2))) := yc13.out.cx 2 (by omega)
  have q3 := yc23.out.c33
  have q4 := yc23.out.c0
  have q5 := yc33.out.c33
  have q6 := yc33.out.c34
  rw [HX.out.1] at q1
  rw [HX.out.2.1] at q2
  rw [HX.out.2.2.1] at q3
  rw [HX.out.2.2.2.1] at q4
  rw [HX.out.2.2.2.2.1] at q5
  rw [HX.out.2.2.2.2.2] at q6
  clear yc13 yc23 yc33
  go_wp2_with fail
  go_ret
  exact ⟨rfl, HC.out⟩
end Go.Proofs.YtdiacnjkffdegaaGreat
