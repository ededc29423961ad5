/-
  Proved here: what the document's own Memory answers of any op (layer 2). No condition.
-/
import Derived.Test.YtdiacnjkffdegaaGreatRef02Name
import Derived.Test.YtdiacnjkffdegaaGreatInsnTables
namespace Go.Proofs.YtdiacnjkffdegaaGreat
open Go.RowKit



set_option maxHeartbeats 1000000 in
set_option maxRecDepth 100000 in
theorem rMem_none (op : Int) (f : Int) (hf : Hid (formOf op = f)) (b4 : (f == 4) = false) (b5 : (f == 5) = false) (b11 : (f == 11) = false) (b12 : (f == 12) = false) (w : World) : Calls Tryz.prog 19 #[.int .i64 op] w fun e w' => e = .returned (.tuple #[.bool false, .bool false, .int .i64 0]) ∧ Below w.heap.size w w' := by
  have HF : Hid (∀ w, Calls Tryz.prog 17 #[.int .i64 op] w fun e w' => e = .returned (.int .i64 f) ∧ w = w') := Lib.hid (hf.out ▸ rForm_any op)
  go_enter Tryz.func19, Tryz.ntmps19
  go_wp2_with (first | (go_at_call 38; (with_reducible refine (rName_any op _).mono ?_); rintro e w1 ⟨⟨N, rfl⟩, hb⟩; have HB := Lib.hid hb; clear hb) | (go_at_call 17; (with_reducible refine (HF.out _).mono ?_); rintro e w' ⟨rfl, rfl⟩))
  go_ret3
  exact ⟨rfl, HB.out⟩
set_option maxHeartbeats 1000000 in
set_option maxRecDepth 100000 in
theorem rMem_11 (w : World) : Calls Tryz.prog 19 #[.int .i64 11] w fun e w' => e = .returned (.tuple #[.bool true, .bool false, .int .i64 1]) ∧ Below w.heap.size w w' := by
  have HF : Hid (∀ w, Calls Tryz.prog 17 #[.int .i64 11] w fun e w' => e = .returned (.int .i64 4) ∧ w = w') := Lib.hid fun w => rForm_any 11 w
  have HN : Hid (∀ w, Calls Tryz.prog 38 #[.int .i64 11] w fun e w' => e = .returned (.string ⟨#[108, 98]⟩) ∧ Below w.heap.size w w') := Lib.hid fun w => rName_some 11 (by omega) (by decide +kernel) w
  have q1_98 : ((⟨#[108, 98]⟩ : ByteArray).extract 1 2 == (⟨#[98]⟩ : ByteArray)) = true := by decide +kernel
  have p1_98 : (((⟨#[108, 98]⟩ : ByteArray).extract 1 2).toList == [98]) = true := by decide +kernel
  have q1_104 : ((⟨#[108, 98]⟩ : ByteArray).extract 1 2 == (⟨#[104]⟩ : ByteArray)) = false := by decide +kernel
  have p1_104 : (((⟨#[108, 98]⟩ : ByteArray).extract 1 2).toList == [104]) = false := by decide +kernel
  have q1_119 : ((⟨#[108, 98]⟩ : ByteArray).extract 1 2 == (⟨#[119]⟩ : ByteArray)) = false := by decide +kernel
  have p1_119 : (((⟨#[108, 98]⟩ : ByteArray).extract 1 2).toList == [119]) = false := by decide +kernel
  go_enter Tryz.func19, Tryz.ntmps19
  go_wp2_with (first | (go_at_call 38; (with_reducible refine (HN.out _).mono ?_); rintro e w1 ⟨rfl, hb⟩; have HB := Lib.hid hb; clear hb) | (go_at_call 17; (with_reducible refine (HF.out _).mono ?_); rintro e w' ⟨rfl, rfl⟩))
  go_ret3
  exact ⟨rfl, HB.out⟩
set_option maxHeartbeats 1000000 in
set_option maxRecDepth 100000 in
theorem rMem_12 (w : World) : Calls Tryz.prog 19 #[.int .i64 12] w fun e w' => e = .returned (.tuple #[.bool true, .bool false, .int .i64 2]) ∧ Below w.heap.size w w' := by
  have HF : Hid (∀ w, Calls Tryz.prog 17 #[.int .i64 12] w fun e w' => e = .returned (.int .i64 4) ∧ w = w') := Lib.hid fun w => rForm_any 12 w
  have HN : Hid (∀ w, Calls Tryz.prog 38 #[.int .i64 12] w fun e w' => e = .returned (.string ⟨#[108, 104]⟩) ∧ Below w.heap.size w w') := Lib.hid fun w => rName_some 12 (by omega) (by decide +kernel) w
  have q1_98 : ((⟨#[108, 104]⟩ : ByteArray).extract 1 2 == (⟨#[98]⟩ : ByteArray)) = false := by decide +kernel
  have p1_98 : (((⟨#[108, 104]⟩ : ByteArray).extract 1 2).toList == [98]) = false := by decide +kernel
  have q1_104 : ((⟨#[108, 104]⟩ : ByteArray).extract 1 2 == (⟨#[104]⟩ : ByteArray)) = true := by decide +kernel
  have p1_104 : (((⟨#[108, 104]⟩ : ByteArray).extract 1 2).toList == [104]) = true := by decide +kernel
  have q1_119 : ((⟨#[108, 104]⟩ : ByteArray).extract 1 2 == (⟨#[119]⟩ : ByteArray)) = false := by decide +kernel
  have p1_119 : (((⟨#[108, 104]⟩ : ByteArray).extract 1 2).toList == [119]) = false := by decide +kernel
  go_enter Tryz.func19, Tryz.ntmps19
  go_wp2_with (first | (go_at_call 38; (with_reducible refine (HN.out _).mono ?_); rintro e w1 ⟨rfl, hb⟩; have HB := Lib.hid hb; clear hb) | (go_at_call 17; (with_reducible refine (HF.out _).mono ?_); rintro e w' ⟨rfl, rfl⟩))
  go_ret3
  exact ⟨rfl, HB.out⟩
set_option maxHeartbeats 1000000 in
set_option maxRecDepth 100000 in
theorem rMem_13 (w : World) : Calls Tryz.prog 19 #[.int .i64 13] w fun e w' => e = .returned (.tuple #[.bool true, .bool false, .int .i64 4]) ∧ Below w.heap.size w w' := by
  have HF : Hid (∀ w, Calls Tryz.prog 17 #[.int .i64 13] w fun e w' => e = .returned (.int .i64 4) ∧ w = w') := Lib.hid fun w => rForm_any 13 w
  have HN : Hid (∀ w, Calls Tryz.prog 38 #[.int .i64 13] w fun e w' => e = .returned (.string ⟨#[108, 119]⟩) ∧ Below w.heap.size w w') := Lib.hid fun w => rName_some 13 (by omega) (by decide +kernel) w
  have q1_98 : ((⟨#[108, 119]⟩ : ByteArray).extract 1 2 == (⟨#[98]⟩ : ByteArray)) = false := by decide +kernel
  have p1_98 : (((⟨#[108, 119]⟩ : ByteArray).extract 1 2).toList == [98]) = false := by decide +kernel
  have q1_104 : ((⟨#[108, 119]⟩ : ByteArray).extract 1 2 == (⟨#[104]⟩ : ByteArray)) = false := by decide +kernel
  have p1_104 : (((⟨#[108, 119]⟩ : ByteArray).extract 1 2).toList == [104]) = false := by decide +kernel
  have q1_119 : ((⟨#[108, 119]⟩ : ByteArray).extract 1 2 == (⟨#[119]⟩ : ByteArray)) = true := by decide +kernel
  have p1_119 : (((⟨#[108, 119]⟩ : ByteArray).extract 1 2).toList == [119]) = true := by decide +kernel
  go_enter Tryz.func19, Tryz.ntmps19
  go_wp2_with (first | (go_at_call 38; (with_reducible refine (HN.out _).mono ?_); rintro e w1 ⟨rfl, hb⟩; have HB := Lib.hid hb; clear hb) | (go_at_call 17; (with_reducible refine (HF.out _).mono ?_); rintro e w' ⟨rfl, rfl⟩))
  go_ret3
  exact ⟨rfl, HB.out⟩
set_option maxHeartbeats 1000000 in
set_option maxRecDepth 100000 in
theorem rMem_14 (w : World) : Calls Tryz.prog 19 #[.int .i64 14] w fun e w' => e = .returned (.tuple #[.bool true, .bool false, .int .i64 8]) ∧ Below w.heap.size w w' := by
  have HF : Hid (∀ w, Calls Tryz.prog 17 #[.int .i64 14] w fun e w' => e = .returned (.int .i64 4) ∧ w = w') := Lib.hid fun w => rForm_any 14 w
  have HN : Hid (∀ w, Calls Tryz.prog 38 #[.int .i64 14] w fun e w' => e = .returned (.string ⟨#[108, 100]⟩) ∧ Below w.heap.size w w') := Lib.hid fun w => rName_some 14 (by omega) (by decide +kernel) w
  have q1_98 : ((⟨#[108, 100]⟩ : ByteArray).extract 1 2 == (⟨#[98]⟩ : ByteArray)) = false := by decide +kernel
  have p1_98 : (((⟨#[108, 100]⟩ : ByteArray).extract 1 2).toList == [98]) = false := by decide +kernel
  have q1_104 : ((⟨#[108, 100]⟩ : ByteArray).extract 1 2 == (⟨#[104]⟩ : ByteArray)) = false := by decide +kernel
  have p1_104 : (((⟨#[108, 100]⟩ : ByteArray).extract 1 2).toList == [104]) = false := by decide +kernel
  have q1_119 : ((⟨#[108, 100]⟩ : ByteArray).extract 1 2 == (⟨#[119]⟩ : ByteArray)) = false := by decide +kernel
  have p1_119 : (((⟨#[108, 100]⟩ : ByteArray).extract 1 2).toList == [119]) = false := by decide +kernel
  go_enter Tryz.func19, Tryz.ntmps19
  go_wp2_with (first | (go_at_call 38; (with_reducible refine (HN.out _).mono ?_); rintro e w1 ⟨rfl, hb⟩; have HB := Lib.hid hb; clear hb) | (go_at_call 17; (with_reducible refine (HF.out _).mono ?_); rintro e w' ⟨rfl, rfl⟩))
  go_ret3
  exact ⟨rfl, HB.out⟩
set_option maxHeartbeats 1000000 in
set_option maxRecDepth 100000 in
theorem rMem_15 (w : World) : Calls Tryz.prog 19 #[.int .i64 15] w fun e w' => e = .returned (.tuple #[.bool true, .bool false, .int .i64 1]) ∧ Below w.heap.size w w' := by
  have HF : Hid (∀ w, Calls Tryz.prog 17 #[.int .i64 15] w fun e w' => e = .returned (.int .i64 4) ∧ w = w') := Lib.hid fun w => rForm_any 15 w
  have HN : Hid (∀ w, Calls Tryz.prog 38 #[.int .i64 15] w fun e w' => e = .returned (.string ⟨#[108, 98, 117]⟩) ∧ Below w.heap.size w w') := Lib.hid fun w => rName_some 15 (by omega) (by decide +kernel) w
  have q1_98 : ((⟨#[108, 98, 117]⟩ : ByteArray).extract 1 2 == (⟨#[98]⟩ : ByteArray)) = true := by decide +kernel
  have p1_98 : (((⟨#[108, 98, 117]⟩ : ByteArray).extract 1 2).toList == [98]) = true := by decide +kernel
  have q1_104 : ((⟨#[108, 98, 117]⟩ : ByteArray).extract 1 2 == (⟨#[104]⟩ : ByteArray)) = false := by decide +kernel
  have p1_104 : (((⟨#[108, 98, 117]⟩ : ByteArray).extract 1 2).toList == [104]) = false := by decide +kernel
  have q1_119 : ((⟨#[108, 98, 117]⟩ : ByteArray).extract 1 2 == (⟨#[119]⟩ : ByteArray)) = false := by decide +kernel
  have p1_119 : (((⟨#[108, 98, 117]⟩ : ByteArray).extract 1 2).toList == [119]) = false := by decide +kernel
  go_enter Tryz.func19, Tryz.ntmps19
  go_wp2_with (first | (go_at_call 38; (with_reducible refine (HN.out _).mono ?_); rintro e w1 ⟨rfl, hb⟩; have HB := Lib.hid hb; clear hb) | (go_at_call 17; (with_reducible refine (HF.out _).mono ?_); rintro e w' ⟨rfl, rfl⟩))
  go_ret3
  exact ⟨rfl, HB.out⟩
set_option maxHeartbeats 1000000 in
set_option maxRecDepth 100000 in
theorem rMem_16 (w : World) : Calls Tryz.prog 19 #[.int .i64 16] w fun e w' => e = .returned (.tuple #[.bool true, .bool false, .int .i64 2]) ∧ Below w.heap.size w w' := by
  have HF : Hid (∀ w, Calls Tryz.prog 17 #[.int .i64 16] w fun e w' => e = .returned (.int .i64 4) ∧ w = w') := Lib.hid fun w => rForm_any 16 w
  have HN : Hid (∀ w, Calls Tryz.prog 38 #[.int .i64 16] w fun e w' => e = .returned (.string ⟨#[108, 104, 117]⟩) ∧ Below w.heap.size w w') := Lib.hid fun w => rName_some 16 (by omega) (by decide +kernel) w
  have q1_98 : ((⟨#[108, 104, 117]⟩ : ByteArray).extract 1 2 == (⟨#[98]⟩ : ByteArray)) = false := by decide +kernel
  have p1_98 : (((⟨#[108, 104, 117]⟩ : ByteArray).extract 1 2).toList == [98]) = false := by decide +kernel
  have q1_104 : ((⟨#[108, 104, 117]⟩ : ByteArray).extract 1 2 == (⟨#[104]⟩ : ByteArray)) = true := by decide +kernel
  have p1_104 : (((⟨#[108, 104, 117]⟩ : ByteArray).extract 1 2).toList == [104]) = true := by decide +kernel
  have q1_119 : ((⟨#[108, 104, 117]⟩ : ByteArray).extract 1 2 == (⟨#[119]⟩ : ByteArray)) = false := by decide +kernel
  have p1_119 : (((⟨#[108, 104, 117]⟩ : ByteArray).extract 1 2).toList == [119]) = false := by decide +kernel
  go_enter Tryz.func19, Tryz.ntmps19
  go_wp2_with (first | (go_at_call 38; (with_reducible refine (HN.out _).mono ?_); rintro e w1 ⟨rfl, hb⟩; have HB := Lib.hid hb; clear hb) | (go_at_call 17; (with_reducible refine (HF.out _).mono ?_); rintro e w' ⟨rfl, rfl⟩))
  go_ret3
  exact ⟨rfl, HB.out⟩
set_option maxHeartbeats 1000000 in
set_option maxRecDepth 100000 in
theorem rMem_17 (w : World) : Calls Tryz.prog 19 #[.int .i64 17] w fun e w' => e = .returned (.tuple #[.bool true, .bool false, .int .i64 4]) ∧ Below w.heap.size w w' := by
  have HF : Hid (∀ w, Calls Tryz.prog 17 #[.int .i64 17] w fun e w' => e = .returned (.int .i64 4) ∧ w = w') := Lib.hid fun w => rForm_any 17 w
  have HN : Hid (∀ w, Calls Tryz.prog 38 #[.int .i64 17] w fun e w' => e = .returned (.string ⟨#[108, 119, 117]⟩) ∧ Below w.heap.size w w') := Lib.hid fun w => rName_some 17 (by omega) (by decide +kernel) w
  have q1_98 : ((⟨#[108, 119, 117]⟩ : ByteArray).extract 1 2 == (⟨#[98]⟩ : ByteArray)) = false := by decide +kernel
  have p1_98 : (((⟨#[108, 119, 117]⟩ : ByteArray).extract 1 2).toList == [98]) = false := by decide +kernel
  have q1_104 : ((⟨#[108, 119, 117]⟩ : ByteArray).extract 1 2 == (⟨#[104]⟩ : ByteArray)) = false := by decide +kernel
  have p1_104 : (((⟨#[108, 119, 117]⟩ : ByteArray).extract 1 2).toList == [104]) = false := by decide +kernel
  have q1_119 : ((⟨#[108, 119, 117]⟩ : ByteArray).extract 1 2 == (⟨#[119]⟩ : ByteArray)) = true := by decide +kernel
  have p1_119 : (((⟨#[108, 119, 117]⟩ : ByteArray).extract 1 2).toList == [119]) = true := by decide +kernel
  go_enter Tryz.func19, Tryz.ntmps19
  go_wp2_with (first | (go_at_call 38; (with_reducible refine (HN.out _).mono ?_); rintro e w1 ⟨rfl, hb⟩; have HB := Lib.hid hb; clear hb) | (go_at_call 17; (with_reducible refine (HF.out _).mono ?_); rintro e w' ⟨rfl, rfl⟩))
  go_ret3
  exact ⟨rfl, HB.out⟩
set_option maxHeartbeats 1000000 in
set_option maxRecDepth 100000 in
theorem rMem_18 (w : World) : Calls Tryz.prog 19 #[.int .i64 18] w fun e w' => e = .returned (.tuple #[.bool false, .bool true, .int .i64 1]) ∧ Below w.heap.size w w' := by
  have HF : Hid (∀ w, Calls Tryz.prog 17 #[.int .i64 18] w fun e w' => e = .returned (.int .i64 5) ∧ w = w') := Lib.hid fun w => rForm_any 18 w
  have HN : Hid (∀ w, Calls Tryz.prog 38 #[.int .i64 18] w fun e w' => e = .returned (.string ⟨#[115, 98]⟩) ∧ Below w.heap.size w w') := Lib.hid fun w => rName_some 18 (by omega) (by decide +kernel) w
  have q1_98 : ((⟨#[115, 98]⟩ : ByteArray).extract 1 2 == (⟨#[98]⟩ : ByteArray)) = true := by decide +kernel
  have p1_98 : (((⟨#[115, 98]⟩ : ByteArray).extract 1 2).toList == [98]) = true := by decide +kernel
  have q1_104 : ((⟨#[115, 98]⟩ : ByteArray).extract 1 2 == (⟨#[104]⟩ : ByteArray)) = false := by decide +kernel
  have p1_104 : (((⟨#[115, 98]⟩ : ByteArray).extract 1 2).toList == [104]) = false := by decide +kernel
  have q1_119 : ((⟨#[115, 98]⟩ : ByteArray).extract 1 2 == (⟨#[119]⟩ : ByteArray)) = false := by decide +kernel
  have p1_119 : (((⟨#[115, 98]⟩ : ByteArray).extract 1 2).toList == [119]) = false := by decide +kernel
  go_enter Tryz.func19, Tryz.ntmps19
  go_wp2_with (first | (go_at_call 38; (with_reducible refine (HN.out _).mono ?_); rintro e w1 ⟨rfl, hb⟩; have HB := Lib.hid hb; clear hb) | (go_at_call 17; (with_reducible refine (HF.out _).mono ?_); rintro e w' ⟨rfl, rfl⟩))
  go_ret3
  exact ⟨rfl, HB.out⟩
set_option maxHeartbeats 1000000 in
set_option maxRecDepth 100000 in
theorem rMem_19 (w : World) : Calls Tryz.prog 19 #[.int .i64 19] w fun e w' => e = .returned (.tuple #[.bool false, .bool true, .int .i64 2]) ∧ Below w.heap.size w w' := by
  have HF : Hid (∀ w, Calls Tryz.prog 17 #[.int .i64 19] w fun e w' => e = .returned (.int .i64 5) ∧ w = w') := Lib.hid fun w => rForm_any 19 w
  have HN : Hid (∀ w, Calls Tryz.prog 38 #[.int .i64 19] w fun e w' => e = .returned (.string ⟨#[115, 104]⟩) ∧ Below w.heap.size w w') := Lib.hid fun w => rName_some 19 (by omega) (by decide +kernel) w
  have q1_98 : ((⟨#[115, 104]⟩ : ByteArray).extract 1 2 == (⟨#[98]⟩ : ByteArray)) = false := by decide +kernel
  have p1_98 : (((⟨#[115, 104]⟩ : ByteArray).extract 1 2).toList == [98]) = false := by decide +kernel
  have q1_104 : ((⟨#[115, 104]⟩ : ByteArray).extract 1 2 == (⟨#[104]⟩ : ByteArray)) = true := by decide +kernel
  have p1_104 : (((⟨#[115, 104]⟩ : ByteArray).extract 1 2).toList == [104]) = true := by decide +kernel
  have q1_119 : ((⟨#[115, 104]⟩ : ByteArray).extract 1 2 == (⟨#[119]⟩ : ByteArray)) = false := by decide +kernel
  have p1_119 : (((⟨#[115, 104]⟩ : ByteArray).extract 1 2).toList == [119]) = false := by decide +kernel
  go_enter Tryz.func19, Tryz.ntmps19
  go_wp2_with (first | (go_at_call 38; (with_reducible refine (HN.out _).mono ?_); rintro e w1 ⟨rfl, hb⟩; have HB := Lib.hid hb; clear hb) | (go_at_call 17; (with_reducible refine (HF.out _).mono ?_); rintro e w' ⟨rfl, rfl⟩))
  go_ret3
  exact ⟨rfl, HB.out⟩
set_option maxHeartbeats 1000000 in
set_option maxRecDepth 100000 in
theorem rMem_20 (w : World) : Calls Tryz.prog 19 #[.int .i64 20] w fun e w' => e = .returned (.tuple #[.bool false, .bool true, .int .i64 4]) ∧ Below w.heap.size w w' := by
  have HF : Hid (∀ w, Calls Tryz.prog 17 #[.int .i64 20] w fun e w' => e = .returned (.int .i64 5) ∧ w = w') := Lib.hid fun w => rForm_any 20 w
  have HN : Hid (∀ w, Calls Tryz.prog 38 #[.int .i64 20] w fun e w' => e = .returned (.string ⟨#[115, 119]⟩) ∧ Below w.heap.size w w') := Lib.hid fun w => rName_some 20 (by omega) (by decide +kernel) w
  have q1_98 : ((⟨#[115, 119]⟩ : ByteArray).extract 1 2 == (⟨#[98]⟩ : ByteArray)) = false := by decide +kernel
  have p1_98 : (((⟨#[115, 119]⟩ : ByteArray).extract 1 2).toList == [98]) = false := by decide +kernel
  have q1_104 : ((⟨#[115, 119]⟩ : ByteArray).extract 1 2 == (⟨#[104]⟩ : ByteArray)) = false := by decide +kernel
  have p1_104 : (((⟨#[115, 119]⟩ : ByteArray).extract 1 2).toList == [104]) = false := by decide +kernel
  have q1_119 : ((⟨#[115, 119]⟩ : ByteArray).extract 1 2 == (⟨#[119]⟩ : ByteArray)) = true := by decide +kernel
  have p1_119 : (((⟨#[115, 119]⟩ : ByteArray).extract 1 2).toList == [119]) = true := by decide +kernel
  go_enter Tryz.func19, Tryz.ntmps19
  go_wp2_with (first | (go_at_call 38; (with_reducible refine (HN.out _).mono ?_); rintro e w1 ⟨rfl, hb⟩; have HB := Lib.hid hb; clear hb) | (go_at_call 17; (with_reducible refine (HF.out _).mono ?_); rintro e w' ⟨rfl, rfl⟩))
  go_ret3
  exact ⟨rfl, HB.out⟩
set_option maxHeartbeats 1000000 in
set_option maxRecDepth 100000 in
theorem rMem_21 (w : World) : Calls Tryz.prog 19 #[.int .i64 21] w fun e w' => e = .returned (.tuple #[.bool false, .bool true, .int .i64 8]) ∧ Below w.heap.size w w' := by
  have HF : Hid (∀ w, Calls Tryz.prog 17 #[.int .i64 21] w fun e w' => e = .returned (.int .i64 5) ∧ w = w') := Lib.hid fun w => rForm_any 21 w
  have HN : Hid (∀ w, Calls Tryz.prog 38 #[.int .i64 21] w fun e w' => e = .returned (.string ⟨#[115, 100]⟩) ∧ Below w.heap.size w w') := Lib.hid fun w => rName_some 21 (by omega) (by decide +kernel) w
  have q1_98 : ((⟨#[115, 100]⟩ : ByteArray).extract 1 2 == (⟨#[98]⟩ : ByteArray)) = false := by decide +kernel
  have p1_98 : (((⟨#[115, 100]⟩ : ByteArray).extract 1 2).toList == [98]) = false := by decide +kernel
  have q1_104 : ((⟨#[115, 100]⟩ : ByteArray).extract 1 2 == (⟨#[104]⟩ : ByteArray)) = false := by decide +kernel
  have p1_104 : (((⟨#[115, 100]⟩ : ByteArray).extract 1 2).toList == [104]) = false := by decide +kernel
  have q1_119 : ((⟨#[115, 100]⟩ : ByteArray).extract 1 2 == (⟨#[119]⟩ : ByteArray)) = false := by decide +kernel
  have p1_119 : (((⟨#[115, 100]⟩ : ByteArray).extract 1 2).toList == [119]) = false := by decide +kernel
  go_enter Tryz.func19, Tryz.ntmps19
  go_wp2_with (first | (go_at_call 38; (with_reducible refine (HN.out _).mono ?_); rintro e w1 ⟨rfl, hb⟩; have HB := Lib.hid hb; clear hb) | (go_at_call 17; (with_reducible refine (HF.out _).mono ?_); rintro e w' ⟨rfl, rfl⟩))
  go_ret3
  exact ⟨rfl, HB.out⟩
set_option maxHeartbeats 1000000 in
set_option maxRecDepth 100000 in
theorem rMem_66 (w : World) : Calls Tryz.prog 19 #[.int .i64 66] w fun e w' => e = .returned (.tuple #[.bool true, .bool false, .int .i64 4]) ∧ Below w.heap.size w w' := by
  have HF : Hid (∀ w, Calls Tryz.prog 17 #[.int .i64 66] w fun e w' => e = .returned (.int .i64 11) ∧ w = w') := Lib.hid fun w => rForm_any 66 w
  have HN : Hid (∀ w, Calls Tryz.prog 38 #[.int .i64 66] w fun e w' => e = .returned (.string ⟨#[108, 114, 46, 119]⟩) ∧ Below w.heap.size w w') := Lib.hid fun w => rName_some 66 (by omega) (by decide +kernel) w
  have q3_119 : ((⟨#[108, 114, 46, 119]⟩ : ByteArray).extract 3 4 == (⟨#[119]⟩ : ByteArray)) = true := by decide +kernel
  have p3_119 : (((⟨#[108, 114, 46, 119]⟩ : ByteArray).extract 3 4).toList == [119]) = true := by decide +kernel
  go_enter Tryz.func19, Tryz.ntmps19
  go_wp2_with (first | (go_at_call 38; (with_reducible refine (HN.out _).mono ?_); rintro e w1 ⟨rfl, hb⟩; have HB := Lib.hid hb; clear hb) | (go_at_call 17; (with_reducible refine (HF.out _).mono ?_); rintro e w' ⟨rfl, rfl⟩))
  go_ret3
  exact ⟨rfl, HB.out⟩
set_option maxHeartbeats 1000000 in
set_option maxRecDepth 100000 in
theorem rMem_67 (w : World) : Calls Tryz.prog 19 #[.int .i64 67] w fun e w' => e = .returned (.tuple #[.bool true, .bool false, .int .i64 8]) ∧ Below w.heap.size w w' := by
  have HF : Hid (∀ w, Calls Tryz.prog 17 #[.int .i64 67] w fun e w' => e = .returned (.int .i64 11) ∧ w = w') := Lib.hid fun w => rForm_any 67 w
  have HN : Hid (∀ w, Calls Tryz.prog 38 #[.int .i64 67] w fun e w' => e = .returned (.string ⟨#[108, 114, 46, 100]⟩) ∧ Below w.heap.size w w') := Lib.hid fun w => rName_some 67 (by omega) (by decide +kernel) w
  have q3_119 : ((⟨#[108, 114, 46, 100]⟩ : ByteArray).extract 3 4 == (⟨#[119]⟩ : ByteArray)) = false := by decide +kernel
  have p3_119 : (((⟨#[108, 114, 46, 100]⟩ : ByteArray).extract 3 4).toList == [119]) = false := by decide +kernel
  go_enter Tryz.func19, Tryz.ntmps19
  go_wp2_with (first | (go_at_call 38; (with_reducible refine (HN.out _).mono ?_); rintro e w1 ⟨rfl, hb⟩; have HB := Lib.hid hb; clear hb) | (go_at_call 17; (with_reducible refine (HF.out _).mono ?_); rintro e w' ⟨rfl, rfl⟩))
  go_ret3
  exact ⟨rfl, HB.out⟩
set_option maxHeartbeats 1000000 in
set_option maxRecDepth 100000 in
theorem rMem_68 (w : World) : Calls Tryz.prog 19 #[.int .i64 68] w fun e w' => e = .returned (.tuple #[.bool false, .bool true, .int .i64 4]) ∧ Below w.heap.size w w' := by
  have HF : Hid (∀ w, Calls Tryz.prog 17 #[.int .i64 68] w fun e w' => e = .returned (.int .i64 12) ∧ w = w') := Lib.hid fun w => rForm_any 68 w
  have HN : Hid (∀ w, Calls Tryz.prog 38 #[.int .i64 68] w fun e w' => e = .returned (.string ⟨#[115, 99, 46, 119]⟩) ∧ Below w.heap.size w w') := Lib.hid fun w => rName_some 68 (by omega) (by decide +kernel) w
  have q3_119 : ((⟨#[115, 99, 46, 119]⟩ : ByteArray).extract 3 4 == (⟨#[119]⟩ : ByteArray)) = true := by decide +kernel
  have p3_119 : (((⟨#[115, 99, 46, 119]⟩ : ByteArray).extract 3 4).toList == [119]) = true := by decide +kernel
  go_enter Tryz.func19, Tryz.ntmps19
  go_wp2_with (first | (go_at_call 38; (with_reducible refine (HN.out _).mono ?_); rintro e w1 ⟨rfl, hb⟩; have HB := Lib.hid hb; clear hb) | (go_at_call 17; (with_reducible refine (HF.out _).mono ?_); rintro e w' ⟨rfl, rfl⟩))
  go_ret3
  exact ⟨rfl, HB.out⟩
set_option maxHeartbeats 1000000 in
set_option maxRecDepth 100000 in
theorem rMem_69 (w : World) : Calls Tryz.prog 19 #[.int .i64 69] w fun e w' => e = .returned (.tuple #[.bool false, .bool true, .int .i64 8]) ∧ Below w.heap.size w w' := by
  have HF : Hid (∀ w, Calls Tryz.prog 17 #[.int .i64 69] w fun e w' => e = .returned (.int .i64 12) ∧ w = w') := Lib.hid fun w => rForm_any 69 w
  have HN : Hid (∀ w, Calls Tryz.prog 38 #[.int .i64 69] w fun e w' => e = .returned (.string ⟨#[115, 99, 46, 100]⟩) ∧ Below w.heap.size w w') := Lib.hid fun w => rName_some 69 (by omega) (by decide +kernel) w
  have q3_119 : ((⟨#[115, 99, 46, 100]⟩ : ByteArray).extract 3 4 == (⟨#[119]⟩ : ByteArray)) = false := by decide +kernel
  have p3_119 : (((⟨#[115, 99, 46, 100]⟩ : ByteArray).extract 3 4).toList == [119]) = false := by decide +kernel
  go_enter Tryz.func19, Tryz.ntmps19
  go_wp2_with (first | (go_at_call 38; (with_reducible refine (HN.out _).mono ?_); rintro e w1 ⟨rfl, hb⟩; have HB := Lib.hid hb; clear hb) | (go_at_call 17; (with_reducible refine (HF.out _).mono ?_); rintro e w' ⟨rfl, rfl⟩))
  go_ret3
  exact ⟨rfl, HB.out⟩
set_option maxHeartbeats 1000000 in
set_option maxRecDepth 100000 in
theorem rMem_70 (w : World) : Calls Tryz.prog 19 #[.int .i64 70] w fun e w' => e = .returned (.tuple #[.bool true, .bool true, .int .i64 4]) ∧ Below w.heap.size w w' := by
  have HF : Hid (∀ w, Calls Tryz.prog 17 #[.int .i64 70] w fun e w' => e = .returned (.int .i64 12) ∧ w = w') := Lib.hid fun w => rForm_any 70 w
  have HN : Hid (∀ w, Calls Tryz.prog 38 #[.int .i64 70] w fun e w' => e = .returned (.string ⟨#[97, 109, 111, 115, 119, 97, 112, 46, 119]⟩) ∧ Below w.heap.size w w') := Lib.hid fun w => rName_some 70 (by omega) (by decide +kernel) w
  have q8_119 : ((⟨#[97, 109, 111, 115, 119, 97, 112, 46, 119]⟩ : ByteArray).extract 8 9 == (⟨#[119]⟩ : ByteArray)) = true := by decide +kernel
  have p8_119 : (((⟨#[97, 109, 111, 115, 119, 97, 112, 46, 119]⟩ : ByteArray).extract 8 9).toList == [119]) = true := by decide +kernel
  go_enter Tryz.func19, Tryz.ntmps19
  go_wp2_with (first | (go_at_call 38; (with_reducible refine (HN.out _).mono ?_); rintro e w1 ⟨rfl, hb⟩; have HB := Lib.hid hb; clear hb) | (go_at_call 17; (with_reducible refine (HF.out _).mono ?_); rintro e w' ⟨rfl, rfl⟩))
  go_ret3
  exact ⟨rfl, HB.out⟩
set_option maxHeartbeats 1000000 in
set_option maxRecDepth 100000 in
theorem rMem_71 (w : World) : Calls Tryz.prog 19 #[.int .i64 71] w fun e w' => e = .returned (.tuple #[.bool true, .bool true, .int .i64 4]) ∧ Below w.heap.size w w' := by
  have HF : Hid (∀ w, Calls Tryz.prog 17 #[.int .i64 71] w fun e w' => e = .returned (.int .i64 12) ∧ w = w') := Lib.hid fun w => rForm_any 71 w
  have HN : Hid (∀ w, Calls Tryz.prog 38 #[.int .i64 71] w fun e w' => e = .returned (.string ⟨#[97, 109, 111, 97, 100, 100, 46, 119]⟩) ∧ Below w.heap.size w w') := Lib.hid fun w => rName_some 71 (by omega) (by decide +kernel) w
  have q7_119 : ((⟨#[97, 109, 111, 97, 100, 100, 46, 119]⟩ : ByteArray).extract 7 8 == (⟨#[119]⟩ : ByteArray)) = true := by decide +kernel
  have p7_119 : (((⟨#[97, 109, 111, 97, 100, 100, 46, 119]⟩ : ByteArray).extract 7 8).toList == [119]) = true := by decide +kernel
  go_enter Tryz.func19, Tryz.ntmps19
  go_wp2_with (first | (go_at_call 38; (with_reducible refine (HN.out _).mono ?_); rintro e w1 ⟨rfl, hb⟩; have HB := Lib.hid hb; clear hb) | (go_at_call 17; (with_reducible refine (HF.out _).mono ?_); rintro e w' ⟨rfl, rfl⟩))
  go_ret3
  exact ⟨rfl, HB.out⟩
set_option maxHeartbeats 1000000 in
set_option maxRecDepth 100000 in
theorem rMem_72 (w : World) : Calls Tryz.prog 19 #[.int .i64 72] w fun e w' => e = .returned (.tuple #[.bool true, .bool true, .int .i64 4]) ∧ Below w.heap.size w w' := by
  have HF : Hid (∀ w, Calls Tryz.prog 17 #[.int .i64 72] w fun e w' => e = .returned (.int .i64 12) ∧ w = w') := Lib.hid fun w => rForm_any 72 w
  have HN : Hid (∀ w, Calls Tryz.prog 38 #[.int .i64 72] w fun e w' => e = .returned (.string ⟨#[97, 109, 111, 120, 111, 114, 46, 119]⟩) ∧ Below w.heap.size w w') := Lib.hid fun w => rName_some 72 (by omega) (by decide +kernel) w
  have q7_119 : ((⟨#[97, 109, 111, 120, 111, 114, 46, 119]⟩ : ByteArray).extract 7 8 == (⟨#[119]⟩ : ByteArray)) = true := by decide +kernel
  have p7_119 : (((⟨#[97, 109, 111, 120, 111, 114, 46, 119]⟩ : ByteArray).extract 7 8).toList == [119]) = true := by decide +kernel
  go_enter Tryz.func19, Tryz.ntmps19
  go_wp2_with (first | (go_at_call 38; (with_reducible refine (HN.out _).mono ?_); rintro e w1 ⟨rfl, hb⟩; have HB := Lib.hid hb; clear hb) | (go_at_call 17; (with_reducible refine (HF.out _).mono ?_); rintro e w' ⟨rfl, rfl⟩))
  go_ret3
  exact ⟨rfl, HB.out⟩
set_option maxHeartbeats 1000000 in
set_option maxRecDepth 100000 in
theorem rMem_73 (w : World) : Calls Tryz.prog 19 #[.int .i64 73] w fun e w' => e = .returned (.tuple #[.bool true, .bool true, .int .i64 4]) ∧ Below w.heap.size w w' := by
  have HF : Hid (∀ w, Calls Tryz.prog 17 #[.int .i64 73] w fun e w' => e = .returned (.int .i64 12) ∧ w = w') := Lib.hid fun w => rForm_any 73 w
  have HN : Hid (∀ w, Calls Tryz.prog 38 #[.int .i64 73] w fun e w' => e = .returned (.string ⟨#[97, 109, 111, 97, 110, 100, 46, 119]⟩) ∧ Below w.heap.size w w') := Lib.hid fun w => rName_some 73 (by omega) (by decide +kernel) w
  have q7_119 : ((⟨#[97, 109, 111, 97, 110, 100, 46, 119]⟩ : ByteArray).extract 7 8 == (⟨#[119]⟩ : ByteArray)) = true := by decide +kernel
  have p7_119 : (((⟨#[97, 109, 111, 97, 110, 100, 46, 119]⟩ : ByteArray).extract 7 8).toList == [119]) = true := by decide +kernel
  go_enter Tryz.func19, Tryz.ntmps19
  go_wp2_with (first | (go_at_call 38; (with_reducible refine (HN.out _).mono ?_); rintro e w1 ⟨rfl, hb⟩; have HB := Lib.hid hb; clear hb) | (go_at_call 17; (with_reducible refine (HF.out _).mono ?_); rintro e w' ⟨rfl, rfl⟩))
  go_ret3
  exact ⟨rfl, HB.out⟩
set_option maxHeartbeats 1000000 in
set_option maxRecDepth 100000 in
theorem rMem_74 (w : World) : Calls Tryz.prog 19 #[.int .i64 74] w fun e w' => e = .returned (.tuple #[.bool true, .bool true, .int .i64 4]) ∧ Below w.heap.size w w' := by
  have HF : Hid (∀ w, Calls Tryz.prog 17 #[.int .i64 74] w fun e w' => e = .returned (.int .i64 12) ∧ w = w') := Lib.hid fun w => rForm_any 74 w
  have HN : Hid (∀ w, Calls Tryz.prog 38 #[.int .i64 74] w fun e w' => e = .returned (.string ⟨#[97, 109, 111, 111, 114, 46, 119]⟩) ∧ Below w.heap.size w w') := Lib.hid fun w => rName_some 74 (by omega) (by decide +kernel) w
  have q6_119 : ((⟨#[97, 109, 111, 111, 114, 46, 119]⟩ : ByteArray).extract 6 7 == (⟨#[119]⟩ : ByteArray)) = true := by decide +kernel
  have p6_119 : (((⟨#[97, 109, 111, 111, 114, 46, 119]⟩ : ByteArray).extract 6 7).toList == [119]) = true := by decide +kernel
  go_enter Tryz.func19, Tryz.ntmps19
  go_wp2_with (first | (go_at_call 38; (with_reducible refine (HN.out _).mono ?_); rintro e w1 ⟨rfl, hb⟩; have HB := Lib.hid hb; clear hb) | (go_at_call 17; (with_reducible refine (HF.out _).mono ?_); rintro e w' ⟨rfl, rfl⟩))
  go_ret3
  exact ⟨rfl, HB.out⟩
set_option maxHeartbeats 1000000 in
set_option maxRecDepth 100000 in
theorem rMem_75 (w : World) : Calls Tryz.prog 19 #[.int .i64 75] w fun e w' => e = .returned (.tuple #[.bool true, .bool true, .int .i64 4]) ∧ Below w.heap.size w w' := by
  have HF : Hid (∀ w, Calls Tryz.prog 17 #[.int .i64 75] w fun e w' => e = .returned (.int .i64 12) ∧ w = w') := Lib.hid fun w => rForm_any 75 w
  have HN : Hid (∀ w, Calls Tryz.prog 38 #[.int .i64 75] w fun e w' => e = .returned (.string ⟨#[97, 109, 111, 109, 105, 110, 46, 119]⟩) ∧ Below w.heap.size w w') := Lib.hid fun w => rName_some 75 (by omega) (by decide +kernel) w
  have q7_119 : ((⟨#[97, 109, 111, 109, 105, 110, 46, 119]⟩ : ByteArray).extract 7 8 == (⟨#[119]⟩ : ByteArray)) = true := by decide +kernel
  have p7_119 : (((⟨#[97, 109, 111, 109, 105, 110, 46, 119]⟩ : ByteArray).extract 7 8).toList == [119]) = true := by decide +kernel
  go_enter Tryz.func19, Tryz.ntmps19
  go_wp2_with (first | (go_at_call 38; (with_reducible refine (HN.out _).mono ?_); rintro e w1 ⟨rfl, hb⟩; have HB := Lib.hid hb; clear hb) | (go_at_call 17; (with_reducible refine (HF.out _).mono ?_); rintro e w' ⟨rfl, rfl⟩))
  go_ret3
  exact ⟨rfl, HB.out⟩
set_option maxHeartbeats 1000000 in
set_option maxRecDepth 100000 in
theorem rMem_76 (w : World) : Calls Tryz.prog 19 #[.int .i64 76] w fun e w' => e = .returned (.tuple #[.bool true, .bool true, .int .i64 4]) ∧ Below w.heap.size w w' := by
  have HF : Hid (∀ w, Calls Tryz.prog 17 #[.int .i64 76] w fun e w' => e = .returned (.int .i64 12) ∧ w = w') := Lib.hid fun w => rForm_any 76 w
  have HN : Hid (∀ w, Calls Tryz.prog 38 #[.int .i64 76] w fun e w' => e = .returned (.string ⟨#[97, 109, 111, 109, 97, 120, 46, 119]⟩) ∧ Below w.heap.size w w') := Lib.hid fun w => rName_some 76 (by omega) (by decide +kernel) w
  have q7_119 : ((⟨#[97, 109, 111, 109, 97, 120, 46, 119]⟩ : ByteArray).extract 7 8 == (⟨#[119]⟩ : ByteArray)) = true := by decide +kernel
  have p7_119 : (((⟨#[97, 109, 111, 109, 97, 120, 46, 119]⟩ : ByteArray).extract 7 8).toList == [119]) = true := by decide +kernel
  go_enter Tryz.func19, Tryz.ntmps19
  go_wp2_with (first | (go_at_call 38; (with_reducible refine (HN.out _).mono ?_); rintro e w1 ⟨rfl, hb⟩; have HB := Lib.hid hb; clear hb) | (go_at_call 17; (with_reducible refine (HF.out _).mono ?_); rintro e w' ⟨rfl, rfl⟩))
  go_ret3
  exact ⟨rfl, HB.out⟩
set_option maxHeartbeats 1000000 in
set_option maxRecDepth 100000 in
theorem rMem_77 (w : World) : Calls Tryz.prog 19 #[.int .i64 77] w fun e w' => e = .returned (.tuple #[.bool true, .bool true, .int .i64 4]) ∧ Below w.heap.size w w' := by
  have HF : Hid (∀ w, Calls Tryz.prog 17 #[.int .i64 77] w fun e w' => e = .returned (.int .i64 12) ∧ w = w') := Lib.hid fun w => rForm_any 77 w
  have HN : Hid (∀ w, Calls Tryz.prog 38 #[.int .i64 77] w fun e w' => e = .returned (.string ⟨#[97, 109, 111, 109, 105, 110, 117, 46, 119]⟩) ∧ Below w.heap.size w w') := Lib.hid fun w => rName_some 77 (by omega) (by decide +kernel) w
  have q8_119 : ((⟨#[97, 109, 111, 109, 105, 110, 117, 46, 119]⟩ : ByteArray).extract 8 9 == (⟨#[119]⟩ : ByteArray)) = true := by decide +kernel
  have p8_119 : (((⟨#[97, 109, 111, 109, 105, 110, 117, 46, 119]⟩ : ByteArray).extract 8 9).toList == [119]) = true := by decide +kernel
  go_enter Tryz.func19, Tryz.ntmps19
  go_wp2_with (first | (go_at_call 38; (with_reducible refine (HN.out _).mono ?_); rintro e w1 ⟨rfl, hb⟩; have HB := Lib.hid hb; clear hb) | (go_at_call 17; (with_reducible refine (HF.out _).mono ?_); rintro e w' ⟨rfl, rfl⟩))
  go_ret3
  exact ⟨rfl, HB.out⟩
set_option maxHeartbeats 1000000 in
set_option maxRecDepth 100000 in
theorem rMem_78 (w : World) : Calls Tryz.prog 19 #[.int .i64 78] w fun e w' => e = .returned (.tuple #[.bool true, .bool true, .int .i64 4]) ∧ Below w.heap.size w w' := by
  have HF : Hid (∀ w, Calls Tryz.prog 17 #[.int .i64 78] w fun e w' => e = .returned (.int .i64 12) ∧ w = w') := Lib.hid fun w => rForm_any 78 w
  have HN : Hid (∀ w, Calls Tryz.prog 38 #[.int .i64 78] w fun e w' => e = .returned (.string ⟨#[97, 109, 111, 109, 97, 120, 117, 46, 119]⟩) ∧ Below w.heap.size w w') := Lib.hid fun w => rName_some 78 (by omega) (by decide +kernel) w
  have q8_119 : ((⟨#[97, 109, 111, 109, 97, 120, 117, 46, 119]⟩ : ByteArray).extract 8 9 == (⟨#[119]⟩ : ByteArray)) = true := by decide +kernel
  have p8_119 : (((⟨#[97, 109, 111, 109, 97, 120, 117, 46, 119]⟩ : ByteArray).extract 8 9).toList == [119]) = true := by decide +kernel
  go_enter Tryz.func19, Tryz.ntmps19
  go_wp2_with (first | (go_at_call 38; (with_reducible refine (HN.out _).mono ?_); rintro e w1 ⟨rfl, hb⟩; have HB := Lib.hid hb; clear hb) | (go_at_call 17; (with_reducible refine (HF.out _).mono ?_); rintro e w' ⟨rfl, rfl⟩))
  go_ret3
  exact ⟨rfl, HB.out⟩
set_option maxHeartbeats 1000000 in
set_option maxRecDepth 100000 in
theorem rMem_79 (w : World) : Calls Tryz.prog 19 #[.int .i64 79] w fun e w' => e = .returned (.tuple #[.bool true, .bool true, .int .i64 8]) ∧ Below w.heap.size w w' := by
  have HF : Hid (∀ w, Calls Tryz.prog 17 #[.int .i64 79] w fun e w' => e = .returned (.int .i64 12) ∧ w = w') := Lib.hid fun w => rForm_any 79 w
  have HN : Hid (∀ w, Calls Tryz.prog 38 #[.int .i64 79] w fun e w' => e = .returned (.string ⟨#[97, 109, 111, 115, 119, 97, 112, 46, 100]⟩) ∧ Below w.heap.size w w') := Lib.hid fun w => rName_some 79 (by omega) (by decide +kernel) w
  have q8_119 : ((⟨#[97, 109, 111, 115, 119, 97, 112, 46, 100]⟩ : ByteArray).extract 8 9 == (⟨#[119]⟩ : ByteArray)) = false := by decide +kernel
  have p8_119 : (((⟨#[97, 109, 111, 115, 119, 97, 112, 46, 100]⟩ : ByteArray).extract 8 9).toList == [119]) = false := by decide +kernel
  go_enter Tryz.func19, Tryz.ntmps19
  go_wp2_with (first | (go_at_call 38; (with_reducible refine (HN.out _).mono ?_); rintro e w1 ⟨rfl, hb⟩; have HB := Lib.hid hb; clear hb) | (go_at_call 17; (with_reducible refine (HF.out _).mono ?_); rintro e w' ⟨rfl, rfl⟩))
  go_ret3
  exact ⟨rfl, HB.out⟩
set_option maxHeartbeats 1000000 in
set_option maxRecDepth 100000 in
theorem rMem_80 (w : World) : Calls Tryz.prog 19 #[.int .i64 80] w fun e w' => e = .returned (.tuple #[.bool true, .bool true, .int .i64 8]) ∧ Below w.heap.size w w' := by
  have HF : Hid (∀ w, Calls Tryz.prog 17 #[.int .i64 80] w fun e w' => e = .returned (.int .i64 12) ∧ w = w') := Lib.hid fun w => rForm_any 80 w
  have HN : Hid (∀ w, Calls Tryz.prog 38 #[.int .i64 80] w fun e w' => e = .returned (.string ⟨#[97, 109, 111, 97, 100, 100, 46, 100]⟩) ∧ Below w.heap.size w w') := Lib.hid fun w => rName_some 80 (by omega) (by decide +kernel) w
  have q7_119 : ((⟨#[97, 109, 111, 97, 100, 100, 46, 100]⟩ : ByteArray).extract 7 8 == (⟨#[119]⟩ : ByteArray)) = false := by decide +kernel
  have p7_119 : (((⟨#[97, 109, 111, 97, 100, 100, 46, 100]⟩ : ByteArray).extract 7 8).toList == [119]) = false := by decide +kernel
  go_enter Tryz.func19, Tryz.ntmps19
  go_wp2_with (first | (go_at_call 38; (with_reducible refine (HN.out _).mono ?_); rintro e w1 ⟨rfl, hb⟩; have HB := Lib.hid hb; clear hb) | (go_at_call 17; (with_reducible refine (HF.out _).mono ?_); rintro e w' ⟨rfl, rfl⟩))
  go_ret3
  exact ⟨rfl, HB.out⟩
set_option maxHeartbeats 1000000 in
set_option maxRecDepth 100000 in
theorem rMem_81 (w : World) : Calls Tryz.prog 19 #[.int .i64 81] w fun e w' => e = .returned (.tuple #[.bool true, .bool true, .int .i64 8]) ∧ Below w.heap.size w w' := by
  have HF : Hid (∀ w, Calls Tryz.prog 17 #[.int .i64 81] w fun e w' => e = .returned (.int .i64 12) ∧ w = w') := Lib.hid fun w => rForm_any 81 w
  have HN : Hid (∀ w, Calls Tryz.prog 38 #[.int .i64 81] w fun e w' => e = .returned (.string ⟨#[97, 109, 111, 120, 111, 114, 46, 100]⟩) ∧ Below w.heap.size w w') := Lib.hid fun w => rName_some 81 (by omega) (by decide +kernel) w
  have q7_119 : ((⟨#[97, 109, 111, 120, 111, 114, 46, 100]⟩ : ByteArray).extract 7 8 == (⟨#[119]⟩ : ByteArray)) = false := by decide +kernel
  have p7_119 : (((⟨#[97, 109, 111, 120, 111, 114, 46, 100]⟩ : ByteArray).extract 7 8).toList == [119]) = false := by decide +kernel
  go_enter Tryz.func19, Tryz.ntmps19
  go_wp2_with (first | (go_at_call 38; (with_reducible refine (HN.out _).mono ?_); rintro e w1 ⟨rfl, hb⟩; have HB := Lib.hid hb; clear hb) | (go_at_call 17; (with_reducible refine (HF.out _).mono ?_); rintro e w' ⟨rfl, rfl⟩))
  go_ret3
  exact ⟨rfl, HB.out⟩
set_option maxHeartbeats 1000000 in
set_option maxRecDepth 100000 in
theorem rMem_82 (w : World) : Calls Tryz.prog 19 #[.int .i64 82] w fun e w' => e = .returned (.tuple #[.bool true, .bool true, .int .i64 8]) ∧ Below w.heap.size w w' := by
  have HF : Hid (∀ w, Calls Tryz.prog 17 #[.int .i64 82] w fun e w' => e = .returned (.int .i64 12) ∧ w = w') := Lib.hid fun w => rForm_any 82 w
  have HN : Hid (∀ w, Calls Tryz.prog 38 #[.int .i64 82] w fun e w' => e = .returned (.string ⟨#[97, 109, 111, 97, 110, 100, 46, 100]⟩) ∧ Below w.heap.size w w') := Lib.hid fun w => rName_some 82 (by omega) (by decide +kernel) w
  have q7_119 : ((⟨#[97, 109, 111, 97, 110, 100, 46, 100]⟩ : ByteArray).extract 7 8 == (⟨#[119]⟩ : ByteArray)) = false := by decide +kernel
  have p7_119 : (((⟨#[97, 109, 111, 97, 110, 100, 46, 100]⟩ : ByteArray).extract 7 8).toList == [119]) = false := by decide +kernel
  go_enter Tryz.func19, Tryz.ntmps19
  go_wp2_with (first | (go_at_call 38; (with_reducible refine (HN.out _).mono ?_); rintro e w1 ⟨rfl, hb⟩; have HB := Lib.hid hb; clear hb) | (go_at_call 17; (with_reducible refine (HF.out _).mono ?_); rintro e w' ⟨rfl, rfl⟩))
  go_ret3
  exact ⟨rfl, HB.out⟩
set_option maxHeartbeats 1000000 in
set_option maxRecDepth 100000 in
theorem rMem_83 (w : World) : Calls Tryz.prog 19 #[.int .i64 83] w fun e w' => e = .returned (.tuple #[.bool true, .bool true, .int .i64 8]) ∧ Below w.heap.size w w' := by
  have HF : Hid (∀ w, Calls Tryz.prog 17 #[.int .i64 83] w fun e w' => e = .returned (.int .i64 12) ∧ w = w') := Lib.hid fun w => rForm_any 83 w
  have HN : Hid (∀ w, Calls Tryz.prog 38 #[.int .i64 83] w fun e w' => e = .returned (.string ⟨#[97, 109, 111, 111, 114, 46, 100]⟩) ∧ Below w.heap.size w w') := Lib.hid fun w => rName_some 83 (by omega) (by decide +kernel) w
  have q6_119 : ((⟨#[97, 109, 111, 111, 114, 46, 100]⟩ : ByteArray).extract 6 7 == (⟨#[119]⟩ : ByteArray)) = false := by decide +kernel
  have p6_119 : (((⟨#[97, 109, 111, 111, 114, 46, 100]⟩ : ByteArray).extract 6 7).toList == [119]) = false := by decide +kernel
  go_enter Tryz.func19, Tryz.ntmps19
  go_wp2_with (first | (go_at_call 38; (with_reducible refine (HN.out _).mono ?_); rintro e w1 ⟨rfl, hb⟩; have HB := Lib.hid hb; clear hb) | (go_at_call 17; (with_reducible refine (HF.out _).mono ?_); rintro e w' ⟨rfl, rfl⟩))
  go_ret3
  exact ⟨rfl, HB.out⟩
set_option maxHeartbeats 1000000 in
set_option maxRecDepth 100000 in
theorem rMem_84 (w : World) : Calls Tryz.prog 19 #[.int .i64 84] w fun e w' => e = .returned (.tuple #[.bool true, .bool true, .int .i64 8]) ∧ Below w.heap.size w w' := by
  have HF : Hid (∀ w, Calls Tryz.prog 17 #[.int .i64 84] w fun e w' => e = .returned (.int .i64 12) ∧ w = w') := Lib.hid fun w => rForm_any 84 w
  have HN : Hid (∀ w, Calls Tryz.prog 38 #[.int .i64 84] w fun e w' => e = .returned (.string ⟨#[97, 109, 111, 109, 105, 110, 46, 100]⟩) ∧ Below w.heap.size w w') := Lib.hid fun w => rName_some 84 (by omega) (by decide +kernel) w
  have q7_119 : ((⟨#[97, 109, 111, 109, 105, 110, 46, 100]⟩ : ByteArray).extract 7 8 == (⟨#[119]⟩ : ByteArray)) = false := by decide +kernel
  have p7_119 : (((⟨#[97, 109, 111, 109, 105, 110, 46, 100]⟩ : ByteArray).extract 7 8).toList == [119]) = false := by decide +kernel
  go_enter Tryz.func19, Tryz.ntmps19
  go_wp2_with (first | (go_at_call 38; (with_reducible refine (HN.out _).mono ?_); rintro e w1 ⟨rfl, hb⟩; have HB := Lib.hid hb; clear hb) | (go_at_call 17; (with_reducible refine (HF.out _).mono ?_); rintro e w' ⟨rfl, rfl⟩))
  go_ret3
  exact ⟨rfl, HB.out⟩
set_option maxHeartbeats 1000000 in
set_option maxRecDepth 100000 in
theorem rMem_85 (w : World) : Calls Tryz.prog 19 #[.int .i64 85] w fun e w' => e = .returned (.tuple #[.bool true, .bool true, .int .i64 8]) ∧ Below w.heap.size w w' := by
  have HF : Hid (∀ w, Calls Tryz.prog 17 #[.int .i64 85] w fun e w' => e = .returned (.int .i64 12) ∧ w = w') := Lib.hid fun w => rForm_any 85 w
  have HN : Hid (∀ w, Calls Tryz.prog 38 #[.int .i64 85] w fun e w' => e = .returned (.string ⟨#[97, 109, 111, 109, 97, 120, 46, 100]⟩) ∧ Below w.heap.size w w') := Lib.hid fun w => rName_some 85 (by omega) (by decide +kernel) w
  have q7_119 : ((⟨#[97, 109, 111, 109, 97, 120, 46, 100]⟩ : ByteArray).extract 7 8 == (⟨#[119]⟩ : ByteArray)) = false := by decide +kernel
  have p7_119 : (((⟨#[97, 109, 111, 109, 97, 120, 46, 100]⟩ : ByteArray).extract 7 8).toList == [119]) = false := by decide +kernel
  go_enter Tryz.func19, Tryz.ntmps19
  go_wp2_with (first | (go_at_call 38; (with_reducible refine (HN.out _).mono ?_); rintro e w1 ⟨rfl, hb⟩; have HB := Lib.hid hb; clear hb) | (go_at_call 17; (with_reducible refine (HF.out _).mono ?_); rintro e w' ⟨rfl, rfl⟩))
  go_ret3
  exact ⟨rfl, HB.out⟩
set_option maxHeartbeats 1000000 in
set_option maxRecDepth 100000 in
theorem rMem_86 (w : World) : Calls Tryz.prog 19 #[.int .i64 86] w fun e w' => e = .returned (.tuple #[.bool true, .bool true, .int .i64 8]) ∧ Below w.heap.size w w' := by
  have HF : Hid (∀ w, Calls Tryz.prog 17 #[.int .i64 86] w fun e w' => e = .returned (.int .i64 12) ∧ w = w') := Lib.hid fun w => rForm_any 86 w
  have HN : Hid (∀ w, Calls Tryz.prog 38 #[.int .i64 86] w fun e w' => e = .returned (.string ⟨#[97, 109, 111, 109, 105, 110, 117, 46, 100]⟩) ∧ Below w.heap.size w w') := Lib.hid fun w => rName_some 86 (by omega) (by decide +kernel) w
  have q8_119 : ((⟨#[97, 109, 111, 109, 105, 110, 117, 46, 100]⟩ : ByteArray).extract 8 9 == (⟨#[119]⟩ : ByteArray)) = false := by decide +kernel
  have p8_119 : (((⟨#[97, 109, 111, 109, 105, 110, 117, 46, 100]⟩ : ByteArray).extract 8 9).toList == [119]) = false := by decide +kernel
  go_enter Tryz.func19, Tryz.ntmps19
  go_wp2_with (first | (go_at_call 38; (with_reducible refine (HN.out _).mono ?_); rintro e w1 ⟨rfl, hb⟩; have HB := Lib.hid hb; clear hb) | (go_at_call 17; (with_reducible refine (HF.out _).mono ?_); rintro e w' ⟨rfl, rfl⟩))
  go_ret3
  exact ⟨rfl, HB.out⟩
set_option maxHeartbeats 1000000 in
set_option maxRecDepth 100000 in
theorem rMem_87 (w : World) : Calls Tryz.prog 19 #[.int .i64 87] w fun e w' => e = .returned (.tuple #[.bool true, .bool true, .int .i64 8]) ∧ Below w.heap.size w w' := by
  have HF : Hid (∀ w, Calls Tryz.prog 17 #[.int .i64 87] w fun e w' => e = .returned (.int .i64 12) ∧ w = w') := Lib.hid fun w => rForm_any 87 w
  have HN : Hid (∀ w, Calls Tryz.prog 38 #[.int .i64 87] w fun e w' => e = .returned (.string ⟨#[97, 109, 111, 109, 97, 120, 117, 46, 100]⟩) ∧ Below w.heap.size w w') := Lib.hid fun w => rName_some 87 (by omega) (by decide +kernel) w
  have q8_119 : ((⟨#[97, 109, 111, 109, 97, 120, 117, 46, 100]⟩ : ByteArray).extract 8 9 == (⟨#[119]⟩ : ByteArray)) = false := by decide +kernel
  have p8_119 : (((⟨#[97, 109, 111, 109, 97, 120, 117, 46, 100]⟩ : ByteArray).extract 8 9).toList == [119]) = false := by decide +kernel
  go_enter Tryz.func19, Tryz.ntmps19
  go_wp2_with (first | (go_at_call 38; (with_reducible refine (HN.out _).mono ?_); rintro e w1 ⟨rfl, hb⟩; have HB := Lib.hid hb; clear hb) | (go_at_call 17; (with_reducible refine (HF.out _).mono ?_); rintro e w' ⟨rfl, rfl⟩))
  go_ret3
  exact ⟨rfl, HB.out⟩
def memOps : List Nat := [11, 12, 13, 14, 15, 16, 17, 18, 19, 20, 21, 66, 67, 68, 69, 70, 71, 72, 73, 74, 75, 76, 77, 78, 79, 80, 81, 82, 83, 84, 85, 86, 87]
theorem mem_rest : ∀ k < 88, memOps.contains k = false → (formOf (k : Int) == 4) = false ∧ (formOf (k : Int) == 5) = false ∧ (formOf (k : Int) == 11) = false ∧ (formOf (k : Int) == 12) = false ∧ sizeOf' (k : Int) = 0 := by decide +kernel
theorem mem_out (op : Int) (h : op < 0 ∨ 88 ≤ op) : (formOf op == 4) = false ∧ (formOf op == 5) = false ∧ (formOf op == 11) = false ∧ (formOf op == 12) = false ∧ sizeOf' op = 0 := by
  have h1 : formOf op = 0 := by unfold formOf; rw [row_none op h]; rfl
  have h2 : sizeOf' op = 0 := by unfold sizeOf'; rw [row_none op h]; rfl
  rw [h1, h2]; decide
theorem rMem_not (op : Int) (h : (formOf op == 4) = false ∧ (formOf op == 5) = false ∧ (formOf op == 11) = false ∧ (formOf op == 12) = false ∧ sizeOf' op = 0) (w : World) : Calls Tryz.prog 19 #[.int .i64 op] w fun e w' => e = .returned (.tuple #[.bool (loadsB op), .bool (storesB op), .int .i64 (sizeOf' op)]) ∧ Below w.heap.size w w' := by
  have hl : loadsB op = false := by unfold loadsB; simp only [oneOf]; have a := h.1; have b := h.2.2.1; have c := h.2.2.2.1; rw [beq_eq_false_iff_ne] at a b c; simp; omega
  have hs : storesB op = false := by unfold storesB; simp only [oneOf]; have b := h.2.1; have c := h.2.2.2.1; rw [beq_eq_false_iff_ne] at b c; simp; omega
  rw [hl, hs, h.2.2.2.2]
  exact rMem_none op _ (Lib.hid rfl) h.1 h.2.1 h.2.2.1 h.2.2.2.1 w
theorem rMem_in (k : Nat) (hk : memOps.contains k = true) (w : World) : Calls Tryz.prog 19 #[.int .i64 (k : Int)] w fun e w' => e = .returned (.tuple #[.bool (loadsB k), .bool (storesB k), .int .i64 (sizeOf' k)]) ∧ Below w.heap.size w w' := by
  have hm : k = 11 ∨ k = 12 ∨ k = 13 ∨ k = 14 ∨ k = 15 ∨ k = 16 ∨ k = 17 ∨ k = 18 ∨ k = 19 ∨ k = 20 ∨ k = 21 ∨ k = 66 ∨ k = 67 ∨ k = 68 ∨ k = 69 ∨ k = 70 ∨ k = 71 ∨ k = 72 ∨ k = 73 ∨ k = 74 ∨ k = 75 ∨ k = 76 ∨ k = 77 ∨ k = 78 ∨ k = 79 ∨ k = 80 ∨ k = 81 ∨ k = 82 ∨ k = 83 ∨ k = 84 ∨ k = 85 ∨ k = 86 ∨ k = 87 := by simpa [memOps] using hk
  rcases hm with rfl | rfl | rfl | rfl | rfl | rfl | rfl | rfl | rfl | rfl | rfl | rfl | rfl | rfl | rfl | rfl | rfl | rfl | rfl | rfl | rfl | rfl | rfl | rfl | rfl | rfl | rfl | rfl | rfl | rfl | rfl | rfl | rfl
  · exact rMem_11 w
  · exact rMem_12 w
  · exact rMem_13 w
  · exact rMem_14 w
  · exact rMem_15 w
  · exact rMem_16 w
  · exact rMem_17 w
  · exact rMem_18 w
  · exact rMem_19 w
  · exact rMem_20 w
  · exact rMem_21 w
  · exact rMem_66 w
  · exact rMem_67 w
  · exact rMem_68 w
  · exact rMem_69 w
  · exact rMem_70 w
  · exact rMem_71 w
  · exact rMem_72 w
  · exact rMem_73 w
  · exact rMem_74 w
  · exact rMem_75 w
  · exact rMem_76 w
  · exact rMem_77 w
  · exact rMem_78 w
  · exact rMem_79 w
  · exact rMem_80 w
  · exact rMem_81 w
  · exact rMem_82 w
  · exact rMem_83 w
  · exact rMem_84 w
  · exact rMem_85 w
  · exact rMem_86 w
  · exact rMem_87 w
theorem rMem_any (op : Int) (w : World) : Calls Tryz.prog 19 #[.int .i64 op] w fun e w' => e = .returned (.tuple #[.bool (loadsB op), .bool (storesB op), .int .i64 (sizeOf' op)]) ∧ Below w.heap.size w w' := by
  rcases (by omega : (op < 0 ∨ 88 ≤ op) ∨ (0 ≤ op ∧ op < 88)) with h | h
  · exact rMem_not op (mem_out op h) w
  · obtain ⟨k, rfl⟩ : ∃ k : Nat, op = (k : Int) := ⟨op.toNat, by omega⟩
    cases hc : memOps.contains k with
    | true => exact rMem_in k hc w
    | false => exact rMem_not _ (mem_rest k (by omega) hc) w
end Go.Proofs.YtdiacnjkffdegaaGreat
