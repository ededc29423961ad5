/-
  Proved here: the law WordCalls returns true at every two words, places, signed words and row of bytes, and writes nothing that was there. Conditions: what the slice reads as is a row of bytes.
-/
import Derived.Test.YtjgkmnihdnigjaaWordTexts
import Derived.Test.YtjgkmnihdnigjaaRegionOrder
namespace Go.Proofs.Ytjgkmnihdnigjaa
open Go.RowKit

theorem calls_big (x v : BitVec 64) (f n s : BitVec 64) (a : Option Addr) (cap l : Nat) (w : World) (hm : l ≤ 9223372036854775807) (hbig : 100 < l) :
    Calls Try.prog 4 #[.int .u64 (U x), .int .u64 (U v), .int .i64 (S f), .int .i64 (S n), .int .i64 (S s), .slice a l cap] w fun e w' => e = .returned (.bool true) ∧ Below w.heap.size w w' := by
  go_enter Try.func4, Try.ntmps4
  go_wp2_with (go_at_call 9; (with_reducible refine (lives_any _).mono ?_); rintro e w' ⟨rfl, rfl⟩)
  go_ret
  exact ⟨rfl, Below.refl _ _⟩
set_option maxRecDepth 100000 in
set_option maxHeartbeats 4000000 in
theorem calls_small (x v : BitVec 64) (f n s : BitVec 64) (a : Option Addr) (cap : Nat) (xs : List Int) (w : World) (HR : Hid (RowAt w a xs)) (hm : xs.length ≤ 100) (HX : Hid (∀ i, IsByte (xs.getD i 0))) (HN : Hid (a = none → cap = 0)) :
    Calls Try.prog 4 #[.int .u64 (U x), .int .u64 (U v), .int .i64 (S f), .int .i64 (S n), .int .i64 (S s), .slice a xs.length cap] w fun e w' => e = .returned (.bool true) ∧ Below w.heap.size w w' := by
  go_enter Try.func4, Try.ntmps4
  go_wp2_with (go_at_call 9; (with_reducible refine (lives_any _).mono ?_); rintro e w' ⟨rfl, rfl⟩)
  simp only [List.append_eq, List.cons_append, List.nil_append]
  refine wp_region_any (by kernel_rfl) ?_
  refine wpAny_picked [0, 2, 1, 3, 4, 5, 6, 7, 9, 10, 8, 11, 12, 13, 14, 15, 16, 17, 19, 20, 21, 18, 22, 23, 24, 25, 26, 27, 28, 29, 31, 32, 33, 34, 30, 35, 36, 37, 38, 39, 40, 42, 43, 41, 44, 45, 46, 47, 48, 49, 51, 52, 50, 53, 54, 55, 56, 57, 59, 58, 60, 61, 62, 63, 64, 65, 68, 69, 66] [true, true, true, true, true, true, true, true, true, true, true, true, true, true, true, true, true, true, true, true, true, true, true, true, true, true, true, true, true, true, true, true, true, true, true, true, true, true, true, true, true, true, true, true, true, true, true, true, true, true, true, true, true, true, true, true, true, true, true, true, true, true, true, true, true, true, true, false, true, true, false, false, false, false, false, false, false, false, false, false, false, false, false] 14 (by as_aux_lemma => kernel_rfl) (fun _ d _ _ _ h => by cases d <;> exact h) (by as_aux_lemma => kernel_rfl) (by as_aux_lemma => kernel_rfl) (by as_aux_lemma => kernel_rfl) ?_
  change wpList _ _ _ _ _ (World.drew _)
  simp only [picked, List.drop_succ_cons, List.drop_zero, List.take_succ_cons, List.take_zero, List.cons_append, List.nil_append, List.append_nil]
  go_wp2_with (first | (go_at_call 10; (with_reducible refine (Ones_any _ _).mono ?_); rintro e w' ⟨rfl, rfl⟩) | (go_at_call 17; (with_reducible refine (refOnes_any _ _).mono ?_); rintro e w' ⟨rfl, rfl⟩) | (go_at_call 11; (with_reducible refine (Low_any _ _ _).mono ?_); rintro e w' ⟨rfl, rfl⟩) | (go_at_call 18; (with_reducible refine (refLow_any _ _ _).mono ?_); rintro e w' ⟨rfl, rfl⟩) | (go_at_call 19; (with_reducible refine (Part_any _ _ _ _).mono ?_); rintro e w' ⟨rfl, rfl⟩) | (go_at_call 20; (with_reducible refine (refPart_any _ _ _ _).mono ?_); rintro e w' ⟨rfl, rfl⟩) | (go_at_call 21; (with_reducible refine (Put_any _ _ _ _ _).mono ?_); rintro e w' ⟨rfl, rfl⟩) | (go_at_call 22; (with_reducible refine (refPut_any _ _ _ _ _).mono ?_); rintro e w' ⟨rfl, rfl⟩) | (go_at_call 16; (with_reducible refine (Sign_any _ _ _).mono ?_); rintro e w' ⟨rfl, rfl⟩) | (go_at_call 23; (with_reducible refine (refSign_any _ _ _).mono ?_); rintro e w' ⟨rfl, rfl⟩) | (go_at_call 15; (with_reducible refine (Fits_any _ _ _).mono ?_); rintro e w' ⟨rfl, rfl⟩) | (go_at_call 24; (with_reducible refine (refFits_any _ _ _).mono ?_); rintro e w' ⟨rfl, rfl⟩) | (go_at_call 14; (with_reducible refine (Short_any _ _).mono ?_); rintro e w' ⟨rfl, rfl⟩) | (go_at_call 25; (with_reducible refine (refShort_any _ _).mono ?_); rintro e w' ⟨rfl, rfl⟩) | (go_at_call 12; (with_reducible refine (Bytes_texts _ _ _).mono ?_); rintro e w1 ⟨a1, c1, rfl, hc1, hb1⟩; have hr1 := Below.refl w1.heap.size w1))
  refine wpAny_two 67 70 (by as_aux_lemma => kernel_rfl) ?_ ?_
  · simp only [List.drop_succ_cons, List.drop_zero, List.take_succ_cons, List.take_zero]
    go_wp2_with (first | (go_at_call 26; (with_reducible refine (refBytes_texts _ _ _).mono ?_); rintro e w2 ⟨a2, c2, rfl, hc2, hb2⟩; have hr2 := Below.refl w2.heap.size w2; have HB := Lib.hid (below_two hb1 hb2)) | (go_at_call 27; (with_reducible refine (Own_later HR HB.out (by omega) HN).mono ?_); rintro e w3 ⟨a3, c3, rfl, HR3, hb3⟩; have HB3 := Lib.hid (below_three HB.out hb3); clear hb3) | (go_at_call 13; (with_reducible refine (Of_at HR3 hm HX).mono ?_); rintro e w' ⟨rfl, rfl⟩) | (go_at_call 28; (with_reducible refine (refOf_later HR HB3.out hm HX).mono ?_); rintro e w' ⟨rfl, rfl⟩))
    refine wpAny_picked [70, 71, 72, 73, 74, 75, 78, 76, 77, 79, 80, 81, 82] (List.replicate 83 true) 0 (by as_aux_lemma => kernel_rfl) (fun _ d _ _ _ h => by cases d <;> exact h) (by as_aux_lemma => kernel_rfl) (by as_aux_lemma => kernel_rfl) (by as_aux_lemma => kernel_rfl) ?_
    simp only [picked, List.drop_succ_cons, List.drop_zero, List.take_succ_cons, List.take_zero, List.cons_append, List.nil_append, List.append_nil]
    go_wp2_with (first | (go_at_call 26; (with_reducible refine (refBytes_texts _ _ _).mono ?_); rintro e w2 ⟨a2, c2, rfl, hc2, hb2⟩; have hr2 := Below.refl w2.heap.size w2; have HB := Lib.hid (below_two hb1 hb2)) | (go_at_call 27; (with_reducible refine (Own_later HR HB.out (by omega) HN).mono ?_); rintro e w3 ⟨a3, c3, rfl, HR3, hb3⟩; have HB3 := Lib.hid (below_three HB.out hb3); clear hb3) | (go_at_call 13; (with_reducible refine (Of_at HR3 hm HX).mono ?_); rintro e w' ⟨rfl, rfl⟩) | (go_at_call 28; (with_reducible refine (refOf_later HR HB3.out hm HX).mono ?_); rintro e w' ⟨rfl, rfl⟩))
    refine wpAny_done (by as_aux_lemma => kernel_rfl) ?_ _
    go_wp2
    go_ret
    exact ⟨rfl, HB3.out⟩
  · simp only [List.drop_succ_cons, List.drop_zero, List.take_succ_cons, List.take_zero]
    go_wp2_with (first | (go_at_call 26; (with_reducible refine (refBytes_texts _ _ _).mono ?_); rintro e w2 ⟨a2, c2, rfl, hc2, hb2⟩; have hr2 := Below.refl w2.heap.size w2; have HB := Lib.hid (below_two hb1 hb2)) | (go_at_call 27; (with_reducible refine (Own_later HR HB.out (by omega) HN).mono ?_); rintro e w3 ⟨a3, c3, rfl, HR3, hb3⟩; have HB3 := Lib.hid (below_three HB.out hb3); clear hb3) | (go_at_call 13; (with_reducible refine (Of_at HR3 hm HX).mono ?_); rintro e w' ⟨rfl, rfl⟩) | (go_at_call 28; (with_reducible refine (refOf_later HR HB3.out hm HX).mono ?_); rintro e w' ⟨rfl, rfl⟩))
    refine wpAny_two 67 71 (by as_aux_lemma => kernel_rfl) ?_ ?_
    · simp only [List.drop_succ_cons, List.drop_zero, List.take_succ_cons, List.take_zero]
      go_wp2_with (first | (go_at_call 26; (with_reducible refine (refBytes_texts _ _ _).mono ?_); rintro e w2 ⟨a2, c2, rfl, hc2, hb2⟩; have hr2 := Below.refl w2.heap.size w2; have HB := Lib.hid (below_two hb1 hb2)) | (go_at_call 27; (with_reducible refine (Own_later HR HB.out (by omega) HN).mono ?_); rintro e w3 ⟨a3, c3, rfl, HR3, hb3⟩; have HB3 := Lib.hid (below_three HB.out hb3); clear hb3) | (go_at_call 13; (with_reducible refine (Of_at HR3 hm HX).mono ?_); rintro e w' ⟨rfl, rfl⟩) | (go_at_call 28; (with_reducible refine (refOf_later HR HB3.out hm HX).mono ?_); rintro e w' ⟨rfl, rfl⟩))
      refine wpAny_picked [71, 72, 73, 74, 75, 78, 76, 77, 79, 80, 81, 82] (List.replicate 83 true) 0 (by as_aux_lemma => kernel_rfl) (fun _ d _ _ _ h => by cases d <;> exact h) (by as_aux_lemma => kernel_rfl) (by as_aux_lemma => kernel_rfl) (by as_aux_lemma => kernel_rfl) ?_
      simp only [picked, List.drop_succ_cons, List.drop_zero, List.take_succ_cons, List.take_zero, List.cons_append, List.nil_append, List.append_nil]
      go_wp2_with (first | (go_at_call 26; (with_reducible refine (refBytes_texts _ _ _).mono ?_); rintro e w2 ⟨a2, c2, rfl, hc2, hb2⟩; have hr2 := Below.refl w2.heap.size w2; have HB := Lib.hid (below_two hb1 hb2)) | (go_at_call 27; (with_reducible refine (Own_later HR HB.out (by omega) HN).mono ?_); rintro e w3 ⟨a3, c3, rfl, HR3, hb3⟩; have HB3 := Lib.hid (below_three HB.out hb3); clear hb3) | (go_at_call 13; (with_reducible refine (Of_at HR3 hm HX).mono ?_); rintro e w' ⟨rfl, rfl⟩) | (go_at_call 28; (with_reducible refine (refOf_later HR HB3.out hm HX).mono ?_); rintro e w' ⟨rfl, rfl⟩))
      refine wpAny_done (by as_aux_lemma => kernel_rfl) ?_ _
      go_wp2
      go_ret
      exact ⟨rfl, HB3.out⟩
    · simp only [List.drop_succ_cons, List.drop_zero, List.take_succ_cons, List.take_zero]
      go_wp2_with (first | (go_at_call 26; (with_reducible refine (refBytes_texts _ _ _).mono ?_); rintro e w2 ⟨a2, c2, rfl, hc2, hb2⟩; have hr2 := Below.refl w2.heap.size w2; have HB := Lib.hid (below_two hb1 hb2)) | (go_at_call 27; (with_reducible refine (Own_later HR HB.out (by omega) HN).mono ?_); rintro e w3 ⟨a3, c3, rfl, HR3, hb3⟩; have HB3 := Lib.hid (below_three HB.out hb3); clear hb3) | (go_at_call 13; (with_reducible refine (Of_at HR3 hm HX).mono ?_); rintro e w' ⟨rfl, rfl⟩) | (go_at_call 28; (with_reducible refine (refOf_later HR HB3.out hm HX).mono ?_); rintro e w' ⟨rfl, rfl⟩))
      refine wpAny_picked [67, 72, 73, 74, 75, 78, 76, 77, 79, 80, 81, 82] (List.replicate 83 true) 0 (by as_aux_lemma => kernel_rfl) (fun _ d _ _ _ h => by cases d <;> exact h) (by as_aux_lemma => kernel_rfl) (by as_aux_lemma => kernel_rfl) (by as_aux_lemma => kernel_rfl) ?_
      simp only [picked, List.drop_succ_cons, List.drop_zero, List.take_succ_cons, List.take_zero, List.cons_append, List.nil_append, List.append_nil]
      go_wp2_with (first | (go_at_call 26; (with_reducible refine (refBytes_texts _ _ _).mono ?_); rintro e w2 ⟨a2, c2, rfl, hc2, hb2⟩; have hr2 := Below.refl w2.heap.size w2; have HB := Lib.hid (below_two hb1 hb2)) | (go_at_call 27; (with_reducible refine (Own_later HR HB.out (by omega) HN).mono ?_); rintro e w3 ⟨a3, c3, rfl, HR3, hb3⟩; have HB3 := Lib.hid (below_three HB.out hb3); clear hb3) | (go_at_call 13; (with_reducible refine (Of_at HR3 hm HX).mono ?_); rintro e w' ⟨rfl, rfl⟩) | (go_at_call 28; (with_reducible refine (refOf_later HR HB3.out hm HX).mono ?_); rintro e w' ⟨rfl, rfl⟩))
      refine wpAny_done (by as_aux_lemma => kernel_rfl) ?_ _
      go_wp2
      go_ret
      exact ⟨rfl, HB3.out⟩
theorem calls_any (x v : BitVec 64) (f n s : BitVec 64) (a : Option Addr) (cap : Nat) (xs : List Int) (w : World) (hr : RowAt w a xs) (hm : xs.length ≤ maxLen) (hx : ∀ i, IsByte (xs.getD i 0)) (hn : a = none → cap = 0) :
    Calls Try.prog 4 #[.int .u64 (U x), .int .u64 (U v), .int .i64 (S f), .int .i64 (S n), .int .i64 (S s), .slice a xs.length cap] w fun e w' => e = .returned (.bool true) ∧ Below w.heap.size w w' := by
  by_cases hbig : 100 < xs.length
  · exact calls_big x v f n s a cap xs.length w (by unfold maxLen at hm; omega) hbig
  · exact calls_small x v f n s a cap xs w (Lib.hid hr) (by omega) (Lib.hid hx) (Lib.hid hn)
end Go.Proofs.Ytjgkmnihdnigjaa
