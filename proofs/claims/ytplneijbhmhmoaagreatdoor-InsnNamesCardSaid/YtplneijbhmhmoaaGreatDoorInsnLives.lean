/-
  Proved here: the laws' first question, lives, returns true and writes nothing that was there. Condition: the table of powers of ten reads as the library lays it.
-/
import Derived.Test.YtplneijbhmhmoaaGreatDoorInsnText
import Derived.RegionTactic
import Derived.Deep.RegionWith
namespace Go.Proofs.YtplneijbhmhmoaaGreatDoor
open Go.RowKit

abbrev Tab (w : World) : Prop := Lib.TabIs Tryz.prog w "internal/strconv.uint64pow10" .u64 Lib.pow10Tab
def TabB (w : World) : Prop := Lib.TabBelow Tryz.prog w.heap.size w "internal/strconv.uint64pow10" .u64 Lib.pow10Tab
theorem TabB.of {w : World} (h : Tab w) : TabB w := Lib.tabBelow_of_tabIs h
theorem TabB.here {w w' : World} (h : Hid (TabB w)) (hb : Hid (Below w.heap.size w w')) : Tab w' := h.out w' hb.out
theorem TabB.on {w w' : World} (h : Hid (TabB w)) (hb : Hid (Below w.heap.size w w')) : TabB w' := TabB.of (h.out w' hb.out)
theorem told_1 : toldL ⟨22, 5, 6, 0, -3, false, false, 0, 0⟩ = [97, 100, 100, 105, 32, 120, 53, 44, 32, 120, 54, 44, 32, 45, 51] := by decide +kernel
theorem told_2 : toldL ⟨21, 0, 2, 7, 8, false, false, 0, 0⟩ = [115, 100, 32, 120, 55, 44, 32, 56, 40, 120, 50, 41] := by decide +kernel
theorem told_3 : toldL ⟨63, 0, 0, 0, 0, false, false, 3, 1⟩ = [102, 101, 110, 99, 101, 32, 114, 119, 44, 32, 119] := by decide +kernel
theorem told_4 : toldL ⟨69, 1, 2, 3, 0, true, true, 0, 0⟩ = [115, 99, 46, 100, 46, 97, 113, 114, 108, 32, 120, 49, 44, 32, 120, 51, 44, 32, 40, 120, 50, 41] := by decide +kernel
theorem text_1 (w : World) (ht : Tab w) : Calls Tryz.prog 29 #[.agg #[.int .i64 22, .int .i64 5, .int .i64 6, .int .i64 0, .int .i64 (-3), .bool false, .bool false, .int .i64 0, .int .i64 0]] w fun e w' => e = .returned (.string ⟨#[97, 100, 100, 105, 32, 120, 53, 44, 32, 120, 54, 44, 32, 45, 51]⟩) ∧ Below w.heap.size w w' := by
  have h := text_any ⟨22, 5, 6, 0, -3, false, false, 0, 0⟩ (by decide) (by decide) w ht
  rw [told_1] at h; exact h
theorem text_2 (w : World) (ht : Tab w) : Calls Tryz.prog 29 #[.agg #[.int .i64 21, .int .i64 0, .int .i64 2, .int .i64 7, .int .i64 8, .bool false, .bool false, .int .i64 0, .int .i64 0]] w fun e w' => e = .returned (.string ⟨#[115, 100, 32, 120, 55, 44, 32, 56, 40, 120, 50, 41]⟩) ∧ Below w.heap.size w w' := by
  have h := text_any ⟨21, 0, 2, 7, 8, false, false, 0, 0⟩ (by decide) (by decide) w ht
  rw [told_2] at h; exact h
theorem text_3 (w : World) (ht : Tab w) : Calls Tryz.prog 29 #[.agg #[.int .i64 63, .int .i64 0, .int .i64 0, .int .i64 0, .int .i64 0, .bool false, .bool false, .int .i64 3, .int .i64 1]] w fun e w' => e = .returned (.string ⟨#[102, 101, 110, 99, 101, 32, 114, 119, 44, 32, 119]⟩) ∧ Below w.heap.size w w' := by
  have h := text_any ⟨63, 0, 0, 0, 0, false, false, 3, 1⟩ (by decide) (by decide) w ht
  rw [told_3] at h; exact h
theorem text_4 (w : World) (ht : Tab w) : Calls Tryz.prog 29 #[.agg #[.int .i64 69, .int .i64 1, .int .i64 2, .int .i64 3, .int .i64 0, .bool true, .bool true, .int .i64 0, .int .i64 0]] w fun e w' => e = .returned (.string ⟨#[115, 99, 46, 100, 46, 97, 113, 114, 108, 32, 120, 49, 44, 32, 120, 51, 44, 32, 40, 120, 50, 41]⟩) ∧ Below w.heap.size w w' := by
  have h := text_any ⟨69, 1, 2, 3, 0, true, true, 0, 0⟩ (by decide) (by decide) w ht
  rw [told_4] at h; exact h
set_option maxRecDepth 100000 in
set_option maxHeartbeats 2000000 in
theorem lives_any (w : World) (ht : Tab w) : Calls Tryz.prog 7 #[] w fun e w' => e = .returned (.bool true) ∧ Below w.heap.size w w' := by
  have HT := Lib.hid (TabB.of ht)
  have HB := Lib.hid (Below.refl w.heap.size w)
  clear ht
  go_enter Tryz.func7, Tryz.ntmps7
  go_wp2_with (go_at_call 29; (with_reducible refine (text_1 _ (TabB.here HT HB)).mono ?_); rintro e w1 ⟨rfl, hb1⟩; have HB1 : Hid (Below w.heap.size w w1) := Lib.hid hb1; clear hb1)
  go_wp2_with (go_at_call 29; (with_reducible refine (text_2 _ (TabB.here HT HB1)).mono ?_); rintro e w2 ⟨rfl, hb2⟩; have HB2 : Hid (Below w.heap.size w w2) := Lib.hid (HB1.out.trans (hb2.mono HB1.out.size)); clear hb2)
  go_wp2_with (go_at_call 29; (with_reducible refine (text_3 _ (TabB.here HT HB2)).mono ?_); rintro e w3 ⟨rfl, hb3⟩; have HB3 : Hid (Below w.heap.size w w3) := Lib.hid (HB2.out.trans (hb3.mono HB2.out.size)); clear hb3)
  go_wp2_with (go_at_call 29; (with_reducible refine (text_4 _ (TabB.here HT HB3)).mono ?_); rintro e w4 ⟨rfl, hb4⟩; have HB4 : Hid (Below w.heap.size w w4) := Lib.hid (HB3.out.trans (hb4.mono HB3.out.size)); clear hb4)
  go_ret
  exact ⟨rfl, HB4.out⟩
end Go.Proofs.YtplneijbhmhmoaaGreatDoor
