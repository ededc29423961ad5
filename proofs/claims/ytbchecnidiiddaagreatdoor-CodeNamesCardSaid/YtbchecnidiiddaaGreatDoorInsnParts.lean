/-
  Proved here: what the package insn's Check asks of an instruction's fields: has (a letter stands in the shape), upTo (a field is nought, or is there and in its range), all, goodImm, lastShift. Each changes nothing. Conditions: the closures' captured variables hold what Check put there.
-/
import Derived.Test.YtbchecnidiiddaaGreatDoorInsnBools
import Derived.Test.YtbchecnidiiddaaGreatDoorShelf
namespace Go.Proofs.YtbchecnidiiddaaGreatDoor
open Go.RowKit

theorem Contains_bools (bs : List Bool) (g cap : Nat) (w : World) (hn : bs.length ≤ 100) (hc : ∀ i, i < bs.length → w.cell? ⟨g, i, none⟩ = some (.bool (bs.getD i true))) :
    Calls Tryz.prog 90 #[.slice (some ⟨g, 0, none⟩) bs.length cap, .bool false] w fun e w' => e = .returned (.bool !(bs.all id)) ∧ w' = w := by
  have HC := Lib.hid hc
  clear hc
  go_enter Tryz.func90, Tryz.ntmps90
  go_wp2_with (go_at_call 112; (with_reducible refine (Index_bools bs g cap _ hn HC.out).mono ?_); rintro e w' ⟨n, rfl, hd, rfl⟩; have HD := Lib.hid hd; clear hd)
  go_ret
  refine ⟨ret_bool ?_, rfl⟩
  rw [← HD.out]
  by_cases h : n < 0 <;> simp [h] <;> omega
theorem all_bools (bs : List Bool) (n g cap : Nat) (w : World) (hl : Hid (bs.length = n)) (hn : n ≤ 100) (hc : Hid (∀ i, i < n → w.cell? ⟨g, i, none⟩ = some (.bool (bs.getD i true)))) :
    Calls Tryz.prog 65 #[.slice (some ⟨g, 0, none⟩) n cap] w fun e w' => e = .returned (.bool (bs.all id)) ∧ w' = w := by
  obtain rfl := hl.out
  go_enter Tryz.func65, Tryz.ntmps65
  go_wp2_with (go_at_call 90; (with_reducible refine (Contains_bools bs g cap _ hn hc.out).mono ?_); rintro e w' ⟨rfl, rfl⟩)
  go_ret
  exact ⟨ret_bool (by simp), rfl⟩

/-! ### numbers -/
theorem lastShift_any (op : Int) (w : World) : Calls Tryz.prog 92 #[.int .i64 op] w fun e w' => e = .returned (.int .i64 (lastI op)) ∧ w = w' := by
  by_cases h : op = 32 ∨ op = 33 ∨ op = 34
  · have e : lastI op = 31 := by unfold lastI; rw [if_pos h]
    rw [e]
    rcases h with rfl | rfl | rfl <;>
    · go_enter Tryz.func92, Tryz.ntmps92
      go_wp2
      go_ret
      exact ⟨rfl, rfl⟩
  · have e : lastI op = 63 := by unfold lastI; rw [if_neg h]
    rw [e]
    have h1 : (op == 32) = false := by simp; omega
    have h2 : (op == 33) = false := by simp; omega
    have h3 : (op == 34) = false := by simp; omega
    clear h e
    go_enter Tryz.func92, Tryz.ntmps92
    go_wp2
    go_ret
    exact ⟨rfl, rfl⟩
theorem goodImm_1 (op v : Int) (w : World) : Calls Tryz.prog 66 #[.int .i64 op, .int .i64 1, .int .i64 v] w fun e w' => e = .returned (.bool (fitsI v 20)) ∧ w = w' := by
  go_enter Tryz.func66, Tryz.ntmps66
  go_wp2_with (go_at_call 91; (with_reducible refine (Fits_any _ _ _).mono ?_); rintro e w' ⟨rfl, rfl⟩)
  go_ret
  exact ⟨rfl, rfl⟩
theorem goodImm_3 (op v : Int) (w : World) : Calls Tryz.prog 66 #[.int .i64 op, .int .i64 3, .int .i64 v] w fun e w' => e = .returned (.bool (fitsI v 12)) ∧ w = w' := by
  go_enter Tryz.func66, Tryz.ntmps66
  go_wp2_with (go_at_call 91; (with_reducible refine (Fits_any _ _ _).mono ?_); rintro e w' ⟨rfl, rfl⟩)
  go_ret
  exact ⟨rfl, rfl⟩
theorem goodImm_4 (op v : Int) (w : World) : Calls Tryz.prog 66 #[.int .i64 op, .int .i64 4, .int .i64 v] w fun e w' => e = .returned (.bool (fitsI v 12)) ∧ w = w' := by
  go_enter Tryz.func66, Tryz.ntmps66
  go_wp2_with (go_at_call 91; (with_reducible refine (Fits_any _ _ _).mono ?_); rintro e w' ⟨rfl, rfl⟩)
  go_ret
  exact ⟨rfl, rfl⟩
theorem goodImm_5 (op v : Int) (w : World) : Calls Tryz.prog 66 #[.int .i64 op, .int .i64 5, .int .i64 v] w fun e w' => e = .returned (.bool (fitsI v 12)) ∧ w = w' := by
  go_enter Tryz.func66, Tryz.ntmps66
  go_wp2_with (go_at_call 91; (with_reducible refine (Fits_any _ _ _).mono ?_); rintro e w' ⟨rfl, rfl⟩)
  go_ret
  exact ⟨rfl, rfl⟩
theorem goodImm_2 (op v : Int) (w : World) : Calls Tryz.prog 66 #[.int .i64 op, .int .i64 2, .int .i64 v] w fun e w' => e = .returned (.bool (fitsI v 21 && evenB v)) ∧ w = w' := by
  go_enter Tryz.func66, Tryz.ntmps66
  go_wp2_with (go_at_call 91; (with_reducible refine (Fits_any _ _ _).mono ?_); rintro e w' ⟨rfl, rfl⟩)
  all_goals
    go_ret
    exact ⟨ret_bool (by simp_all [evenB]), rfl⟩
theorem goodImm_6 (op v : Int) (w : World) : Calls Tryz.prog 66 #[.int .i64 op, .int .i64 6, .int .i64 v] w fun e w' => e = .returned (.bool (fitsI v 13 && evenB v)) ∧ w = w' := by
  go_enter Tryz.func66, Tryz.ntmps66
  go_wp2_with (go_at_call 91; (with_reducible refine (Fits_any _ _ _).mono ?_); rintro e w' ⟨rfl, rfl⟩)
  all_goals
    go_ret
    exact ⟨ret_bool (by simp_all [evenB]), rfl⟩
theorem goodImm_7 (op v : Int) (w : World) : Calls Tryz.prog 66 #[.int .i64 op, .int .i64 7, .int .i64 v] w fun e w' => e = .returned (.bool (decide (0 ≤ v) && decide (v ≤ lastI op))) ∧ w = w' := by
  by_cases h : 0 ≤ v
  all_goals
    go_enter Tryz.func66, Tryz.ntmps66
    go_wp2_with (go_at_call 92; (with_reducible refine (lastShift_any _ _).mono ?_); rintro e w' ⟨rfl, rfl⟩)
    go_ret
    exact ⟨ret_bool (by first | (simp [h]; done) | (simp; intro _; omega)), rfl⟩
theorem goodImm_8 (op form v : Int) (w : World) (h : form < 1 ∨ 7 < form) : Calls Tryz.prog 66 #[.int .i64 op, .int .i64 form, .int .i64 v] w fun e w' => e = .returned (.bool (decide (v = 0))) ∧ w = w' := by
  have h1 : (form == 1) = false := by simp; omega
  have h2 : (form == 2) = false := by simp; omega
  have h3 : (form == 3) = false := by simp; omega
  have h4 : (form == 4) = false := by simp; omega
  have h5 : (form == 5) = false := by simp; omega
  have h6 : (form == 6) = false := by simp; omega
  have h7 : (form == 7) = false := by simp; omega
  clear h
  go_enter Tryz.func66, Tryz.ntmps66
  go_wp2
  go_ret
  exact ⟨ret_bool (by by_cases h : v = 0 <;> simp [h]), rfl⟩
theorem goodImm_any (op form v : Int) (w : World) : Calls Tryz.prog 66 #[.int .i64 op, .int .i64 form, .int .i64 v] w fun e w' => e = .returned (.bool (goodB op form v)) ∧ w = w' := by
  by_cases h : form < 1 ∨ 7 < form
  · have e : goodB op form v = decide (v = 0) := by
      unfold goodB
      rw [if_neg (by omega), if_neg (by omega), if_neg (by omega), if_neg (by omega), if_neg (by omega), if_neg (by omega), if_neg (by omega)]
    rw [e]; exact goodImm_8 op form v w h
  · have hf : form = 1 ∨ form = 2 ∨ form = 3 ∨ form = 4 ∨ form = 5 ∨ form = 6 ∨ form = 7 := by omega
    rcases hf with rfl | rfl | rfl | rfl | rfl | rfl | rfl
    · exact goodImm_1 op v w
    · exact goodImm_2 op v w
    · exact goodImm_3 op v w
    · exact goodImm_4 op v w
    · exact goodImm_5 op v w
    · exact goodImm_6 op v w
    · exact goodImm_7 op v w

/-! ### the closures -/
theorem has_any (s : List UInt8) (c : Int) (p : Nat) (w : World) (hp : w.cell? ⟨p, 0, none⟩ = some (.string ⟨s.toArray⟩)) :
    Calls Tryz.prog 62 #[.int .u8 c, .pointer (some ⟨p, 0, none⟩)] w fun e w' => e = .returned (.bool (hasB s c.toNat.toUInt8)) ∧ w' = w := by
  go_enter Tryz.func62, Tryz.ntmps62
  go_wp2_with (go_at_call 63; (with_reducible refine (Tryz.strings_IndexByte _ _ _).mono ?_); rintro e w' ⟨rfl, rfl⟩)
  go_ret
  exact ⟨rfl, rfl⟩
theorem upTo_any (s : List UInt8) (last c x : Int) (p q : Nat) (w : World) (hp : w.cell? ⟨p, 0, none⟩ = some (.string ⟨s.toArray⟩)) (hq : w.cell? ⟨q, 0, none⟩ = some (.func (.func 62) #[] #[.pointer (some ⟨p, 0, none⟩)])) :
    Calls Tryz.prog 64 #[.int .i64 last, .int .u8 c, .int .i64 x, .pointer (some ⟨q, 0, none⟩)] w fun e w' => e = .returned (.bool (upToB s last c.toNat.toUInt8 x)) ∧ w' = w := by
  by_cases h0 : x = 0
  · subst h0
    go_enter Tryz.func64, Tryz.ntmps64
    go_wp2
    go_ret
    exact ⟨rfl, rfl⟩
  · have h1 : (x == 0) = false := by simpa using h0
    by_cases hb : hasB s c.toNat.toUInt8 = true
    · by_cases h2 : 0 < x
      all_goals
        have HB := Lib.hid hb
        have h0' := Lib.hid h0
        clear h0
        go_enter Tryz.func64, Tryz.ntmps64
        go_wp2_with (go_at_call 62; (with_reducible refine (has_any s _ _ _ hp).mono ?_); rintro e w' ⟨rfl, rfl⟩)
        go_ret
        exact ⟨ret_bool (by unfold upToB; first | (simp [h0'.out, HB.out, h2]; done) | (simp [h0'.out, HB.out]; intro _; omega)), rfl⟩
    · have hb' : hasB s c.toNat.toUInt8 = false := by simpa using hb
      clear hb
      have h0' := Lib.hid h0
      clear h0
      go_enter Tryz.func64, Tryz.ntmps64
      go_wp2_with (go_at_call 62; (with_reducible refine (has_any s _ _ _ hp).mono ?_); rintro e w' ⟨rfl, rfl⟩)
      go_ret
      exact ⟨ret_bool (by unfold upToB; simp [h0'.out, hb']), rfl⟩
end Go.Proofs.YtbchecnidiiddaaGreatDoor
