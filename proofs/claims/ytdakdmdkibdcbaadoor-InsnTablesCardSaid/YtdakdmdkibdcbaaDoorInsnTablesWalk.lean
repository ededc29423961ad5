/-
  Proved here: the law InsnTables returns true, and writes nothing that was there. Condition: the table of powers of ten reads as the library lays it.
-/
import Derived.Test.YtdakdmdkibdcbaaDoorInsnTables
import Derived.Deep.DeepCutAuto
namespace Go.Proofs.YtdakdmdkibdcbaaDoor
open Go.RowKit

theorem Name_B (op : Int) (w : World) : Calls Tryd.prog 13 #[.int .i64 op] w fun e w' => e = .returned (.string (nameB op)) ∧ Below w.heap.size w w' := Name_any op w
theorem Named_B (op : Int) (h : 1 ≤ op ∧ op ≤ 87) (w : World) : Calls Tryd.prog 14 #[.string (nameB op)] w fun e w' => e = .returned (.int .i64 op) ∧ Below w.heap.size w w' := by
  have e : ((namedN (nameB op).data.toList : Nat) : Int) = op := by
    rw [nameB_list]
    have := named_name ⟨op.toNat, by omega⟩
    simp only at this
    rw [Int.toNat_of_nonneg (by omega)] at this
    rw [this]; omega
  have h2 := Named_any (nameB op) w
  rw [e] at h2; exact h2
theorem Check_z (op : Int) (b : Bool) (hb : Hid (decide (1 ≤ op ∧ op ≤ 87) = b)) (w : World) : Calls Tryd.prog 9 #[.agg #[.int .i64 op, .int .i64 0, .int .i64 0, .int .i64 0, .int .i64 0, .bool false, .bool false, .int .i64 0, .int .i64 0]] w fun e w' => e = .returned (.int .i64 (errI b)) ∧ Below w.heap.size w w' := by
  have h := Check_any op 0 0 0 0 false false 0 0 w
  rw [check_is op, hb.out] at h; exact h
theorem Check_z0 (op : Int) (hb : Hid (decide (1 ≤ op ∧ op ≤ 87) = true)) (w : World) : Calls Tryd.prog 9 #[.agg #[.int .i64 op, .int .i64 0, .int .i64 0, .int .i64 0, .int .i64 0, .bool false, .bool false, .int .i64 0, .int .i64 0]] w fun e w' => e = .returned (.int .i64 0) ∧ Below w.heap.size w w' := Check_z op true hb w
theorem Check_z2 (op : Int) (hb : Hid (decide (1 ≤ op ∧ op ≤ 87) = false)) (w : World) : Calls Tryd.prog 9 #[.agg #[.int .i64 op, .int .i64 0, .int .i64 0, .int .i64 0, .int .i64 0, .bool false, .bool false, .int .i64 0, .int .i64 0]] w fun e w' => e = .returned (.int .i64 2) ∧ Below w.heap.size w w' := Check_z op false hb w
theorem on {w w1 w2 : World} (h : Hid (Below w.heap.size w w1)) (k : Below w1.heap.size w1 w2) : Hid (Below w.heap.size w w2) := Lib.hid (h.out.trans (k.mono h.out.size))
theorem Name_is (n : Int) (S : ByteArray) (h : Hid (nameB n = S)) (w : World) : Calls Tryd.prog 13 #[.int .i64 n] w fun e w' => e = .returned (.string S) ∧ Below w.heap.size w w' := by
  rw [← h.out]; exact Name_B n w
def isB (op : Int) : Bool := decide (1 ≤ op ∧ op ≤ 87)
theorem size_cases (op : Int) : (loadsB op = false ∧ storesB op = false ∧ sizeOf' op = 0) ∨ ((loadsB op = true ∧ storesB op = false ∨ loadsB op = false ∧ storesB op = true ∨ loadsB op = true ∧ storesB op = true ∧ formOf op = 12) ∧ (sizeOf' op = 1 ∨ sizeOf' op = 2 ∨ sizeOf' op = 4 ∨ sizeOf' op = 8)) := by
  have h := size_ok op
  unfold sizeOk at h
  simp only [Bool.and_eq_true, Bool.or_eq_true, decide_eq_true_eq, beq_iff_eq] at h
  obtain ⟨⟨h1, h2⟩, h3⟩ := h
  cases hl : loadsB op <;> cases ht : storesB op <;> simp [hl, ht] at h1 h3 ⊢ <;> omega
theorem nameB_nil (op : Int) : (nameB op).toList = [] ↔ nameOf op = [] := by rw [Lib.toList_data, nameB_list]
set_option maxRecDepth 100000 in
set_option maxHeartbeats 4000000 in
theorem tables_any (op : Int) (S : ByteArray) (w : World) (ht : Tab w) :
    Calls Tryd.prog 4 #[.int .i64 op, .string S] w fun e w' => e = .returned (.bool true) ∧ Below w.heap.size w w' := by
  by_cases hs : 100 < S.size
  · have hs1 : decide (100 < (S.size : Int)) = true := by simp; omega
    have HT := Lib.hid ht
    clear hs ht
    go_enter Tryd.func4, Tryd.ntmps4
    go_wp2_with (go_at_call 7; (with_reducible refine (lives_any _ HT.out).mono ?_); rintro e w1 ⟨rfl, hb1⟩; have HB1 : Hid (Below w.heap.size w w1) := Lib.hid hb1; clear hb1)
    go_ret
    exact ⟨rfl, HB1.out⟩
  · have hs1 : decide (100 < (S.size : Int)) = false := by simp; omega
    have HT := Lib.hid ht
    clear hs ht
    go_enter Tryd.func4, Tryd.ntmps4
    go_upto_region 5 with (go_at_call 7; (with_reducible refine (lives_any _ HT.out).mono ?_); rintro e w1 ⟨rfl, hb1⟩; have HB1 : Hid (Below w.heap.size w w1) := Lib.hid hb1; clear hb1)
    go_cut [5] (fun s wx => s = .bool (isB op) ∧ Hid (Below w.heap.size w wx))
    case first =>
      by_cases h1 : 1 ≤ op
      · have h1b : decide (1 ≤ op) = true := by simpa using h1
        have HR := Lib.hid (show isB op = decide (op ≤ 87) by unfold isB; simp [h1])
        clear h1
        go_wp2_with fail
        go_meet
        exact ⟨by rw [HR.out], HB1⟩
      · have h1b : decide (1 ≤ op) = false := by simpa using h1
        have HR := Lib.hid (show isB op = false by unfold isB; simp [h1])
        clear h1
        go_wp2_with fail
        go_meet
        exact ⟨by rw [HR.out], HB1⟩
    case rest =>
      obtain ⟨rfl, HW⟩ := hcut
      go_upto_region 7 with (go_at_call 12; (with_reducible refine (Form_any op _).mono ?_); rintro e w2 ⟨rfl, hb2⟩; have HB2 := on HW hb2; clear hb2)
      go_cut [5, 6, 56] (fun s5 s6 s wx => s5 = .bool (isB op) ∧ s6 = .int .i64 (formOf op) ∧ s = .bool false ∧ Hid (Below w.heap.size w wx))
      case first =>
        by_cases his : 1 ≤ op ∧ op ≤ 87
        · have HI := Lib.hid his
          have HD := Lib.hid (show decide (1 ≤ op ∧ op ≤ 87) = true by simpa using his)
          have hf : 1 ≤ formOf op ∧ formOf op ≤ 12 := by have := form_is op; rw [HD.out] at this; simpa using this.symm
          have hb : isB op = true := HD.out
          have hf1 : decide (1 ≤ formOf op) = true := by simpa using hf.1
          have hf2 : decide (formOf op ≤ 12) = true := by simpa using hf.2
          have hnm : (nameB op).toList.isEmpty = false := by
            have h2 : ¬ (nameB op).toList = [] := fun h => (name_is op).1 his ((nameB_nil op).1 h)
            cases h3 : (nameB op).toList with
            | nil => exact absurd h3 h2
            | cons _ _ => rfl
          have hnm2 : ¬ (nameB op).toList = [] := fun h => (name_is op).1 his ((nameB_nil op).1 h)
          clear his hf
          go_wp2_with (go_at_call 13; (with_reducible refine (Name_B op _).mono ?_); rintro e w3 ⟨rfl, hb3⟩; have HB3 := on HB2 hb3; clear hb3)
          go_wp2_with (go_at_call 13; (with_reducible refine (Name_B op _).mono ?_); rintro e w4 ⟨rfl, hb4⟩; have HB4 := on HB3 hb4; clear hb4)
          go_wp2_with (go_at_call 14; (with_reducible refine (Named_B op HI.out _).mono ?_); rintro e w5 ⟨rfl, hb5⟩; have HB5 := on HB4 hb5; clear hb5)
          go_wp2_with (go_at_call 9; (with_reducible refine (Check_z0 op HD _).mono ?_); rintro e w6 ⟨rfl, hb6⟩; have HB6 := on HB5 hb6; clear hb6)
          go_meet
          exact ⟨by rw [hb], rfl, rfl, HB6⟩
        · have HD := Lib.hid (show decide (1 ≤ op ∧ op ≤ 87) = false by simpa using his)
          have hf : ¬ (1 ≤ formOf op ∧ formOf op ≤ 12) := by have := form_is op; rw [HD.out] at this; simpa using this.symm
          have hfo : formOf op = 0 := by have := form_hi op; omega
          have hb : isB op = false := HD.out
          have hn0 : nameOf op = [] := by
            cases e : nameOf op with
            | nil => rfl
            | cons c l => exact absurd ((name_is op).2 (by rw [e]; simp)) his
          have hnm : (nameB op).toList = [] := (nameB_nil op).2 hn0
          clear his hf hn0
          go_wp2_with (go_at_call 13; (with_reducible refine (Name_B op _).mono ?_); rintro e w3 ⟨rfl, hb3⟩; have HB3 := on HB2 hb3; clear hb3)
          go_wp2_with (go_at_call 9; (with_reducible refine (Check_z2 op HD _).mono ?_); rintro e w6 ⟨rfl, hb6⟩; have HB6 := on HB3 hb6; clear hb6)
          go_meet
          exact ⟨by rw [hb], by rw [hfo], rfl, HB6⟩
      case rest =>
        obtain ⟨rfl, rfl, rfl, HW2⟩ := hcut
        go_upto_region 10 with (go_at_call 14; (with_reducible refine (Named_any S _).mono ?_); rintro e w7 ⟨rfl, hb7⟩; have HB7 := on HW2 hb7; clear hb7)
        go_cut [66] (fun s wx => s = .bool false ∧ Hid (Below w.heap.size w wx))
        case first =>
          by_cases h0 : namedN S.data.toList = 0
          · have h1 : (((namedN S.data.toList : Nat) : Int) != 0) = false := by simp [h0]
            clear h0
            go_wp2_with fail
            go_meet
            exact ⟨rfl, HB7⟩
          · have h1 : (((namedN S.data.toList : Nat) : Int) != 0) = true := by simp; omega
            have HE : Hid (nameB ((namedN S.data.toList : Nat) : Int) = S) := Lib.hid ((nameB_eq _ _).2 (name_named _ h0))
            clear h0
            go_wp2_with (go_at_call 13; (with_reducible refine (Name_is _ S HE _).mono ?_); rintro e w8 ⟨rfl, hb8⟩; have HB8 := on HB7 hb8; clear hb8)
            go_meet
            exact ⟨rfl, HB8⟩
        case rest =>
          obtain ⟨rfl, HW3⟩ := hcut
          go_upto_region 13 with (go_at_call 15; (with_reducible refine (Memory_any op _).mono ?_); rintro e w9 ⟨rfl, hb9⟩; have HB9 := on HW3 hb9; clear hb9)
          rcases size_cases op with ⟨hl, ht, hz⟩ | ⟨⟨hl, ht⟩ | ⟨hl, ht⟩ | ⟨hl, ht, hf⟩, hz | hz | hz | hz⟩ <;>
          · go_wp2_with fail
            go_ret
            exact ⟨rfl, HB9.out⟩
end Go.Proofs.YtdakdmdkibdcbaaDoor
