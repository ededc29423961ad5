/-
  Proved here: the package insn's Named answers the op with a name, Memory whether an op loads, stores, and how many bytes, as the chapter's table has them; each writes nothing that was there. No condition.
-/
import Derived.Test.YtdiacnjkffdegaaGreatHartInsn
import Derived.Laws.EntriesVeiled
import Derived.Deep.QuietTactic
import Derived.BigQuiet
namespace Go.Proofs.YtdiacnjkffdegaaGreat
open Go.RowKit

def namedN (s : List UInt8) : Nat := ((List.range 88).find? (fun k : Nat => nameOf (k : Int) == s)).getD 0
theorem named_at (s : List UInt8) (k : Nat) (hk : k < 88) (h : nameOf (k : Int) = s) (hb : ∀ j, j < k → nameOf (j : Int) ≠ s) : namedN s = k := by
  unfold namedN
  have e : (List.range 88).find? (fun k : Nat => nameOf (k : Int) == s) = some k := by
    rw [List.find?_eq_some_iff_append]
    refine ⟨by simpa using h, List.range k, (List.range 88).drop (k + 1), ?_, ?_⟩
    · have h1 : List.range k = (List.range 88).take k := by rw [List.take_range]; congr 1; omega
      have h2 : (List.range 88).drop k = k :: (List.range 88).drop (k + 1) := by
        rw [List.drop_eq_getElem_cons (by simpa using hk)]; simp
      rw [h1, ← h2, List.take_append_drop]
    · intro j hj
      simpa using hb j (by simpa using hj)
  rw [e]; rfl
theorem named_none (s : List UInt8) (h : ∀ j : Nat, j < 88 → nameOf (j : Int) ≠ s) : namedN s = 0 := by
  unfold namedN
  have e : (List.range 88).find? (fun k : Nat => nameOf (k : Int) == s) = none := by
    rw [List.find?_eq_none]
    intro j hj
    simpa using h j (by simpa using hj)
  rw [e]; rfl
/-- a row's name, as a text -/
def nameB (k : Int) : ByteArray := ⟨(nameOf k).toArray⟩
theorem nameB_list (k : Int) : (nameB k).data.toList = nameOf k := by simp [nameB]
theorem nameB_eq (k : Int) (S : ByteArray) : nameB k = S ↔ nameOf k = S.data.toList := by
  unfold nameB
  constructor
  · rintro rfl; simp
  · intro h; rw [h]
theorem index_row (k : Nat) (h : k < 88) (w : World) : (Instr.index 99 (.agg tabCells) (.int .i64 (k : Int))).run Tryz.prog w = .ok (.agg #[.string (nameB k), .int .i64 (formOf k), .int .i64 (sizeOf' k)]) w := index_tab k h w
/-! ### memory -/
def oneOf (l : List Int) (f : Int) : Bool := l.contains f
def loadsB (op : Int) : Bool := oneOf [4, 11, 12] (formOf op) && !(op == 68 || op == 69)
def storesB (op : Int) : Bool := oneOf [5, 12] (formOf op)
theorem is_three (f : Int) (g p : Nat) (w : World) (h0 : w.cell? ⟨g, 0, none⟩ = some (.int .i64 4)) (h1 : w.cell? ⟨g, 1, none⟩ = some (.int .i64 11)) (h2 : w.cell? ⟨g, 2, none⟩ = some (.int .i64 12)) (hp : w.cell? ⟨p, 1, none⟩ = some (.int .i64 f)) :
    Calls Tryz.prog 74 #[.slice (some ⟨g, 0, none⟩) 3 3, .pointer (some ⟨p, 0, none⟩)] w fun e w' => e = .returned (.bool (oneOf [4, 11, 12] f)) ∧ w' = w := by
  have H := Lib.hid (show ∀ j, j < ([4, 11, 12] : List Int).length → w.cell? ⟨g, 0 + j, none⟩ = some (.int .i64 (([4, 11, 12] : List Int).getD j 0)) by
    intro j hj
    rw [Nat.zero_add]
    match j, hj with
    | 0, _ => exact h0
    | 1, _ => exact h1
    | 2, _ => exact h2)
  clear h0 h1 h2
  go_enter Tryz.func74, Tryz.ntmps74
  go_wp2_with (go_at_call 75; (with_reducible refine (Tryz.slices_Contains_int g 0 3 3 [4, 11, 12] f _ (by decide) (by decide) H.out).mono ?_); rintro e w' ⟨rfl, rfl⟩)
  go_ret
  exact ⟨ret_bool (by simp [oneOf]), rfl⟩
theorem is_two (f : Int) (g p : Nat) (w : World) (h0 : w.cell? ⟨g, 0, none⟩ = some (.int .i64 5)) (h1 : w.cell? ⟨g, 1, none⟩ = some (.int .i64 12)) (hp : w.cell? ⟨p, 1, none⟩ = some (.int .i64 f)) :
    Calls Tryz.prog 74 #[.slice (some ⟨g, 0, none⟩) 2 2, .pointer (some ⟨p, 0, none⟩)] w fun e w' => e = .returned (.bool (oneOf [5, 12] f)) ∧ w' = w := by
  have H := Lib.hid (show ∀ j, j < ([5, 12] : List Int).length → w.cell? ⟨g, 0 + j, none⟩ = some (.int .i64 (([5, 12] : List Int).getD j 0)) by
    intro j hj
    rw [Nat.zero_add]
    match j, hj with
    | 0, _ => exact h0
    | 1, _ => exact h1)
  clear h0 h1
  go_enter Tryz.func74, Tryz.ntmps74
  go_wp2_with (go_at_call 75; (with_reducible refine (Tryz.slices_Contains_int g 0 2 2 [5, 12] f _ (by decide) (by decide) H.out).mono ?_); rintro e w' ⟨rfl, rfl⟩)
  go_ret
  exact ⟨ret_bool (by simp [oneOf]), rfl⟩
theorem below_drewN {B : Nat} {a w : World} (h : Below B a w) (n : Nat) : Below B a (w.drewN n) := ⟨h.os, h.tape, h.output, h.size, h.block⟩
set_option maxRecDepth 100000 in
set_option maxHeartbeats 4000000 in
theorem Memory_at (op : Int) (b1 b2 b3 : Bool) (h1 : (op == 68) = b1) (h2 : (op == 69) = b2) (h3 : oneOf [4, 11, 12] (formOf op) = b3) (w : World) : Calls Tryz.prog 63 #[.int .i64 op] w fun e w' => e = .returned (.tuple #[.bool (b3 && !(b1 || b2)), .bool (storesB op), .int .i64 (sizeOf' op)]) ∧ Below w.heap.size w w' := by
  cases b1 <;> cases b2 <;> cases b3 <;>
  · go_enter Tryz.func63, Tryz.ntmps63
    go_wp2_with (go_at_call 44; (with_reducible refine (look_row op _).mono ?_); rintro e w1 ⟨rfl, hb1⟩; have HB1 := Lib.hid hb1; clear hb1)
    refine (is_three (formOf op) _ _ _ ?_ ?_ ?_ ?_).mono ?_
    · go_simp
    · go_simp
    · go_simp
    · go_simp
    rintro e w2 ⟨rfl, rfl⟩
    go_wp2_with fail
    refine (is_two (formOf op) _ _ _ ?_ ?_ ?_).mono ?_
    · go_simp
    · go_simp
    · go_simp
    rintro e w2 ⟨rfl, rfl⟩
    go_wp2_with fail
    go_quiet (fail)
    go_wp2_with fail
    go_ret3
    exact ⟨rfl, below_drewN (((HB1.out.alloc HB1.out.size _).alloc (by have := HB1.out.size; simp; omega) _).alloc (by have := HB1.out.size; simp; omega) _) _⟩
theorem Memory_any (op : Int) (w : World) : Calls Tryz.prog 63 #[.int .i64 op] w fun e w' => e = .returned (.tuple #[.bool (loadsB op), .bool (storesB op), .int .i64 (sizeOf' op)]) ∧ Below w.heap.size w w' := Memory_at op _ _ _ rfl rfl rfl w

/-! ### what the law says -/
theorem form_is (op : Int) : decide (1 ≤ op ∧ op ≤ 87) = decide (1 ≤ formOf op ∧ formOf op ≤ 12) := by
  have h : ∀ k : Fin 88, decide (1 ≤ (k.1 : Int) ∧ (k.1 : Int) ≤ 87) = decide (1 ≤ formOf (k.1 : Nat) ∧ formOf (k.1 : Nat) ≤ 12) := by decide +kernel
  by_cases hb : op < 0 ∨ 88 ≤ op
  · have e : formOf op = 0 := by unfold formOf; rw [row_none op hb]; rfl
    rw [e]; simp; omega
  · have := h ⟨op.toNat, by omega⟩
    simpa [Int.toNat_of_nonneg (show 0 ≤ op by omega)] using this
theorem name_is (op : Int) : (1 ≤ op ∧ op ≤ 87) ↔ nameOf op ≠ [] := by
  have h : ∀ k : Fin 88, (1 ≤ (k.1 : Int) ∧ (k.1 : Int) ≤ 87) ↔ nameOf (k.1 : Nat) ≠ [] := by decide +kernel
  by_cases hb : op < 0 ∨ 88 ≤ op
  · have e : nameOf op = [] := by unfold nameOf; rw [row_none op hb]
    rw [e]; simp; omega
  · have := h ⟨op.toNat, by omega⟩
    simpa [Int.toNat_of_nonneg (show 0 ≤ op by omega)] using this
theorem check_is (op : Int) : checkB op 0 0 0 0 false false 0 0 = decide (1 ≤ op ∧ op ≤ 87) := by
  have h : ∀ k : Fin 88, checkB (k.1 : Nat) 0 0 0 0 false false 0 0 = decide (1 ≤ (k.1 : Int) ∧ (k.1 : Int) ≤ 87) := by decide +kernel
  by_cases hb : op < 0 ∨ 88 ≤ op
  · have e : formOf op = 0 := by unfold formOf; rw [row_none op hb]; rfl
    unfold checkB; rw [e]; simp; omega
  · have := h ⟨op.toNat, by omega⟩
    simpa [Int.toNat_of_nonneg (show 0 ≤ op by omega)] using this
theorem named_name : ∀ k : Fin 88, namedN (nameOf (k.1 : Nat)) = k.1 := by decide +kernel
theorem name_named (s : List UInt8) (h : namedN s ≠ 0) : nameOf (namedN s : Nat) = s := by
  unfold namedN at h ⊢
  cases e : (List.range 88).find? (fun k : Nat => nameOf (k : Int) == s) with
  | none => rw [e] at h; exact absurd rfl h
  | some k =>
    have := List.find?_some e
    simpa using this
def sizeOk (op : Int) : Bool := (decide (0 < sizeOf' op) == (loadsB op || storesB op)) && (decide (sizeOf' op = 0) || decide (sizeOf' op = 1) || decide (sizeOf' op = 2) || decide (sizeOf' op = 4) || decide (sizeOf' op = 8)) && (!(loadsB op && storesB op) || decide (formOf op = 12))
theorem size_ok (op : Int) : sizeOk op = true := by
  have h : ∀ k : Fin 88, sizeOk (k.1 : Nat) = true := by decide +kernel
  by_cases hb : op < 0 ∨ 88 ≤ op
  · have e1 : formOf op = 0 := by unfold formOf; rw [row_none op hb]; rfl
    have e2 : sizeOf' op = 0 := by unfold sizeOf'; rw [row_none op hb]; rfl
    unfold sizeOk loadsB storesB; rw [e1, e2]; simp [oneOf]
  · have := h ⟨op.toNat, by omega⟩
    simpa [Int.toNat_of_nonneg (show 0 ≤ op by omega)] using this
end Go.Proofs.YtdiacnjkffdegaaGreat
