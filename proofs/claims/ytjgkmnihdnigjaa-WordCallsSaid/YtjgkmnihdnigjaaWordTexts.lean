/-
  Proved here: rows of bytes as texts: Bytes' rows, and the document's, are turned into the text of their bytes in every later world; Own and Of of a row that was there. Conditions: what is read is a row of bytes.
-/
import Derived.Test.YtjgkmnihdnigjaaWordRows
namespace Go.Proofs.Ytjgkmnihdnigjaa
open Go.RowKit

theorem row_lt {w : World} {a : Option Addr} {xs : List Int} (hr : RowAt w a xs) : ∀ ad, a = some ad → xs ≠ [] → ad.block < w.heap.size := by
  intro ad e hne
  obtain ⟨b, off, e2, hc⟩ := hr hne
  rw [e] at e2
  obtain rfl := Option.some.inj e2
  have hpos : 0 < xs.length := List.length_pos_iff.2 hne
  exact World.block_lt_of_cell? w _ (hc 0 hpos)
theorem conv_row {w : World} {a : Option Addr} {xs : List Int} (hr : RowAt w a xs) (cap : Nat) :
    (convert 26 9 (.slice a xs.length cap)).run Try.prog w = .ok (.string (strOfNums xs)) w := by
  by_cases hne : xs = []
  · subst hne
    rw [run_convert_bytes_string w 26 9 5 a _ _ Try.underlying26 Try.underlying5 Try.underlying9]
    cases a with
    | none => rfl
    | some ad =>
      have h := run_bytesToString (P := Try.prog) w ad 0 cap [] (by rfl)
      exact h
  · obtain ⟨b, off, rfl, hc⟩ := hr hne
    exact run_convert_bytes_arg w 26 5 Try.underlying26 Try.underlying5 b off xs.length cap xs rfl hc 9 Try.underlying9
theorem rowA_full (x : Int) (k : Nat) : rowA x k k = ((bytesL x k).map (Value.int .u8)).toArray := by
  unfold rowA bytesL
  congr 1
  rw [List.map_map]
  apply List.map_congr_left
  intro i hi
  simp at hi
  simp [hi]
theorem heap_new (w : World) (o : Obj) : (w.alloc o).heap[w.heap.size]? = some o := by
  show (w.heap.push o)[w.heap.size]? = some o
  simp
theorem Bytes_own (x n : Int) (w : World) :
    Calls Try.prog 12 #[.int .u64 x, .int .i64 n] w fun e w' => ∃ v, e = .returned v ∧ OwnB w w' v (bytesL x (cl n 8).toNat) := by
  refine (Bytes_any x n w).mono ?_
  rintro e w' ⟨he, hw⟩
  refine ⟨_, he, ?_, ?_⟩
  · rw [hw, rowA_full]
    obtain ⟨k, hk⟩ : ∃ k, k = (cl n 8).toNat := ⟨_, rfl⟩
    rw [← hk]
    have hl := bytesL_len x k
    have hk8 : k ≤ 8 := by have := cl_hi n 8 (by omega); omega
    refine ⟨by simp, .inr ⟨w.heap.size, k, ((bytesL x k).map (Value.int .u8)).toArray, by rw [hl], Nat.le_refl _, heap_new _ _, by rw [hl]; omega, by unfold maxLen; omega, by simp [hl], ?_⟩⟩
    rw [List.take_of_length_le (by simp)]
  · rw [hw]; exact (Below.refl _ _).alloc (Nat.le_refl _) _

/-- a result that is a row of bytes of its own: in every later world it is turned into the text of these bytes -/
def Texts (w w' : World) (e : Ending) (xs : List Int) : Prop :=
  ∃ a cap, e = .returned (.slice a xs.length cap) ∧ (∀ w2, Below w'.heap.size w' w2 → (convert 26 9 (.slice a xs.length cap)).run Try.prog w2 = .ok (.string (strOfNums xs)) w2) ∧ Below w.heap.size w w'
theorem OwnB.texts {w w' : World} {v : Value} {xs : List Int} (h : OwnB w w' v xs) : Texts w w' (.returned v) xs := by
  obtain ⟨a, cap, rfl, hr⟩ := h.slice
  exact ⟨a, cap, rfl, fun w2 hb => conv_row (row_later hr hb (row_lt hr)) cap, h.2⟩
theorem Bytes_texts (x n : Int) (w : World) : Calls Try.prog 12 #[.int .u64 x, .int .i64 n] w fun e w' => Texts w w' e (bytesL x (cl n 8).toNat) :=
  (Bytes_own x n w).mono fun _ _ ⟨_, he, h⟩ => he ▸ h.texts
theorem refBytes_texts (x : BitVec 64) (n : Int) (w : World) : Calls Try.prog 26 #[.int .u64 (U x), .int .i64 n] w fun e w' => Texts w w' e (bytesL (U x) (cl n 8).toNat) :=
  (refBytes_any x n w).mono fun _ _ ⟨_, he, h⟩ => he ▸ h.texts
/-- Own of a row that was there at w0 -/
theorem Own_later {w0 w : World} {a : Option Addr} {cap : Nat} {xs : List Int} (hr : Hid (RowAt w0 a xs)) (hb : Below w0.heap.size w0 w) (hm : xs.length ≤ 140737488351232) (hn : Hid (a = none → cap = 0)) :
    Calls Try.prog 27 #[.slice a xs.length cap] w fun e w' => ∃ a' c', e = .returned (.slice a' xs.length c') ∧ Hid (RowAt w' a' xs) ∧ Below w.heap.size w w' := by
  have h1 := row_later hr.out hb (row_lt hr.out)
  refine (Own_any a cap xs w h1 hm (row_lt h1) hn.out).mono ?_
  rintro e w' ⟨v, rfl, h⟩
  obtain ⟨a', c', rfl, hr'⟩ := h.slice
  exact ⟨a', c', rfl, Lib.hid hr', h.2⟩
theorem Of_at {w : World} {a : Option Addr} {cap : Nat} {xs : List Int} (hr : Hid (RowAt w a xs)) (hm : xs.length ≤ 100) (hx : Hid (∀ i, IsByte (xs.getD i 0))) :
    Calls Try.prog 13 #[.slice a xs.length cap] w fun e w' => e = .returned (.int .u64 (ofI xs (cl xs.length 8).toNat)) ∧ w = w' :=
  Of_any a cap xs w hr.out (by unfold maxLen; omega) hx.out
theorem refOf_later {w0 w : World} {a : Option Addr} {cap : Nat} {xs : List Int} (hr : Hid (RowAt w0 a xs)) (hb : Below w0.heap.size w0 w) (hm : xs.length ≤ 100) (hx : Hid (∀ i, IsByte (xs.getD i 0))) :
    Calls Try.prog 28 #[.slice a xs.length cap] w fun e w' => e = .returned (.int .u64 (ofI xs (cl xs.length 8).toNat)) ∧ w = w' :=
  refOf_any a cap xs w (row_later hr.out hb (row_lt hr.out)) (by unfold maxLen; omega) hx.out

theorem below_two {w w1 w2 : World} (h1 : Below w.drew.heap.size w.drew w1) (h2 : Below w1.heap.size w1 w2) : Below w.heap.size w w2 :=
  ((Below.refl w.heap.size w).drew.trans h1).trans (h2.mono h1.size)
theorem below_three {w w2 w3 : World} (h1 : Below w.heap.size w w2) (h2 : Below w2.heap.size w2 w3) : Below w.heap.size w w3 := h1.trans (h2.mono h1.size)
end Go.Proofs.Ytjgkmnihdnigjaa
