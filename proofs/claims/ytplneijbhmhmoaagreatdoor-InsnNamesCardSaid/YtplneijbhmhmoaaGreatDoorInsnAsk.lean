/-
  Proved here: the package insn's Form and Name answer what the chapter's table has of an op; the laws' count counts a sign in a text. Condition: the text has at most 10000 bytes.
-/
import Derived.Test.YtplneijbhmhmoaaGreatDoorInsnLives
namespace Go.Proofs.YtplneijbhmhmoaaGreatDoor
open Go.RowKit

theorem row_field0 (s : ByteArray) (f g : Int) (w : World) : (Instr.field 45 (.agg #[.string s, .int .i64 f, .int .i64 g]) 0).run Tryz.prog w = .ok (.string s) w := by kernel_rfl
theorem row_field1 (s : ByteArray) (f g : Int) (w : World) : (Instr.field 45 (.agg #[.string s, .int .i64 f, .int .i64 g]) 1).run Tryz.prog w = .ok (.int .i64 f) w := by kernel_rfl
theorem row_field2 (s : ByteArray) (f g : Int) (w : World) : (Instr.field 45 (.agg #[.string s, .int .i64 f, .int .i64 g]) 2).run Tryz.prog w = .ok (.int .i64 g) w := by kernel_rfl
set_option maxRecDepth 100000 in
theorem Form_any (op : Int) (w : World) : Calls Tryz.prog 10 #[.int .i64 op] w fun e w' => e = .returned (.int .i64 (formOf op)) ∧ Below w.heap.size w w' := by
  have hf := row_field1
  go_enter Tryz.func10, Tryz.ntmps10
  go_wp2_with (go_at_call 26; (with_reducible refine (look_row op _).mono ?_); rintro e w1 ⟨rfl, hb1⟩; have HB := Lib.hid hb1; clear hb1)
  go_ret
  exact ⟨rfl, HB.out⟩
set_option maxRecDepth 100000 in
theorem Name_any (op : Int) (w : World) : Calls Tryz.prog 9 #[.int .i64 op] w fun e w' => e = .returned (.string ⟨(nameOf op).toArray⟩) ∧ Below w.heap.size w w' := by
  have hf := row_field0
  go_enter Tryz.func9, Tryz.ntmps9
  go_wp2_with (go_at_call 26; (with_reducible refine (look_row op _).mono ?_); rintro e w1 ⟨rfl, hb1⟩; have HB := Lib.hid hb1; clear hb1)
  go_ret
  exact ⟨rfl, HB.out⟩
theorem Name_S (op : Int) (N : ByteArray) (hN : Hid (N.data.toList = nameOf op)) (w : World) : Calls Tryz.prog 9 #[.int .i64 op] w fun e w' => e = .returned (.string N) ∧ Below w.heap.size w w' := by
  have e : N = ⟨(nameOf op).toArray⟩ := by rw [← hN.out]
  rw [e]; exact Name_any op w
theorem text_S (i : Ins) (hi0 : -9223372036854775808 ≤ i.imm) (hi1 : i.imm ≤ 9223372036854775807) (S : ByteArray) (hS : Hid (S.data.toList = toldL i)) (w : World) (ht : Tab w) : Calls Tryz.prog 29 #[i.V] w fun e w' => e = .returned (.string S) ∧ Below w.heap.size w w' := by
  have e : S = ⟨(toldL i).toArray⟩ := by rw [← hS.out]
  rw [e]; exact text_any i hi0 hi1 w ht
theorem count_step (S : ByteArray) (c : UInt8) (k : Nat) (h : k < S.size) : (S.data.toList.take (k + 1)).count c = (S.data.toList.take k).count c + if ((S[k]'h).toNat : Int) = (c.toNat : Int) then 1 else 0 := by
  have hl : k < S.data.toList.length := by rw [← Lib.size_eq]; exact h
  rw [List.take_succ_eq_append_getElem hl, List.count_append, List.count_singleton]
  have e : S.data.toList[k] = S[k]'h := rfl
  rw [e]
  by_cases hc : S[k]'h = c
  · simp [hc]
  · have : ¬ ((S[k]'h).toNat : Int) = (c.toNat : Int) := fun h2 => hc (UInt8.toNat_inj.1 (by omega))
    simp [hc, this]
end Go.Proofs.YtplneijbhmhmoaaGreatDoor
