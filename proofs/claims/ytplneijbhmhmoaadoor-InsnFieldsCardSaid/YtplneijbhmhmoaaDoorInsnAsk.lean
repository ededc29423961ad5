/-
  Proved here: the package insn's Form and Name answer what the chapter's table has of an op; the laws' count counts a sign in a text. Condition: the text has at most 10000 bytes.
-/
import Derived.Test.YtplneijbhmhmoaaDoorInsnLives
namespace Go.Proofs.YtplneijbhmhmoaaDoor
open Go.RowKit

theorem row_field0 (s : ByteArray) (f g : Int) (w : World) : (Instr.field 50 (.agg #[.string s, .int .i64 f, .int .i64 g]) 0).run Tryd.prog w = .ok (.string s) w := by kernel_rfl
theorem row_field1 (s : ByteArray) (f g : Int) (w : World) : (Instr.field 50 (.agg #[.string s, .int .i64 f, .int .i64 g]) 1).run Tryd.prog w = .ok (.int .i64 f) w := by kernel_rfl
theorem row_field2 (s : ByteArray) (f g : Int) (w : World) : (Instr.field 50 (.agg #[.string s, .int .i64 f, .int .i64 g]) 2).run Tryd.prog w = .ok (.int .i64 g) w := by kernel_rfl
set_option maxRecDepth 100000 in
theorem Form_any (op : Int) (w : World) : Calls Tryd.prog 12 #[.int .i64 op] w fun e w' => e = .returned (.int .i64 (formOf op)) ∧ Below w.heap.size w w' := by
  have hf := row_field1
  go_enter Tryd.func12, Tryd.ntmps12
  go_wp2_with (go_at_call 21; (with_reducible refine (look_row op _).mono ?_); rintro e w1 ⟨rfl, hb1⟩; have HB := Lib.hid hb1; clear hb1)
  go_ret
  exact ⟨rfl, HB.out⟩
set_option maxRecDepth 100000 in
theorem Name_any (op : Int) (w : World) : Calls Tryd.prog 13 #[.int .i64 op] w fun e w' => e = .returned (.string ⟨(nameOf op).toArray⟩) ∧ Below w.heap.size w w' := by
  have hf := row_field0
  go_enter Tryd.func13, Tryd.ntmps13
  go_wp2_with (go_at_call 21; (with_reducible refine (look_row op _).mono ?_); rintro e w1 ⟨rfl, hb1⟩; have HB := Lib.hid hb1; clear hb1)
  go_ret
  exact ⟨rfl, HB.out⟩
theorem Name_S (op : Int) (N : ByteArray) (hN : Hid (N.data.toList = nameOf op)) (w : World) : Calls Tryd.prog 13 #[.int .i64 op] w fun e w' => e = .returned (.string N) ∧ Below w.heap.size w w' := by
  have e : N = ⟨(nameOf op).toArray⟩ := by rw [← hN.out]
  rw [e]; exact Name_any op w
theorem text_S (i : Ins) (hi0 : -9223372036854775808 ≤ i.imm) (hi1 : i.imm ≤ 9223372036854775807) (S : ByteArray) (hS : Hid (S.data.toList = toldL i)) (w : World) (ht : Tab w) : Calls Tryd.prog 10 #[i.V] w fun e w' => e = .returned (.string S) ∧ Below w.heap.size w w' := by
  have e : S = ⟨(toldL i).toArray⟩ := by rw [← hS.out]
  rw [e]; exact text_any i hi0 hi1 w ht
theorem count_step (S : ByteArray) (c : UInt8) (k : Nat) (h : k < S.size) : (S.data.toList.take (k + 1)).count c = (S.data.toList.take k).count c + if ((S[k]'h).toNat : Int) = (c.toNat : Int) then 1 else 0 := by
  have hl : k < S.data.toList.length := by rw [← Lib.size_eq]; exact h
  rw [List.take_succ_eq_append_getElem hl, List.count_append, List.count_singleton]
  have e : S.data.toList[k] = S[k]'h := rfl
  rw [e]
  by_cases hc : S[k]'h = c
  · simp [hc]
  · have : ¬ ((S[k]'h).toNat : Int) = (c.toNat : Int) := fun h2 => hc (UInt8.toNat_inj.1 (by omega))
    simp [hc, this]
theorem count_any (S : ByteArray) (c : UInt8) (w : World) (hs : S.size ≤ 10000) :
    Calls Tryd.prog 19 #[.string S, .int .u8 (c.toNat : Nat)] w fun e w' => e = .returned (.int .i64 (S.data.toList.count c : Nat)) ∧ w = w' := by
  go_enter Tryd.func19, Tryd.ntmps19
  go_wp2
  go_loop [5, 6] (fun n i => ∃ k : Nat, k ≤ S.size ∧ i = .int .i64 k ∧ n = .int .i64 ((S.data.toList.take k).count c : Nat)) (fun _ i => S.size - (intOf i).toNat)
  case atStart => exact ⟨0, Nat.zero_le _, rfl, by simp⟩
  case round =>
    obtain ⟨k, hk, rfl, rfl⟩ := hrel
    by_cases hlt : k < S.size
    · have hle : (S.data.toList.take k).count c ≤ k := Nat.le_trans List.count_le_length (List.length_take_le _ _)
      have HS := Lib.hid (count_step S c k hlt)
      by_cases hq : ((S[k]'hlt).toNat : Int) = (c.toNat : Int)
      · have hq1 : (((S[k]'hlt).toNat : Int) == (c.toNat : Int)) = true := by simpa using hq
        have HQ := Lib.hid hq
        clear hq
        go_wp2
        go_round
        case rel => exact ⟨k + 1, by omega, by go_num, by rw [HS.out, if_pos HQ.out]; go_num⟩
        case measure => simp [intOf]; omega
      · have hq1 : (((S[k]'hlt).toNat : Int) == (c.toNat : Int)) = false := by simpa using hq
        have HQ := Lib.hid hq
        clear hq
        go_wp2
        go_round
        case rel => exact ⟨k + 1, by omega, by go_num, by rw [HS.out, if_neg HQ.out]; go_num⟩
        case measure => simp [intOf]; omega
    · have e : k = S.size := by omega
      have e2 : S.data.toList.take k = S.data.toList := List.take_of_length_le (by rw [e, Lib.size_eq]; exact Nat.le_refl _)
      rw [e2]
      clear e e2
      go_wp2
      go_ret
      exact ⟨rfl, rfl⟩
end Go.Proofs.YtplneijbhmhmoaaDoor
