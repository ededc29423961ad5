/-
  Proved here: what the package insn's writer puts of an instruction's fields: register, marks, between, field. Conditions: a register from 0 to 31, a fence's part from 0 to 15.
-/
import Derived.Test.YtplneijbhmhmoaaGreatDoorInsnWriter
import Derived.Test.YtplneijbhmhmoaaGreatDoorInsnShapesPlain
import Derived.Test.YtplneijbhmhmoaaGreatDoorShelf
import Derived.Lib.AppendIntMem
namespace Go.Proofs.YtplneijbhmhmoaaGreatDoor
open Go.RowKit

theorem register_k (x : Int) (b : Nat) (l : List UInt8) (w : World) (h : IsW b b l w) (h0 : 0 ≤ x) (h1 : x ≤ 31) (hlen : l.length ≤ 1000) :
    Calls Tryz.prog 65 #[.pointer (some ⟨b, 0, none⟩), .int .i64 x] w fun e w' => e = .returned (.tuple #[]) ∧ Wrote b (l ++ regL x) w w' := by
  obtain ⟨n, rfl⟩ : ∃ n : Nat, x = (n : Int) := ⟨x.toNat, by omega⟩
  have hr := reg_len n h0 h1
  have HR := Lib.hid (show l.length + (([120] : List UInt8).length + (Lib.decDigits n).length) ≤ 100000 by unfold regL at hr; simp at hr ⊢; omega)
  clear hr
  go_enter Tryz.func65, Tryz.ntmps65
  go_wp2_with (first | (go_at_call 87; (with_reducible refine (Tryz.strconv_Itoa_small n (by omega) _).mono ?_); rintro e w' ⟨rfl, rfl⟩) | (go_at_call 38; (with_reducible refine (put_two [120] (Lib.decDigits n) b l _ _ (Lib.hid rfl) h HR.out).mono ?_); rintro e w' ⟨rfl, hw⟩))
  go_end0
  exact ⟨rfl, hw⟩

set_option maxHeartbeats 1000000 in
theorem marks_k (aq rl : Bool) (b : Nat) (l : List UInt8) (w : World) (h : IsW b b l w) (hlen : l.length ≤ 1000) :
    Calls Tryz.prog 67 #[.pointer (some ⟨b, 0, none⟩), .bool aq, .bool rl] w fun e w' => e = .returned (.tuple #[]) ∧ Wrote b (l ++ marksL aq rl) w w' := by
  have h46 : ∀ m : List UInt8, m.length ≤ 1100 → m.length + ([46] : List UInt8).length ≤ 100000 := fun m hm => by simp; omega
  have h97 : ∀ m : List UInt8, m.length ≤ 1100 → m.length + ([97, 113] : List UInt8).length ≤ 100000 := fun m hm => by simp; omega
  have h114 : ∀ m : List UInt8, m.length ≤ 1100 → m.length + ([114, 108] : List UInt8).length ≤ 100000 := fun m hm => by simp; omega
  have H46 := Lib.hid h46
  have H97 := Lib.hid h97
  have H114 := Lib.hid h114
  clear h46 h97 h114
  cases aq <;> cases rl
  · go_enter Tryz.func67, Tryz.ntmps67
    go_wp2
    go_end0
    exact ⟨rfl, by simpa [marksL] using Wrote.refl h⟩
  · go_enter Tryz.func67, Tryz.ntmps67
    go_wp2_with (go_at_call 38; (with_reducible refine (put_one [46] b l _ _ (Lib.hid rfl) h (H46.out _ (by omega))).mono ?_); rintro e w1 ⟨rfl, hw1⟩; have HW1 := Lib.hid hw1; clear hw1)
    go_wp2_with (go_at_call 38; (with_reducible refine (put_one [114, 108] b (l ++ [46]) _ _ (Lib.hid rfl) HW1.out.is (H114.out _ (by simp; omega))).mono ?_); rintro e w2 ⟨rfl, hw2⟩; have HW2 := Lib.hid hw2; clear hw2)
    go_end0
    exact ⟨rfl, by simpa [marksL] using HW1.out.trans HW2.out⟩
  · go_enter Tryz.func67, Tryz.ntmps67
    go_wp2_with (go_at_call 38; (with_reducible refine (put_one [46] b l _ _ (Lib.hid rfl) h (H46.out _ (by omega))).mono ?_); rintro e w1 ⟨rfl, hw1⟩; have HW1 := Lib.hid hw1; clear hw1)
    go_wp2_with (go_at_call 38; (with_reducible refine (put_one [97, 113] b (l ++ [46]) _ _ (Lib.hid rfl) HW1.out.is (H97.out _ (by simp; omega))).mono ?_); rintro e w2 ⟨rfl, hw2⟩; have HW2 := Lib.hid hw2; clear hw2)
    go_end0
    exact ⟨rfl, by simpa [marksL] using HW1.out.trans HW2.out⟩
  · go_enter Tryz.func67, Tryz.ntmps67
    go_wp2_with (go_at_call 38; (with_reducible refine (put_one [46] b l _ _ (Lib.hid rfl) h (H46.out _ (by omega))).mono ?_); rintro e w1 ⟨rfl, hw1⟩; have HW1 := Lib.hid hw1; clear hw1)
    go_wp2_with (go_at_call 38; (with_reducible refine (put_one [97, 113] b (l ++ [46]) _ _ (Lib.hid rfl) HW1.out.is (H97.out _ (by simp; omega))).mono ?_); rintro e w2 ⟨rfl, hw2⟩; have HW2 := Lib.hid hw2; clear hw2)
    go_wp2_with (go_at_call 38; (with_reducible refine (put_one [114, 108] b (l ++ [46] ++ [97, 113]) _ _ (Lib.hid rfl) HW2.out.is (H114.out _ (by simp; omega))).mono ?_); rintro e w3 ⟨rfl, hw3⟩; have HW3 := Lib.hid hw3; clear hw3)
    go_end0
    exact ⟨rfl, by simpa [marksL] using (HW1.out.trans HW2.out).trans HW3.out⟩

def partsV : Value := .agg #[.int .i64 8, .string ⟨#[105]⟩, .int .i64 4, .string ⟨#[111]⟩, .int .i64 2, .string ⟨#[114]⟩, .int .i64 1, .string ⟨#[119]⟩]
theorem parts_any (w : World) : Calls Tryz.prog 89 #[] w fun e w' => e = .returned partsV ∧ w' = w.alloc (.cells #[.int .i64 8, .string ⟨#[105]⟩, .int .i64 4, .string ⟨#[111]⟩, .int .i64 2, .string ⟨#[114]⟩, .int .i64 1, .string ⟨#[119]⟩] 121) := by
  go_enter Tryz.func89, Tryz.ntmps89
  go_wp2
  exact bodyPost_ret (v := partsV) (by simp [results, Tryz.results89, go_sem, partsV]) rfl ⟨rfl, rfl⟩
def fbit (k : Nat) : Nat := (fenceL.getD k (0, 0)).1
def fsign (k : Nat) : UInt8 := (fenceL.getD k (0, 0)).2
def bitB (set : Int) (k : Nat) : Bool := set.toNat &&& fbit k != 0
theorem bit_is (set : Int) (h0 : 0 ≤ set) (h1 : set ≤ 15) (k : Nat) (hk : k < 4) : (bits BinOp.and IntKind.i64 set ((fbit k : Nat) : Int) != 0) = bitB set k := by
  have h : ∀ s : Fin 16, ∀ k : Fin 4, (bits BinOp.and IntKind.i64 (s.1 : Nat) ((fbit k.1 : Nat) : Int) != 0) = bitB (s.1 : Nat) k.1 := by decide +kernel
  have := h ⟨set.toNat, by omega⟩ ⟨k, hk⟩
  simpa [Int.toNat_of_nonneg h0] using this
def betweenP (set : Int) (k : Nat) : List UInt8 := (if set = 0 then [48] else []) ++ (fenceL.take k).flatMap fun p => if set.toNat &&& p.1 = 0 then [] else [p.2]
theorem betweenP_4 (set : Int) : betweenP set 4 = betweenL set := rfl
theorem betweenP_succ (set : Int) (k : Nat) (hk : k < 4) : betweenP set (k + 1) = betweenP set k ++ (if bitB set k then [fsign k] else []) := by
  have hl : k < fenceL.length := hk
  have e : fenceL[k] = (fbit k, fsign k) := by simp [fbit, fsign, hl]
  unfold betweenP bitB
  rw [List.take_succ_eq_append_getElem hl, List.flatMap_append, e, ← List.append_assoc]
  congr 1
  by_cases hx : set.toNat &&& fbit k = 0 <;> simp [hx]
theorem betweenP_len (set : Int) (k : Nat) (hk : k ≤ 4) : (betweenP set k).length ≤ 5 := by
  have h : (betweenP set k).length ≤ (betweenP set 4).length := by
    have hs : k = 0 ∨ k = 1 ∨ k = 2 ∨ k = 3 ∨ k = 4 := by omega
    unfold betweenP
    rcases hs with rfl | rfl | rfl | rfl | rfl <;> simp [fenceL] <;> omega
  rw [betweenP_4] at h
  have := between_len set; omega
theorem index_part0 (w : World) : (Instr.index 121 partsV (.int .i64 0)).run Tryz.prog w = .ok (.agg #[.int .i64 8, .string ⟨#[105]⟩]) w := by kernel_rfl
theorem index_part1 (w : World) : (Instr.index 121 partsV (.int .i64 1)).run Tryz.prog w = .ok (.agg #[.int .i64 4, .string ⟨#[111]⟩]) w := by kernel_rfl
theorem index_part2 (w : World) : (Instr.index 121 partsV (.int .i64 2)).run Tryz.prog w = .ok (.agg #[.int .i64 2, .string ⟨#[114]⟩]) w := by kernel_rfl
theorem index_part3 (w : World) : (Instr.index 121 partsV (.int .i64 3)).run Tryz.prog w = .ok (.agg #[.int .i64 1, .string ⟨#[119]⟩]) w := by kernel_rfl
theorem index_parts (k : Nat) (hk : k < 4) (w : World) : (Instr.index 121 partsV (.int .i64 k)).run Tryz.prog w = .ok (.agg #[.int .i64 (fbit k : Nat), .string ⟨#[fsign k]⟩]) w := by
  have hs : k = 0 ∨ k = 1 ∨ k = 2 ∨ k = 3 := by omega
  rcases hs with rfl | rfl | rfl | rfl
  · exact index_part0 w
  · exact index_part1 w
  · exact index_part2 w
  · exact index_part3 w
theorem put_zero (set : Int) (hz : set = 0) (b : Nat) (l : List UInt8) (w : World) (g : Nat) (hgw : Hid (w.heap.size = g)) (h : IsW b b l w) (hlen : l.length ≤ 1000) :
    Calls Tryz.prog 38 #[.pointer (some ⟨b, 0, none⟩), .slice (some ⟨g, 0, none⟩) 1 1] (w.alloc (.cells #[.string ⟨#[48]⟩] 9)) fun e w' => e = .returned (.tuple #[]) ∧ Wrote b (l ++ betweenP set 0) w w' := by
  have e0 : betweenP set 0 = [48] := by unfold betweenP; rw [if_pos hz]; rfl
  rw [e0]
  exact put_one [48] b l w g hgw h (by simp; omega)
theorem put_sign (set : Int) (k : Nat) (hk : k < 4) (hb : bitB set k = true) (b : Nat) (l : List UInt8) (w : World) (g : Nat) (hgw : Hid (w.heap.size = g)) (h : IsW b b (l ++ betweenP set k) w) (hlen : l.length ≤ 1000) :
    Calls Tryz.prog 38 #[.pointer (some ⟨b, 0, none⟩), .slice (some ⟨g, 0, none⟩) 1 1] (w.alloc (.cells #[.string ⟨#[fsign k]⟩] 9)) fun e w' => e = .returned (.tuple #[]) ∧ Wrote b (l ++ betweenP set (k + 1)) w w' := by
  have e : l ++ betweenP set (k + 1) = (l ++ betweenP set k) ++ [fsign k] := by rw [betweenP_succ set k hk, hb, if_pos rfl, List.append_assoc]
  rw [e]
  have := betweenP_len set k (by omega)
  exact put_one [fsign k] b _ w g hgw h (by simp; omega)
set_option maxHeartbeats 1000000 in
theorem between_k (set : Int) (b : Nat) (l : List UInt8) (w : World) (h : IsW b b l w) (h0 : 0 ≤ set) (h1 : set ≤ 15) (hlen : l.length ≤ 1000) :
    Calls Tryz.prog 68 #[.pointer (some ⟨b, 0, none⟩), .int .i64 set] w fun e w' => e = .returned (.tuple #[]) ∧ Wrote b (l ++ betweenL set) w w' := by
  have HB := Lib.hid (bit_is set h0 h1)
  have HH := Lib.hid h
  clear h
  by_cases hz : set = 0
  · have hz1 : (set == 0) = true := by simpa using hz
    have HZ := Lib.hid hz
    clear hz
    go_enter Tryz.func68, Tryz.ntmps68
    go_wp2_with (go_at_call 38; (with_reducible refine (put_zero set HZ.out b l _ _ (Lib.hid rfl) HH.out hlen).mono ?_); rintro e w1 ⟨rfl, hw1⟩; have HW1 := Lib.hid hw1; clear hw1)
    go_wp2_with (go_at_call 89; (with_reducible refine (parts_any _).mono ?_); rintro e w2 ⟨rfl, rfl⟩)
    go_loopw [5, 12] (fun _ i wr => ∃ k : Nat, k ≤ 4 ∧ i = .int .i64 k ∧ Wrote b (l ++ betweenP set k) w wr) (fun _ i _ => 4 - (intOf i).toNat)
    case atStart => exact ⟨0, by omega, rfl, HW1.out.alloc _⟩
    case round =>
      obtain ⟨k, hk, rfl, hw⟩ := hrel
      have HW := Lib.hid hw
      clear hw
      by_cases hlt : k < 4
      · have hix := index_parts k hlt
        have hbi := HB.out k hlt
        by_cases hb : bitB set k = true
        · have HBK := Lib.hid hb
          rw [hb] at hbi
          clear hb
          go_wp2_with (go_at_call 38; (with_reducible refine (put_sign set k hlt HBK.out b l _ _ (Lib.hid (by simp)) (HW.out.alloc _).is hlen).mono ?_); rintro e w3 ⟨rfl, hw3⟩; have HW3 := Lib.hid hw3; clear hw3)
          go_roundw
          case rel => exact ⟨k + 1, by omega, by go_num, (HW.out.alloc _).trans HW3.out⟩
          case measure => simp [intOf]; omega
        · have hb' : bitB set k = false := by simpa using hb
          have HBK := Lib.hid hb'
          rw [hb'] at hbi
          clear hb hb'
          go_wp2
          go_roundw
          case rel => exact ⟨k + 1, by omega, by go_num, by rw [betweenP_succ set k hlt, HBK.out]; simpa using HW.out.alloc _⟩
          case measure => simp [intOf]; omega
      · go_wp2
        go_end0
        have e : k = 4 := by omega
        subst e
        exact ⟨rfl, HW.out⟩
  · have hz1 : (set == 0) = false := by simpa using hz
    have HZ := Lib.hid hz
    clear hz
    have hw1 : Wrote b (l ++ betweenP set 0) w w := by
      have e0 : betweenP set 0 = [] := by unfold betweenP; rw [if_neg HZ.out]; rfl
      rw [e0, List.append_nil]; exact Wrote.refl HH.out
    have HW1 := Lib.hid hw1
    clear hw1
    go_enter Tryz.func68, Tryz.ntmps68
    go_wp2_with (go_at_call 89; (with_reducible refine (parts_any _).mono ?_); rintro e w2 ⟨rfl, rfl⟩)
    go_loopw [5, 12] (fun _ i wr => ∃ k : Nat, k ≤ 4 ∧ i = .int .i64 k ∧ Wrote b (l ++ betweenP set k) w wr) (fun _ i _ => 4 - (intOf i).toNat)
    case atStart => exact ⟨0, by omega, rfl, HW1.out.alloc _⟩
    case round =>
      obtain ⟨k, hk, rfl, hw⟩ := hrel
      have HW := Lib.hid hw
      clear hw
      by_cases hlt : k < 4
      · have hix := index_parts k hlt
        have hbi := HB.out k hlt
        by_cases hb : bitB set k = true
        · have HBK := Lib.hid hb
          rw [hb] at hbi
          clear hb
          go_wp2_with (go_at_call 38; (with_reducible refine (put_sign set k hlt HBK.out b l _ _ (Lib.hid (by simp)) (HW.out.alloc _).is hlen).mono ?_); rintro e w3 ⟨rfl, hw3⟩; have HW3 := Lib.hid hw3; clear hw3)
          go_roundw
          case rel => exact ⟨k + 1, by omega, by go_num, (HW.out.alloc _).trans HW3.out⟩
          case measure => simp [intOf]; omega
        · have hb' : bitB set k = false := by simpa using hb
          have HBK := Lib.hid hb'
          rw [hb'] at hbi
          clear hb hb'
          go_wp2
          go_roundw
          case rel => exact ⟨k + 1, by omega, by go_num, by rw [betweenP_succ set k hlt, HBK.out]; simpa using HW.out.alloc _⟩
          case measure => simp [intOf]; omega
      · go_wp2
        go_end0
        have e : k = 4 := by omega
        subst e
        exact ⟨rfl, HW.out⟩

theorem WB.grow {b : Nat} {p : Value} {l : List UInt8} {w : World} (h : WB b b p l w) (k : Nat) (os : Array Obj) : WB b b p l (Sort.grow (w.drewN k) os) := by
  obtain ⟨hB, v, hb, hown, hne⟩ := h
  exact ⟨hB, v, (Lib.heap_grow_old w k os b (Array.getElem?_eq_some_iff.1 hb).1).trans hb, Lib.ownsRow_grow hown k os, hne⟩
theorem IsW.grow {b : Nat} {l : List UInt8} {w : World} (h : IsW b b l w) (k : Nat) (os : Array Obj) : IsW b b l (Sort.grow (w.drewN k) os) :=
  h.elim (fun x => .inl (WB.grow x k os)) (fun x => .inr (WB.grow x k os))
theorem Wrote.grow {b : Nat} {l : List UInt8} {w : World} (h : IsW b b l w) (k : Nat) (os : Array Obj) : Wrote b l w (Sort.grow (w.drewN k) os) :=
  ⟨h.grow k os, Lib.below_grow b w (Nat.le_of_lt h.lt) k os, fun j _ hj _ _ => (Lib.heap_grow_old w k os j (Array.getElem?_eq_some_iff.1 hj).1).trans hj⟩
abbrev Ins.V (i : Ins) : Value := .agg #[.int .i64 i.op, .int .i64 i.rd, .int .i64 i.rs1, .int .i64 i.rs2, .int .i64 i.imm, .bool i.aq, .bool i.rl, .int .i64 i.pred, .int .i64 i.succ]
theorem field_100 (i : Ins) (hm : May i) (b : Nat) (l : List UInt8) (w : World) (h : IsW b b l w) (hlen : l.length ≤ 1000) :
    Calls Tryz.prog 39 #[.pointer (some ⟨b, 0, none⟩), .int .i32 100, i.V] w fun e w' => e = .returned (.tuple #[]) ∧ Wrote b (l ++ fieldL i 100) w w' := by
  have HM := Lib.hid hm
  clear hm
  go_enter Tryz.func39, Tryz.ntmps39
  go_wp2_with (go_at_call 65; (with_reducible refine (register_k i.rd b l _ (h.alloc _) HM.out.rd.1 HM.out.rd.2.1 hlen).mono ?_); rintro e w1 ⟨rfl, hw1⟩; have HW1 := Lib.hid hw1; clear hw1)
  go_end0
  exact ⟨rfl, by simpa [fieldL] using (Wrote.alloc (Wrote.refl h) _).trans HW1.out⟩
theorem field_49 (i : Ins) (hm : May i) (b : Nat) (l : List UInt8) (w : World) (h : IsW b b l w) (hlen : l.length ≤ 1000) :
    Calls Tryz.prog 39 #[.pointer (some ⟨b, 0, none⟩), .int .i32 49, i.V] w fun e w' => e = .returned (.tuple #[]) ∧ Wrote b (l ++ fieldL i 49) w w' := by
  have HM := Lib.hid hm
  clear hm
  go_enter Tryz.func39, Tryz.ntmps39
  go_wp2_with (go_at_call 65; (with_reducible refine (register_k i.rs1 b l _ (h.alloc _) HM.out.rs1.1 HM.out.rs1.2.1 hlen).mono ?_); rintro e w1 ⟨rfl, hw1⟩; have HW1 := Lib.hid hw1; clear hw1)
  go_end0
  exact ⟨rfl, by simpa [fieldL] using (Wrote.alloc (Wrote.refl h) _).trans HW1.out⟩
theorem field_50 (i : Ins) (hm : May i) (b : Nat) (l : List UInt8) (w : World) (h : IsW b b l w) (hlen : l.length ≤ 1000) :
    Calls Tryz.prog 39 #[.pointer (some ⟨b, 0, none⟩), .int .i32 50, i.V] w fun e w' => e = .returned (.tuple #[]) ∧ Wrote b (l ++ fieldL i 50) w w' := by
  have HM := Lib.hid hm
  clear hm
  go_enter Tryz.func39, Tryz.ntmps39
  go_wp2_with (go_at_call 65; (with_reducible refine (register_k i.rs2 b l _ (h.alloc _) HM.out.rs2.1 HM.out.rs2.2.1 hlen).mono ?_); rintro e w1 ⟨rfl, hw1⟩; have HW1 := Lib.hid hw1; clear hw1)
  go_end0
  exact ⟨rfl, by simpa [fieldL] using (Wrote.alloc (Wrote.refl h) _).trans HW1.out⟩
theorem field_109 (i : Ins) (b : Nat) (l : List UInt8) (w : World) (h : IsW b b l w) (hlen : l.length ≤ 1000) :
    Calls Tryz.prog 39 #[.pointer (some ⟨b, 0, none⟩), .int .i32 109, i.V] w fun e w' => e = .returned (.tuple #[]) ∧ Wrote b (l ++ fieldL i 109) w w' := by
  go_enter Tryz.func39, Tryz.ntmps39
  go_wp2_with (go_at_call 67; (with_reducible refine (marks_k i.aq i.rl b l _ (h.alloc _) hlen).mono ?_); rintro e w1 ⟨rfl, hw1⟩; have HW1 := Lib.hid hw1; clear hw1)
  go_end0
  exact ⟨rfl, by simpa [fieldL] using (Wrote.alloc (Wrote.refl h) _).trans HW1.out⟩
theorem field_112 (i : Ins) (hm : May i) (b : Nat) (l : List UInt8) (w : World) (h : IsW b b l w) (hlen : l.length ≤ 1000) :
    Calls Tryz.prog 39 #[.pointer (some ⟨b, 0, none⟩), .int .i32 112, i.V] w fun e w' => e = .returned (.tuple #[]) ∧ Wrote b (l ++ fieldL i 112) w w' := by
  have HM := Lib.hid hm
  clear hm
  go_enter Tryz.func39, Tryz.ntmps39
  go_wp2_with (go_at_call 68; (with_reducible refine (between_k i.pred b l _ (h.alloc _) HM.out.pred.1 HM.out.pred.2.1 hlen).mono ?_); rintro e w1 ⟨rfl, hw1⟩; have HW1 := Lib.hid hw1; clear hw1)
  go_end0
  exact ⟨rfl, by simpa [fieldL] using (Wrote.alloc (Wrote.refl h) _).trans HW1.out⟩
theorem field_115 (i : Ins) (hm : May i) (b : Nat) (l : List UInt8) (w : World) (h : IsW b b l w) (hlen : l.length ≤ 1000) :
    Calls Tryz.prog 39 #[.pointer (some ⟨b, 0, none⟩), .int .i32 115, i.V] w fun e w' => e = .returned (.tuple #[]) ∧ Wrote b (l ++ fieldL i 115) w w' := by
  have HM := Lib.hid hm
  clear hm
  go_enter Tryz.func39, Tryz.ntmps39
  go_wp2_with (go_at_call 68; (with_reducible refine (between_k i.succ b l _ (h.alloc _) HM.out.succ.1 HM.out.succ.2.1 hlen).mono ?_); rintro e w1 ⟨rfl, hw1⟩; have HW1 := Lib.hid hw1; clear hw1)
  go_end0
  exact ⟨rfl, by simpa [fieldL] using (Wrote.alloc (Wrote.refl h) _).trans HW1.out⟩
theorem field_32 (i : Ins) (b : Nat) (l : List UInt8) (w : World) (h : IsW b b l w) (hlen : l.length ≤ 1000) :
    Calls Tryz.prog 39 #[.pointer (some ⟨b, 0, none⟩), .int .i32 32, i.V] w fun e w' => e = .returned (.tuple #[]) ∧ Wrote b (l ++ fieldL i 32) w w' := by
  have hlen2 := Lib.hid (show l.length + ([32] : List UInt8).length ≤ 100000 by simp; omega)
  have hcv : ∀ w : World, (convert 21 9 (.int .i32 32)).run Tryz.prog w = .ok (.string ⟨#[32]⟩) w := fun _ => by kernel_rfl
  go_enter Tryz.func39, Tryz.ntmps39
  go_wp2_with (go_at_call 38; (with_reducible refine (put_one [32] b l _ _ (Lib.hid (by simp)) (h.alloc _) hlen2.out).mono ?_); rintro e w1 ⟨rfl, hw1⟩; have HW1 := Lib.hid hw1; clear hw1)
  go_end0
  exact ⟨rfl, by simpa [fieldL] using (Wrote.alloc (Wrote.refl h) _).trans HW1.out⟩
theorem field_44 (i : Ins) (b : Nat) (l : List UInt8) (w : World) (h : IsW b b l w) (hlen : l.length ≤ 1000) :
    Calls Tryz.prog 39 #[.pointer (some ⟨b, 0, none⟩), .int .i32 44, i.V] w fun e w' => e = .returned (.tuple #[]) ∧ Wrote b (l ++ fieldL i 44) w w' := by
  have hlen2 := Lib.hid (show l.length + ([44] : List UInt8).length ≤ 100000 by simp; omega)
  have hcv : ∀ w : World, (convert 21 9 (.int .i32 44)).run Tryz.prog w = .ok (.string ⟨#[44]⟩) w := fun _ => by kernel_rfl
  go_enter Tryz.func39, Tryz.ntmps39
  go_wp2_with (go_at_call 38; (with_reducible refine (put_one [44] b l _ _ (Lib.hid (by simp)) (h.alloc _) hlen2.out).mono ?_); rintro e w1 ⟨rfl, hw1⟩; have HW1 := Lib.hid hw1; clear hw1)
  go_end0
  exact ⟨rfl, by simpa [fieldL] using (Wrote.alloc (Wrote.refl h) _).trans HW1.out⟩
theorem field_40 (i : Ins) (b : Nat) (l : List UInt8) (w : World) (h : IsW b b l w) (hlen : l.length ≤ 1000) :
    Calls Tryz.prog 39 #[.pointer (some ⟨b, 0, none⟩), .int .i32 40, i.V] w fun e w' => e = .returned (.tuple #[]) ∧ Wrote b (l ++ fieldL i 40) w w' := by
  have hlen2 := Lib.hid (show l.length + ([40] : List UInt8).length ≤ 100000 by simp; omega)
  have hcv : ∀ w : World, (convert 21 9 (.int .i32 40)).run Tryz.prog w = .ok (.string ⟨#[40]⟩) w := fun _ => by kernel_rfl
  go_enter Tryz.func39, Tryz.ntmps39
  go_wp2_with (go_at_call 38; (with_reducible refine (put_one [40] b l _ _ (Lib.hid (by simp)) (h.alloc _) hlen2.out).mono ?_); rintro e w1 ⟨rfl, hw1⟩; have HW1 := Lib.hid hw1; clear hw1)
  go_end0
  exact ⟨rfl, by simpa [fieldL] using (Wrote.alloc (Wrote.refl h) _).trans HW1.out⟩
theorem field_41 (i : Ins) (b : Nat) (l : List UInt8) (w : World) (h : IsW b b l w) (hlen : l.length ≤ 1000) :
    Calls Tryz.prog 39 #[.pointer (some ⟨b, 0, none⟩), .int .i32 41, i.V] w fun e w' => e = .returned (.tuple #[]) ∧ Wrote b (l ++ fieldL i 41) w w' := by
  have hlen2 := Lib.hid (show l.length + ([41] : List UInt8).length ≤ 100000 by simp; omega)
  have hcv : ∀ w : World, (convert 21 9 (.int .i32 41)).run Tryz.prog w = .ok (.string ⟨#[41]⟩) w := fun _ => by kernel_rfl
  go_enter Tryz.func39, Tryz.ntmps39
  go_wp2_with (go_at_call 38; (with_reducible refine (put_one [41] b l _ _ (Lib.hid (by simp)) (h.alloc _) hlen2.out).mono ?_); rintro e w1 ⟨rfl, hw1⟩; have HW1 := Lib.hid hw1; clear hw1)
  go_end0
  exact ⟨rfl, by simpa [fieldL] using (Wrote.alloc (Wrote.refl h) _).trans HW1.out⟩
theorem field_105 (i : Ins) (hi0 : -9223372036854775808 ≤ i.imm) (hi1 : i.imm ≤ 9223372036854775807) (b : Nat) (l : List UInt8) (w : World) (h : IsW b b l w) (hlen : l.length ≤ 1000) (htab : Lib.TabIs Tryz.prog w "internal/strconv.uint64pow10" .u64 Lib.pow10Tab) :
    Calls Tryz.prog 39 #[.pointer (some ⟨b, 0, none⟩), .int .i32 105, i.V] w fun e w' => e = .returned (.tuple #[]) ∧ Wrote b (l ++ fieldL i 105) w w' := by
  have hlen2 := Lib.hid (show l.length + (Lib.itoa i.imm).length ≤ 100000 by have := Lib.itoa_length_le i.imm hi0 hi1; omega)
  have HT := Lib.hid htab
  clear htab
  go_enter Tryz.func39, Tryz.ntmps39
  go_wp2_with (go_at_call 66; (with_reducible refine (Tryz.strconv_FormatInt_10 i.imm hi0 hi1 _ (Lib.tabIs_alloc HT.out _)).mono ?_); rintro e w1 ⟨rfl, n, os, hw1⟩; have HW1 : Hid (Wrote b l w w1) := Lib.hid (by rw [hw1]; exact (Wrote.alloc (Wrote.refl h) _).trans (Wrote.grow (h.alloc _) n os)); clear hw1)
  go_wp2_with (go_at_call 38; (with_reducible refine (put_one (Lib.itoa i.imm) b l _ _ (Lib.hid rfl) HW1.out.is hlen2.out).mono ?_); rintro e w2 ⟨rfl, hw2⟩; have HW2 := Lib.hid hw2; clear hw2)
  go_end0
  exact ⟨rfl, by simpa [fieldL] using HW1.out.trans HW2.out⟩
end Go.Proofs.YtplneijbhmhmoaaGreatDoor
