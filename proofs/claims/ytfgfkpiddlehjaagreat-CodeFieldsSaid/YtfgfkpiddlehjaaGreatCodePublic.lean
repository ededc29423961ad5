/-
  Proved here: the package code's Word and Insn answer the word of an instruction, the instruction of a word, and write nothing that was there. Condition: one goroutine.
-/
import Derived.Test.YtfgfkpiddlehjaaGreatCodeInsn
import Derived.Test.YtfgfkpiddlehjaaGreatCodeBitsPlain
namespace Go.Proofs.YtfgfkpiddlehjaaGreat
set_option linter.unusedVariables false
open Go.RowKit

def I64 (x : Int) : Prop := -9223372036854775808 ≤ x ∧ x ≤ 9223372036854775807
theorem good_word (i : Ins) (hk : i.ok = true) (hI : I64 i.imm) : goodW (wordL i) = true ∧ readW (wordL i) = i := by
  have hf : Fair i := ⟨may_of i hk, hI.1, hI.2⟩
  have hr := read_word i hf
  refine ⟨?_, hr⟩
  unfold goodW
  rw [hr, hk]
  simp
def Ret2 (x y : Value) (w : World) (e : Ending) (w' : World) : Prop := e = .returned (.tuple #[x, y]) ∧ Below w.heap.size w w'
abbrev ZB : Obj := .cells #[.int .u32 0, .int .i32 0, .int .u32 0, .map none] 52
theorem book_new1 (w : World) (A : Obj) : BookOk (w.heap.size + 1) ((w.alloc A).alloc ZB) := by
  have h := heap_new (w.alloc A) ZB
  simp only [World.size_alloc] at h
  exact .inl ⟨_, h⟩
theorem book_end1 {w w' : World} {A : Obj} (h : Oth (w.heap.size + 1) ((w.alloc A).alloc ZB) w') : Below w.heap.size w w' :=
  (((Below.refl _ _).alloc (Nat.le_refl _) A).alloc (by simp) ZB).trans (h.below (by omega) (by simp; omega))
set_option maxRecDepth 100000 in
set_option maxHeartbeats 1000000 in
theorem Word_yes (i : Ins) (hk : Hid (i.ok = true)) (hI : Hid (I64 i.imm)) (x : Int) (hx : Hid (U (wordL i) = x)) (w : World) : Calls Tryz.prog 8 #[i.V] w fun e w' => Ret2 (.int .u32 x) (.int .i64 0) w e w' := by
  have h0 : -9223372036854775808 ≤ i.imm := hI.out.1
  have h1 : i.imm ≤ 9223372036854775807 := hI.out.2
  have hk2 := hk.out
  have HB := Lib.hid (book_new1 w (.cells (insCells i) 23))
  go_enter Tryz.func8, Tryz.ntmps8
  go_wp2_with (go_at_call 14; (with_reducible refine (word_yes (w.heap.size + 1) i hk2 h0 h1 _ HB.out).mono ?_); rintro e w1 ⟨rfl, -, hO⟩; have O1 := Lib.hid hO; clear hO)
  go_ret2
  exact ⟨by rw [← hx.out]; rfl, book_end1 O1.out⟩
set_option maxRecDepth 100000 in
set_option maxHeartbeats 1000000 in
theorem Word_no (i : Ins) (hk : Hid (i.ok = false)) (w : World) : Calls Tryz.prog 8 #[i.V] w fun e w' => Ret2 (.int .u32 0) (.int .i64 2) w e w' := by
  have hk2 := hk.out
  have HB := Lib.hid (book_new1 w (.cells (insCells i) 23))
  go_enter Tryz.func8, Tryz.ntmps8
  go_wp2_with (go_at_call 14; (with_reducible refine (word_no (w.heap.size + 1) i hk2 _ HB.out).mono ?_); rintro e w1 ⟨rfl, -, hO⟩; have O1 := Lib.hid hO; clear hO)
  go_ret2
  exact ⟨rfl, book_end1 O1.out⟩
/-- behind the book's insn: the result's box -/
theorem box_kept (w w' : World) (h : Oth (w.heap.size + 1) ((w.alloc (.cells #[.int .i64 0, .int .i64 0, .int .i64 0, .int .i64 0, .int .i64 0, .bool false, .bool false, .int .i64 0, .int .i64 0] 23)).alloc ZB) w') : InsAt (Ins.none 0) w.heap.size w' := by
  have hb := one_box (w.alloc (.cells #[.int .i64 0, .int .i64 0, .int .i64 0, .int .i64 0, .int .i64 0, .bool false, .bool false, .int .i64 0, .int .i64 0] 23)) ZB
  exact ((ins_none_new 0 w).below hb (by simp)).oth h (by omega)
theorem oth_self (n : Nat) (W : World) (j : Ins) : Oth n W (stored W n j) := by
  unfold stored
  exact ((((((((Oth.setCell _ _ _ _).trans (Oth.setCell _ _ _ _)).trans (Oth.setCell _ _ _ _)).trans (Oth.setCell _ _ _ _)).trans (Oth.setCell _ _ _ _)).trans (Oth.setCell _ _ _ _)).trans (Oth.setCell _ _ _ _)).trans (Oth.setCell _ _ _ _)).trans (Oth.setCell _ _ _ _)
set_option maxRecDepth 100000 in
set_option maxHeartbeats 2000000 in
theorem Insn_at (b : BitVec 64) (i : Ins) (x : Int) (h : Hid ((if goodW b then readW b else Ins.none 0) = i ∧ (if goodW b then 0 else 4) = x)) (w : World) : Calls Tryz.prog 7 #[.int .u32 (U b)] w fun e w' => Ret2 i.V (.int .i64 x) w e w' := by
  have HB := Lib.hid (book_new1 w (.cells #[.int .i64 0, .int .i64 0, .int .i64 0, .int .i64 0, .int .i64 0, .bool false, .bool false, .int .i64 0, .int .i64 0] 23))
  have K := insn_any (w.heap.size + 1) b _ HB.out
  rw [h.out.1, h.out.2] at K
  have HK := Lib.hid K
  clear K
  go_enter Tryz.func7, Tryz.ntmps7
  go_wp2_with (go_at_call 13; (with_reducible refine HK.out.mono ?_); rintro e w1 ⟨rfl, -, hO⟩; have O1 := Lib.hid hO; have C1 := Lib.hid (box_kept w w1 hO); obtain ⟨hr0, r0, r1, r2, r3, r4, r5, r6, r7, r8⟩ := C1.out.facts; have hrf := loose_of C1.out; clear hO)
  refine bodyPost_ret (results_cell_tmp rfl rfl (ins_load (ins_stored C1.out i))) rfl ⟨rfl, ?_⟩
  exact (book_end1 O1.out).trans ((oth_self _ _ i).below (Nat.le_refl _) (book_end1 O1.out).size)
theorem Insn_yes (b : BitVec 64) (i : Ins) (hg : Hid (goodW b = true)) (hr : Hid (readW b = i)) (w : World) : Calls Tryz.prog 7 #[.int .u32 (U b)] w fun e w' => Ret2 i.V (.int .i64 0) w e w' :=
  Insn_at b i 0 (Lib.hid (by rw [hg.out, if_pos rfl, if_pos rfl]; exact ⟨hr.out, rfl⟩)) w
theorem Insn_no (b : BitVec 64) (hg : Hid (goodW b = false)) (w : World) : Calls Tryz.prog 7 #[.int .u32 (U b)] w fun e w' => Ret2 (Ins.none 0).V (.int .i64 4) w e w' :=
  Insn_at b (Ins.none 0) 4 (Lib.hid (by rw [hg.out]; exact ⟨rfl, rfl⟩)) w
end Go.Proofs.YtfgfkpiddlehjaaGreat
