/-
  Proved here: the package insn's reader takes the longest name, then the fields of its shape; Read answers the instruction whose text it was, or an error. Conditions: at most 10000 bytes; the tables and errors of Go's library read as it lays them.
-/
import Derived.Test.YtplneijbhmhmoaaGreatDoorInsnReader
import Derived.Test.YtplneijbhmhmoaaGreatDoorInsnTables
import Derived.Deep.QuietTactic
import Derived.BigQuiet
import Derived.Deep.RegionWith
import Derived.Deep.DeepCutAuto
namespace Go.Proofs.YtplneijbhmhmoaaGreatDoor
open Go.RowKit

/-! ### op -/
def opK (s : List UInt8) (k : Nat) : List UInt8 × Nat := (List.range k).foldl (opStep s) ([], 0)
theorem opK_88 (s : List UInt8) : opK s 88 = opS s := rfl
theorem opK_succ (s : List UInt8) (k : Nat) : opK s (k + 1) = opStep s (opK s k) k := by unfold opK; rw [List.range_succ, List.foldl_append]; rfl
/-- the row that is the longest so far -/
def rowK (s : List UInt8) (k : Nat) : Array Value := #[.string (nameB ((opK s k).2 : Nat)), .int .i64 (formOf ((opK s k).2 : Nat)), .int .i64 (sizeOf' ((opK s k).2 : Nat))]
theorem opK_name (s : List UInt8) : ∀ k, (opK s k).1 = nameOf ((opK s k).2 : Nat)
  | 0 => by simp [opK]; decide
  | k + 1 => by
    rw [opK_succ]
    unfold opStep
    split
    · rfl
    · exact opK_name s k
theorem hasPre (s : List UInt8) (k : Nat) (w : World) : Calls Tryz.prog 73 #[.string ⟨s.toArray⟩, .string (nameB (k : Int))] w fun e w' => e = .returned (.bool (Lib.hasPrefix s (nameOf (k : Int)))) ∧ w' = w := by
  have h := Tryz.strings_HasPrefix ⟨s.toArray⟩ (nameB (k : Int)) w
  rw [nameB_list] at h
  exact h
def LongAt (s : List UInt8) (L k : Nat) (w : World) : Prop := w.heap[L]? = some (.cells (rowK s k) 45 (0, 0))
theorem Ate.setNew {r : Nat} {s : List UInt8} {w w' : World} (h : Ate r s w w') (L o : Nat) (v : Value) (hL : w.heap.size ≤ L) (hr : r < w.heap.size) : Ate r s w (w'.setCell ⟨L, o, none⟩ v) := by
  refine ⟨Rd.keep h.1 (by omega) o v, h.2.1, h.2.2.1, h.2.2.2.1, by have := h.2.2.2.2.1; simp [World.setCell]; omega, fun k hk hkr => ?_⟩
  exact (Below.heap_setCell _ _ _ _ (show k ≠ L by omega)).trans (h.2.2.2.2.2 k hk hkr)
theorem Ate.alloc {r : Nat} {s : List UInt8} {w w' : World} (h : Ate r s w w') (o : Obj) : Ate r s w (w'.alloc o) := Ate.trans h (Ate.of h.1 ((Below.refl _ _).alloc (Nat.le_refl _) o))
theorem Ate.drewN {r : Nat} {s : List UInt8} {w w' : World} (h : Ate r s w w') (n : Nat) : Ate r s w (w'.drewN n) := Ate.trans h (Ate.of h.1 (below_drewN (Below.refl _ _) n))
theorem LongAt.keep {s : List UInt8} {L k j : Nat} {w : World} (h : LongAt s L k w) (o : Obj) (n : Nat) (e : opK s j = opK s k) : LongAt s L j ((w.alloc o).drewN n) := by
  have h2 : (w.alloc o).heap[L]? = some (.cells (rowK s k) 45 (0, 0)) := (Lib.alloc_old w o L (Array.getElem?_eq_some_iff.1 h).1).trans h
  unfold LongAt rowK at *
  rw [e]; exact h2
theorem LongAt.take {s : List UInt8} {L k : Nat} {w : World} (h : LongAt s L k w) (o : Obj) (n : Nat) (e : opK s (k + 1) = (nameOf (k : Int), k)) :
    LongAt s L (k + 1) (((((w.alloc o).drewN n).setCell ⟨L, 0, none⟩ (.string (nameB (k : Int)))).setCell ⟨L, 1, none⟩ (.int .i64 (formOf (k : Int)))).setCell ⟨L, 2, none⟩ (.int .i64 (sizeOf' (k : Int)))) := by
  have h2 : ((w.alloc o).drewN n).heap[L]? = some (.cells (rowK s k) 45 (0, 0)) := (Lib.alloc_old w o L (Array.getElem?_eq_some_iff.1 h).1).trans h
  unfold LongAt
  have e2 : rowK s (k + 1) = (((rowK s k).setIfInBounds 0 (.string (nameB (k : Int)))).setIfInBounds 1 (.int .i64 (formOf (k : Int)))).setIfInBounds 2 (.int .i64 (sizeOf' (k : Int))) := by
    unfold rowK; rw [e]; rfl
  rw [e2]
  simp [World.setCell, Array.getElem?_modify]
  exact ⟨_, h2, rfl⟩
theorem nameB_size (k : Int) : (nameB k).size = (nameOf k).length := by rw [Lib.size_eq, nameB_list]
theorem opK_take (s : List UInt8) (k : Nat) (h1 : (nameB ((opK s k).2 : Nat)).size < (nameB (k : Int)).size) (h2 : Lib.hasPrefix s (nameOf (k : Int)) = true) : opK s (k + 1) = (nameOf (k : Int), k) := by
  rw [opK_succ]
  rw [nameB_size, nameB_size, ← opK_name] at h1
  exact opStep_pos _ _ _ h1 h2
theorem opK_short (s : List UInt8) (k : Nat) (h1 : ¬ (nameB ((opK s k).2 : Nat)).size < (nameB (k : Int)).size) : opK s (k + 1) = opK s k := by
  rw [opK_succ]
  rw [nameB_size, nameB_size, ← opK_name] at h1
  exact opStep_neg _ _ _ fun _ => h1
theorem opK_no (s : List UInt8) (k : Nat) (h2 : Lib.hasPrefix s (nameOf (k : Int)) = false) : opK s (k + 1) = opK s k := by
  rw [opK_succ]
  exact opStep_neg _ _ _ fun h => by rw [h2] at h; cases h
set_option maxRecDepth 100000 in
set_option maxHeartbeats 2000000 in
theorem op_any (r : Nat) (s : List UInt8) (w : World) (h : Rd r s w) :
    Calls Tryz.prog 52 #[.pointer (some ⟨r, 0, none⟩)] w fun e w' => e = .returned (.int .i64 ((opS s).2 : Nat)) ∧ Ate r (Lib.trimPrefix s (opS s).1) w w' := by
  have H := Lib.hid h
  have hz := (Rd.facts h).2.2
  clear h
  go_enter Tryz.func52, Tryz.ntmps52
  go_wp2_with (go_at_call 30; (with_reducible refine (table_any _).mono ?_); rintro e w1 ⟨rfl, hb1⟩; have HB1 := Lib.hid hb1; clear hb1)
  have HL0 := Lib.hid (show LongAt s w.heap.size 0 w1 from (HB1.out.block _ (by simp)).trans (heap_new _ _))
  have HA0 := Lib.hid (show Ate r s w w1 from Ate.trans (Ate.of H.out ((Below.refl _ _).alloc (Nat.le_refl _) _)) (Ate.of (Rd.of H.out ((Below.refl _ _).alloc (Nat.le_refl _) _)) HB1.out))
  go_loopw [4, 5, 6, 9] (fun f _ _ i wr => ∃ k : Nat, k ≤ 88 ∧ i = .int .i64 k ∧ f = .int .i64 ((opK s k).2 : Nat) ∧ Hid (Ate r s w wr) ∧ Hid (LongAt s w.heap.size k wr)) (fun _ _ _ i _ => 88 - (intOf i).toNat)
  case atStart => exact ⟨0, by omega, rfl, rfl, HA0, HL0⟩
  case round =>
    obtain ⟨k, hk, rfl, rfl, HA, HLg⟩ := hrel
    by_cases hlt : k < 88
    · have hix := index_row k hlt
      have hLs := (Array.getElem?_eq_some_iff.1 HLg.out).1
      have hL0 : wr.cell? ⟨w.heap.size, 0, none⟩ = some (.string (nameB ((opK s k).2 : Nat))) := (Lib.cell_of_heap HLg.out 0).trans rfl
      have hL1 : wr.cell? ⟨w.heap.size, 1, none⟩ = some (.int .i64 (formOf ((opK s k).2 : Nat))) := (Lib.cell_of_heap HLg.out 1).trans rfl
      have hL2 : wr.cell? ⟨w.heap.size, 2, none⟩ = some (.int .i64 (sizeOf' ((opK s k).2 : Nat))) := (Lib.cell_of_heap HLg.out 2).trans rfl
      have hf0 : wr.frozen? ⟨w.heap.size, 0, none⟩ = false := Lib.frozen_of_heap HLg.out 0
      have hf1 : wr.frozen? ⟨w.heap.size, 1, none⟩ = false := Lib.frozen_of_heap HLg.out 1
      have hf2 : wr.frozen? ⟨w.heap.size, 2, none⟩ = false := Lib.frozen_of_heap HLg.out 2
      obtain ⟨hr0, hrf, hrs⟩ := Rd.facts (Ate.rd HA.out)
      by_cases hln : (nameB ((opK s k).2 : Nat)).size < (nameB (k : Int)).size
      · have hln1 : decide ((nameB ((opK s k).2 : Nat)).size < (nameB (k : Int)).size) = true := by simpa using hln
        have HLN := Lib.hid hln
        clear hln
        cases hp : Lib.hasPrefix s (nameOf (k : Int))
        · go_wp2_with fail
          go_quiet ((go_at_call 73; exact Calls.quiet_of_same (hasPre s k _)))
          go_wp2_with fail
          have HK := Lib.hid (opK_no s k hp)
          go_roundw
          case rel => exact ⟨k + 1, by omega, by go_num, by rw [HK.out], Lib.hid (Ate.drewN (Ate.alloc HA.out _) _), Lib.hid (LongAt.keep HLg.out _ _ HK.out)⟩
          case measure => simp [intOf]; omega
        · go_wp2_with fail
          go_quiet ((go_at_call 73; exact Calls.quiet_of_same (hasPre s k _)))
          go_wp2_with fail
          have HK := Lib.hid (opK_take s k HLN.out hp)
          go_roundw
          case rel => exact ⟨k + 1, by omega, by go_num, by rw [HK.out], Lib.hid (Ate.setNew (Ate.setNew (Ate.setNew (Ate.drewN (Ate.alloc HA.out _) _) _ _ _ (Nat.le_refl _) hz) _ _ _ (Nat.le_refl _) hz) _ _ _ (Nat.le_refl _) hz), Lib.hid (LongAt.take HLg.out _ _ HK.out)⟩
          case measure => simp [intOf]; omega
      · have hln1 : decide ((nameB ((opK s k).2 : Nat)).size < (nameB (k : Int)).size) = false := by simpa using hln
        have HLN := Lib.hid hln
        clear hln
        go_wp2_with fail
        go_quiet (fail)
        go_wp2_with fail
        have HK := Lib.hid (opK_short s k HLN.out)
        go_roundw
        case rel => exact ⟨k + 1, by omega, by go_num, by rw [HK.out], Lib.hid (Ate.drewN (Ate.alloc HA.out _) _), Lib.hid (LongAt.keep HLg.out _ _ HK.out)⟩
        case measure => simp [intOf]; omega
    · have e : k = 88 := by omega
      subst e
      have hLs := (Array.getElem?_eq_some_iff.1 HLg.out).1
      have hL0 : wr.cell? ⟨w.heap.size, 0, none⟩ = some (.string (nameB ((opK s 88).2 : Nat))) := (Lib.cell_of_heap HLg.out 0).trans rfl
      have HE := Lib.hid (show (nameB ((opK s 88).2 : Nat)).data.toList = (opS s).1 by rw [nameB_list, ← opK_name]; rfl)
      go_wp2_with (go_at_call 74; (with_reducible refine (eat_any r s (nameB ((opK s 88).2 : Nat)) _ (Ate.rd HA.out)).mono ?_); rintro e w5 ⟨rfl, hb5⟩; have H5 := Lib.hid (Ate.trans HA.out hb5); clear hb5)
      go_ret
      refine ⟨rfl, ?_⟩
      rw [← HE.out]
      exact H5.out

/-! ### insn -/
theorem opS_lt (s : List UInt8) : (opS s).2 < 88 := by
  have h : ∀ k, k ≤ 88 → (opK s k).2 < 88 := by
    intro k
    induction k with
    | zero => intro _; simp [opK]
    | succ k ih =>
      intro hk
      rw [opK_succ]; unfold opStep; split
      · simp only; omega
      · exact ih (by omega)
  exact h 88 (by omega)
attribute [local irreducible] opS
def opI (s : List UInt8) : Int := ((opS s).2 : Nat)
theorem op_I (r : Nat) (s : List UInt8) (w : World) (h : Rd r s w) : Calls Tryz.prog 52 #[.pointer (some ⟨r, 0, none⟩)] w fun e w' => e = .returned (.int .i64 (opI s)) ∧ Ate r (Lib.trimPrefix s (opS s).1) w w' := op_any r s w h
theorem ins_none_new (op : Int) (w : World) : InsAt (Ins.none op) w.heap.size (w.alloc (.cells #[.int .i64 op, .int .i64 0, .int .i64 0, .int .i64 0, .int .i64 0, .bool false, .bool false, .int .i64 0, .int .i64 0] 23)) := heap_new _ _
/-- what has been read when the loop over the shape is at its head -/
def stK (s : List UInt8) (pos : Nat) : Ins × List UInt8 := ((shapeS (opI s)).take pos).foldl fieldR (Ins.none (opI s), Lib.trimPrefix s (opS s).1)
theorem InsAt.oth {i : Ins} {n r : Nat} {w w' : World} (h : InsAt i n w) (ho : Oth r w w') (hn : n ≠ r) : InsAt i n w' := (ho.2.2.2.2 n (Array.getElem?_eq_some_iff.1 h).1 hn).trans h
theorem Oth.two_new {r q : Nat} {w w1 w2 : World} (h : Oth r w w1) (k : Oth2 r q w1 w2) (hq : w.heap.size ≤ q) : Oth r w w2 :=
  ⟨k.1.trans h.1, k.2.1.trans h.2.1, k.2.2.1.trans h.2.2.1, Nat.le_trans h.2.2.2.1 k.2.2.2.1, fun i hi hr => (k.2.2.2.2 i (Nat.lt_of_lt_of_le hi h.2.2.2.1) hr (by omega)).trans (h.2.2.2.2 i hi hr)⟩
theorem Oth.iter {r it : Nat} {w w1 : World} (h : Oth r w w1) (S : ByteArray) (p : Nat) (hi : w.heap.size ≤ it) : Oth r w (w1.iterAt it S p) :=
  ⟨h.1, h.2.1, h.2.2.1, by rw [Lib.iterAt_size]; exact h.2.2.2.1, fun k hk hr => (Lib.iterAt_other w1 it k S p (by omega)).trans (h.2.2.2.2 k hk hr)⟩
structure ReadAt (s : List UInt8) (S : ByteArray) (r n q it : Nat) (w wr : World) (pos : Nat) : Prop where
  iter : wr.heap[it]? = some (.stringIter S pos)
  rd : Rd r (stK s pos).2 wr
  ins : InsAt (stK s pos).1 q wr
  res : InsAt (Ins.none 0) n wr
  oth : Oth r w wr
theorem stK_succ (s : List UInt8) (S : ByteArray) (hS : S.data.toList = shapeS (opI s)) (pos : Nat) (hp : pos < S.size) : stK s (pos + 1) = fieldR ((stK s pos).1, (stK s pos).2) (S[pos]'hp) := by
  have hl : pos < (shapeS (opI s)).length := by rw [← hS, ← Lib.size_eq]; exact hp
  unfold stK
  rw [List.take_succ_eq_append_getElem hl, List.foldl_append]
  have e : (shapeS (opI s))[pos] = S[pos]'hp := by
    have h2 : S.data.toList[pos]'(by rw [hS]; exact hl) = (shapeS (opI s))[pos] := by congr 1
    exact h2.symm
  rw [e]; rfl
theorem read_next {s : List UInt8} {S : ByteArray} {r n q it : Nat} {w wr : World} {pos : Nat} (h : ReadAt s S r n q it w wr pos) (hr : r ≠ it) (hq : q ≠ it) (hn : n ≠ it) (hi : w.heap.size ≤ it) :
    Rd r (stK s pos).2 (wr.iterAt it S (pos + 1)) ∧ InsAt (stK s pos).1 q (wr.iterAt it S (pos + 1)) ∧ InsAt (Ins.none 0) n (wr.iterAt it S (pos + 1)) ∧ Oth r w (wr.iterAt it S (pos + 1)) :=
  ⟨(Lib.iterAt_other wr it r S _ hr).trans h.rd, (Lib.iterAt_other wr it q S _ hq).trans h.ins, (Lib.iterAt_other wr it n S _ hn).trans h.res, h.oth.iter S _ hi⟩
theorem read_step {s : List UInt8} {S : ByteArray} {r n q it : Nat} {w wr w1 : World} {pos : Nat} (hS : S.data.toList = shapeS (opI s)) (hp : pos < S.size) (h : ReadAt s S r n q it w wr pos) (hr : r ≠ it) (hq : q ≠ it) (hn : n ≠ it) (hi : w.heap.size ≤ it) (hqw : w.heap.size ≤ q) (hnr : n ≠ r) (hnq : n ≠ q)
    (h1 : Fed r q (fieldR ((stK s pos).1, (stK s pos).2) (S[pos]'hp)) (wr.iterAt it S (pos + 1)) w1) : ReadAt s S r n q it w w1 (pos + 1) := by
  obtain ⟨a1, a2, a3, a4⟩ := read_next h hr hq hn hi
  have hit := Lib.iterAt_heap wr it S pos (pos + 1) h.iter
  have e := stK_succ s S hS pos hp
  refine ⟨(h1.2.2.2.2.2.2 it (Array.getElem?_eq_some_iff.1 hit).1 (Ne.symm hr) (Ne.symm hq)).trans hit, ?_, ?_, (h1.2.2.2.2.2.2 n (Array.getElem?_eq_some_iff.1 a3).1 hnr hnq).trans a3, a4.two_new h1.2.2 hqw⟩
  · rw [e]; exact h1.1
  · rw [e]; exact h1.2.1
theorem stK_len (s : List UInt8) (pos : Nat) : (stK s pos).2.length ≤ s.length := by
  have hf : ∀ (cs : List UInt8) (st : Ins × List UInt8), (cs.foldl fieldR st).2.length ≤ st.2.length := by
    intro cs
    induction cs with
    | nil => intro st; exact Nat.le_refl _
    | cons c cs ih =>
      intro st
      refine Nat.le_trans (ih _) ?_
      have hb : ∀ t : List UInt8, (betweenS t).2.length ≤ t.length := by
        intro t
        have h4 : ∀ (l : List (Nat × UInt8)) (x : Nat × List UInt8), (l.foldl partR x).2.length ≤ x.2.length := by
          intro l
          induction l with
          | nil => intro x; exact Nat.le_refl _
          | cons p l ihl => intro x; exact Nat.le_trans (ihl _) (trim_len _ _)
        exact Nat.le_trans (h4 _ _) (trim_len _ _)
      have hm : (marksR st.2).length ≤ st.2.length := by
        unfold marksR; split
        · exact Nat.le_trans (trim_len _ _) (Nat.le_trans (trim_len _ _) (trim_len _ _))
        · exact Nat.le_refl _
      have hg : (regR st.2).length ≤ st.2.length := Nat.le_trans (trim_len _ _) (trim_len _ _)
      have hn : (numR st.2).length ≤ st.2.length := trim_len _ _
      have hx := hb st.2
      have ht := trim_len st.2 [c]
      unfold fieldR
      repeat' split
      all_goals (simp only; omega)
  unfold stK
  exact Nat.le_trans (hf _ _) (trim_len _ _)
theorem letterS (s : List UInt8) (S : ByteArray) (hS : S.data.toList = shapeS (opI s)) (pos : Nat) (hp : pos < S.size) : (S[pos]'hp) ∈ lettersL := by
  have hlt := opS_lt s
  have h := letters_all ⟨(opS s).2, hlt⟩
  refine h _ ?_
  have e : shapeS (((opS s).2 : Nat) : Int) = S.data.toList := hS.symm
  rw [e]
  have hl : pos < S.data.toList.length := by rw [← Lib.size_eq]; exact hp
  exact (List.getElem_mem hl : S.data.toList[pos] ∈ S.data.toList)
theorem readL_is (s : List UInt8) (S : ByteArray) (hS : S.data.toList = shapeS (opI s)) : readL s = (stK s S.size).1 := by
  unfold readL stK
  rw [List.take_of_length_le (by rw [← hS, ← Lib.size_eq]; exact Nat.le_refl _)]
  rfl
theorem ins_size : (Tryz.prog.info? 23).map (·.size) = some 9 := by kernel_rfl
theorem ins_load {i : Ins} {n : Nat} {w : World} (h : InsAt i n w) : (loadVar 23 ⟨n, 0, none⟩).run Tryz.prog w = .ok i.V w :=
  run_loadVar_row (P := Tryz.prog) w n 23 23 (insCells i) (0, 0) _ h Tryz.underlying23 rfl ins_size
/-- the nine cells of an instruction, stored one by one -/
abbrev stored (w : World) (n : Nat) (i : Ins) : World := (((((((((w.setCell ⟨n, 0, none⟩ (.int .i64 i.op)).setCell ⟨n, 1, none⟩ (.int .i64 i.rd)).setCell ⟨n, 2, none⟩ (.int .i64 i.rs1)).setCell ⟨n, 3, none⟩ (.int .i64 i.rs2)).setCell ⟨n, 4, none⟩ (.int .i64 i.imm)).setCell ⟨n, 5, none⟩ (.bool i.aq)).setCell ⟨n, 6, none⟩ (.bool i.rl)).setCell ⟨n, 7, none⟩ (.int .i64 i.pred)).setCell ⟨n, 8, none⟩ (.int .i64 i.succ))
theorem ins_stored {j : Ins} {n : Nat} {w : World} (h : InsAt j n w) (i : Ins) : InsAt i n (stored w n i) := by
  have h0 := ins_set h 0 (.int .i64 i.op) { j with op := i.op } rfl
  have h1 := ins_set h0 1 (.int .i64 i.rd) { j with op := i.op, rd := i.rd } rfl
  have h2 := ins_set h1 2 (.int .i64 i.rs1) { j with op := i.op, rd := i.rd, rs1 := i.rs1 } rfl
  have h3 := ins_set h2 3 (.int .i64 i.rs2) { j with op := i.op, rd := i.rd, rs1 := i.rs1, rs2 := i.rs2 } rfl
  have h4 := ins_set h3 4 (.int .i64 i.imm) { j with op := i.op, rd := i.rd, rs1 := i.rs1, rs2 := i.rs2, imm := i.imm } rfl
  have h5 := ins_set h4 5 (.bool i.aq) { j with op := i.op, rd := i.rd, rs1 := i.rs1, rs2 := i.rs2, imm := i.imm, aq := i.aq } rfl
  have h6 := ins_set h5 6 (.bool i.rl) { j with op := i.op, rd := i.rd, rs1 := i.rs1, rs2 := i.rs2, imm := i.imm, aq := i.aq, rl := i.rl } rfl
  have h7 := ins_set h6 7 (.int .i64 i.pred) { j with op := i.op, rd := i.rd, rs1 := i.rs1, rs2 := i.rs2, imm := i.imm, aq := i.aq, rl := i.rl, pred := i.pred } rfl
  exact ins_set h7 8 (.int .i64 i.succ) i rfl
theorem Oth.setNew {r : Nat} {w w' : World} (h : Oth r w w') (L o : Nat) (v : Value) (hL : w.heap.size ≤ L) : Oth r w (w'.setCell ⟨L, o, none⟩ v) :=
  ⟨h.1, h.2.1, h.2.2.1, by have := h.2.2.2.1; simp [World.setCell]; omega, fun k hk hr => (Below.heap_setCell _ _ _ _ (show k ≠ L by omega)).trans (h.2.2.2.2 k hk hr)⟩
theorem oth_stored {r : Nat} {w w' : World} (h : Oth r w w') (n : Nat) (hn : w.heap.size ≤ n) (i : Ins) : Oth r w (stored w' n i) :=
  ((((((((h.setNew n 0 _ hn).setNew n 1 _ hn).setNew n 2 _ hn).setNew n 3 _ hn).setNew n 4 _ hn).setNew n 5 _ hn).setNew n 6 _ hn).setNew n 7 _ hn).setNew n 8 _ hn
set_option maxRecDepth 100000 in
set_option maxHeartbeats 4000000 in
theorem insn_any (B r : Nat) (s : List UInt8) (w : World) (h : Rd r s w) (hl : s.length ≤ 10000) (hB : B ≤ r) (he : ErrsB B w) :
    Calls Tryz.prog 25 #[.pointer (some ⟨r, 0, none⟩)] w fun e w' => e = .returned (readL s).V ∧ Oth r w w' := by
  have H := Lib.hid h
  have HE := Lib.hid he
  have hz := (Rd.facts h).2.2
  obtain ⟨S, hS⟩ : ∃ S : ByteArray, S.data.toList = shapeS (opI s) := ⟨⟨(shapeS (opI s)).toArray⟩, by simp⟩
  have HS := Lib.hid hS
  clear h he hS
  have HA0 := Lib.hid (Ate.alloc (Ate.refl H.out) (.cells #[.int .i64 0, .int .i64 0, .int .i64 0, .int .i64 0, .int .i64 0, .bool false, .bool false, .int .i64 0, .int .i64 0] 23))
  have HN0 := Lib.hid (ins_none_new 0 w)
  go_enter Tryz.func25, Tryz.ntmps25
  go_upto_region 2 with (go_at_call 52; (with_reducible refine (op_I r s _ (Ate.rd HA0.out)).mono ?_); rintro e w1 ⟨rfl, hb1⟩; have H1 := Lib.hid (Ate.trans HA0.out hb1); have HN1 := Lib.hid (InsAt.oth HN0.out (Ate.oth hb1) (by omega)); clear hb1)
  have hz1 := (Rd.facts (Ate.rd H1.out)).2.2
  have hn1 := (InsAt.facts HN1.out).1
  have HQ := Lib.hid (ins_none_new (opI s) w1)
  go_cut [15] (fun t wx => ∃ w2 : World, Hid (Below (w1.heap.size + 1) (w1.alloc (.cells #[.int .i64 (opI s), .int .i64 0, .int .i64 0, .int .i64 0, .int .i64 0, .bool false, .bool false, .int .i64 0, .int .i64 0] 23)) w2) ∧ t = .pointer (some ⟨w2.heap.size, 0, none⟩) ∧ wx = w2.alloc (.stringIter S 0))
  case first =>
    have HQD := Lib.hid (show InsAt (Ins.none (opI s)) w1.heap.size (w1.alloc (.cells #[.int .i64 (opI s), .int .i64 0, .int .i64 0, .int .i64 0, .int .i64 0, .bool false, .bool false, .int .i64 0, .int .i64 0] 23)).drew from HQ.out)
    go_region_with (first | (go_at_call 10; (with_reducible refine (Form_any (opI s) _).mono ?_); rintro e w5 ⟨rfl, hb5⟩; have HI5 := Lib.hid (InsAt.below HQD.out hb5 (by simp)); have c0 : w5.cell? ⟨w1.heap.size, 0, none⟩ = some (.int .i64 (opI s)) := (InsAt.facts HI5.out).2.1; have HB5 := Lib.hid hb5; clear hb5) | (go_at_call 31; (with_reducible refine (shape_row (opI s) S HS _).mono ?_); rintro e w6 ⟨rfl, hb6⟩; have HB6 := Lib.hid hb6; clear hb6))
    all_goals (go_wp2_with fail; go_meet; refine ⟨w6, Lib.hid ?_, rfl, rfl⟩; exact ((Below.drew (Below.refl _ _)).trans (HB5.out.mono (by simp))).trans (HB6.out.mono (by have := HB5.out.size; simp at this; omega)))
  case rest =>
    obtain ⟨w2, HB2, rfl, rfl⟩ := hcut
    have hz2 : w1.heap.size < w2.heap.size := by have := HB2.out.size; simp at this; omega
    have HR0 : Hid (ReadAt s S r w.heap.size w1.heap.size w2.heap.size w (w2.alloc (.stringIter S 0)) 0) := by
      have e : stK s 0 = (Ins.none (opI s), Lib.trimPrefix s (opS s).1) := by unfold stK; rw [List.take_zero]; rfl
      refine Lib.hid ⟨heap_new _ _, ?_, ?_, ?_, ?_⟩
      · rw [e]
        exact (Lib.alloc_old w2 _ r (by omega)).trans ((HB2.out.block r (by omega)).trans ((Lib.alloc_old w1 _ r hz1).trans H1.out.1))
      · rw [e]
        exact InsAt.alloc (InsAt.below HQ.out HB2.out (by omega)) _
      · exact InsAt.alloc (InsAt.below (InsAt.alloc HN1.out _) HB2.out (by omega)) _
      · refine Oth.trans (Ate.oth H1.out) (Oth.of ?_)
        exact (((Below.refl _ _).alloc (Nat.le_refl _) _).trans (HB2.out.mono (by omega))).alloc (by omega) _
    clear HQ
    generalize hnn : w.heap.size = n at *
    generalize hqq : w1.heap.size = q at *
    generalize hii : w2.heap.size = it at *
    have HNN := Lib.hid hnn
    clear hnn hqq hii
    have HLT := Lib.hid (show r < n ∧ n < q ∧ q < it from ⟨hz, hn1, hz2⟩)
    clear hz hn1 hz2 hz1
    go_wp2_with fail
    go_loopw [] (fun wr => ∃ pos, pos ≤ S.size ∧ Hid (ReadAt s S r n q it w wr pos)) (fun wr => S.size - wr.iterPos it)
    case atStart => exact ⟨0, Nat.zero_le _, HR0⟩
    case round =>
      obtain ⟨pos, hpos, HX⟩ := hrel
      have hit := HX.out.iter
      have HB := Lib.hid hB
      by_cases hp : pos < S.size
      · have hc := letterS s S HS.out pos hp
        have hnx : ∀ ty, (Instr.next (.pointer (some ⟨it, 0, none⟩)) true ty).run Tryz.prog wr = _ := fun ty => Lib.run_next_ascii_at wr it S pos ty hit hp (letters_ascii _ hc)
        have HX1 := Lib.hid (read_next HX.out (by have := HLT.out; omega) (by have := HLT.out; omega) (by have := HLT.out; omega) (by have := HLT.out; have := HNN.out; omega))
        have HC := Lib.hid hc
        have HIT := Lib.hid hit
        clear hc hit
        go_wp2_with (go_at_call 53; (with_reducible refine (fieldR_any B r q _ _ _ HC.out _ HX1.out.1 HX1.out.2.1 (by have := HLT.out; omega) (Nat.le_trans (stK_len s pos) hl) HB.out (ErrsB.on HE.out HB.out (by have := HLT.out; have := HNN.out; have := HB.out; omega) HX1.out.2.2.2)).mono ?_); rintro e w5 ⟨rfl, hw5⟩; have HW5 := Lib.hid hw5; clear hw5)
        have HS5 := Lib.hid (read_step HS.out hp HX.out (by have := HLT.out; omega) (by have := HLT.out; omega) (by have := HLT.out; omega) (by have := HLT.out; have := HNN.out; omega) (by have := HLT.out; have := HNN.out; omega) (by have := HLT.out; omega) (by have := HLT.out; omega) HW5.out)
        go_roundw
        case rel => exact ⟨pos + 1, by omega, HS5⟩
        case measure =>
          have h5 := HS5.out.iter
          simp only [World.iterPos, h5, HIT.out]
          omega
      · have hnx : ∀ ty, (Instr.next (.pointer (some ⟨it, 0, none⟩)) true ty).run Tryz.prog wr = _ := fun ty => Lib.run_next_end_at wr it S pos ty hit hp
        have e : pos = S.size := by omega
        subst e
        have HI : Hid (InsAt (readL s) q wr) := Lib.hid (by rw [readL_is s S HS.out]; exact HX.out.ins)
        clear hit
        obtain ⟨-, c0, c1, c2, c3, c4, c5, c6, c7, c8⟩ := InsAt.facts HI.out
        obtain ⟨-, d0, d1, d2, d3, d4, d5, d6, d7, d8⟩ := InsAt.facts HX.out.res
        have f0 := InsAt.free HX.out.res 0
        have f1 := InsAt.free HX.out.res 1
        have f2 := InsAt.free HX.out.res 2
        have f3 := InsAt.free HX.out.res 3
        have f4 := InsAt.free HX.out.res 4
        have f5 := InsAt.free HX.out.res 5
        have f6 := InsAt.free HX.out.res 6
        have f7 := InsAt.free HX.out.res 7
        have f8 := InsAt.free HX.out.res 8
        go_wp2_with fail
        refine bodyPost_ret (results_cell rfl rfl (ins_load (ins_stored HX.out.res (readL s)))) rfl ⟨rfl, oth_stored HX.out.oth n (by have := HNN.out; omega) (readL s)⟩
end Go.Proofs.YtplneijbhmhmoaaGreatDoor
