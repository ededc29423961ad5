/-
  Proved here: the package insn's Text tells an instruction that may be as the chapter says, nothing and an error of another one, and writes nothing that was there. Condition: its number is of 64 bits; the table of powers of ten reads as the library lays it.
-/
import Derived.Test.YtbchecnidiiddaaGreatDoorInsnStand
import Derived.Test.YtbchecnidiiddaaGreatDoorInsnFieldW
import Derived.Test.YtbchecnidiiddaaGreatDoorInsnCheck
import Derived.Laws.RangeString
namespace Go.Proofs.YtbchecnidiiddaaGreatDoor
open Go.RowKit

def lettersL : List UInt8 := [100, 49, 50, 105, 109, 112, 115, 32, 44, 40, 41]
theorem letters_all : ∀ k : Fin 88, ∀ c ∈ shapeS (k.1 : Nat), c ∈ lettersL := by decide +kernel
theorem field_any (i : Ins) (hm : May i) (hi0 : -9223372036854775808 ≤ i.imm) (hi1 : i.imm ≤ 9223372036854775807) (c : UInt8) (hc : c ∈ lettersL) (b : Nat) (l : List UInt8) (w : World) (h : IsW b b l w) (hlen : l.length ≤ 1000) (htab : Lib.TabIs Tryz.prog w "internal/strconv.uint64pow10" .u64 Lib.pow10Tab) :
    Calls Tryz.prog 32 #[.pointer (some ⟨b, 0, none⟩), .int .i32 (c.toNat : Nat), i.V] w fun e w' => e = .returned (.tuple #[]) ∧ Wrote b (l ++ fieldL i c) w w' := by
  simp only [lettersL, List.mem_cons, List.not_mem_nil, or_false] at hc
  rcases hc with rfl | rfl | rfl | rfl | rfl | rfl | rfl | rfl | rfl | rfl | rfl
  · exact field_100 i hm b l w h hlen
  · exact field_49 i hm b l w h hlen
  · exact field_50 i hm b l w h hlen
  · exact field_105 i hi0 hi1 b l w h hlen htab
  · exact field_109 i b l w h hlen
  · exact field_112 i hm b l w h hlen
  · exact field_115 i hm b l w h hlen
  · exact field_32 i b l w h hlen
  · exact field_44 i b l w h hlen
  · exact field_40 i b l w h hlen
  · exact field_41 i b l w h hlen
theorem IsW.below {b : Nat} {l : List UInt8} {w w' : World} (h : IsW b b l w) (hb : Below w.heap.size w w') : Wrote b l w w' := by
  have key : ∀ p, WB b b p l w → WB b b p l w' := by
    rintro p ⟨hB, v, hbk, hown, hne⟩
    refine ⟨hB, v, (hb.block b (Array.getElem?_eq_some_iff.1 hbk).1).trans hbk, ⟨hown.1, ?_⟩, hne⟩
    rcases hown.2 with hn | ⟨g, cap, cur, hv, hbg, hg, rest⟩
    · exact .inl hn
    · exact .inr ⟨g, cap, cur, hv, hbg, (hb.block g (Array.getElem?_eq_some_iff.1 hg).1).trans hg, rest⟩
  refine ⟨?_, hb.mono (Nat.le_of_lt h.lt), fun k o hk _ _ => (hb.block k (Array.getElem?_eq_some_iff.1 hk).1).trans hk⟩
  rcases h with h | h
  · exact .inl (key _ h)
  · exact .inr (key _ h)
theorem fresh_w (w : World) : IsW w.heap.size w.heap.size [] (w.alloc (.cells #[.pointer none, .slice none 0 0] 86)) := by
  refine Or.inl ⟨Nat.le_refl _, .slice none 0 0, heap_new _ _, ?_, ?_⟩
  · exact ⟨by simp [Lib.byteCells], Or.inl ⟨rfl, by simp [Lib.byteCells]⟩⟩
  · simp [Value.ownBlock]
set_option maxRecDepth 100000 in
set_option maxHeartbeats 2000000 in
theorem Text_none (i : Ins) (h : i.ok = false) (w : World) :
    Calls Tryz.prog 19 #[i.V] w fun e w' => e = .returned (.tuple #[.string ⟨#[]⟩, .int .i64 2]) ∧ Below w.heap.size w w' := by
  have H : Hid (errI (checkB i.op i.rd i.rs1 i.rs2 i.imm i.aq i.rl i.pred i.succ) = 2) := Lib.hid (by have h' : checkB i.op i.rd i.rs1 i.rs2 i.imm i.aq i.rl i.pred i.succ = false := h; rw [h']; rfl)
  clear h
  go_enter Tryz.func19, Tryz.ntmps19
  go_wp2_with (go_at_call 26; (with_reducible refine (Check_any i.op i.rd i.rs1 i.rs2 i.imm i.aq i.rl i.pred i.succ _).mono ?_); rintro e w1 ⟨rfl, hb1⟩; rw [H.out]; have HB := Lib.hid hb1; clear hb1)
  go_ret2
  exact ⟨rfl, ((Below.refl _ _).alloc (Nat.le_refl _) _).trans (HB.out.mono (by simp))⟩
theorem shape_row (op : Int) (S : ByteArray) (hS : Hid (S.data.toList = shapeS op)) (w : World) : Calls Tryz.prog 31 #[.int .i64 op, .int .i64 (formOf op)] w fun e w' => e = .returned (.string S) ∧ Below w.heap.size w w' := by
  have h := form_hi op
  have e : S = ⟨(shapeOf op (formOf op)).toArray⟩ := by
    have h2 : S.data.toList = shapeOf op (formOf op) := hS.out
    rw [← h2]
  rw [e]
  exact shape_any op (formOf op) h.1 h.2 w
/-- what stands when the loop over the shape is at its head -/
def TextAt (i : Ins) (S : ByteArray) (n b it : Nat) (w0 wr : World) (pos : Nat) : Prop :=
  wr.heap[it]? = some (.stringIter S pos) ∧ IsW b b (nameOf i.op ++ (S.data.toList.take pos).flatMap (fieldL i)) wr ∧ InsAt i n wr ∧ Below (n + 1) w0 wr
theorem text_step (i : Ins) (S : ByteArray) (n b it pos : Nat) (w0 wr w1 : World) (hn : n < b) (hib : it ≠ b) (hni : n < it) (hp : pos < S.size) (h : TextAt i S n b it w0 wr pos)
    (h1 : Wrote b (nameOf i.op ++ (S.data.toList.take pos).flatMap (fieldL i) ++ fieldL i (S[pos]'hp)) (wr.iterAt it S (pos + 1)) w1) : TextAt i S n b it w0 w1 (pos + 1) := by
  obtain ⟨a1, a2, a3, a4⟩ := h
  obtain ⟨c1, c2, c3⟩ := h1
  have hit : it < wr.heap.size := (Array.getElem?_eq_some_iff.1 a1).1
  have hl : pos < S.data.toList.length := by rw [← Lib.size_eq]; exact hp
  have hne : it ≠ n := by omega
  refine ⟨Lib.OthersKept.iter c3 (Lib.iterAt_heap wr it S pos (pos + 1) a1) hib, ?_, ?_, ?_⟩
  · have e : (S.data.toList.take (pos + 1)).flatMap (fieldL i) = (S.data.toList.take pos).flatMap (fieldL i) ++ fieldL i (S[pos]'hp) := by
      rw [List.take_succ_eq_append_getElem hl, List.flatMap_append]
      simp; rfl
    rw [e, ← List.append_assoc]; exact c1
  · exact ((c2.block n hn).trans (Lib.iterAt_other wr it n S (pos + 1) (Ne.symm hne))).trans a3
  · refine (a4.trans ?_).trans (c2.mono (by omega))
    exact ⟨rfl, rfl, rfl, by rw [Lib.iterAt_size]; exact Nat.le_refl _, fun k hk => Lib.iterAt_other wr it k S (pos + 1) (by omega)⟩
theorem letters_ascii : ∀ c ∈ lettersL, c.toNat < 128 := by decide
theorem letter_in (i : Ins) (hm : May i) (S : ByteArray) (hS : S.data.toList = shapeS i.op) (pos : Nat) (hp : pos < S.size) : (S[pos]'hp) ∈ lettersL := by
  obtain ⟨k, e, hk, hk0⟩ := hm.op
  have h := letters_all ⟨k, hk⟩
  simp only at h
  rw [e] at hS
  refine h _ ?_
  rw [← hS]
  have hl : pos < S.data.toList.length := by rw [← Lib.size_eq]; exact hp
  exact (List.getElem_mem hl : S.data.toList[pos] ∈ S.data.toList)
theorem part_len (i : Ins) (hm : May i) (hi0 : -9223372036854775808 ≤ i.imm) (hi1 : i.imm ≤ 9223372036854775807) (S : ByteArray) (hS : S.data.toList = shapeS i.op) (pos : Nat) : (nameOf i.op ++ (S.data.toList.take pos).flatMap (fieldL i)).length ≤ 1000 := by
  have h := text_len i hm hi0 hi1
  unfold textL at h
  rw [← hS, ← List.take_append_drop pos S.data.toList, List.flatMap_append] at h
  simp only [List.length_append] at h ⊢
  omega
theorem text_next (i : Ins) (S : ByteArray) (n b it pos : Nat) (w w0 wr : World) (hw0 : Below n w w0) (hni : n < it) (h : TextAt i S n b it w0 wr pos) :
    IsW b b (nameOf i.op ++ (S.data.toList.take pos).flatMap (fieldL i)) (wr.iterAt it S (pos + 1)) ∧ InsAt i n (wr.iterAt it S (pos + 1)) ∧ Below n w (wr.iterAt it S (pos + 1)) := by
  obtain ⟨a1, a2, a3, a4⟩ := h
  refine ⟨IsW.iterAt a2 a1 _, (Lib.iterAt_other wr it n S (pos + 1) (by omega)).trans a3, ?_⟩
  refine (hw0.trans (a4.mono (by omega))).trans ?_
  exact ⟨rfl, rfl, rfl, by rw [Lib.iterAt_size]; exact Nat.le_refl _, fun k hk => Lib.iterAt_other wr it k S (pos + 1) (by omega)⟩
theorem text_iter {i : Ins} {S : ByteArray} {n b it pos : Nat} {w0 wr : World} (h : TextAt i S n b it w0 wr pos) : wr.heap[it]? = some (.stringIter S pos) := h.1
theorem wrote_ins {i : Ins} {n b : Nat} {l : List UInt8} {w w' : World} (h : InsAt i n w) (hn : n < b) (h1 : Wrote b l w w') : InsAt i n w' := h.below h1.2.1 hn
theorem row_kept {b r : Nat} {l : List UInt8} {w w' : World} {cs : Array Value} (hr : w.heap[r]? = some (.cells cs 88 (0, 0))) (hb : r ≠ b) (h1 : Wrote b l w w') : w'.heap[r]? = some (.cells cs 88 (0, 0)) :=
  h1.2.2 r _ hr (fun e => hb (Option.some.inj e)) (fun c fz e => by injection e with _ h2; exact absurd h2 (by decide))
theorem name_len : ∀ k : Fin 88, (nameOf (k.1 : Nat)).length ≤ 20 := by decide +kernel
theorem nameOf_len (op : Int) : (nameOf op).length ≤ 20 := by
  by_cases h : op < 0 ∨ 88 ≤ op
  · unfold nameOf; rw [row_none op h]; decide
  · have := name_len ⟨op.toNat, by omega⟩
    simpa [Int.toNat_of_nonneg (show 0 ≤ op by omega)] using this
set_option maxRecDepth 100000 in
set_option maxHeartbeats 4000000 in
theorem Text_some (i : Ins) (h : i.ok = true) (hi0 : -9223372036854775808 ≤ i.imm) (hi1 : i.imm ≤ 9223372036854775807) (w : World) (htab : Lib.TabIs Tryz.prog w "internal/strconv.uint64pow10" .u64 Lib.pow10Tab) :
    Calls Tryz.prog 19 #[i.V] w fun e w' => e = .returned (.tuple #[.string ⟨(textL i).toArray⟩, .int .i64 0]) ∧ Below w.heap.size w w' := by
  have H : Hid (errI (checkB i.op i.rd i.rs1 i.rs2 i.imm i.aq i.rl i.pred i.succ) = 0) := Lib.hid (by have h' : checkB i.op i.rd i.rs1 i.rs2 i.imm i.aq i.rl i.pred i.succ = true := h; rw [h']; rfl)
  have HM := Lib.hid (may_of i h)
  have HT := Lib.hid (Lib.tabBelow_of_tabIs htab)
  obtain ⟨S, hS⟩ : ∃ S : ByteArray, S.data.toList = shapeS i.op := ⟨⟨(shapeS i.op).toArray⟩, by simp⟩
  have HS := Lib.hid hS
  clear h htab hS
  have HNL := Lib.hid (nameOf_len i.op)
  go_enter Tryz.func19, Tryz.ntmps19
  go_wp2_with (go_at_call 26; (with_reducible refine (Check_any i.op i.rd i.rs1 i.rs2 i.imm i.aq i.rl i.pred i.succ _).mono ?_); rintro e w1 ⟨rfl, hb1⟩; rw [H.out]; have HI1 : Hid (InsAt i w.heap.size w1) := Lib.hid (InsAt.below (heap_new _ _) hb1 (by simp)); obtain ⟨hz1, c0, -⟩ := InsAt.facts HI1.out; have HB1 := Lib.hid hb1; clear hb1)
  go_wp2_with (go_at_call 29; (with_reducible refine (look_row i.op _).mono ?_); rintro e w2 ⟨rfl, hb2⟩; have HB2 := Lib.hid hb2; have HW2 : Hid (IsW w1.heap.size w1.heap.size [] w2) := Lib.hid (IsW.below (fresh_w w1) hb2).is; have HI2 : Hid (InsAt i w.heap.size w2) := Lib.hid ((InsAt.alloc HI1.out _).below hb2 (by simp; omega)); have hz2 : w1.heap.size < w2.heap.size := HW2.out.lt; obtain ⟨-, c0, -⟩ := InsAt.facts HI2.out; clear hb2)
  go_wp2_with (go_at_call 30; (with_reducible refine (put_one (nameOf i.op) w1.heap.size [] _ _ (Lib.hid (by simp)) (IsW.alloc HW2.out _) (by have := HNL.out; simp; omega)).mono ?_); rintro e w3 ⟨rfl, hw3⟩; have HW3 := Lib.hid hw3; clear hw3; have HR3 := Lib.hid (row_kept (heap_new w2 _) (by omega) HW3.out); have hd1 : w3.cell? ⟨w2.heap.size, 1, none⟩ = some (.int .i64 (formOf i.op)) := (Lib.cell_of_heap HR3.out 1).trans rfl; have HI3 : Hid (InsAt i w.heap.size w3) := Lib.hid (wrote_ins (InsAt.alloc HI2.out _) (by omega) HW3.out); obtain ⟨hz3, c0, -⟩ := InsAt.facts HI3.out)
  go_wp2_with (go_at_call 31; (with_reducible refine (shape_row i.op S HS _).mono ?_); rintro e w4 ⟨rfl, hb4⟩; have HB4 := Lib.hid hb4; clear hb4)
  have hs4 : Wrote w1.heap.size (nameOf i.op) w3 w4 := IsW.below HW3.out.is HB4.out
  have HX4 : Hid (TextAt i S w.heap.size w1.heap.size w4.heap.size (w.alloc (.cells (insCells i) 23)) (w4.alloc (.stringIter S 0)) 0) := Lib.hid ⟨heap_new _ _, by simpa using IsW.alloc hs4.is _, InsAt.alloc (wrote_ins HI3.out (by omega) hs4) _, ((((HB1.out.mono (B' := w.heap.size + 1) (by simp)).trans (((Below.refl _ _).alloc (by omega) _).trans (HB2.out.mono (by simp; omega)))).trans (((Below.refl _ _).alloc (by omega) _).trans (HW3.out.2.1.mono (by omega)))).trans (hs4.2.1.mono (by omega))).alloc (by have := hs4.is.lt; omega) _⟩
  have hb4 := hs4.is.lt
  clear hs4 c0 hd1
  have HLT := Lib.hid (show w.heap.size < w1.heap.size ∧ w.heap.size < w4.heap.size ∧ w4.heap.size ≠ w1.heap.size from ⟨hz1, by omega, by omega⟩)
  have HW0 := Lib.hid (show Below w.heap.size w (w.alloc (.cells (insCells i) 23)) from (Below.refl _ _).alloc (Nat.le_refl _) _)
  clear hz1 hz2 hz3 hb4
  generalize hn : w.heap.size = n at *
  generalize hbb : w1.heap.size = b at *
  generalize hit0 : w4.heap.size = it at *
  generalize hW0 : w.alloc (.cells (insCells i) 23) = W0 at *
  go_loopw [] (fun wr => ∃ pos, pos ≤ S.size ∧ TextAt i S n b it W0 wr pos) (fun wr => S.size - wr.iterPos it)
  case atStart => exact ⟨0, Nat.zero_le _, HX4.out⟩
  case round =>
    obtain ⟨pos, hpos, hx⟩ := hrel
    have HX := Lib.hid hx
    clear hx
    have hit := text_iter HX.out
    by_cases hp : pos < S.size
    · have hc := letter_in i HM.out S HS.out pos hp
      have hnx : ∀ ty, (Instr.next (.pointer (some ⟨it, 0, none⟩)) true ty).run Tryz.prog wr = _ := fun ty => Lib.run_next_ascii_at wr it S pos ty hit hp (letters_ascii _ hc)
      obtain ⟨hx1, hx2, hx3⟩ := text_next i S n b it pos w W0 wr HW0.out HLT.out.2.1 HX.out
      have HX1 := Lib.hid hx1
      obtain ⟨hz, c0, c1, c2, c3, c4, c5, c6, c7, c8⟩ := InsAt.facts hx2
      have HT2 := Lib.hid (HT.out _ hx3)
      have HC := Lib.hid hc
      have HN := Lib.hid (part_len i HM.out hi0 hi1 S HS.out pos)
      have HIT := Lib.hid hit
      clear hx1 hx2 hx3 hc hit hz
      go_wp2_with (go_at_call 32; (with_reducible refine (field_any i HM.out hi0 hi1 _ HC.out b _ _ HX1.out HN.out HT2.out).mono ?_); rintro e w5 ⟨rfl, hw5⟩; have HW5 := Lib.hid hw5; clear hw5)
      go_roundw
      case rel => exact ⟨pos + 1, by omega, text_step i S n b it pos W0 wr w5 HLT.out.1 HLT.out.2.2 HLT.out.2.1 hp HX.out HW5.out⟩
      case measure =>
        have h5 := text_iter (text_step i S n b it pos W0 wr w5 HLT.out.1 HLT.out.2.2 HLT.out.2.1 hp HX.out HW5.out)
        simp only [World.iterPos, h5, HIT.out]
        omega
    · have hnx : ∀ ty, (Instr.next (.pointer (some ⟨it, 0, none⟩)) true ty).run Tryz.prog wr = _ := fun ty => Lib.run_next_end_at wr it S pos ty hit hp
      have HIT := Lib.hid hit
      clear hit
      have hl : IsW b b (textL i) wr := by
        have h2 := HX.out.2.1
        rw [List.take_of_length_le (by rw [← Lib.size_eq]; omega), HS.out] at h2
        exact h2
      have HL := Lib.hid hl
      clear hl
      go_wp2_with (go_at_call 33; (with_reducible refine (String_w b b (textL i) _ HL.out (text_ne i HM.out)).mono ?_); rintro e w5 ⟨rfl, hb5⟩; have HB5 := Lib.hid hb5; clear hb5)
      go_ret2
      refine ⟨rfl, ?_⟩
      rw [hn]
      exact (HW0.out.trans (HX.out.2.2.2.mono (by omega))).trans (HB5.out.mono (by have := HLT.out.1; omega))
/-- what Text answers -/
def toldL (i : Ins) : List UInt8 := if i.ok then textL i else []
theorem Text_any (i : Ins) (hi0 : -9223372036854775808 ≤ i.imm) (hi1 : i.imm ≤ 9223372036854775807) (w : World) (htab : Lib.TabIs Tryz.prog w "internal/strconv.uint64pow10" .u64 Lib.pow10Tab) :
    Calls Tryz.prog 19 #[i.V] w fun e w' => e = .returned (.tuple #[.string ⟨(toldL i).toArray⟩, .int .i64 (errI i.ok)]) ∧ Below w.heap.size w w' := by
  cases h : i.ok
  · unfold toldL; rw [h]; exact Text_none i h w
  · unfold toldL; rw [h]; exact Text_some i h hi0 hi1 w htab
end Go.Proofs.YtbchecnidiiddaaGreatDoor
