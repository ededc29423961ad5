/-
  Proved here: the law CodeBack answers true, and writes nothing that was there. Conditions: the numbers of both instructions are of 64 bits; one goroutine.
-/
import Derived.Test.YtfgfkpiddlehjaaGreatCodeLives
import Derived.Deep.DeepCutAuto
namespace Go.Proofs.YtfgfkpiddlehjaaGreat
set_option linter.unusedVariables false
open Go.RowKit

/-- what stands behind the two boxed arguments -/
structure Stand2 (i o : Ins) (w w' : World) : Prop where
  one : InsAt i w.heap.size w'
  two : InsAt o (w.heap.size + 1) w'
  below : Below w.heap.size w w'
theorem Stand2.start (i o : Ins) (w : World) : Stand2 i o w ((w.alloc (.cells (insCells i) 23)).alloc (.cells (insCells o) 23)) := by
  have h1 : InsAt i w.heap.size (w.alloc (.cells (insCells i) 23)) := heap_new w _
  have h2 := heap_new (w.alloc (.cells (insCells i) 23)) (.cells (insCells o) 23)
  simp only [World.size_alloc] at h2
  exact ⟨h1.below (one_box _ _) (by simp), h2, ((Below.refl _ _).alloc (Nat.le_refl _) _).alloc (by simp) _⟩
theorem Stand2.on {i o : Ins} {w w1 w2 : World} (h : Stand2 i o w w1) (hb : Below w1.heap.size w1 w2) : Stand2 i o w w2 :=
  ⟨h.one.below hb h.one.facts.1, h.two.below hb h.two.facts.1, h.below.trans (hb.mono h.below.size)⟩
theorem ins_ext {i o : Ins} (h0 : i.op = o.op) (h1 : i.rd = o.rd) (h2 : i.rs1 = o.rs1) (h3 : i.rs2 = o.rs2) (h4 : i.imm = o.imm) (h5 : i.aq = o.aq) (h6 : i.rl = o.rl) (h7 : i.pred = o.pred) (h8 : i.succ = o.succ) : i = o := by
  cases i; cases o; simp_all
theorem new_ins (i : Ins) (w : World) : InsAt i w.heap.size (w.alloc (.cells (insCells i) 23)) := heap_new w _
theorem Insn_at' (b : BitVec 64) (i : Ins) (X : Int) (hg : Hid (goodW b = true)) (hr : Hid (readW b = i)) (hX : Hid (U b = X)) (w : World) : Calls Tryz.prog 7 #[.int .u32 X] w fun e w' => Ret2 i.V (.int .i64 0) w e w' := by
  rw [← hX.out]; exact Insn_yes b i hg hr w
theorem i64_of (i : Ins) (h : I64 i.imm) : -9223372036854775808 ≤ i.imm ∧ i.imm ≤ 9223372036854775807 := h
theorem good_of (b : BitVec 64) (h : goodW b = true) : (readW b).ok = true ∧ wordL (readW b) = b := by
  unfold goodW at h
  simpa [Bool.and_eq_true] using h
set_option maxRecDepth 100000 in
set_option maxHeartbeats 8000000 in
theorem codeBack_any (i o : Ins) (hi : I64 i.imm) (ho : I64 o.imm) (b : BitVec 64) (w : World) :
    Calls Tryz.prog 3 #[i.V, o.V, .int .u32 (U b)] w fun e w' => e = .returned (.bool true) ∧ Below w.heap.size w w' := by
  have HI2 := Lib.hid hi
  have HO2 := Lib.hid ho
  have HI := Lib.hid (i64_of i hi)
  have HJ := Lib.hid (i64_of o ho)
  have S0 := Lib.hid (Stand2.start i o w)
  clear hi ho
  go_enter Tryz.func3, Tryz.ntmps3
  go_upto_region 3 with (go_at_call 6; (with_reducible refine (lives_any _).mono ?_); rintro e w1 ⟨rfl, hb⟩; have S1 := Lib.hid (S0.out.on hb); clear hb)
  cases hg : goodW b
  · have HG := Lib.hid hg
    clear hg
    go_upto_region 8 with (go_at_call 7; (with_reducible refine (Insn_no b HG _).mono ?_); rintro e w2 ⟨rfl, hb⟩; have S2 := Lib.hid (S1.out.on hb); clear hb)
    have S3 := Lib.hid (S2.out.on (one_box w2 (.cells (insCells (Ins.none 0)) 23)))
    obtain ⟨-, a0, a1, a2, a3, a4, a5, a6, a7, a8⟩ := S3.out.one.facts
    cases hok : i.ok
    · have HK := Lib.hid hok
      clear hok
      go_wp2_with (first
        | (go_at_call 8; (with_reducible refine (Word_no i HK _).mono ?_); rintro e w6 ⟨rfl, hb⟩; have T6 := Lib.hid (S3.out.on hb); clear hb a0 a1 a2 a3 a4 a5 a6 a7 a8; obtain ⟨-, a0, a1, a2, a3, a4, a5, a6, a7, a8⟩ := T6.out.one.facts)
        | (go_at_call 9; (with_reducible refine (rCheck_no i HK HI _).mono ?_); rintro e w7 ⟨rfl, hb⟩; have T7 := Lib.hid (T6.out.on hb); clear hb))
      go_ret
      exact ⟨rfl, T7.out.below⟩
    · have HK := Lib.hid hok
      have HGW := Lib.hid (good_word i hok HI2.out)
      have HG1 := Lib.hid HGW.out.1
      have HG2 := Lib.hid HGW.out.2
      obtain ⟨X, hX⟩ : ∃ X, U (wordL i) = X := ⟨_, rfl⟩
      have HWI := Lib.hid hX
      clear hX
      clear hok
      go_upto_region 12 with (first
        | (go_at_call 8; (with_reducible refine (Word_yes i HK HI2 _ HWI _).mono ?_); rintro e w6 ⟨rfl, hb⟩; have T6 := Lib.hid (S3.out.on hb); clear hb)
        | (go_at_call 7; (with_reducible refine (Insn_at' (wordL i) i X HG1 HG2 HWI _).mono ?_); rintro e w7 ⟨rfl, hb⟩; have T7 := Lib.hid (T6.out.on hb); clear hb))
      have T8 := Lib.hid (T7.out.on (one_box w7 (.cells (insCells i) 23)))
      have Y8 := Lib.hid (new_ins i w7)
      clear a0 a1 a2 a3 a4 a5 a6 a7 a8
      obtain ⟨-, p0, p1, p2, p3, p4, p5, p6, p7, p8⟩ := T8.out.two.facts
      cases hko : o.ok
      · have HO := Lib.hid hko
        clear hko
        go_wp2_with (go_at_call 8; (with_reducible refine (Word_no o HO _).mono ?_); rintro e w9 ⟨rfl, hb⟩; have T9 := Lib.hid (T8.out.on hb); have Y9 := Lib.hid (Y8.out.below hb Y8.out.facts.1); clear hb p0 p1 p2 p3 p4 p5 p6 p7 p8; obtain ⟨-, a0, a1, a2, a3, a4, a5, a6, a7, a8⟩ := T9.out.one.facts; obtain ⟨-, y0, y1, y2, y3, y4, y5, y6, y7, y8⟩ := Y9.out.facts)
        go_ret
        exact ⟨rfl, T9.out.below⟩
      · have HO := Lib.hid hko
        obtain ⟨Y, hY⟩ : ∃ Y, U (wordL o) = Y := ⟨_, rfl⟩
        have HWO := Lib.hid hY
        clear hY
        by_cases hio : i = o
        · subst hio
          have hq : (X == Y) = true := by rw [← HWI.out, ← HWO.out]; simp
          clear hko
          go_wp2_with (go_at_call 8; (with_reducible refine (Word_yes i HO HO2 _ HWO _).mono ?_); rintro e w9 ⟨rfl, hb⟩; have T9 := Lib.hid (T8.out.on hb); have Y9 := Lib.hid (Y8.out.below hb Y8.out.facts.1); clear hb p0 p1 p2 p3 p4 p5 p6 p7 p8; obtain ⟨-, a0, a1, a2, a3, a4, a5, a6, a7, a8⟩ := T9.out.one.facts; obtain ⟨-, o0, o1, o2, o3, o4, o5, o6, o7, o8⟩ := T9.out.two.facts; obtain ⟨-, y0, y1, y2, y3, y4, y5, y6, y7, y8⟩ := Y9.out.facts)
          go_ret
          exact ⟨rfl, T9.out.below⟩
        · have hq : (X == Y) = false := by
            have : ¬ X = Y := fun h => hio (word_inj i o ⟨may_of i HK.out, HI.out.1, HI.out.2⟩ ⟨may_of o hko, HJ.out.1, HJ.out.2⟩ (U_inj (HWI.out.trans (h.trans HWO.out.symm))))
            simpa using this
          have HIO := Lib.hid hio
          clear hio hko
          go_wp2_with (go_at_call 8; (with_reducible refine (Word_yes o HO HO2 _ HWO _).mono ?_); rintro e w9 ⟨rfl, hb⟩; have T9 := Lib.hid (T8.out.on hb); have Y9 := Lib.hid (Y8.out.below hb Y8.out.facts.1); clear hb p0 p1 p2 p3 p4 p5 p6 p7 p8; obtain ⟨-, a0, a1, a2, a3, a4, a5, a6, a7, a8⟩ := T9.out.one.facts; obtain ⟨-, o0, o1, o2, o3, o4, o5, o6, o7, o8⟩ := T9.out.two.facts; obtain ⟨-, y0, y1, y2, y3, y4, y5, y6, y7, y8⟩ := Y9.out.facts)
          all_goals (go_ret; first | exact ⟨rfl, T9.out.below⟩ | exact absurd (ins_ext (by assumption) (by assumption) (by assumption) (by assumption) (by assumption) (by assumption) (by assumption) (by assumption) (by assumption) ) HIO.out)
  · obtain ⟨x, hx⟩ : ∃ x, readW b = x := ⟨_, rfl⟩
    have HG := Lib.hid hg
    have HX := Lib.hid hx
    have hgo := good_of b hg
    have him := readW_imm b
    rw [hx] at hgo him
    have HXK := Lib.hid hgo.1
    have HXW : Hid (U (wordL x) = U b) := Lib.hid (by rw [hgo.2])
    have HXI := Lib.hid him
    have HXI2 : Hid (I64 x.imm) := Lib.hid him
    clear hg hx hgo him
    go_upto_region 4 with (go_at_call 7; (with_reducible refine (Insn_yes b x HG HX _).mono ?_); rintro e w2 ⟨rfl, hb⟩; have S2 := Lib.hid (S1.out.on hb); clear hb)
    have S3 := Lib.hid (S2.out.on (one_box w2 (.cells (insCells x) 23)))
    have X3 := Lib.hid (new_ins x w2)
    obtain ⟨-, c0, c1, c2, c3, c4, c5, c6, c7, c8⟩ := X3.out.facts
    go_upto_region 8 with (first
      | (go_at_call 8; (with_reducible refine (Word_yes x HXK HXI2 _ HXW _).mono ?_); rintro e w4 ⟨rfl, hb⟩; have S4 := Lib.hid (S3.out.on hb); have X4 := Lib.hid (X3.out.below hb X3.out.facts.1); clear hb c0 c1 c2 c3 c4 c5 c6 c7 c8; obtain ⟨-, c0, c1, c2, c3, c4, c5, c6, c7, c8⟩ := X4.out.facts)
      | (go_at_call 9; (with_reducible refine (rCheck_ok x HXK HXI _).mono ?_); rintro e w5 ⟨rfl, hb⟩; have S5 := Lib.hid (S4.out.on hb); clear hb c0 c1 c2 c3 c4 c5 c6 c7 c8))
    obtain ⟨-, a0, a1, a2, a3, a4, a5, a6, a7, a8⟩ := S5.out.one.facts
    cases hok : i.ok
    · have HK := Lib.hid hok
      clear hok
      go_wp2_with (first
        | (go_at_call 8; (with_reducible refine (Word_no i HK _).mono ?_); rintro e w6 ⟨rfl, hb⟩; have T6 := Lib.hid (S5.out.on hb); clear hb a0 a1 a2 a3 a4 a5 a6 a7 a8; obtain ⟨-, a0, a1, a2, a3, a4, a5, a6, a7, a8⟩ := T6.out.one.facts)
        | (go_at_call 9; (with_reducible refine (rCheck_no i HK HI _).mono ?_); rintro e w7 ⟨rfl, hb⟩; have T7 := Lib.hid (T6.out.on hb); clear hb))
      go_ret
      exact ⟨rfl, T7.out.below⟩
    · have HK := Lib.hid hok
      have HGW := Lib.hid (good_word i hok HI2.out)
      have HG1 := Lib.hid HGW.out.1
      have HG2 := Lib.hid HGW.out.2
      obtain ⟨X, hX⟩ : ∃ X, U (wordL i) = X := ⟨_, rfl⟩
      have HWI := Lib.hid hX
      clear hX
      clear hok
      go_upto_region 12 with (first
        | (go_at_call 8; (with_reducible refine (Word_yes i HK HI2 _ HWI _).mono ?_); rintro e w6 ⟨rfl, hb⟩; have T6 := Lib.hid (S5.out.on hb); clear hb)
        | (go_at_call 7; (with_reducible refine (Insn_at' (wordL i) i X HG1 HG2 HWI _).mono ?_); rintro e w7 ⟨rfl, hb⟩; have T7 := Lib.hid (T6.out.on hb); clear hb))
      have T8 := Lib.hid (T7.out.on (one_box w7 (.cells (insCells i) 23)))
      have Y8 := Lib.hid (new_ins i w7)
      clear a0 a1 a2 a3 a4 a5 a6 a7 a8
      obtain ⟨-, p0, p1, p2, p3, p4, p5, p6, p7, p8⟩ := T8.out.two.facts
      cases hko : o.ok
      · have HO := Lib.hid hko
        clear hko
        go_wp2_with (go_at_call 8; (with_reducible refine (Word_no o HO _).mono ?_); rintro e w9 ⟨rfl, hb⟩; have T9 := Lib.hid (T8.out.on hb); have Y9 := Lib.hid (Y8.out.below hb Y8.out.facts.1); clear hb p0 p1 p2 p3 p4 p5 p6 p7 p8; obtain ⟨-, a0, a1, a2, a3, a4, a5, a6, a7, a8⟩ := T9.out.one.facts; obtain ⟨-, y0, y1, y2, y3, y4, y5, y6, y7, y8⟩ := Y9.out.facts)
        go_ret
        exact ⟨rfl, T9.out.below⟩
      · have HO := Lib.hid hko
        obtain ⟨Y, hY⟩ : ∃ Y, U (wordL o) = Y := ⟨_, rfl⟩
        have HWO := Lib.hid hY
        clear hY
        by_cases hio : i = o
        · subst hio
          have hq : (X == Y) = true := by rw [← HWI.out, ← HWO.out]; simp
          clear hko
          go_wp2_with (go_at_call 8; (with_reducible refine (Word_yes i HO HO2 _ HWO _).mono ?_); rintro e w9 ⟨rfl, hb⟩; have T9 := Lib.hid (T8.out.on hb); have Y9 := Lib.hid (Y8.out.below hb Y8.out.facts.1); clear hb p0 p1 p2 p3 p4 p5 p6 p7 p8; obtain ⟨-, a0, a1, a2, a3, a4, a5, a6, a7, a8⟩ := T9.out.one.facts; obtain ⟨-, o0, o1, o2, o3, o4, o5, o6, o7, o8⟩ := T9.out.two.facts; obtain ⟨-, y0, y1, y2, y3, y4, y5, y6, y7, y8⟩ := Y9.out.facts)
          go_ret
          exact ⟨rfl, T9.out.below⟩
        · have hq : (X == Y) = false := by
            have : ¬ X = Y := fun h => hio (word_inj i o ⟨may_of i HK.out, HI.out.1, HI.out.2⟩ ⟨may_of o hko, HJ.out.1, HJ.out.2⟩ (U_inj (HWI.out.trans (h.trans HWO.out.symm))))
            simpa using this
          have HIO := Lib.hid hio
          clear hio hko
          go_wp2_with (go_at_call 8; (with_reducible refine (Word_yes o HO HO2 _ HWO _).mono ?_); rintro e w9 ⟨rfl, hb⟩; have T9 := Lib.hid (T8.out.on hb); have Y9 := Lib.hid (Y8.out.below hb Y8.out.facts.1); clear hb p0 p1 p2 p3 p4 p5 p6 p7 p8; obtain ⟨-, a0, a1, a2, a3, a4, a5, a6, a7, a8⟩ := T9.out.one.facts; obtain ⟨-, o0, o1, o2, o3, o4, o5, o6, o7, o8⟩ := T9.out.two.facts; obtain ⟨-, y0, y1, y2, y3, y4, y5, y6, y7, y8⟩ := Y9.out.facts)
          all_goals (go_ret; first | exact ⟨rfl, T9.out.below⟩ | exact absurd (ins_ext (by assumption) (by assumption) (by assumption) (by assumption) (by assumption) (by assumption) (by assumption) (by assumption) (by assumption) ) HIO.out)
end Go.Proofs.YtfgfkpiddlehjaaGreat
