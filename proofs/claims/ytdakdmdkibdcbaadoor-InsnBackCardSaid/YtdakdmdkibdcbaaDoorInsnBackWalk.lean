/-
  Proved here: the law InsnBack returns true, and writes nothing that was there. Conditions: the numbers of both instructions are of 64 bits; the tables and errors of Go's library read as it lays them.
-/
import Derived.Test.YtdakdmdkibdcbaaDoorInsnReadText
import Derived.Deep.DeepCutAuto
namespace Go.Proofs.YtdakdmdkibdcbaaDoor
open Go.RowKit

/-! ### what is read of texts -/
theorem good_text (i : Ins) (h : i.ok = true) (hi : I64 i.imm) : goodL (textL i) = true ∧ readL (textL i) = i := by
  have hb := back i h hi.1 hi.2
  refine ⟨?_, hb⟩
  unfold goodL; rw [hb, h]; simp
theorem bad_behind (t : List UInt8) : goodL (t ++ [32]) = false := by
  cases h : goodL (t ++ [32]) with
  | false => rfl
  | true =>
    unfold goodL at h
    simp only [Bool.and_eq_true, beq_iff_eq] at h
    have hl := text_last _ (may_of _ h.1)
    rw [h.2] at hl
    simp at hl
theorem bad_ahead (t : List UInt8) : goodL ([32] ++ t) = false := by
  cases h : goodL ([32] ++ t) with
  | false => rfl
  | true =>
    unfold goodL at h
    simp only [Bool.and_eq_true, beq_iff_eq] at h
    have hl := text_head _ (may_of _ h.1)
    rw [h.2] at hl
    simp at hl
theorem text_inj (i o : Ins) (h : i.ok = true) (hi : I64 i.imm) (k : o.ok = true) (ho : I64 o.imm) : (textL i == textL o) = decide (i = o) := by
  by_cases e : i = o
  · subst e; simp
  · have : ¬ textL i = textL o := fun h2 => by
      apply e
      have h3 := (good_text i h hi).2
      rw [h2, (good_text o k ho).2] at h3
      exact h3.symm
    simp [this, e]
theorem Read_at (S : ByteArray) (x : Ins) (e : Int) (hx : Hid (readI S.data.toList = x)) (he : Hid (readE S.data.toList = e)) (hs : S.size ≤ 10000) (w : World) (hL : Lay w.heap.size w) :
    Calls Tryd.prog 8 #[.string S] w fun e' w' => e' = .returned (.tuple #[x.V, .int .i64 e]) ∧ Below w.heap.size w w' := by
  rw [← hx.out, ← he.out]; exact Read_any S hs w hL
theorem app_list (S T : ByteArray) : (S ++ T).data.toList = S.data.toList ++ T.data.toList := by
  rw [ByteArray.data_append, Array.toList_append]
theorem Read_behind (T : ByteArray) (hs : T.size ≤ 60) (w : World) (hL : Lay w.heap.size w) :
    Calls Tryd.prog 8 #[.string (T ++ { data := #[32] })] w fun e' w' => e' = .returned (.tuple #[Ins.zero.V, .int .i64 4]) ∧ Below w.heap.size w w' := by
  have e : (T ++ ({ data := #[32] } : ByteArray)).data.toList = T.data.toList ++ [32] := app_list _ _
  have hb := bad_behind T.data.toList
  refine Read_at _ Ins.zero 4 (Lib.hid ?_) (Lib.hid ?_) ?_ w hL
  · unfold readI; rw [e, hb]; rfl
  · unfold readE; rw [e, hb]; rfl
  · rw [Lib.size_eq, e, List.length_append, ← Lib.size_eq]; simp; omega
theorem Read_ahead (T : ByteArray) (hs : T.size ≤ 60) (w : World) (hL : Lay w.heap.size w) :
    Calls Tryd.prog 8 #[.string ({ data := #[32] } ++ T)] w fun e' w' => e' = .returned (.tuple #[Ins.zero.V, .int .i64 4]) ∧ Below w.heap.size w w' := by
  have e : (({ data := #[32] } : ByteArray) ++ T).data.toList = [32] ++ T.data.toList := app_list _ _
  have hb := bad_ahead T.data.toList
  refine Read_at _ Ins.zero 4 (Lib.hid ?_) (Lib.hid ?_) ?_ w hL
  · unfold readI; rw [e, hb]; rfl
  · unfold readE; rw [e, hb]; rfl
  · rw [Lib.size_eq, e, List.length_append, ← Lib.size_eq]; simp; omega
theorem Lay.here {B : Nat} {w w' : World} (h : Lay B w) (hb : Below B w w') (hB : B ≤ w'.heap.size) : Lay w'.heap.size w' :=
  ⟨fun w2 h2 => h.1 w2 (hb.trans (h2.mono hB)), fun w2 h2 => h.2 w2 (hb.trans (h2.mono hB))⟩
/-- what stands behind the two boxed arguments -/
structure Stand2 (i o : Ins) (w w' : World) : Prop where
  one : InsAt i w.heap.size w'
  two : InsAt o (w.heap.size + 1) w'
  below : Below w.heap.size w w'
theorem Stand2.start (i o : Ins) (w : World) : Stand2 i o w ((w.alloc (.cells (insCells i) 23)).alloc (.cells (insCells o) 23)) :=
  ⟨InsAt.alloc (heap_new _ _) _, by have := heap_new (w.alloc (.cells (insCells i) 23)) (.cells (insCells o) 23); unfold InsAt; simpa using this, ((Below.refl _ _).alloc (Nat.le_refl _) _).alloc (by simp) _⟩
theorem Stand2.on {i o : Ins} {w w1 w2 : World} (h : Stand2 i o w w1) (hb : Below w1.heap.size w1 w2) : Stand2 i o w w2 :=
  ⟨h.one.below hb (Array.getElem?_eq_some_iff.1 h.one).1, h.two.below hb (Array.getElem?_eq_some_iff.1 h.two).1, h.below.trans (hb.mono h.below.size)⟩
theorem Stand2.alloc {i o : Ins} {w w1 : World} (h : Stand2 i o w w1) (x : Obj) : Stand2 i o w (w1.alloc x) := h.on ((Below.refl _ _).alloc (Nat.le_refl _) x)
theorem Stand2.lay {i o : Ins} {w w1 : World} (h : Stand2 i o w w1) (hL : Hid (Lay w.heap.size w)) : Lay w1.heap.size w1 := hL.out.here h.below h.below.size
theorem Stand2.tab {i o : Ins} {w w1 : World} (h : Stand2 i o w w1) (hL : Hid (Lay w.heap.size w)) : Tab w1 := hL.out.tab h.below
theorem text_at (i : Ins) (hi : I64 i.imm) (S : ByteArray) (hS : Hid (S.data.toList = toldL i)) (w : World) (ht : Tab w) : Calls Tryd.prog 10 #[i.V] w fun e w' => e = .returned (.string S) ∧ Below w.heap.size w w' :=
  text_S i hi.1 hi.2 S hS w ht
theorem Check_b0 (i : Ins) (hb : Hid (i.ok = true)) (w : World) : Calls Tryd.prog 9 #[i.V] w fun e w' => e = .returned (.int .i64 0) ∧ Below w.heap.size w w' := by
  have h := Check_any i.op i.rd i.rs1 i.rs2 i.imm i.aq i.rl i.pred i.succ w
  have e : checkB i.op i.rd i.rs1 i.rs2 i.imm i.aq i.rl i.pred i.succ = true := hb.out
  rw [e] at h; exact h
theorem Check_b2 (i : Ins) (hb : Hid (i.ok = false)) (w : World) : Calls Tryd.prog 9 #[i.V] w fun e w' => e = .returned (.int .i64 2) ∧ Below w.heap.size w w' := by
  have h := Check_any i.op i.rd i.rs1 i.rs2 i.imm i.aq i.rl i.pred i.succ w
  have e : checkB i.op i.rd i.rs1 i.rs2 i.imm i.aq i.rl i.pred i.succ = false := hb.out
  rw [e] at h; exact h
theorem ins_ext {i o : Ins} (h0 : i.op = o.op) (h1 : i.rd = o.rd) (h2 : i.rs1 = o.rs1) (h3 : i.rs2 = o.rs2) (h4 : i.imm = o.imm) (h5 : i.aq = o.aq) (h6 : i.rl = o.rl) (h7 : i.pred = o.pred) (h8 : i.succ = o.succ) : i = o := by
  cases i; cases o; simp_all
attribute [local irreducible] opS readL
set_option maxRecDepth 100000 in
set_option maxHeartbeats 4000000 in
theorem back_any (i o : Ins) (hi : I64 i.imm) (ho : I64 o.imm) (S : ByteArray) (w : World) (hL : Lay w.heap.size w) :
    Calls Tryd.prog 3 #[i.V, o.V, .string S] w fun e w' => e = .returned (.bool true) ∧ Below w.heap.size w w' := by
  have HL := Lib.hid hL
  have HI := Lib.hid hi
  have HO := Lib.hid ho
  have HS0 := Lib.hid (Stand2.start i o w)
  clear hL hi ho
  by_cases hs : 100 < S.size
  · have hs1 : decide (100 < (S.size : Int)) = true := by simp; omega
    clear hs
    go_enter Tryd.func3, Tryd.ntmps3
    go_wp2_with (go_at_call 7; (with_reducible refine (lives_any _ (Stand2.tab HS0.out HL)).mono ?_); rintro e w1 ⟨rfl, hb1⟩; have HS1 := Lib.hid (Stand2.on HS0.out hb1); clear hb1)
    go_ret
    exact ⟨rfl, HS1.out.below⟩
  · have hs1 : decide (100 < (S.size : Int)) = false := by simp; omega
    have HZ := Lib.hid (show S.size ≤ 10000 by omega)
    clear hs
    obtain ⟨x, hx⟩ : ∃ x, readI S.data.toList = x := ⟨_, rfl⟩
    obtain ⟨er, her⟩ : ∃ er, readE S.data.toList = er := ⟨_, rfl⟩
    have HX := Lib.hid hx
    have HER := Lib.hid her
    clear hx her
    go_enter Tryd.func3, Tryd.ntmps3
    go_upto_region 6 with (first | (go_at_call 7; (with_reducible refine (lives_any _ (Stand2.tab HS0.out HL)).mono ?_); rintro e w1 ⟨rfl, hb1⟩; have HS1 := Lib.hid (Stand2.on HS0.out hb1); clear hb1) | (go_at_call 8; (with_reducible refine (Read_at S x er HX HER HZ.out _ (Stand2.lay HS1.out HL)).mono ?_); rintro e w2 ⟨rfl, hb2⟩; have HS2 := Lib.hid (Stand2.on HS1.out hb2); clear hb2))
    have HS3 := Lib.hid (Stand2.alloc HS2.out (.cells (insCells x) 23))
    have HX3 := Lib.hid (ins_new_at x w2)
    go_cut [40] (fun t wx => t = .bool false ∧ Hid (Stand2 i o w wx))
    case first =>
      cases hg : goodL S.data.toList
      · have he : (er == 0) = false := by have := HER.out; unfold readE at this; rw [hg] at this; rw [← this]; decide
        clear hg
        go_wp2_with fail
        go_meet
        exact ⟨rfl, HS3⟩
      · have he : (er == 0) = true := by have := HER.out; unfold readE at this; rw [hg] at this; rw [← this]; decide
        have hxx : readL S.data.toList = x := by have := HX.out; unfold readI at this; rw [hg] at this; exact this
        have HG := Lib.hid (show x.ok = true ∧ textL x = S.data.toList by
          unfold goodL at hg
          simp only [Bool.and_eq_true, beq_iff_eq] at hg
          rw [hxx] at hg; exact hg)
        have HXI := Lib.hid (show I64 x.imm by rw [← hxx]; exact readL_imm _)
        have HOK := Lib.hid HG.out.1
        have HTX := Lib.hid (show S.data.toList = toldL x by unfold toldL; rw [HG.out.1, if_pos rfl, HG.out.2])
        clear hg hxx
        obtain ⟨-, c0, c1, c2, c3, c4, c5, c6, c7, c8⟩ := InsAt.facts HX3.out
        go_wp2_with (go_at_call 9; (with_reducible refine (Check_b0 x HOK _).mono ?_); rintro e w4 ⟨rfl, hb4⟩; have HS4 := Lib.hid (Stand2.on HS3.out hb4); have HX4 := Lib.hid (InsAt.below HX3.out hb4 (by simp)); clear hb4; obtain ⟨-, c0, c1, c2, c3, c4, c5, c6, c7, c8⟩ := InsAt.facts HX4.out)
        go_wp2_with (go_at_call 10; (with_reducible refine (text_at x HXI.out S HTX _ (Stand2.tab HS4.out HL)).mono ?_); rintro e w5 ⟨rfl, hb5⟩; have HS5 := Lib.hid (Stand2.on HS4.out hb5); clear hb5)
        go_meet
        exact ⟨rfl, HS5⟩
    case rest =>
      obtain ⟨rfl, HW⟩ := hcut
      obtain ⟨hz1, a0, a1, a2, a3, a4, a5, a6, a7, a8⟩ := InsAt.facts HW.out.one
      cases hok : i.ok
      · have HK := Lib.hid hok
        clear hok
        go_wp2_with (go_at_call 11; (with_reducible refine (Text_i2 i HI.out HK _ (Stand2.tab HW.out HL)).mono ?_); rintro e w6 ⟨rfl, hb6⟩; have HS6 := Lib.hid (Stand2.on HW.out hb6); clear hb6; obtain ⟨hz1, a0, a1, a2, a3, a4, a5, a6, a7, a8⟩ := InsAt.facts HS6.out.one)
        go_wp2_with (go_at_call 9; (with_reducible refine (Check_b2 i HK _).mono ?_); rintro e w7 ⟨rfl, hb7⟩; have HS7 := Lib.hid (Stand2.on HS6.out hb7); clear hb7)
        go_ret
        exact ⟨rfl, HS7.out.below⟩
      · have HK := Lib.hid hok
        obtain ⟨T, hT⟩ : ∃ T : ByteArray, T.data.toList = toldL i := ⟨⟨(toldL i).toArray⟩, by simp⟩
        have HT := Lib.hid hT
        have hT2 : T.data.toList = textL i := by rw [hT]; unfold toldL; rw [hok]; rfl
        have hgt := good_text i hok HI.out
        have HY1 := Lib.hid (show readI T.data.toList = i by unfold readI; rw [hT2, hgt.1, if_pos rfl]; exact hgt.2)
        have HY2 := Lib.hid (show readE T.data.toList = 0 by unfold readE; rw [hT2, hgt.1]; rfl)
        have HTS := Lib.hid (show T.size ≤ 60 by rw [Lib.size_eq, hT2]; exact text_len i (may_of i hok) HI.out.1 HI.out.2)
        clear hok hT hT2 hgt
        go_upto_region 12 with (first | (go_at_call 11; (with_reducible refine (Text_i0 i HI.out HK T HT _ (Stand2.tab HW.out HL)).mono ?_); rintro e w6 ⟨rfl, hb6⟩; have HS6 := Lib.hid (Stand2.on HW.out hb6); clear hb6) | (go_at_call 8; (with_reducible refine (Read_at T i 0 HY1 HY2 (by have := HTS.out; omega) _ (Stand2.lay HS6.out HL)).mono ?_); rintro e w7 ⟨rfl, hb7⟩; have HS7 := Lib.hid (Stand2.on HS6.out hb7); clear hb7))
        have hb1 : ¬ 9223372036854775807 < T.size + 1 := by have := HTS.out; omega
        have hb2 : ¬ 9223372036854775807 < 1 + T.size := by have := HTS.out; omega
        have HS8 := Lib.hid (Stand2.alloc HS7.out (.cells (insCells i) 23))
        have HY8 := Lib.hid (ins_new_at i w7)
        go_upto_region 13 with (go_at_call 8; (with_reducible refine (Read_behind T HTS.out _ (Stand2.lay HS8.out HL)).mono ?_); rintro e w9 ⟨rfl, hb9⟩; have HS9 := Lib.hid (Stand2.alloc (Stand2.on HS8.out hb9) (.cells (insCells Ins.zero) 23)); have HY9 := Lib.hid (InsAt.alloc (InsAt.below HY8.out hb9 (by simp)) (.cells (insCells Ins.zero) 23)); clear hb9)
        go_upto_region 14 with (go_at_call 8; (with_reducible refine (Read_ahead T HTS.out _ (Stand2.lay HS9.out HL)).mono ?_); rintro e w10 ⟨rfl, hb10⟩; have HS10 := Lib.hid (Stand2.alloc (Stand2.on HS9.out hb10) (.cells (insCells Ins.zero) 23)); have HY10 := Lib.hid (InsAt.alloc (InsAt.below HY9.out hb10 (by have := (InsAt.facts HY9.out).1; exact this)) (.cells (insCells Ins.zero) 23)); clear hb10)
        obtain ⟨-, p0, p1, p2, p3, p4, p5, p6, p7, p8⟩ := InsAt.facts HS10.out.two
        cases hko : o.ok
        · have HKO := Lib.hid hko
          clear hko
          go_wp2_with (go_at_call 11; (with_reducible refine (Text_i2 o HO.out HKO _ (Stand2.tab HS10.out HL)).mono ?_); rintro e w11 ⟨rfl, hb11⟩; have HS11 := Lib.hid (Stand2.on HS10.out hb11); have HY11 := Lib.hid (InsAt.below HY10.out hb11 (InsAt.facts HY10.out).1); clear hb11; obtain ⟨-, a0, a1, a2, a3, a4, a5, a6, a7, a8⟩ := InsAt.facts HS11.out.one; obtain ⟨-, y0, y1, y2, y3, y4, y5, y6, y7, y8⟩ := InsAt.facts HY11.out)
          go_ret
          exact ⟨rfl, HS11.out.below⟩
        · have HKO := Lib.hid hko
          obtain ⟨U, hU⟩ : ∃ U : ByteArray, U.data.toList = toldL o := ⟨⟨(toldL o).toArray⟩, by simp⟩
          have HU := Lib.hid hU
          have htu : (T.toList == U.toList) = decide (i = o) := by
            have e1 : U.data.toList = textL o := by rw [hU]; unfold toldL; rw [hko]; rfl
            have e2 : T.data.toList = textL i := by rw [HT.out]; unfold toldL; rw [HK.out]; rfl
            rw [Lib.toList_data, Lib.toList_data, e1, e2]
            exact text_inj i o HK.out HI.out hko HO.out
          clear hko hU
          by_cases hio : i = o
          · subst hio
            have htu2 : (T.toList == U.toList) = true := by rw [htu]; simp
            clear htu
            go_wp2_with (go_at_call 11; (with_reducible refine (Text_i0 i HI.out HKO U HU _ (Stand2.tab HS10.out HL)).mono ?_); rintro e w11 ⟨rfl, hb11⟩; have HS11 := Lib.hid (Stand2.on HS10.out hb11); have HY11 := Lib.hid (InsAt.below HY10.out hb11 (InsAt.facts HY10.out).1); clear hb11; obtain ⟨-, a0, a1, a2, a3, a4, a5, a6, a7, a8⟩ := InsAt.facts HS11.out.one; obtain ⟨-, o0, o1, o2, o3, o4, o5, o6, o7, o8⟩ := InsAt.facts HS11.out.two; obtain ⟨-, y0, y1, y2, y3, y4, y5, y6, y7, y8⟩ := InsAt.facts HY11.out)
            go_ret
            exact ⟨rfl, HS11.out.below⟩
          · have htu2 : (T.toList == U.toList) = false := by rw [htu]; simpa using hio
            have HIO := Lib.hid hio
            clear htu hio
            go_wp2_with (go_at_call 11; (with_reducible refine (Text_i0 o HO.out HKO U HU _ (Stand2.tab HS10.out HL)).mono ?_); rintro e w11 ⟨rfl, hb11⟩; have HS11 := Lib.hid (Stand2.on HS10.out hb11); have HY11 := Lib.hid (InsAt.below HY10.out hb11 (InsAt.facts HY10.out).1); clear hb11; obtain ⟨-, a0, a1, a2, a3, a4, a5, a6, a7, a8⟩ := InsAt.facts HS11.out.one; obtain ⟨-, o0, o1, o2, o3, o4, o5, o6, o7, o8⟩ := InsAt.facts HS11.out.two; obtain ⟨-, y0, y1, y2, y3, y4, y5, y6, y7, y8⟩ := InsAt.facts HY11.out)
            all_goals (go_ret; first | exact ⟨rfl, HS11.out.below⟩ | exact absurd (ins_ext (by assumption) (by assumption) (by assumption) (by assumption) (by assumption) (by assumption) (by assumption) (by assumption) (by assumption)) HIO.out)
end Go.Proofs.YtdakdmdkibdcbaaDoor
