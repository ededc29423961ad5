/-
  Proved here: the law InsnShapes returns true, and writes nothing that was there. Condition: the instruction's number is of 64 bits; the table of powers of ten reads as the library lays it.
-/
import Derived.Test.YtplneijbhmhmoaaDoorInsnAsk
import Derived.Deep.RegionHeld3
import Derived.Deep.DeepCutAuto
import Derived.Deep.CutBlock
namespace Go.Proofs.YtplneijbhmhmoaaDoor
open Go.RowKit

theorem Check_i (i : Ins) (b : Bool) (hb : Hid (i.ok = b)) (w : World) : Calls Tryd.prog 9 #[i.V] w fun e w' => e = .returned (.int .i64 (errI b)) ∧ Below w.heap.size w w' := by
  rw [← hb.out]
  exact Check_any i.op i.rd i.rs1 i.rs2 i.imm i.aq i.rl i.pred i.succ w
theorem Check_no (i : Ins) (hb : Hid (i.ok = false)) (w : World) : Calls Tryd.prog 9 #[i.V] w fun e w' => e = .returned (.int .i64 2) ∧ Below w.heap.size w w' := Check_i i false hb w
theorem Check_ok (i : Ins) (hb : Hid (i.ok = true)) (w : World) : Calls Tryd.prog 9 #[i.V] w fun e w' => e = .returned (.int .i64 0) ∧ Below w.heap.size w w' := Check_i i true hb w
theorem text_no (i : Ins) (hb : Hid (i.ok = false)) (hi0 : -9223372036854775808 ≤ i.imm) (hi1 : i.imm ≤ 9223372036854775807) (w : World) (ht : Tab w) : Calls Tryd.prog 10 #[i.V] w fun e w' => e = .returned (.string ⟨#[]⟩) ∧ Below w.heap.size w w' := by
  have e : toldL i = [] := by unfold toldL; rw [hb.out]; rfl
  have h := text_any i hi0 hi1 w ht
  rw [e] at h; exact h
theorem ins_new (i : Ins) (w : World) : InsAt i w.heap.size (w.alloc (.cells (insCells i) 23)) := heap_new _ _
/-- what stands behind the boxed argument: it reads so still, nothing that was there is changed -/
def Stand (i : Ins) (w w' : World) : Prop := InsAt i w.heap.size w' ∧ Below w.heap.size w w'
theorem Stand.start (i : Ins) (w : World) : Stand i w (w.alloc (.cells (insCells i) 23)) := ⟨heap_new _ _, (Below.refl _ _).alloc (Nat.le_refl _) _⟩
theorem Stand.on {i : Ins} {w w1 w2 : World} (h : Stand i w w1) (hb : Below w1.heap.size w1 w2) : Stand i w w2 :=
  ⟨h.1.below hb (Array.getElem?_eq_some_iff.1 h.1).1, h.2.trans (hb.mono h.2.size)⟩
theorem Stand.drew {i : Ins} {w w1 : World} (h : Stand i w w1) : Stand i w w1.drew := ⟨h.1, Below.drew h.2⟩
theorem Stand.ins {i : Ins} {w w1 : World} (h : Stand i w w1) : InsAt i w.heap.size w1 := h.1
theorem Stand.below {i : Ins} {w w1 : World} (h : Stand i w w1) : Below w.heap.size w w1 := h.2
theorem Stand.tab {i : Ins} {w w1 : World} (h : Stand i w w1) (ht : Hid (TabB w)) : Tab w1 := ht.out w1 h.2
set_option maxRecDepth 100000 in
set_option maxHeartbeats 4000000 in
theorem shapes_no (i : Ins) (hb : i.ok = false) (hi0 : -9223372036854775808 ≤ i.imm) (hi1 : i.imm ≤ 9223372036854775807) (w : World) (ht : Tab w) :
    Calls Tryd.prog 6 #[i.V] w fun e w' => e = .returned (.bool true) ∧ Below w.heap.size w w' := by
  have HN := Lib.hid hb
  have HT := Lib.hid (TabB.of ht)
  have HS0 := Lib.hid (Stand.start i w)
  clear hb ht
  go_enter Tryd.func6, Tryd.ntmps6
  go_wp2_with (go_at_call 7; (with_reducible refine (lives_any _ (Stand.tab HS0.out HT)).mono ?_); rintro e w1 ⟨rfl, hb1⟩; have HS1 := Lib.hid (Stand.on HS0.out hb1); clear hb1; obtain ⟨hz, c0, c1, c2, c3, c4, c5, c6, c7, c8⟩ := InsAt.facts (Stand.ins HS1.out))
  go_wp2_with (go_at_call 9; (with_reducible refine (Check_no i HN _).mono ?_); rintro e w2 ⟨rfl, hb2⟩; have HS2 := Lib.hid (Stand.on HS1.out hb2); clear hb2; obtain ⟨hz, c0, c1, c2, c3, c4, c5, c6, c7, c8⟩ := InsAt.facts (Stand.ins HS2.out))
  go_wp2_with (go_at_call 10; (with_reducible refine (text_no i HN hi0 hi1 _ (Stand.tab HS2.out HT)).mono ?_); rintro e w3 ⟨rfl, hb3⟩; have HS3 := Lib.hid (Stand.on HS2.out hb3); clear hb3)
  go_ret
  exact ⟨rfl, Stand.below HS3.out⟩
theorem count_44 (S : ByteArray) (n : Int) (hn : Hid ((S.data.toList.count 44 : Int) = n)) (hs : S.size ≤ 10000) (w : World) : Calls Tryd.prog 19 #[.string S, .int .u8 44] w fun e w' => e = .returned (.int .i64 n) ∧ w = w' := by
  rw [← hn.out]; exact count_any S 44 w hs
theorem count_40 (S : ByteArray) (n : Int) (hn : Hid ((S.data.toList.count 40 : Int) = n)) (hs : S.size ≤ 10000) (w : World) : Calls Tryd.prog 19 #[.string S, .int .u8 40] w fun e w' => e = .returned (.int .i64 n) ∧ w = w' := by
  rw [← hn.out]; exact count_any S 40 w hs
theorem count_41 (S : ByteArray) (n : Int) (hn : Hid ((S.data.toList.count 41 : Int) = n)) (hs : S.size ≤ 10000) (w : World) : Calls Tryd.prog 19 #[.string S, .int .u8 41] w fun e w' => e = .returned (.int .i64 n) ∧ w = w' := by
  rw [← hn.out]; exact count_any S 41 w hs
theorem bytes_ext (S N : ByteArray) (h : S.data.toList = N.data.toList) : S = N := by
  cases S; cases N; congr 1; exact Array.toList_inj.1 h
theorem behind_at (i : Ins) (S N : ByteArray) (hS : S.data.toList = nameOf i.op ++ behind i) (hN : N.data.toList = nameOf i.op) (c : UInt8) (h : (behind i).head? = some c) : ∃ h : N.size < S.size, S[N.size]'h = c := by
  have hn : N.size = (nameOf i.op).length := by rw [Lib.size_eq, hN]
  have hs : S.size = (nameOf i.op).length + (behind i).length := by rw [Lib.size_eq, hS, List.length_append]
  have h0 : 0 < (behind i).length := by
    cases e : behind i with
    | nil => rw [e] at h; simp at h
    | cons d r => simp
  have hlt : N.size < S.size := by omega
  refine ⟨hlt, ?_⟩
  have e1 : S[N.size]'hlt = S.data.toList[N.size]'(by rw [← Lib.size_eq]; exact hlt) := rfl
  rw [e1]
  have e2 : S.data.toList[N.size]? = some c := by
    rw [hS, hn, List.getElem?_append_right (Nat.le_refl _), Nat.sub_self, ← List.head?_eq_getElem?, h]
  exact (List.getElem?_eq_some_iff.1 e2).2
structure ShapeFacts (i : Ins) (S N : ByteArray) : Prop where
  le : N.size ≤ S.size
  cut : S.extract 0 N.size = N
  long : S.size ≤ 60
  dot : (i.aq || i.rl) = true → 0 < commasOf i.op (formOf i.op) ∧ ∃ h : N.size < S.size, S[N.size]'h = 46
  blank : (i.aq || i.rl) = false → 0 < commasOf i.op (formOf i.op) → ∃ h : N.size < S.size, S[N.size]'h = 32
  whole : commasOf i.op (formOf i.op) = 0 → S = N
  c44 : (S.data.toList.count 44 : Int) = commasOf i.op (formOf i.op)
  c40 : (S.data.toList.count 40 : Int) = openOf i.op (formOf i.op)
  c41 : (S.data.toList.count 41 : Int) = openOf i.op (formOf i.op)
theorem commas_ge (op f : Int) : 0 ≤ commasOf op f := by unfold commasOf; split <;> (try split) <;> (try split) <;> omega
theorem shape_facts (i : Ins) (hb : i.ok = true) (hi0 : -9223372036854775808 ≤ i.imm) (hi1 : i.imm ≤ 9223372036854775807) (S N : ByteArray) (hS0 : S.data.toList = toldL i) (hN : N.data.toList = nameOf i.op) : ShapeFacts i S N := by
  have hm := may_of i hb
  have hS1 : S.data.toList = textL i := by rw [hS0]; unfold toldL; rw [hb]; rfl
  have hS : S.data.toList = nameOf i.op ++ behind i := by rw [hS1, text_is]
  have hn : N.size = (nameOf i.op).length := by rw [Lib.size_eq, hN]
  have hs : S.size = (nameOf i.op).length + (behind i).length := by rw [Lib.size_eq, hS, List.length_append]
  obtain ⟨h1, h2, h3⟩ := behind_head i hm
  have hc := text_counts i hm
  have hg := commas_ge i.op (formOf i.op)
  refine ⟨by omega, ?_, ?_, fun hd => ⟨?_, behind_at i S N hS hN 46 (h2.1 hd)⟩, fun hd h0 => behind_at i S N hS hN 32 (h3 h0 hd), fun h0 => ?_, ?_, ?_, ?_⟩
  · refine bytes_ext _ _ ?_
    rw [Lib.extract_data, hS, hn, hN]; simp
  · have := text_len i hm hi0 hi1
    rw [Lib.size_eq, hS1]; exact this
  · rcases (by omega : commasOf i.op (formOf i.op) = 0 ∨ 0 < commasOf i.op (formOf i.op)) with h0 | h0
    · have e := h2.1 hd
      rw [h1 h0] at e; simp at e
    · exact h0
  · refine bytes_ext _ _ ?_
    rw [hS, hN, h1 h0, List.append_nil]
  · rw [hS1]; exact hc.1
  · rw [hS1]; exact hc.2.1
  · rw [hS1]; exact hc.2.2
set_option maxRecDepth 100000 in
set_option maxHeartbeats 4000000 in
theorem shapes_yes (i : Ins) (hb : i.ok = true) (hi0 : -9223372036854775808 ≤ i.imm) (hi1 : i.imm ≤ 9223372036854775807) (w : World) (ht : Tab w) :
    Calls Tryd.prog 6 #[i.V] w fun e w' => e = .returned (.bool true) ∧ Below w.heap.size w w' := by
  have HN := Lib.hid hb
  have HM := Lib.hid (may_of i hb)
  have HT := Lib.hid (TabB.of ht)
  have HS0 := Lib.hid (Stand.start i w)
  obtain ⟨S, hS⟩ : ∃ S : ByteArray, S.data.toList = toldL i := ⟨⟨(toldL i).toArray⟩, by simp⟩
  have HS := Lib.hid hS
  obtain ⟨N, hN⟩ : ∃ N : ByteArray, N.data.toList = nameOf i.op := ⟨⟨(nameOf i.op).toArray⟩, by simp⟩
  have HNM := Lib.hid hN
  have HF0 := Lib.hid (shape_facts i hb hi0 hi1 S N hS hN)
  clear hb ht hS hN
  go_enter Tryd.func6, Tryd.ntmps6
  go_wp2_with (go_at_call 7; (with_reducible refine (lives_any _ (Stand.tab HS0.out HT)).mono ?_); rintro e w1 ⟨rfl, hb1⟩; have HS1 := Lib.hid (Stand.on HS0.out hb1); clear hb1; obtain ⟨hz, c0, c1, c2, c3, c4, c5, c6, c7, c8⟩ := InsAt.facts (Stand.ins HS1.out))
  go_upto_region 5 with (go_at_call 9; (with_reducible refine (Check_ok i HN _).mono ?_); rintro e w2 ⟨rfl, hb2⟩; have HS2 := Lib.hid (Stand.on HS1.out hb2); clear hb2; obtain ⟨hz, c0, c1, c2, c3, c4, c5, c6, c7, c8⟩ := InsAt.facts (Stand.ins HS2.out))
  go_cut [3, 4] (fun s3 s4 wx => s3 = .string S ∧ s4 = .string N ∧ Stand i w wx)
  case first =>
    have HSD := Lib.hid (Stand.drew HS2.out)
    go_region_with (first | (go_at_call 10; (with_reducible refine (text_S i hi0 hi1 S HS _ (Stand.tab HSD.out HT)).mono ?_); rintro e w3 ⟨rfl, hb3⟩; have HS3 := Lib.hid (Stand.on HSD.out hb3); clear hb3; obtain ⟨-, c0, -⟩ := InsAt.facts (Stand.ins HS3.out)) | (go_at_call 13; (with_reducible refine (Name_S i.op N HNM _).mono ?_); rintro e w4 ⟨rfl, hb4⟩; have HS4 := Lib.hid (Stand.on HS3.out hb4); clear hb4))
    all_goals (go_wp2_with fail; go_meet; exact ⟨rfl, rfl, HS4.out⟩)
  case rest =>
    obtain ⟨rfl, rfl, hw⟩ := hcut
    have HW := Lib.hid hw
    clear hw
    obtain ⟨hz, c0, c1, c2, c3, c4, c5, c6, c7, c8⟩ := InsAt.facts (Stand.ins HW.out)
    go_upto_block 0 with (go_at_call 12; (with_reducible refine (Form_any i.op _).mono ?_); rintro e w5 ⟨rfl, hb5⟩; have HW5 := Lib.hid (Stand.on HW.out hb5); clear hb5; obtain ⟨hz, c0, c1, c2, c3, c4, c5, c6, c7, c8⟩ := InsAt.facts (Stand.ins HW5.out))
    have HF := Lib.hid (form_hi i.op)
    generalize hfe : formOf i.op = f at *
    have HFE := Lib.hid hfe
    clear hfe
    go_cut [6, 7] (fun s t wx => s = .int .i64 (commasOf i.op f) ∧ t = .int .i64 (openOf i.op f) ∧ Stand i w wx)
    case first =>
      by_cases h1 : i.op = 4
      · have h1b : (i.op == 4) = true := by simpa using h1
        have HR := Lib.hid (show commasOf i.op f = 1 ∧ openOf i.op f = 1 by unfold commasOf openOf; rw [if_pos (Or.inl h1), if_pos (Or.inl h1)]; exact ⟨rfl, rfl⟩)
        clear h1
        go_wp2_with fail
        go_meet
        exact ⟨by rw [HR.out.1], by rw [HR.out.2], HW5.out⟩
      · have h1b : (i.op == 4) = false := by simpa using h1
        have HC := Lib.hid (show commasOf i.op f = (if f = 4 ∨ f = 5 ∨ f = 11 then 1 else if f = 1 ∨ f = 2 ∨ f = 9 then 1 else if f = 10 then 0 else 2) ∧ openOf i.op f = (if f = 4 ∨ f = 5 ∨ f = 11 then 1 else if f = 12 then 1 else 0) by unfold commasOf openOf; simp only [h1, false_or]; exact ⟨trivial, trivial⟩)
        have hs : f = 0 ∨ f = 1 ∨ f = 2 ∨ f = 3 ∨ f = 4 ∨ f = 5 ∨ f = 6 ∨ f = 7 ∨ f = 8 ∨ f = 9 ∨ f = 10 ∨ f = 11 ∨ f = 12 := by have := HF.out; omega
        clear h1
        rcases hs with rfl | rfl | rfl | rfl | rfl | rfl | rfl | rfl | rfl | rfl | rfl | rfl | rfl <;>
        · go_wp2_with fail
          go_meet
          exact ⟨by rw [HC.out.1]; rfl, by rw [HC.out.2]; rfl, HW5.out⟩
    case rest =>
      obtain ⟨rfl, rfl, hw⟩ := hcut
      have HW7 := Lib.hid hw
      clear c0 c1 c2 c3 c4 c5 c6 c7 c8 hz
      obtain ⟨hz, c0, c1, c2, c3, c4, c5, c6, c7, c8⟩ := InsAt.facts (Stand.ins hw)
      clear hw
      have HX := Lib.hid (show ShapeFacts i S N ∧ formOf i.op = f from ⟨HF0.out, HFE.out⟩)
      have hle1 : decide (S.size < N.size) = false := by have := HX.out.1.le; simp; omega
      have hcut := HX.out.1.cut
      have HLO := Lib.hid HX.out.1.long
      have hlo1 : decide (60 < (S.size : Int)) = false := by have := HLO.out; simp; omega
      have HC1 : Hid ((S.data.toList.count 44 : Int) = commasOf i.op f) := Lib.hid (by have := HX.out.1.c44; rw [HX.out.2] at this; exact this)
      have HC2 : Hid ((S.data.toList.count 40 : Int) = openOf i.op f) := Lib.hid (by have := HX.out.1.c40; rw [HX.out.2] at this; exact this)
      have HC3 : Hid ((S.data.toList.count 41 : Int) = openOf i.op f) := Lib.hid (by have := HX.out.1.c41; rw [HX.out.2] at this; exact this)
      by_cases hd : (i.aq || i.rl) = true
      · obtain ⟨hp, hlt, hat⟩ := HX.out.1.dot hd
        rw [HX.out.2] at hp
        have hat1 : (((S[N.size]'hlt).toNat : Int) == 46) = true := by rw [hat]; decide
        have hp1 : (commasOf i.op f == 0) = false := by simp; omega
        have hne1 : ((S.size : Int) == (N.size : Int)) = false := by simp; omega
        have HAT := Lib.hid hat
        clear hat
        cases haq : i.aq
        · have hrl : i.rl = true := by simpa [haq] using hd
          clear hd
          go_wp2_with (first | (go_at_call 19; (with_reducible refine (count_44 S _ HC1 (by have := HLO.out; omega) _).mono ?_); rintro e w' ⟨rfl, rfl⟩) | (go_at_call 19; (with_reducible refine (count_40 S _ HC2 (by have := HLO.out; omega) _).mono ?_); rintro e w' ⟨rfl, rfl⟩) | (go_at_call 19; (with_reducible refine (count_41 S _ HC3 (by have := HLO.out; omega) _).mono ?_); rintro e w' ⟨rfl, rfl⟩))
          go_ret
          exact ⟨rfl, Stand.below HW7.out⟩
        · clear hd
          go_wp2_with (first | (go_at_call 19; (with_reducible refine (count_44 S _ HC1 (by have := HLO.out; omega) _).mono ?_); rintro e w' ⟨rfl, rfl⟩) | (go_at_call 19; (with_reducible refine (count_40 S _ HC2 (by have := HLO.out; omega) _).mono ?_); rintro e w' ⟨rfl, rfl⟩) | (go_at_call 19; (with_reducible refine (count_41 S _ HC3 (by have := HLO.out; omega) _).mono ?_); rintro e w' ⟨rfl, rfl⟩))
          go_ret
          exact ⟨rfl, Stand.below HW7.out⟩
      · have hd' : (i.aq || i.rl) = false := by simpa using hd
        have haq : i.aq = false := by cases h : i.aq <;> simp_all
        have hrl : i.rl = false := by cases h : i.rl <;> simp_all
        have HG := Lib.hid (commas_ge i.op f)
        by_cases h0 : commasOf i.op f = 0
        · have e := HX.out.1.whole (by rw [HX.out.2]; exact h0)
          subst e
          have hp1 : (commasOf i.op f == 0) = true := by simpa using h0
          have hp2 : decide (0 < commasOf i.op f) = false := by simp; omega
          have HP0 := Lib.hid h0
          clear hd hd' h0
          go_wp2_with (first | (go_at_call 19; (with_reducible refine (count_44 S _ HC1 (by have := HLO.out; omega) _).mono ?_); rintro e w' ⟨rfl, rfl⟩) | (go_at_call 19; (with_reducible refine (count_40 S _ HC2 (by have := HLO.out; omega) _).mono ?_); rintro e w' ⟨rfl, rfl⟩) | (go_at_call 19; (with_reducible refine (count_41 S _ HC3 (by have := HLO.out; omega) _).mono ?_); rintro e w' ⟨rfl, rfl⟩))
          go_ret
          exact ⟨rfl, Stand.below HW7.out⟩
        · have hp : 0 < commasOf i.op f := by have := HG.out; omega
          obtain ⟨hlt, hat⟩ := HX.out.1.blank hd' (by rw [HX.out.2]; exact hp)
          have hat1 : (((S[N.size]'hlt).toNat : Int) == 46) = false := by rw [hat]; decide
          have hat2 : (((S[N.size]'hlt).toNat : Int) != 32) = false := by rw [hat]; decide
          have hp1 : (commasOf i.op f == 0) = false := by simp; omega
          have hne1 : ((S.size : Int) == (N.size : Int)) = false := by simp; omega
          have HAT := Lib.hid hat
          clear hat hd hd' h0
          go_wp2_with (first | (go_at_call 19; (with_reducible refine (count_44 S _ HC1 (by have := HLO.out; omega) _).mono ?_); rintro e w' ⟨rfl, rfl⟩) | (go_at_call 19; (with_reducible refine (count_40 S _ HC2 (by have := HLO.out; omega) _).mono ?_); rintro e w' ⟨rfl, rfl⟩) | (go_at_call 19; (with_reducible refine (count_41 S _ HC3 (by have := HLO.out; omega) _).mono ?_); rintro e w' ⟨rfl, rfl⟩))
          go_ret
          exact ⟨rfl, Stand.below HW7.out⟩
theorem shapes_any (i : Ins) (hi0 : -9223372036854775808 ≤ i.imm) (hi1 : i.imm ≤ 9223372036854775807) (w : World) (ht : Tab w) :
    Calls Tryd.prog 6 #[i.V] w fun e w' => e = .returned (.bool true) ∧ Below w.heap.size w w' := by
  cases h : i.ok
  · exact shapes_no i h hi0 hi1 w ht
  · exact shapes_yes i h hi0 hi1 w ht
end Go.Proofs.YtplneijbhmhmoaaDoor
