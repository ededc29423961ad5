/-
  Proved here: the law DataCalls answers true; nothing that was there is changed. Condition: numbers of 64 bits.
-/
import Derived.Test.YthkakikigccaaaaDtTold
import Derived.Test.YthkakikigccaaaaDtRef
import Derived.Test.YthkakikigccaaaaDtRAt
import Derived.Test.YthkakikigccaaaaDtOwn
namespace Go.Proofs.Ythkakikigccaaaa
open Go.RowKit Go.Lib
set_option linter.unusedVariables false
set_option linter.unusedSimpArgs false

theorem box_alloc (W : World) (s : Se) : BoxS W.heap.size s (W.alloc (.cells #[.string s.p.name, .int .i64 s.p.size, .int .i64 s.p.hart, .int .u64 s.addr] 34)) := ⟨by simp, by simp, by simp, by simp, by simp⟩
def YesOut (w : World) (e : Ending) (w' : World) : Prop := e = .returned (.bool true) ∧ Below w.heap.size w w'
set_option maxHeartbeats 4000000 in
set_option maxRecDepth 100000 in
theorem dataCalls_any (a : Option Addr) (c : Nat) (l : List Pc) (a1 : Option Addr) (c1 : Nat) (l1 : List Se) (nm : ByteArray) (h addr : Int) (w : World) (hc : a = none → c = 0) (hn : l.length ≤ maxLen) (hl : Sl w a l) (hw : ∀ p ∈ l, PcW p)
    (hn1 : l1.length ≤ maxLen) (hl1 : Sm w a1 l1) (hw1 : ∀ s ∈ l1, SeW s) (hnm : nm.size ≤ maxLen) (h1 : -9223372036854775808 ≤ h) (h2 : h ≤ 9223372036854775807) (ad1 : 0 ≤ addr) (ad2 : addr ≤ 18446744073709551615) :
    Calls Try.prog 4 #[.slice a l.length c, .slice a1 l1.length c1, .string nm, .int .i64 h, .int .u64 addr] w (YesOut w) := by
  have HC := Lib.hid hc
  have HN := Lib.hid hn
  have HL := Lib.hid hl
  have HW := Lib.hid hw
  have HN1 := Lib.hid hn1
  have HL1 := Lib.hid hl1
  have HW1 := Lib.hid hw1
  have KV := Lib.hid (lives_any w)
  unfold maxLen at hn1 hnm
  clear hc hn hl hw hl1 hw1
  go_enter Try.func4, Try.ntmps4
  go_wp2_with (go_at_call 12; (with_reducible refine (KV.out).mono ?_); rintro e w1 ⟨rfl, hb⟩; have HB := Lib.hid hb; clear hb)
  refine (light_any a c l w1 HN.out (HL.out.below HB.out)).mono ?_
  rintro e w2 ⟨q, rfl, hq, hb⟩
  have HB2 := Lib.hid (HB.out.trans (hb.mono HB.out.size))
  have HQ := Lib.hid hq
  clear hq hb
  cases q with
  | false =>
    go_wp2
    go_ret
    exact ⟨rfl, HB2.out⟩
  | true =>
    have hn40 := (HQ.out rfl).1
    by_cases hm : 40 < l1.length
    · have hmz : (40 : Int) < (l1.length : Int) := by omega
      go_wp2
      go_ret
      exact ⟨rfl, HB2.out⟩
    · have hmz : ¬ (40 : Int) < (l1.length : Int) := by omega
      by_cases hk : 100 < nm.size
      · have hkz : (100 : Int) < (nm.size : Int) := by omega
        go_wp2
        go_ret
        exact ⟨rfl, HB2.out⟩
      · have hkz : ¬ (100 : Int) < (nm.size : Int) := by omega
        have KO := Lib.hid (Own_any a c l w2 HC.out (HL.out.below HB2.out) (by omega))
        go_wp2_with fail
        refine (KO.out).mono ?_
        rintro e w3 ⟨v, rfl, ho, hb⟩
        have HB3 := Lib.hid (HB2.out.trans (hb.mono HB2.out.size))
        obtain ⟨a3, c3, hv, hc3, hs3⟩ := ps_of_own ho
        subst hv
        have KL := Lib.hid (Lay_is a3 c3 l w3 hn40 hs3 HW.out)
        obtain ⟨Z, hZ⟩ : ∃ Z, layZ l = Z := ⟨_, rfl⟩
        obtain ⟨ce, hce⟩ : ∃ e, ckE l = e := ⟨_, rfl⟩
        have HZL : Hid (Z.length ≤ 1000) := Lib.hid (by rw [← hZ]; exact layZ_len hn40)
        have HZC := Lib.hid (And.intro hZ hce)
        clear hb ho hs3 hc3 KO
        go_wp2_with (go_at_call 7; refine (KL.out).mono ?_; rintro e w4 ⟨aL, cL, rfl, hsm, hb⟩; rw [hZ] at hsm; rw [hZ, hce]; have HSL := Lib.hid hsm; have HB4 := Lib.hid (HB3.out.trans (hb.mono HB3.out.size)); clear hb hsm)
        have KM := Lib.hid (rLay_is a c l w4 hn40 (HL.out.below HB4.out) HW.out)
        refine (KM.out).mono ?_
        rintro e w5 ⟨bL, dL, rfl, hsm, hb⟩
        rw [hZ] at hsm
        rw [hZ, hce]
        have HSM := Lib.hid hsm
        have HSL5 := Lib.hid (HSL.out.below hb)
        have HB5 := Lib.hid (HB4.out.trans (hb.mono HB4.out.size))
        clear hb hsm HSL KL KM hZ hce
        have KP := Lib.hid (fun W (hb : Below w5.heap.size w5 W) => Part_any a c l h W HN.out ((HL.out.below HB5.out).below hb) HW.out h1 h2)
        have KQ := Lib.hid (fun W (hb : Below w5.heap.size w5 W) => rPart_any a c l h W HN.out ((HL.out.below HB5.out).below hb) HW.out h1 h2)
        unfold PartOut at KP KQ
        obtain ⟨F, hF⟩ : ∃ F, partF l h = F := ⟨_, rfl⟩
        obtain ⟨T, hT⟩ : ∃ T, partT l h = T := ⟨_, rfl⟩
        obtain ⟨E, hE⟩ : ∃ E, partE l h = E := ⟨_, rfl⟩
        rw [hF, hT, hE] at KP KQ
        clear hF hT hE
        have KP1 := Lib.hid (KP.out w5 (Below.refl _ _))
        go_wp2_with fail
        refine (KP1.out).mono ?_
        rintro e w6 ⟨rfl, hb⟩
        have HB6 := Lib.hid (HB5.out.trans (hb.mono HB5.out.size))
        have H56 := Lib.hid hb
        clear hb KP KP1
        have KQ1 := Lib.hid (KQ.out w6 H56.out)
        go_wp2_with fail
        refine (KQ1.out).mono ?_
        rintro e w7 ⟨rfl, hb⟩
        have HB7 := Lib.hid (HB6.out.trans (hb.mono HB6.out.size))
        have H57 := Lib.hid (H56.out.trans (hb.mono H56.out.size))
        clear hb KQ KQ1 H56
        have KF := Lib.hid (Find_any a1 c1 l1 nm h w7 HN1.out (HL1.out.below HB7.out))
        obtain ⟨s, ec, hfv⟩ := find_is l1 nm h
        rw [hfv] at KF
        have HFV := Lib.hid hfv
        clear hfv
        go_wp2_with fail
        refine (KF.out).mono ?_
        rintro e w8 ⟨rfl, hb⟩
        have HB8 := Lib.hid (HB7.out.trans (hb.mono HB7.out.size))
        have H58 := Lib.hid (H57.out.trans (hb.mono H57.out.size))
        clear hb KF H57
        go_wp2_with fail
        have X1 := Lib.hid (box_alloc w8 s)
        have hb8 := one_below w8 (.cells #[.string s.p.name, .int .i64 s.p.size, .int .i64 s.p.hart, .int .u64 s.addr] 34)
        have HB9 := Lib.hid (HB8.out.trans (hb8.mono HB8.out.size))
        have H59 := Lib.hid (H58.out.trans (hb8.mono H58.out.size))
        clear hb8 HB8 H58
        generalize w8.alloc (.cells #[.string s.p.name, .int .i64 s.p.size, .int .i64 s.p.hart, .int .u64 s.addr] 34) = w9 at X1 HB9 H59 ⊢
        obtain ⟨g1, hg1⟩ : ∃ g, w8.heap.size = g := ⟨_, rfl⟩
        rw [hg1] at X1 ⊢
        clear hg1
        have KF := Lib.hid (rFind_any a1 c1 l1 nm h w9 HN1.out (HL1.out.below HB9.out))
        rw [HFV.out] at KF
        refine (KF.out).mono ?_
        rintro e w10 ⟨rfl, hb⟩
        have HB10 := Lib.hid (HB9.out.trans (hb.mono HB9.out.size))
        have H510 := Lib.hid (H59.out.trans (hb.mono H59.out.size))
        have X1b := Lib.hid (X1.out.on hb)
        clear hb KF H59 HB9 X1
        go_wp2_with fail
        have X2 := Lib.hid (box_alloc w10 s)
        have hb10 := one_below w10 (.cells #[.string s.p.name, .int .i64 s.p.size, .int .i64 s.p.hart, .int .u64 s.addr] 34)
        have HB11 := Lib.hid (HB10.out.trans (hb10.mono HB10.out.size))
        have H511 := Lib.hid (H510.out.trans (hb10.mono H510.out.size))
        have X1c := Lib.hid (X1b.out.on hb10)
        clear hb10 HB10 H510 X1b
        generalize w10.alloc (.cells #[.string s.p.name, .int .i64 s.p.size, .int .i64 s.p.hart, .int .u64 s.addr] 34) = w11 at X1c X2 HB11 H511 ⊢
        obtain ⟨g2, hg2⟩ : ∃ g, w10.heap.size = g := ⟨_, rfl⟩
        rw [hg2] at X2 ⊢
        clear hg2
        have KA := Lib.hid (At_any a1 c1 l1 addr w11 HN1.out (HL1.out.below HB11.out) HW1.out ad1 ad2)
        obtain ⟨t, kk, ea, hav⟩ := at_is l1 addr
        rw [hav] at KA
        have HAV := Lib.hid hav
        clear hav
        refine (KA.out).mono ?_
        rintro e w12 ⟨rfl, hb⟩
        have HB12 := Lib.hid (HB11.out.trans (hb.mono HB11.out.size))
        have H512 := Lib.hid (H511.out.trans (hb.mono H511.out.size))
        have X1d := Lib.hid (X1c.out.on hb)
        have X2d := Lib.hid (X2.out.on hb)
        clear hb KA H511 HB11 X1c X2
        go_wp2_with fail
        have X3 := Lib.hid (box_alloc w12 t)
        have hb12 := one_below w12 (.cells #[.string t.p.name, .int .i64 t.p.size, .int .i64 t.p.hart, .int .u64 t.addr] 34)
        have HB13 := Lib.hid (HB12.out.trans (hb12.mono HB12.out.size))
        have H513 := Lib.hid (H512.out.trans (hb12.mono H512.out.size))
        have X1e := Lib.hid (X1d.out.on hb12)
        have X2e := Lib.hid (X2d.out.on hb12)
        clear hb12 HB12 H512 X1d X2d
        generalize w12.alloc (.cells #[.string t.p.name, .int .i64 t.p.size, .int .i64 t.p.hart, .int .u64 t.addr] 34) = w13 at X1e X2e X3 HB13 H513 ⊢
        obtain ⟨g3, hg3⟩ : ∃ g, w12.heap.size = g := ⟨_, rfl⟩
        rw [hg3] at X3 ⊢
        clear hg3
        have KA := Lib.hid (rAt_any a1 c1 l1 addr w13 HN1.out (HL1.out.below HB13.out) HW1.out ad1 ad2)
        rw [HAV.out] at KA
        refine (KA.out).mono ?_
        rintro e w14 ⟨rfl, hb⟩
        have HB14 := Lib.hid (HB13.out.trans (hb.mono HB13.out.size))
        have H514 := Lib.hid (H513.out.trans (hb.mono H513.out.size))
        have X1f := Lib.hid (X1e.out.on hb)
        have X2f := Lib.hid (X2e.out.on hb)
        have X3f := Lib.hid (X3.out.on hb)
        clear hb KA H513 HB13 X1e X2e X3
        go_wp2_with fail
        have X4 := Lib.hid (box_alloc w14 t)
        have hb14 := one_below w14 (.cells #[.string t.p.name, .int .i64 t.p.size, .int .i64 t.p.hart, .int .u64 t.addr] 34)
        have HB15 := Lib.hid (HB14.out.trans (hb14.mono HB14.out.size))
        have H515 := Lib.hid (H514.out.trans (hb14.mono H514.out.size))
        have X1g := Lib.hid (X1f.out.on hb14)
        have X2g := Lib.hid (X2f.out.on hb14)
        have X3g := Lib.hid (X3f.out.on hb14)
        clear hb14 HB14 H514 X1f X2f X3f
        generalize w14.alloc (.cells #[.string t.p.name, .int .i64 t.p.size, .int .i64 t.p.hart, .int .u64 t.addr] 34) = w15 at X1g X2g X3g X4 HB15 H515 ⊢
        obtain ⟨g4, hg4⟩ : ∃ g, w14.heap.size = g := ⟨_, rfl⟩
        rw [hg4] at X4 ⊢
        clear hg4
        have KS := Lib.hid (Same_any aL bL cL dL Z w15 HZL.out (HSL5.out.below H515.out) (HSM.out.below H515.out))
        refine (KS.out).mono ?_
        rintro e w16 ⟨rfl, hb⟩
        have HB16 := Lib.hid (HB15.out.trans (hb.mono HB15.out.size))
        obtain ⟨p1, p2, p3, p4, p5⟩ := X1g.out.on hb
        obtain ⟨q1, q2, q3, q4, q5⟩ := X2g.out.on hb
        obtain ⟨r1, r2, r3, r4, r5⟩ := X3g.out.on hb
        obtain ⟨u1, u2, u3, u4, u5⟩ := X4.out.on hb
        clear hb KS H515 HSL5 HSM X1g X2g X3g X4 HB15 HFV HAV
        have es := fun W => eqS_run s W
        have et := fun W => eqS_run t W
        go_wp2_with fail
        have K17 := Lib.hid (Check_any a c l w16 HN.out (HL.out.below HB16.out) HW.out)
        rw [HZC.out.2] at K17
        refine (K17.out).mono ?_
        rintro e w17 ⟨rfl, hb⟩
        have HB17 := Lib.hid (HB16.out.trans (hb.mono HB16.out.size))
        clear hb K17
        go_wp2_with fail
        have K18 := Lib.hid (rCheck_any a c l w17 HN.out (HL.out.below HB17.out) HW.out)
        rw [HZC.out.2] at K18
        refine (K18.out).mono ?_
        rintro e w18 ⟨rfl, hb⟩
        have HB18 := Lib.hid (HB17.out.trans (hb.mono HB17.out.size))
        clear hb K18
        go_wp2_with fail
        have K19 := Lib.hid (Size_any a c l w18 HN.out (HL.out.below HB18.out) HW.out)
        obtain ⟨S, hS⟩ : ∃ S, sizeS l = S := ⟨_, rfl⟩
        rw [hS] at K19
        have HSS := Lib.hid hS
        clear hS
        refine (K19.out).mono ?_
        rintro e w19 ⟨rfl, hb⟩
        have HB19 := Lib.hid (HB18.out.trans (hb.mono HB18.out.size))
        clear hb K19
        go_wp2_with fail
        have K20 := Lib.hid (rSize_any a c l w19 HN.out (HL.out.below HB19.out) HW.out)
        rw [HSS.out] at K20
        refine (K20.out).mono ?_
        rintro e w20 ⟨rfl, hb⟩
        have HB20 := Lib.hid (HB19.out.trans (hb.mono HB19.out.size))
        clear hb K20
        go_wp2
        go_ret
        exact ⟨rfl, HB20.out⟩
end Go.Proofs.Ythkakikigccaaaa
