/-
  Proved here: what slices.symMergeCmpFunc makes of two sorted parts that lie side by side in a row of structs: one sorted part, each rank's in their order. No condition but the row's own.
-/
import Derived.Test.YthkakikigccaaaaDtSym
import Derived.Test.YthkakikigccaaaaDtPure3
import Derived.Deep.CutBlock
import Derived.Deep.DeepCutAuto
namespace Go.Proofs.Ythkakikigccaaaa
open Go.Shelf Go.RowKit Go.Lib Go.Sort
set_option linter.unusedVariables false
set_option linter.unusedSimpArgs false
variable {P : Program} {α : Type} [Inhabited α]

/-- where a search for the cut stands -/
def SymI (r : α → Int) (d : Array α) (nn st0 r0 i j : Nat) : Prop := (i = st0 ∨ r d[i - 1]! ≤ r d[nn - i]!) ∧ (j = r0 ∨ r d[nn - 1 - j]! < r d[j]!)
/-- the search's bounds -/
structure SymB (a m b nn md st0 r0 : Nat) : Prop where
  en : nn = md + m
  le : st0 ≤ r0
  rm : r0 ≤ md
  rM : r0 ≤ m
  sa : a ≤ st0
  sb : nn ≤ st0 + b
  s0 : st0 = a ∨ nn = st0 + b
  r0' : r0 = m ∨ r0 = md
theorem sym_cut {r : α → Int} {C X Y D : List α} {d : Array α} {a m b nn md st0 r0 i : Nat} (hd : d.toList = C ++ X ++ Y ++ D) (uX : Up r X) (uY : Up r Y) (ha : a = C.length) (hm : m = a + X.length) (hb : b = m + Y.length)
    (hB : SymB a m b nn md st0 r0) (h1 : st0 ≤ i) (h2 : i ≤ r0) (hI : SymI r d nn st0 r0 i i) :
    (∀ x ∈ X.drop (i - a), ∀ y ∈ Y.take (nn - i - m), r y < r x) ∧ (∀ x ∈ X.take (i - a), ∀ y ∈ Y.drop (nn - i - m), r x ≤ r y) := by
  obtain ⟨b1, b2, b3, b4, b5, b6, b7, b8⟩ := hB
  have hdX : d.toList = C ++ X ++ (Y ++ D) := by rw [hd]; simp
  have hlm : m = (C ++ X).length := by simp; omega
  constructor
  · refine cut_lt uX uY (by omega) (by omega) ?_
    by_cases e0 : nn - i - m = 0
    · exact .inr (.inl e0)
    · by_cases eX : i - a = X.length
      · exact .inl eX
      · refine .inr (.inr ⟨by omega, by omega, by omega, ?_⟩)
        rcases hI.2 with h | h
        · omega
        · rw [at_part hd hlm (by omega) (by omega), at_part hdX ha (by omega) (by omega)] at h
          simpa [show nn - 1 - i - m = nn - i - m - 1 by omega] using h
  · refine cut_le uX uY (by omega) (by omega) ?_
    by_cases e0 : i - a = 0
    · exact .inl e0
    · by_cases eY : nn - i - m = Y.length
      · exact .inr (.inl eY)
      · refine .inr (.inr ⟨by omega, by omega, by omega, ?_⟩)
        rcases hI.1 with h | h
        · omega
        · rw [at_part hdX ha (by omega) (by omega), at_part hd hlm (by omega) (by omega)] at h
          simpa [show i - 1 - a = i - a - 1 by omega] using h
/-- the contract, for parts of N elements at most -/
def SymC (P : Program) (enc : α → List Value) (k : Nat) (r : α → Int) (g : Nat) (cb : Array Value) (blk off cap n : Nat) (w0 : World) (N : Nat) : Prop :=
  ∀ (C X Y D : List α) (d : Array α) (w : World) (a m b : Nat), d.size = n → d.toList = C ++ X ++ Y ++ D → SWK enc k w0 blk off d w → Up r X → Up r Y → 0 < X.length → 0 < Y.length → a = C.length → m = a + X.length → b = m + Y.length → b - a ≤ N →
    Calls P 43 #[.slice (some ⟨blk, off, none⟩) n cap, .int .i64 a, .int .i64 m, .int .i64 b, .func (.func g) #[] cb] w (MgOut enc k w0 blk off n r C (X ++ Y) D)
set_option maxHeartbeats 4000000 in
set_option maxRecDepth 1000000 in
theorem sym_step {k : Nat} (L : DtL P k) (enc : α → List Value) (cf : α → α → Int) (r : α → Int) (hcf : ∀ x y, cf x y < 0 ↔ r x < r y) (g : Nat) (cb : Array Value) (blk off cap : Nat) (d0 d : Array α) (w0 w : World) (eg : ∀ args w, (callFunc g args).run P w = .ok (.enter g args) w)
    (hcmp : CmpLays P g cb enc k cf blk off d0.size w0) (R : RowK enc k w0 blk off d0) (n : Nat) (hs : d0.size = n) (hds : d.size = n) (hsz : n < 4611686018427387904)
    (S : SWK enc k w0 blk off d w) (N : Nat) (IH : SymC P enc k r g cb blk off cap n w0 N) (C X Y D : List α) (hd : d.toList = C ++ X ++ Y ++ D) (hX : Up r X) (hY : Up r Y) (a m b : Nat) (ha : a = C.length) (hm : m = a + X.length) (hb : b = m + Y.length) (h2X : 2 ≤ X.length) (h2Y : 2 ≤ Y.length) (hN : b - a ≤ N + 1) :
    Calls P 43 #[.slice (some ⟨blk, off, none⟩) n cap, .int .i64 a, .int .i64 m, .int .i64 b, .func (.func g) #[] cb] w (MgOut enc k w0 blk off n r C (X ++ Y) D) := by
  have mixed := L.mixed; have t0 := L.t0; have a0 := L.a0; have z0 := L.z0; have v0 := L.v0; have t3 := L.t3; have a3 := L.a3; have z3 := L.z3; have v3 := L.v3; have t4 := L.t4; have a4 := L.a4; have z4 := L.z4; have v4 := L.v4; have t51 := L.t51; have a51 := L.a51; have z51 := L.z51; have v51 := L.v51; have t66 := L.t66; have a66 := L.a66; have z66 := L.z66; have v66 := L.v66; have t76 := L.t76; have a76 := L.a76; have z76 := L.z76; have v76 := L.v76; have aE := L.aE; have zE := L.zE
  have FG := L.f43
  have HC : Aside _ := hcmp
  have S0 : Aside (SWK enc k w0 blk off d w) := S
  have HD := Lib.hid (And.intro hd (And.intro hX (And.intro hY (And.intro ha (And.intro hm hb)))))
  have CF := Lib.hid hcf
  have HIH := Lib.hid IH
  have e43 : ∀ args w, (callFunc 43 args).run P w = .ok (.enter 43 args) w := enters_of L.f43 (by kernel_rfl) rfl
  have e44 : ∀ args w, (callFunc 44 args).run P w = .ok (.enter 44 args) w := enters_of L.f44 (by kernel_rfl) rfl
  have hbn : b ≤ n := by have := congrArg List.length hd; simp at this; omega
  have am2 : a + 2 ≤ m := by omega
  have mb2 : m + 2 ≤ b := by omega
  have hm1 : ¬ (m : Int) - (a : Int) = 1 := by omega
  have hm2 : ((m : Int) - (a : Int) == 1) = false := by simpa using hm1
  have hb1 : ¬ (b : Int) - (m : Int) = 1 := by omega
  have hb2 : ((b : Int) - (m : Int) == 1) = false := by simpa using hb1
  clear hcmp S hd hX hY ha hcf hm hb h2X h2Y IH
  go_enter FG, Try.ntmps43
  go_upto_if 140 with fail
  obtain ⟨md, hmd⟩ : ∃ md : Nat, md = (a + b) / 2 := ⟨_, rfl⟩
  have q : ((a : Int) + (b : Int)) / 2 = (md : Int) := by omega
  have b1 : a + 2 ≤ md := by omega
  have b2 : md + 2 ≤ b := by omega
  have b3 : 2 * md ≤ a + b := by omega
  have b4 : a + b ≤ 2 * md + 1 := by omega
  obtain ⟨nn, hnn⟩ : ∃ nn : Nat, nn = md + m := ⟨_, rfl⟩
  have q2 : (md : Int) + (m : Int) = (nn : Int) := by omega
  rw [q, q2]
  clear q q2 hmd
  have HNN := Lib.hid hnn
  clear hnn
  go_cut [20, 21] (fun s20 s21 wx => ∃ st0 r0 : Nat, s20 = .int .i64 st0 ∧ s21 = .int .i64 r0 ∧ Hid (SymB a m b nn md st0 r0) ∧ Aside (SWK enc k w0 blk off d wx))
  case first =>
    have hnn := HNN.out
    by_cases hmid : md < m
    · have hz : (md : Int) < (m : Int) := by omega
      have hbnn : b ≤ nn := by omega
      have hnn2 : nn ≤ b + n := by omega
      clear hnn
      go_wp2_with fail
      go_meet
      have hnn := HNN.out
      exact ⟨nn - b, md, by congr 1; omega, rfl, Lib.hid ⟨hnn, by omega, Nat.le_refl _, by omega, by omega, by omega, .inr (by omega), .inr rfl⟩, S0⟩
    · have hz : ¬ (md : Int) < (m : Int) := by omega
      clear hnn
      go_wp2_with fail
      go_meet
      have hnn := HNN.out
      exact ⟨a, m, rfl, rfl, Lib.hid ⟨hnn, by omega, by omega, Nat.le_refl _, Nat.le_refl _, by omega, .inl rfl, .inl rfl⟩, S0⟩
  case rest =>
    clear S0
    obtain ⟨st0, r0, rfl, rfl, HB, S0⟩ := hcut
    have c1 : st0 ≤ r0 := HB.out.le
    have c2 : r0 ≤ md := HB.out.rm
    have c3 : r0 ≤ m := HB.out.rM
    have c4 : a ≤ st0 := HB.out.sa
    have c5 : nn ≤ st0 + b := HB.out.sb
    have c6 : md + m ≤ nn := by rw [HNN.out]; exact Nat.le_refl _
    have c7 : nn ≤ md + m := by rw [HNN.out]; exact Nat.le_refl _
    obtain ⟨pp, hpp⟩ : ∃ pp : Nat, pp = nn - 1 := ⟨_, rfl⟩
    have qp : (nn : Int) - 1 = (pp : Int) := by omega
    have c8 : pp + 1 ≤ nn := by omega
    have c9 : nn ≤ pp + 1 := by omega
    have HPP := Lib.hid hpp
    have HQP := Lib.hid qp
    clear hpp qp
    go_wp2
    rw [HQP.out]
    go_loopg [20, 21] (r0 - st0) (fun kx s10 s11 wr => ∃ (i j : Nat), s10 = .int .i64 i ∧ s11 = .int .i64 j ∧ st0 ≤ i ∧ i ≤ j ∧ j ≤ r0 ∧ j - i ≤ kx ∧ Aside (SWK enc k w0 blk off d wr) ∧ Hid (SymI r d nn st0 r0 i j))
    case atStart => exact ⟨st0, r0, rfl, rfl, Nat.le_refl _, c1, Nat.le_refl _, Nat.le_refl _, S0, Lib.hid ⟨.inl rfl, .inl rfl⟩⟩
    case round =>
      clear S0
      obtain ⟨i, j, rfl, rfl, hmi, hij, hjb, hkx, S1, HI⟩ := hrel
      by_cases hlt : i < j
      · have hltz : (i : Int) < (j : Int) := by omega
        go_wp2_with fail
        obtain ⟨h, hh⟩ : ∃ h : Nat, h = (i + j) / 2 := ⟨_, rfl⟩
        have q : ((i : Int) + (j : Int)) / 2 = (h : Int) := by omega
        have hih : i ≤ h := by omega
        have hhj : h < j := by omega
        have hhp : (h : Int) ≤ (pp : Int) := by omega
        rw [q]
        clear q hh
        have ea1 : ((pp : Int) - (h : Int)).toNat = pp - h := by omega
        have pa1 : (0 : Int) ≤ (pp : Int) - (h : Int) := by omega
        have ba1 : (pp : Int) - (h : Int) < (n : Int) := by omega
        have ra1 : IntKind.i64.wrap ((pp : Int) - (h : Int)) = (pp : Int) - (h : Int) := by rw [IntKind.wrap_i64]; omega
        have ec1 : ((h : Int)).toNat = h := by omega
        have pc1 : (0 : Int) ≤ (h : Int) := by omega
        have bc1 : (h : Int) < (n : Int) := by omega
        obtain ⟨x1, hx1⟩ : ∃ v, v = d[pp - h]! := ⟨_, rfl⟩
        obtain ⟨y1, hy1⟩ : ∃ v, v = d[h]! := ⟨_, rfl⟩
        have l1a := S1.out.ld R (by omega) P (pp - h) (by omega)
        have l1b := S1.out.ld R (by omega) P (h) (by omega)
        rw [← hx1] at l1a
        rw [← hy1] at l1b
        have hc1 := S1.out.cmp HC.out (by omega) x1 y1
        have E1 := Lib.hid (And.intro hx1 hy1)
        clear hx1 hy1
        by_cases hv : cf x1 y1 < 0
        · have hd1 : decide (cf x1 y1 < 0) = true := decide_eq_true hv
          go_wp2_with fail
          go_quiet_grown (first | (go_at_fn g; refine Calls.grown_of (hc1 _ _)))
          have S2 : Aside (SWK enc k w0 blk off d (grow (wr.drewN nq) osq)) := S1.out.grown nq osq
          clear l1a l1b hc1 S1
          generalize grow (wr.drewN nq) osq = w2 at S2 ⊢
          clear nq osq
          have hlo : Hid (r d[nn - 1 - h]! < r d[h]!) := Lib.hid (by rw [← HPP.out]; have h9 := (CF.out x1 y1).1 hv; rw [E1.out.1, E1.out.2] at h9; exact h9)
          go_wp2
          go_roundg (h - i)
          case measure => omega
          case rel => exact ⟨i, h, rfl, rfl, by omega, by omega, by omega, by omega, S2, Lib.hid ⟨HI.out.1, .inr hlo.out⟩⟩
        · have hd1 : decide (cf x1 y1 < 0) = false := decide_eq_false hv
          go_wp2_with fail
          go_quiet_grown (first | (go_at_fn g; refine Calls.grown_of (hc1 _ _)))
          have S2 : Aside (SWK enc k w0 blk off d (grow (wr.drewN nq) osq)) := S1.out.grown nq osq
          clear l1a l1b hc1 S1
          generalize grow (wr.drewN nq) osq = w2 at S2 ⊢
          clear nq osq
          have hlo : Hid (r d[h]! ≤ r d[nn - 1 - h]!) := Lib.hid (by rw [← HPP.out]; have h9 : ¬ r x1 < r y1 := fun e => absurd ((CF.out x1 y1).2 e) (by omega); rw [E1.out.1, E1.out.2] at h9; omega)
          go_wp2
          go_roundg (j - (h + 1))
          case measure => omega
          case rel => exact ⟨h + 1, j, by go_num, rfl, by omega, by omega, by omega, by omega, S2, Lib.hid ⟨.inr (by rw [show h + 1 - 1 = h by omega, show nn - (h + 1) = nn - 1 - h by omega]; exact hlo.out), HI.out.2⟩⟩
      · obtain rfl : i = j := by omega
        clear hkx hij hlt
        have hcut2 := fun (hd : d.toList = C ++ X ++ Y ++ D) uX uY ha hm hb => sym_cut hd uX uY ha hm hb HB.out hmi hjb HI.out
        have HCUT := Lib.hid (hcut2 HD.out.1 HD.out.2.1 HD.out.2.2.1 HD.out.2.2.2.1 HD.out.2.2.2.2.1 HD.out.2.2.2.2.2)
        clear hcut2
        obtain ⟨e, he⟩ : ∃ e : Nat, e = nn - i := ⟨_, rfl⟩
        have q : (nn : Int) - (i : Int) = (e : Int) := by omega
        have f1 : m ≤ e := by omega
        have f2 : e ≤ b := by omega
        have f3 : a ≤ i := by omega
        have f4 : i ≤ m := by omega
        have f5 : e + i = md + m := by omega
        have f6 : i ≤ md := by omega
        have f7 : i = m ∨ e = m ∨ (i < m ∧ m < e) := by omega
        rw [← he] at HCUT
        clear he c1 c2 c3 c4 c5 c6 c7 c8 c9 hmi hjb HI
        have q1 := Lib.hid (show X.length = m - a by have := HD.out; omega)
        have q2 := Lib.hid (show Y.length = b - m by have := HD.out; omega)
        have hds' := Lib.hid hds
        clear hds
        by_cases g1 : i < m
        · by_cases g2 : m < e
          · have z1 : (i : Int) < (m : Int) := by omega
            have z2 : (m : Int) < (e : Int) := by omega
            have z3 : (i : Int) < (md : Int) := by omega
            have z4 : (md : Int) < (e : Int) := by omega
            have hrot := rotate_any (P := P) L enc g cb blk off cap d0 d w0 wr R (by rw [hs, hds'.out]) S1.out (C ++ X.take (i - a)) (X.drop (i - a)) (Y.take (e - m)) (Y.drop (e - m) ++ D) (mid_parts HD.out.1 _ _) (by have := q1.out; simp; omega) (by have := q2.out; simp; omega) (by rw [hds'.out]; exact hsz) i m e (by have := q1.out; have := HD.out.2.2.2.1; simp; omega) (by have := q1.out; have := HD.out.2.2.2.1; simp; omega) (by have := q1.out; have := q2.out; have := HD.out.2.2.2.1; simp; omega)
            rw [hds'.out] at hrot
            by_cases g3 : a < i
            · have z5 : (a : Int) < (i : Int) := by omega
              by_cases g4 : e < b
              · have z6 : (e : Int) < (b : Int) := by omega
                go_wp2_with (go_at_fn 44; refine hrot.mono ?_; rintro e0 w4 ⟨rfl, dA, szA, lzA, SA⟩; have M1 := Lib.hid (mid_rot lzA); have hsA := Lib.hid szA; have S4 := Lib.hid SA; clear hrot lzA szA SA)
                have hrL := HIH.out C (X.take (i - a)) (Y.take (e - m)) (X.drop (i - a) ++ Y.drop (e - m) ++ D) dA w4 a i md hsA.out M1.out S4.out (up_take HD.out.2.1 _) (up_take HD.out.2.2.1 _) (by have := q1.out; simp; omega) (by have := q2.out; simp; omega) HD.out.2.2.2.1 (by have := q1.out; simp; omega) (by have := q2.out; simp; omega) (by omega)
                go_wp2_with (go_at_fn 43; refine hrL.mono ?_; rintro e1 w5 ⟨rfl, dL, ZL, szL, lzL, stL, SL⟩; have M2 := Lib.hid (mid2_go lzL stL); have hsL := Lib.hid szL; have S5 := Lib.hid SL; clear hrL lzL stL szL SL)
                have hlZ := M2.out.2.len
                have hrR := HIH.out (C ++ ZL) (X.drop (i - a)) (Y.drop (e - m)) D dL w5 md e b hsL.out M2.out.1 S5.out (up_drop HD.out.2.1 _) (up_drop HD.out.2.2.1 _) (by have := q1.out; simp; omega) (by have := q2.out; simp; omega) (by have := q1.out; have := q2.out; have := HD.out.2.2.2.1; simp at hlZ ⊢; omega) (by have := q1.out; simp; omega) (by have := q2.out; simp; omega) (by omega)
                clear hlZ
                go_wp2_with (go_at_fn 43; refine hrR.mono ?_; rintro e2 w6 ⟨rfl, dR, ZR, szR, lzR, stR, SR⟩; have M3 := Lib.hid (mid3_go M2.out HD.out.2.1 HD.out.2.2.1 HCUT.out lzR stR); have hsR := Lib.hid szR; have S6 := Lib.hid SR; clear hrR lzR stR szR SR)
                go_end0
                exact ⟨rfl, dR, _, hsR.out, M3.out.1, M3.out.2, S6.out⟩
              · have z6 : ¬ (e : Int) < (b : Int) := by omega
                go_wp2_with (go_at_fn 44; refine hrot.mono ?_; rintro e0 w4 ⟨rfl, dA, szA, lzA, SA⟩; have M1 := Lib.hid (mid_rot lzA); have hsA := Lib.hid szA; have S4 := Lib.hid SA; clear hrot lzA szA SA)
                have hrL := HIH.out C (X.take (i - a)) (Y.take (e - m)) (X.drop (i - a) ++ Y.drop (e - m) ++ D) dA w4 a i md hsA.out M1.out S4.out (up_take HD.out.2.1 _) (up_take HD.out.2.2.1 _) (by have := q1.out; simp; omega) (by have := q2.out; simp; omega) HD.out.2.2.2.1 (by have := q1.out; simp; omega) (by have := q2.out; simp; omega) (by omega)
                go_wp2_with (go_at_fn 43; refine hrL.mono ?_; rintro e1 w5 ⟨rfl, dL, ZL, szL, lzL, stL, SL⟩; have M2 := Lib.hid (mid2_go lzL stL); have hsL := Lib.hid szL; have S5 := Lib.hid SL; clear hrL lzL stL szL SL)
                go_wp2
                go_end0
                obtain ⟨o1, o2⟩ := mid3_no M2.out HD.out.2.1 HD.out.2.2.1 HCUT.out (by have := q1.out; have := q2.out; omega)
                exact ⟨rfl, dL, _, hsL.out, o1, o2, S5.out⟩
            · have z5 : ¬ (a : Int) < (i : Int) := by omega
              by_cases g4 : e < b
              · have z6 : (e : Int) < (b : Int) := by omega
                go_wp2_with (go_at_fn 44; refine hrot.mono ?_; rintro e0 w4 ⟨rfl, dA, szA, lzA, SA⟩; have M1 := Lib.hid (mid_rot lzA); have hsA := Lib.hid szA; have S4 := Lib.hid SA; clear hrot lzA szA SA)
                have M2 := Lib.hid (mid2_no (r := r) M1.out HD.out.2.1 HD.out.2.2.1 (by omega))
                have hlZ := M2.out.2.len
                have hrR := HIH.out (C ++ (X.take (i - a) ++ Y.take (e - m))) (X.drop (i - a)) (Y.drop (e - m)) D dA w4 md e b hsA.out M2.out.1 S4.out (up_drop HD.out.2.1 _) (up_drop HD.out.2.2.1 _) (by have := q1.out; simp; omega) (by have := q2.out; simp; omega) (by have := q1.out; have := q2.out; have := HD.out.2.2.2.1; simp at hlZ ⊢; omega) (by have := q1.out; simp; omega) (by have := q2.out; simp; omega) (by omega)
                clear hlZ
                go_wp2_with (go_at_fn 43; refine hrR.mono ?_; rintro e2 w6 ⟨rfl, dR, ZR, szR, lzR, stR, SR⟩; have M3 := Lib.hid (mid3_go M2.out HD.out.2.1 HD.out.2.2.1 HCUT.out lzR stR); have hsR := Lib.hid szR; have S6 := Lib.hid SR; clear hrR lzR stR szR SR)
                go_end0
                exact ⟨rfl, dR, _, hsR.out, M3.out.1, M3.out.2, S6.out⟩
              · have z6 : ¬ (e : Int) < (b : Int) := by omega
                go_wp2_with (go_at_fn 44; refine hrot.mono ?_; rintro e0 w4 ⟨rfl, dA, szA, lzA, SA⟩; have M1 := Lib.hid (mid_rot lzA); have hsA := Lib.hid szA; have S4 := Lib.hid SA; clear hrot lzA szA SA)
                have M2 := Lib.hid (mid2_no (r := r) M1.out HD.out.2.1 HD.out.2.2.1 (by omega))
                go_wp2
                go_end0
                obtain ⟨o1, o2⟩ := mid3_no M2.out HD.out.2.1 HD.out.2.2.1 HCUT.out (by have := q1.out; have := q2.out; omega)
                exact ⟨rfl, dA, _, hsA.out, o1, o2, S4.out⟩
          · obtain rfl : e = m := by omega
            have z1 : (i : Int) < (e : Int) := by omega
            obtain rfl : i = md := by omega
            have z4 : (e : Int) < (b : Int) := by omega
            have M1 := Lib.hid (mid_no HD.out.1 (s := i - a) (t := e - e) (by omega))
            have M2 := Lib.hid (mid2_no (r := r) M1.out HD.out.2.1 HD.out.2.2.1 (by omega))
            have hlZ := M2.out.2.len
            have hrR := HIH.out (C ++ (X.take (i - a) ++ Y.take (e - e))) (X.drop (i - a)) (Y.drop (e - e)) D d wr i e b hds'.out M2.out.1 S1.out (up_drop HD.out.2.1 _) (up_drop HD.out.2.2.1 _) (by have := q1.out; simp; omega) (by have := q2.out; simp; omega) (by have := q1.out; have := q2.out; have := HD.out.2.2.2.1; simp at hlZ ⊢; omega) (by have := q1.out; simp; omega) (by have := q2.out; simp; omega) (by omega)
            clear hlZ
            go_wp2_with (go_at_fn 43; refine hrR.mono ?_; rintro e2 w6 ⟨rfl, dR, ZR, szR, lzR, stR, SR⟩; have M3 := Lib.hid (mid3_go M2.out HD.out.2.1 HD.out.2.2.1 HCUT.out lzR stR); have hsR := Lib.hid szR; have S6 := Lib.hid SR; clear hrR lzR stR szR SR)
            go_end0
            exact ⟨rfl, dR, _, hsR.out, M3.out.1, M3.out.2, S6.out⟩
        · obtain rfl : i = m := by omega
          have z1 : ¬ (i : Int) < (i : Int) := by omega
          obtain rfl : e = md := by omega
          have z4 : ¬ (e : Int) < (e : Int) := by omega
          have M1 := Lib.hid (mid_no HD.out.1 (s := i - a) (t := e - i) (by have := q1.out; omega))
          by_cases g3 : a < i ∧ i < e
          · obtain ⟨g3, g4⟩ := g3
            have z5 : (a : Int) < (i : Int) := by omega
            have z6 : (i : Int) < (e : Int) := by omega
            have hrL := HIH.out C (X.take (i - a)) (Y.take (e - i)) (X.drop (i - a) ++ Y.drop (e - i) ++ D) d wr a i e hds'.out M1.out S1.out (up_take HD.out.2.1 _) (up_take HD.out.2.2.1 _) (by have := q1.out; simp; omega) (by have := q2.out; simp; omega) HD.out.2.2.2.1 (by have := q1.out; simp; omega) (by have := q2.out; simp; omega) (by omega)
            go_wp2_with (go_at_fn 43; refine hrL.mono ?_; rintro e1 w5 ⟨rfl, dL, ZL, szL, lzL, stL, SL⟩; have M2 := Lib.hid (mid2_go lzL stL); have hsL := Lib.hid szL; have S5 := Lib.hid SL; clear hrL lzL stL szL SL)
            go_wp2
            go_end0
            obtain ⟨o1, o2⟩ := mid3_no M2.out HD.out.2.1 HD.out.2.2.1 HCUT.out (by have := q1.out; have := q2.out; omega)
            exact ⟨rfl, dL, _, hsL.out, o1, o2, S5.out⟩
          · have z5 : (a : Int) < (i : Int) := by omega
            have z6 : ¬ (i : Int) < (e : Int) := by omega
            have M2 := Lib.hid (mid2_no (r := r) M1.out HD.out.2.1 HD.out.2.2.1 (by omega))
            go_wp2
            go_end0
            obtain ⟨o1, o2⟩ := mid3_no M2.out HD.out.2.1 HD.out.2.2.1 HCUT.out (by have := q1.out; have := q2.out; omega)
            exact ⟨rfl, d, _, hds'.out, o1, o2, S1.out⟩
end Go.Proofs.Ythkakikigccaaaa
