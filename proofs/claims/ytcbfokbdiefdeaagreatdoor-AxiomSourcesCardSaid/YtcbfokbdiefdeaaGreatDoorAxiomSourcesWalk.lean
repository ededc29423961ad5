/-
  Proved here: the law AxiomSources answers true of every candidate; nothing that was there is changed. Condition: numbers of 64 bits; the table of powers of ten as the library lays it.
-/
import Derived.Test.YtcbfokbdiefdeaaGreatDoorAxLives
import Derived.Test.YtcbfokbdiefdeaaGreatDoorAxLaws
import Derived.Test.YtcbfokbdiefdeaaGreatDoorRf09All
import Derived.Test.YtcbfokbdiefdeaaGreatDoorCdLight30
namespace Go.Proofs.YtcbfokbdiefdeaaGreatDoor
set_option linter.unusedVariables false
set_option linter.unusedSimpArgs false
open Go.RowKit Go.Maps
attribute [local go_sem ↓] fold_E fold_SE
attribute [local irreducible] wpStill

/-- the law's candidate and its copy, in their boxes -/
structure Sx2 (c : Cd) (q : Cv) (k : Cw) (gX : Nat) (fr od : List Int) (w W : World) : Prop where
  lk : Lk c q w W
  box : CBox (.slice k.q.aF c.fs.length k.q.cF) (.slice k.q.aH c.nh k.q.cH) (.slice k.q.aR c.fr.length k.q.cR) (.slice k.q.aO c.od.length k.q.cO) gX W
  cy : Cy c k fr od W
theorem Sx2.on {c : Cd} {q : Cv} {k : Cw} {gX : Nat} {fr od : List Int} {w W W2 : World} (h : Sx2 c q k gX fr od w W) (hb : Below W.heap.size W W2) : Sx2 c q k gX fr od w W2 := ⟨h.lk.on hb, h.box.on hb, h.cy.on hb⟩
theorem from_in {c : Cd} {q : Cv} {w : World} (h : CAt c q w) (h0 : c.fr.length ≠ 0) : ∃ b off, q.aR = some ⟨b, off, none⟩ ∧ b < w.heap.size ∧ ∀ j, j < c.fr.length → w.cell? ⟨b, off + j, none⟩ = some (.int .i64 (atI c.fr j)) := by
  rcases h.from_ with ⟨_, h1⟩ | ⟨b, off, c2, e, _, _, h3, h4⟩
  · rw [h1] at h0; exact absurd rfl h0
  · injection e with e1 e2 e3
    exact ⟨b, off, e1, h3, h4⟩
set_option maxRecDepth 100000 in
set_option maxHeartbeats 32000000 in
theorem axiomSources_any (c : Cd) (q : Cv) (w : World) (h : CAt c q w) (hx : ∀ h, h < c.nh → ∀ k, k < c.len h → WordX (c.ev h k)) (hf : ∀ j, j < c.fs.length → (0 ≤ fA c.fs j ∧ fA c.fs j < 18446744073709551616) ∧ (0 ≤ fV c.fs j ∧ fV c.fs j < 18446744073709551616)) (hT : TabP w) (x1 x2 : Int) (b1 : -9223372036854775808 ≤ x1 ∧ x1 ≤ 9223372036854775807) (b2 : -9223372036854775808 ≤ x2 ∧ x2 ≤ 9223372036854775807) :
    Calls Tryz.prog 5 #[cdV c q, .int .i64 x1, .int .i64 x2] w fun e w' => SameOk w true e w' := by
  have S0 := Lib.hid (Lk.start h)
  have HP := Lib.hid (fun h hh k hk => (hx h hh k hk).2)
  have HE := Lib.hid (fun h hh k hk => (hx h hh k hk).1)
  have HLOW := Lib.hid (low_addr h)
  have HFW := Lib.hid hf
  have HT := Lib.hid hT
  clear h hx hf hT
  go_enter Tryz.func5, Tryz.ntmps5
  go_upto_region 3 with (go_at_call 10; (with_reducible refine (alives_any _ (HT.out.on S0.out.below)).mono ?_); rintro e' w1 ⟨rfl, hb⟩; have S1 := Lib.hid (S0.out.on hb); clear hb)
  obtain ⟨u0, u1, u2, u3⟩ := S1.out.box.facts
  obtain ⟨o, ho⟩ : ∃ o, Hid ((judgeW c).ok = o) := ⟨_, Lib.hid rfl⟩
  have KO := Lib.hid (fun w0 (hL : Lt c) h0 => Ok_any c q w0 hL h0 o ho.out)
  cases o with
  | false =>
    go_wp2_with (first
      | (go_at_call 15; (with_reducible refine (lightCand_any30 c q w1 S1.out.at_).mono ?_); rintro e' w2 ⟨r, rfl, hr, hb⟩; have S2 := Lib.hid (S1.out.on hb); have R2 := Lib.hid (fun (e : r = true) => (hr e).lt HE.out HFW.out); clear hb hr u0 u1 u2 u3; obtain ⟨u0, u1, u2, u3⟩ := S2.out.box.facts; cases r)
      | (go_at_call 12; (with_reducible refine (KO.out _ (R2.out (by first | rfl | trivial)) S2.out.at_).mono ?_); rintro e' w3 ⟨rfl, hb⟩; have S3 := Lib.hid (S2.out.on hb); clear hb u0 u1 u2 u3; obtain ⟨u0, u1, u2, u3⟩ := S3.out.box.facts))
    · go_ret
      exact ⟨rfl, S2.out.below⟩
    · go_ret
      exact ⟨rfl, S3.out.below⟩
  | true =>
    have HK := Lib.hid (judge_ok.1 ho.out)
    by_cases hn0 : c.fr.length = 0
    · have hz : ((c.fr.length : Int) == 0) = true := by simp [hn0]
      clear hn0
      go_wp2_with (first
        | (go_at_call 15; (with_reducible refine (lightCand_any30 c q w1 S1.out.at_).mono ?_); rintro e' w2 ⟨r, rfl, hr, hb⟩; have S2 := Lib.hid (S1.out.on hb); have R2 := Lib.hid (fun (e : r = true) => (hr e).lt HE.out HFW.out); clear hb hr u0 u1 u2 u3; obtain ⟨u0, u1, u2, u3⟩ := S2.out.box.facts; cases r)
        | (go_at_call 12; (with_reducible refine (KO.out _ (R2.out (by first | rfl | trivial)) S2.out.at_).mono ?_); rintro e' w3 ⟨rfl, hb⟩; have S3 := Lib.hid (S2.out.on hb); clear hb u0 u1 u2 u3; obtain ⟨u0, u1, u2, u3⟩ := S3.out.box.facts))
      · go_ret
        exact ⟨rfl, S2.out.below⟩
      · go_ret
        exact ⟨rfl, S3.out.below⟩
    have hz : ((c.fr.length : Int) == 0) = false := by simpa using hn0
    go_upto_region 5 with (first
      | (go_at_call 15; (with_reducible refine (lightCand_any30 c q w1 S1.out.at_).mono ?_); rintro e' w2 ⟨r, rfl, hr, hb⟩; have S2 := Lib.hid (S1.out.on hb); have R2 := Lib.hid (fun (e : r = true) => (hr e).lt HE.out HFW.out); clear hb hr u0 u1 u2 u3; obtain ⟨u0, u1, u2, u3⟩ := S2.out.box.facts; cases r)
      | (go_at_call 12; (with_reducible refine (KO.out _ (R2.out (by first | rfl | trivial)) S2.out.at_).mono ?_); rintro e' w3 ⟨rfl, hb⟩; have S3 := Lib.hid (S2.out.on hb); clear hb u0 u1 u2 u3; obtain ⟨u0, u1, u2, u3⟩ := S3.out.box.facts))
    · go_ret
      exact ⟨rfl, S2.out.below⟩
    have LT := Lib.hid (R2.out (by first | rfl | trivial))
    clear S0 S1 S2 R2 HE HFW KO ho hz
    have HM := Lib.hid HK.out.may
    have HFR := Lib.hid (may_fr HK.out.may)
    have hN60 := LT.out.n
    have hfr120 := LT.out.fr
    have hod120 := LT.out.od
    obtain ⟨b, off, hq, hbl, hcell⟩ := from_in S3.out.here hn0
    have HC := Lib.hid (fun (W : World) (hS : Lk c q w W) (j : Nat) (hj : j < c.fr.length) => (hS.below.cell (p := ⟨b, off + j, none⟩) hbl).trans (hcell j hj))
    have HV : Hid (cdV c q = .agg #[.slice q.aF c.fs.length q.cF, .slice q.aH c.nh q.cH, .slice (some ⟨b, off, none⟩) c.fr.length q.cR, .slice q.aO c.od.length q.cO]) := Lib.hid (by unfold cdV; rw [hq])
    have HBX : Hid (∀ W, Lk c q w W → W.cell? ⟨w.heap.size, 0, none⟩ = some (.slice q.aF c.fs.length q.cF) ∧ W.cell? ⟨w.heap.size, 1, none⟩ = some (.slice q.aH c.nh q.cH) ∧ W.cell? ⟨w.heap.size, 2, none⟩ = some (.slice (some ⟨b, off, none⟩) c.fr.length q.cR) ∧ W.cell? ⟨w.heap.size, 3, none⟩ = some (.slice q.aO c.od.length q.cO)) := Lib.hid (fun W hS => by
      have := hS.box.facts
      rw [hq] at this
      exact this)
    clear hcell hbl hq u0 u1 u2 u3
    obtain ⟨u0, u1, u2, u3⟩ := HBX.out _ S3.out
    have KA := Lib.hid (fun w0 h0 => rall9_yes c q w0 LT.out HP.out h0 HM.out)
    rw [HV.out] at KA
    have KS := Lib.hid (fun w0 h0 (i r : Int) hr => Source_any c q w0 LT.out h0 i r hr)
    rw [HV.out] at KS
    have KW := Lib.hid (fun w0 h0 => ownCand_cy c q w0 LT.out h0)
    rw [HV.out] at KW
    go_upto_region 6 with (go_at_call 22; (with_reducible refine (KA.out _ S3.out.at_).mono ?_); rintro e' w4 ⟨v, es, base, rfl, hbase, hra, hb⟩; obtain ⟨aV, cV, rfl⟩ := own_form hra.own; have S4 := Lib.hid (S3.out.on hb); clear hbase hra hb u0 u1 u2 u3)
    clear S3 KA
    go_wp2
    go_loopw [8] (fun vi wr => ∃ (i : Nat), i ≤ c.N ∧ vi = .int .i64 i ∧ Hid (Lk c q w wr)) (fun vi _ => c.N - (intOf vi).toNat)
    case atStart => exact ⟨0, Nat.zero_le _, rfl, S4⟩
    case round =>
      obtain ⟨i, hi, rfl, HS⟩ := hrel
      clear S4
      by_cases hlt : i < c.N
      · obtain ⟨r, hr⟩ : ∃ r, atI c.fr i = r := ⟨_, rfl⟩
        have KS1 := Lib.hid (fun w0 h0 => KS.out w0 h0 (i : Int) r (by rw [sourceW_in HM.out i hlt, ← HK.out.val i hlt, hr]))
        have hif : i < c.fr.length := by rw [HFR.out]; exact hlt
        have hii : (i : Int) < (c.fr.length : Int) := by omega
        have hi0 : (0 : Int) ≤ (i : Int) := by omega
        have HC1 : Hid (∀ W, Lk c q w W → (W.cell? ⟨w.heap.size, 0, none⟩ = some (.slice q.aF c.fs.length q.cF) ∧ W.cell? ⟨w.heap.size, 1, none⟩ = some (.slice q.aH c.nh q.cH) ∧ W.cell? ⟨w.heap.size, 2, none⟩ = some (.slice (some ⟨b, off, none⟩) c.fr.length q.cR) ∧ W.cell? ⟨w.heap.size, 3, none⟩ = some (.slice q.aO c.od.length q.cO)) ∧ W.cell? ⟨b, off + i, none⟩ = some (.int .i64 r)) := Lib.hid (fun W hS => ⟨HBX.out W hS, by have := HC.out W hS i hif; rw [hr] at this; exact this⟩)
        have HB := Lib.hid (Below.refl wr.heap.size wr).drew
        have SD := Lib.hid (HS.out.on HB.out)
        have er : (r != r) = false := by simp
        clear hr
        go_upto_region 9 with fail
        go_region_held3 (fun w' => (w'.cell? ⟨w.heap.size, 0, none⟩ = some (.slice q.aF c.fs.length q.cF) ∧ w'.cell? ⟨w.heap.size, 1, none⟩ = some (.slice q.aH c.nh q.cH) ∧ w'.cell? ⟨w.heap.size, 2, none⟩ = some (.slice (some ⟨b, off, none⟩) c.fr.length q.cR) ∧ w'.cell? ⟨w.heap.size, 3, none⟩ = some (.slice q.aO c.od.length q.cO)) ∧ w'.cell? ⟨b, off + i, none⟩ = some (.int .i64 r)) (first | exact HC1.out _ SD.out | exact HC1.out _ SE.out)
          ((go_at_call 13; (with_reducible refine (KS1.out _ SD.out.at_).mono ?_); rintro e' w5 ⟨rfl, hb⟩; have SE := Lib.hid (SD.out.on hb); clear hb))
        go_wp2
        go_roundw
        case rel => exact ⟨i + 1, by omega, by go_num, SE⟩
        case measure => simp [intOf]; omega
      · obtain rfl : i = c.N := by omega
        obtain ⟨n, hn, hnlt⟩ : ∃ n : Nat, Hid (pickI x1 (c.fr.length : Int) = n) ∧ n < c.fr.length := by
          have := pickI_lt x1 (c.fr.length : Int) (by omega)
          exact ⟨(pickI x1 (c.fr.length : Int)).toNat, Lib.hid (by omega), by omega⟩
        obtain ⟨f, hf, hflo, hfhi⟩ : ∃ f : Int, Hid (pickI x2 ((c.fr.length : Int) + 1) = f + 1) ∧ -1 ≤ f ∧ f < c.fr.length := by
          have := pickI_lt x2 ((c.fr.length : Int) + 1) (by omega)
          exact ⟨pickI x2 ((c.fr.length : Int) + 1) - 1, Lib.hid (by omega), by omega, by omega⟩
        have KP1 := Lib.hid (fun w0 => Pick_any x1 (c.fr.length : Int) b1.1 b1.2 (by omega) w0)
        have KP2 := Lib.hid (fun w0 => Pick_any x2 ((c.fr.length : Int) + 1) b2.1 b2.2 (by omega) w0)
        rw [hn.out] at KP1
        rw [hf.out] at KP2
        clear KS hlt hi
        obtain ⟨u0, u1, u2, u3⟩ := HBX.out _ HS.out
        go_upto_region 12 with (go_at_call 16; (with_reducible refine (KP1.out _).mono ?_); rintro e' w5 ⟨rfl, rfl⟩)
        go_upto_region 13 with (go_at_call 9; (with_reducible refine (KW.out _ HS.out.at_).mono ?_); rintro e' w6 ⟨k, hk, rfl, hc, hb⟩; have S6 := Lib.hid (HS.out.on hb); have C6 := Lib.hid hc; have HKW := Lib.hid hk; have HB6 := Lib.hid hb; clear hc hb hk u0 u1 u2 u3)
        have P6 : Hid (Sx2 c q k w6.heap.size c.fr c.od w (w6.alloc (.cells #[.slice k.q.aF c.fs.length k.q.cF, .slice k.q.aH c.nh k.q.cH, .slice k.q.aR c.fr.length k.q.cR, .slice k.q.aO c.od.length k.q.cO] 26))) := Lib.hid ⟨S6.out.on (box_below w6 _), CBox.new _ _ _ _ w6, C6.out.on (box_below w6 _)⟩
        obtain ⟨gR, hgR, hgR1, hgR2⟩ := own_is C6.out.from_ hn0
        go_name_world W6 hW6
        rw [hW6] at P6
        have HLX := Lib.hid S6.out.box.lt
        obtain ⟨gX, hgX⟩ : ∃ g, w6.heap.size = g := ⟨_, rfl⟩
        rw [hgX] at P6 HLX hgR2 ⊢
        clear hW6 hgX C6 S6
        have PD := Lib.hid (P6.out.on (Below.refl _ _).drew)
        obtain ⟨hcy, hfz0, ⟨u, hu0⟩, hlo, hhi⟩ := P6.out.cy.setFrom hgR n hnlt f
        obtain ⟨_, hfz, ⟨u1, hu⟩, _, _⟩ := PD.out.cy.setFrom hgR n hnlt f
        have HGR : Hid (w.heap.size < gR ∧ gR < gX) := Lib.hid ⟨by have := HS.out.box.lt; have := HKW.out; rw [this] at hlo; omega, hgR2⟩
        have P7a : Hid (Sx2 c q k gX (c.fr.set n f) c.od w (W6.setCell ⟨gR, n, none⟩ (.int .i64 f))) := Lib.hid ⟨P6.out.lk.set1 HGR.out.1 _, (Below.heap_setCell _ ⟨gR, n, none⟩ _ gX (by show gX ≠ gR; have := HGR.out; omega)).trans P6.out.box, hcy⟩
        have P7 := Lib.hid (P7a.out.on (Below.refl _ _).drew)
        obtain ⟨x0, x1c, x2c, x3c⟩ := PD.out.box.facts
        rw [hgR] at x2c
        obtain ⟨y0, y1, y2, y3⟩ := HBX.out _ PD.out.lk
        have hni : (n : Int) < (c.fr.length : Int) := by omega
        have hni0 : (0 : Int) ≤ (n : Int) := by omega
        have e1 : IntKind.i64.wrap ((c.fr.length : Int) + 1) = (c.fr.length : Int) + 1 := by rw [IntWalk.i64_in _ (by omega)]
        have e2 : IntKind.i64.wrap f = f := by rw [IntWalk.i64_in _ (by omega)]
        obtain ⟨v0, v1, v2, v3⟩ := P7.out.box.facts
        rw [hgR] at v2
        obtain ⟨z0, z1, z2, z3⟩ := HBX.out _ P7.out.lk
        clear P7a hfz0 hu0 hcy hlo hhi hgR1 hgR2
        go_region_held3 (fun w' => w'.cell? ⟨gX, 2, none⟩ = some (.slice (some ⟨gR, 0, none⟩) c.fr.length k.q.cR) ∧ w'.cell? ⟨w.heap.size, 2, none⟩ = some (.slice (some ⟨b, off, none⟩) c.fr.length q.cR)) (first | exact ⟨x2c, y2⟩ | exact ⟨v2, z2⟩)
          ((go_at_call 16; (with_reducible refine (KP2.out _).mono ?_); rintro e' w7 ⟨rfl, rfl⟩))
        obtain ⟨W7, hW7⟩ : ∃ W, (W6.setCell ⟨gR, n, none⟩ (.int .i64 f)).drew = W := ⟨_, rfl⟩
        rw [hW7] at P7
        go_upto_region 14 with (rw [hW7])
        try rw [hW7]
        clear v0 v1 v2 v3 z0 z1 z2 z3 x0 x1c x2c x3c y0 y1 y2 y3 hW7 hfz hu e1 e2 P6 PD
        obtain ⟨r0, hr0⟩ : ∃ r, Hid (atI c.fr n = r) := ⟨_, Lib.hid rfl⟩
        have P8 := Lib.hid (P7.out.on (Below.refl _ _).drew)
        obtain ⟨v0, v1, v2, v3⟩ := P8.out.box.facts
        rw [hgR] at v2
        obtain ⟨z0, z1, z2, z3⟩ := HBX.out _ P8.out.lk
        have hsf : atI (c.fr.set n f) n = f := by rw [atI_set c.fr n n f hnlt, if_pos rfl]
        have cx := P8.out.cy.cellR hgR n (by rw [List.length_set]; exact hnlt)
        rw [hsf] at cx
        have cc := HC.out _ P8.out.lk n hnlt
        rw [hr0.out] at cc
        by_cases hfr : f = r0
        · have ef : (f == r0) = true := by simpa using hfr
          clear hfr
          refine wp_region_still_tail 13 (by kernel_rfl) (by kernel_rfl) ?_
          simp only [List.take_succ_cons, List.take_zero, List.drop_succ_cons, List.drop_zero]
          iterate 13 (first | (refine wpStill_skip (by as_aux_lemma => kernel_rfl) ?_; simp only [Act.put, List.setIfInBounds_toArray, List.set_cons_succ, List.set_cons_zero]) | still_step)
          refine wpStill_nil ?_
          change wpList _ _ _ _ _ (World.drew _)
          go_wp2
          go_ret
          exact ⟨rfl, P8.out.lk.below⟩
        · have ef : (f == r0) = false := by simpa using hfr
          have AE := Lib.hid P8.out.cy.as
          have LD := Lib.hid (P8.out.cy.lt LT.out (by rw [List.length_set]; exact hfr120) hod120)
          have HPD : Hid (∀ h, h < (c.copy k.ess (c.fr.set n f) c.od).nh → ∀ j, j < (c.copy k.ess (c.fr.set n f) c.od).len h → PairFits ((c.copy k.ess (c.fr.set n f) c.od).ev h j)) := Lib.hid (fun h hh j hj => by
            obtain ⟨a', x', y', e⟩ := AE.out.ev h j
            rw [e]; exact HP.out h hh j hj)
          have HVX : Hid (cdV (c.copy k.ess (c.fr.set n f) c.od) k.q = .agg #[.slice k.q.aF c.fs.length k.q.cF, .slice k.q.aH c.nh k.q.cH, .slice (some ⟨gR, 0, none⟩) c.fr.length k.q.cR, .slice k.q.aO c.od.length k.q.cO]) := Lib.hid (by
            show Value.agg #[.slice k.q.aF c.fs.length k.q.cF, .slice k.q.aH c.nh k.q.cH, .slice k.q.aR (c.fr.set n f).length k.q.cR, .slice k.q.aO c.od.length k.q.cO] = _
            rw [List.length_set, hgR])
          have KNO : Hid ((judgeW (c.copy k.ess (c.fr.set n f) c.od)).ok = false) := Lib.hid (by
            cases hj : (judgeW (c.copy k.ess (c.fr.set n f) c.od)).ok with
            | false => rfl
            | true =>
              have h1 := sources_law HK.out AE.out rfl (judge_ok.1 hj) n (by rw [← HFR.out]; exact hnlt)
              have h2 : atI (c.fr.set n f) n = atI c.fr n := h1
              rw [hsf, hr0.out] at h2
              exact absurd h2 hfr)
          obtain ⟨m, hm⟩ : ∃ m, Hid ((c.copy k.ess (c.fr.set n f) c.od).may = m) := ⟨_, Lib.hid rfl⟩
          have KC := Lib.hid (fun w0 h0 => rcheck9_is (c.copy k.ess (c.fr.set n f) c.od) k.q w0 LD.out HPD.out h0 m hm.out)
          rw [HVX.out] at KC
          have KOX := Lib.hid (fun w0 h0 => Ok_any (c.copy k.ess (c.fr.set n f) c.od) k.q w0 LD.out h0 false KNO.out)
          rw [HVX.out] at KOX
          have HAT := Lib.hid (fun (W : World) (hP : Sx2 c q k gX (c.fr.set n f) c.od w W) => hP.cy.at_ HLOW.out)
          clear hfr
          refine wp_region_still_tail 13 (by kernel_rfl) (by kernel_rfl) ?_
          simp only [List.take_succ_cons, List.take_zero, List.drop_succ_cons, List.drop_zero]
          iterate 13 (first | (refine wpStill_skip (by as_aux_lemma => kernel_rfl) ?_; simp only [Act.put, List.setIfInBounds_toArray, List.set_cons_succ, List.set_cons_zero]) | still_step)
          refine wpStill_nil ?_
          change wpList _ _ _ _ _ (World.drew _)
          cases m with
          | false =>
            go_wp2_with (go_at_call 23; (with_reducible refine (KC.out _ (HAT.out _ P8.out)).mono ?_); rintro e' w9 ⟨rfl, hb⟩; have P9 := Lib.hid (P8.out.on hb); clear hb)
            go_ret
            exact ⟨rfl, P9.out.lk.below⟩
          | true =>
            go_wp2_with (first
              | (go_at_call 23; (with_reducible refine (KC.out _ (HAT.out _ P8.out)).mono ?_); rintro e' w9 ⟨rfl, hb⟩; have P9 := Lib.hid (P8.out.on hb); clear hb v0 v1 v2 v3; obtain ⟨v0, v1, v2, v3⟩ := P9.out.box.facts; rw [hgR] at v2)
              | (go_at_call 12; (with_reducible refine (KOX.out _ (HAT.out _ P9.out)).mono ?_); rintro e' w10 ⟨rfl, hb⟩; have P10 := Lib.hid (P9.out.on hb); clear hb))
            go_ret
            exact ⟨rfl, P10.out.lk.below⟩
end Go.Proofs.YtcbfokbdiefdeaaGreatDoor
