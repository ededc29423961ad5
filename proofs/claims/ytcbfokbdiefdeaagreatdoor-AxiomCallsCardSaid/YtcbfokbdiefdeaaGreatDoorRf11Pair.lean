/-
  Proved here: the document's pair axiom at an SC (chapter 11): by whom it is broken; nothing that was there is changed. Condition: a light candidate that may be.
-/
import Derived.Test.YtcbfokbdiefdeaaGreatDoorRf11Pure
import Derived.Test.YtcbfokbdiefdeaaGreatDoorRf10Small
import Derived.Test.YtcbfokbdiefdeaaGreatDoorAxLaws
import Derived.Test.YtcbfokbdiefdeaaGreatDoorRf09All
namespace Go.Proofs.YtcbfokbdiefdeaaGreatDoor
set_option linter.unusedVariables false
set_option linter.unusedSimpArgs false
open Go.RowKit Go.Maps
attribute [local go_sem ↓] fold_E fold_SE
attribute [local irreducible] wpStill

set_option maxRecDepth 100000 in
set_option maxHeartbeats 16000000 in
theorem rpair_any (c : Cd) (q : Cv) (es : List Ev) (aA : Option Addr) (cA base gP : Nat) (w : World) (hL : Lt c) (hm : c.may = true) (h : Vh c q es aA cA base w) (hP : IntsAt (plcL c c.od.length) c.N gP w) (n : Nat) (hn : n < c.N) (h4 : (c.at n).1.kind = 4) (l : Nat) (hl : lrN c n = (l : Int)) (v : Int) (hv : partN c (atI c.fr l) n = v) :
    Calls Tryz.prog 47 #[vwV c q aA cA, .slice (some ⟨gP, 0, none⟩) c.N c.N, .int .i64 (n : Int)] w fun e w' => e = .returned (.tuple #[.int .i64 (l : Int), .int .i64 v]) ∧ Below w.heap.size w w' := by
  have S0 := Lib.hid (Vr.start h)
  have P0 := Lib.hid (hP.on (box_below w (.cells #[.slice q.aF c.fs.length q.cF, .slice q.aH c.nh q.cH, .slice q.aR c.fr.length q.cR, .slice q.aO c.od.length q.cO, .slice aA c.N cA] 76)))
  have hN60 := hL.n
  have hod120 := hL.od
  have HM := Lib.hid hm
  have HMEM : Hid (memE (c.at n).1 = true) := Lib.hid (by unfold memE; rw [h4]; decide)
  obtain ⟨l', j, m, hla, hlr, hj, hmm, hmj, hja, hll⟩ := sc_pair hm n hn h4
  have hl' : l' = l := by rw [hl] at hlr; omega
  subst hl'
  obtain ⟨pn, hpl, hpn, _⟩ := place_of hm n hn HMEM.out
  have HPN := Lib.hid hpn
  have HFR := Lib.hid (may_fr hm)
  obtain ⟨bO, oO, hqo, hbo, hco⟩ : ∃ b off, q.aO = some ⟨b, off, none⟩ ∧ b < w.heap.size ∧ ∀ j, j < c.od.length → w.cell? ⟨b, off + j, none⟩ = some (.int .i64 (atI c.od j)) := by
    rcases h.cand.order with ⟨_, h1⟩ | ⟨b, off, c2, e, _, _, h3, h4⟩
    · rw [h1] at hpl; simp at hpl
    · injection e with e1 e2 e3
      exact ⟨b, off, e1, h3, h4⟩
  obtain ⟨bR, oR, hqr, hbr, hcr⟩ : ∃ b off, q.aR = some ⟨b, off, none⟩ ∧ b < w.heap.size ∧ ∀ j, j < c.fr.length → w.cell? ⟨b, off + j, none⟩ = some (.int .i64 (atI c.fr j)) := by
    rcases h.cand.from_ with ⟨_, h1⟩ | ⟨b, off, c2, e, _, _, h3, h4⟩
    · have := HFR.out; rw [h1] at this; simp at this; omega
    · injection e with e1 e2 e3
      exact ⟨b, off, e1, h3, h4⟩
  have HCO := Lib.hid (fun (W : World) (hS : Vr c q es aA cA base w.heap.size w W) (j : Nat) (hj : j < c.od.length) => (hS.below.cell (p := ⟨bO, oO + j, none⟩) hbo).trans (hco j hj))
  have HQO := Lib.hid hqo
  obtain ⟨gE, cap, ev, _, hra⟩ := S0.out.vh.ra.rall (by omega)
  injection ev with ev1 ev2 ev3
  subst ev1
  clear ev2 ev3
  have HA0 := Lib.hid hra
  clear hra
  obtain ⟨W0, hW0⟩ : ∃ W, w.alloc (.cells #[.slice q.aF c.fs.length q.cF, .slice q.aH c.nh q.cH, .slice q.aR c.fr.length q.cR, .slice q.aO c.od.length q.cO, .slice (some ⟨gE, 0, none⟩) c.N cA] 76) = W := ⟨_, rfl⟩
  rw [hW0] at S0 P0 HA0
  have HW0 := Lib.hid hW0
  clear hW0
  obtain ⟨X, hX⟩ : ∃ X, Hid (evAtN es n = X) := ⟨_, Lib.hid rfl⟩
  have XF : Hid X.flat := Lib.hid (by rw [← hX.out]; exact HA0.out.flat_ n hn)
  have XL : Hid (∃ x y z, X = (c.at n).1.lists x y z) := Lib.hid (by rw [← hX.out]; exact HA0.out.like n hn)
  have clx : (LoadE (.pointer (some ⟨gE, n * 14, none⟩))).run Tryz.prog W0 = .ok X.V W0 := by rw [← hX.out]; exact load0 HA0.out n hn
  have z0 : EvAt zeroEv W0.heap.size (W0.alloc (.cells #[.int .i64 0, .int .i64 0, .int .i64 0, .int .u64 0, .int .u64 0, .int .u64 0, .bool false, .bool false, .int .i64 0, .int .i64 0, .int .i64 0, .slice none 0 0, .slice none 0 0, .slice none 0 0] 32)) := EvAt.new zeroEv W0
  obtain ⟨W1, cs, d1, hb3⟩ := store_made z0 XF.out
  have H2 := Lib.hid (S0.out.on ((box_below W0 _).trans hb3))
  have P2 := Lib.hid (P0.out.on ((box_below W0 _).trans hb3))
  have E2 := Lib.hid d1
  obtain ⟨y0, y1, y2, y3, y4⟩ := S0.out.facts
  have hni : (n : Int) < (c.N : Int) := by omega
  have hn0 : (0 : Int) ≤ (n : Int) := by omega
  obtain ⟨s, hs⟩ : ∃ s, Hid (atI c.fr l' = s) := ⟨_, Lib.hid rfl⟩
  have HIN : Hid (InN c s) := Lib.hid (by have := fr_in hm l' (by omega); rw [hs.out] at this; exact this)
  have HV0 : Hid (partN c s n = v) := Lib.hid (by rw [← hs.out]; exact hv)
  have HXJ : Hid (X.pos = (j : Int) ∧ X.pair = (m : Int)) := Lib.hid (by
    obtain ⟨_, _, _, ex⟩ := XL.out
    rw [ex]; exact ⟨hj, hmm⟩)
  have hcR := hcr l' (by rw [HFR.out]; omega)
  rw [hs.out] at hcR
  have HCR := Lib.hid hcR
  have HBR := Lib.hid hbr
  have HQR := Lib.hid hqr
  have e5 : IntKind.i64.wrap ((j : Int) - (m : Int)) = ((j - m : Nat) : Int) := by rw [IntWalk.i64_in _ (by omega)]; omega
  have e6 : IntKind.i64.wrap ((n : Int) - ((j - m : Nat) : Int)) = (l' : Int) := by rw [IntWalk.i64_in _ (by omega)]; omega
  have hli : (l' : Int) < (c.fr.length : Int) := by rw [HFR.out]; omega
  have hli0 : (0 : Int) ≤ (l' : Int) := by omega
  clear z0 d1 hb3 h hP hL hm hv hl hlr hj hmm hco hqo hbo hcr hbr hqr hcR h4 hpn
  go_enter Tryz.func47, Tryz.ntmps47
  go_upto_region 1 with fail
  rw [HW0.out]
  go_upto_region 2 with fail
  obtain ⟨gX, hgX⟩ : ∃ g, W0.heap.size = g := ⟨_, rfl⟩
  rw [hgX] at E2 ⊢
  clear hgX clx cs S0 P0 HA0 y0 y1 y2 y3 y4 HW0
  obtain ⟨_, _, x1, _, _, _, _, _, _, _, _, x10, _⟩ := E2.out.facts
  rw [HXJ.out.1] at x1
  rw [HXJ.out.2] at x10
  obtain ⟨y0, y1, y2, y3, y4⟩ := H2.out.facts
  rw [HQR.out] at y2
  have cR := (H2.out.below.cell (p := ⟨bR, oR + l', none⟩) HBR.out).trans HCR.out
  go_upto_region 5 with fail
  clear x1 x10 cR e5 e6 y0 y1 y2 y3 y4
  by_cases hs1 : s = -1
  · subst hs1
    have ds : decide ((-1 : Int) ≥ 0) = false := by decide
    have ds2 : decide ((0 : Int) ≤ -1) = false := by decide
    obtain ⟨ps, hps⟩ : ∃ ps : Int, ps = -1 := ⟨_, rfl⟩
    have hlow : -1 ≤ ps := by omega
    have hps2 : ps < (pn : Int) := by omega
    have HV : Hid (amidF c n (ps + 1).toNat ((pn : Int) - (ps + 1)).toNat = v) := Lib.hid (by
      have := HV0.out
      unfold partN at this
      have hz : plN c (-1) = -1 := rfl
      rw [hz, HPN.out, if_neg (by omega)] at this
      rw [hps]; exact this)
    rw [← hps]
    clear ds ds2
    have ds : decide (ps ≥ 0) = false := by simp; omega
    have ds2 : decide (0 ≤ ps) = false := by simp; omega
    clear hps
    obtain ⟨k0, hk0⟩ : ∃ k0 : Nat, ps + 1 = k0 := ⟨(ps + 1).toNat, by omega⟩
    have e3 : IntKind.i64.wrap (ps + 1) = (k0 : Int) := by rw [IntWalk.i64_in _ (by omega)]; exact hk0
    obtain ⟨j0, hj0⟩ : ∃ j0 : Nat, (pn : Int) - (ps + 1) = j0 := ⟨((pn : Int) - (ps + 1)).toNat, by omega⟩
    rw [hj0, hk0, Int.toNat_natCast, Int.toNat_natCast] at HV
    have hkj : k0 + j0 = pn := by omega
    go_wp2
    go_loopw [12] (fun vi wx => ∃ i : Nat, k0 ≤ i ∧ i ≤ pn ∧ vi = .int .i64 i ∧ Hid (∀ x, k0 ≤ x → x < i → amidB c n x = false) ∧ Hid (Vr c q es (some ⟨gE, 0, none⟩) cA base w.heap.size w wx) ∧ Hid (IntsAt (plcL c c.od.length) c.N gP wx) ∧ Hid (EvAt X gX wx)) (fun vi _ => pn - (intOf vi).toNat)
    case atStart => exact ⟨k0, Nat.le_refl _, by omega, by first | rfl | simp, Lib.hid (fun x h1 h2 => by omega), H2, P2, E2⟩
    case round =>
      obtain ⟨i, hki, hip, rfl, HBE, H5, P5, E5⟩ := hrel
      clear H2 P2 E2
      have cpn := P5.out.cell n hn
      rw [← plN_nat, HPN.out] at cpn
      by_cases hlt : i < pn
      · obtain ⟨n', hn', hod, hmem', hpn'⟩ := place_at HM.out i (by omega)
        have HAB : Hid (amidB c n i = (decide ((c.at n').1.addr = (c.at n).1.addr) && (decide ((c.at n').1.hart ≠ (c.at n).1.hart) && writesE (c.at n').1))) := Lib.hid (by unfold amidB; rw [hod, Int.toNat_natCast])
        have HOD := Lib.hid hod
        obtain ⟨gE2, cap2, ev2, _, hra2⟩ := H5.out.vh.ra.rall (by omega)
        injection ev2 with ev1 ev2 ev3
        injection ev1 with ev1
        injection ev1 with ev1
        subst ev1
        clear ev2 ev3
        have HA5 := Lib.hid hra2
        clear hra2
        obtain ⟨Y, hY⟩ : ∃ Y, Hid (evAtN es n' = Y) := ⟨_, Lib.hid rfl⟩
        have YF : Hid Y.flat := Lib.hid (by rw [← hY.out]; exact HA5.out.flat_ n' hn')
        have HYX : Hid (Y.addr = (c.at n').1.addr ∧ Y.hart = (c.at n').1.hart ∧ writesE Y = writesE (c.at n').1 ∧ X.addr = (c.at n).1.addr ∧ X.hart = (c.at n).1.hart) := Lib.hid (by
          obtain ⟨_, _, _, ex⟩ := XL.out
          obtain ⟨_, _, _, ey⟩ := HA5.out.like n' hn'
          rw [← hY.out, ex, ey]; exact ⟨rfl, rfl, rfl, rfl, rfl⟩)
        have FZ : Hid (∀ W, Vr c q es (some ⟨gE, 0, none⟩) cA base w.heap.size w W → W.cell? ⟨w.heap.size, 4, none⟩ = some (.slice (some ⟨gE, 0, none⟩) c.N cA) ∧ W.cell? ⟨w.heap.size, 3, none⟩ = some (.slice (some ⟨bO, oO, none⟩) c.od.length q.cO) ∧ W.cell? ⟨bO, oO + i, none⟩ = some (.int .i64 (n' : Int)) ∧ (LoadE (.pointer (some ⟨gE, n' * 14, none⟩))).run Tryz.prog W = .ok Y.V W) := Lib.hid (fun W hS => by
          obtain ⟨_, _, _, f3, f4⟩ := hS.facts
          rw [HQO.out] at f3
          obtain ⟨gE3, cap3, ev3, _, hra3⟩ := hS.vh.ra.rall (by omega)
          injection ev3 with ev1 ev2 ev3
          injection ev1 with ev1
          injection ev1 with ev1
          subst ev1
          have hc := HCO.out W hS i (by omega)
          rw [HOD.out] at hc
          exact ⟨f4, f3, hc, by rw [← hY.out]; exact load0 hra3 n' hn'⟩)
        have hii : (i : Int) < (c.od.length : Int) := by omega
        have hii0 : (0 : Int) ≤ (i : Int) := by omega
        have hni' : (n' : Int) < (c.N : Int) := by omega
        have hni0' : (0 : Int) ≤ (n' : Int) := by omega
        have e4 : IntKind.i64.wrap ((i : Int) + 1) = ((i + 1 : Nat) : Int) := by rw [IntWalk.i64_in _ (by omega)]; omega
        go_upto_region 12 with fail
        obtain ⟨WR, hWR⟩ : ∃ W, wr = W := ⟨_, rfl⟩
        rw [hWR] at H5 P5 E5 HA5 cpn ⊢
        clear hWR
        obtain ⟨gY, hgY⟩ : ∃ g, WR.heap.size = g := ⟨_, rfl⟩
        go_cut [13] (fun t13 wx => t13 = .pointer (some ⟨gY, 0, none⟩) ∧ Hid (Vr c q es (some ⟨gE, 0, none⟩) cA base w.heap.size w wx) ∧ Hid (IntsAt (plcL c c.od.length) c.N gP wx) ∧ Hid (EvAt X gX wx) ∧ Hid (EvAt Y gY wx))
        case first => as_aux_lemma =>
          clear cpn
          obtain ⟨ZO, hZO⟩ : ∃ Z, Z = Obj.cells #[.int .i64 0, .int .i64 0, .int .i64 0, .int .u64 0, .int .u64 0, .int .u64 0, .bool false, .bool false, .int .i64 0, .int .i64 0, .int .i64 0, .slice none 0 0, .slice none 0 0, .slice none 0 0] 32 := ⟨_, rfl⟩
          have B0 := (Below.refl WR.heap.size WR).drew
          have B1 := (box_below WR ZO).trans (Below.refl _ _).drew
          have B2 := (Below.refl WR.heap.size WR).drew.trans (box_below WR.drew ZO)
          obtain ⟨a4, a3, ao, al⟩ := FZ.out _ (H5.out.on B0)
          obtain ⟨b4, b3, bo, bl⟩ := FZ.out _ (H5.out.on B1)
          obtain ⟨d4, d3, dd, dl⟩ := FZ.out _ (H5.out.on B2)
          subst hZO
          have q0 : EvAt zeroEv gY ((WR.alloc (.cells #[.int .i64 0, .int .i64 0, .int .i64 0, .int .u64 0, .int .u64 0, .int .u64 0, .bool false, .bool false, .int .i64 0, .int .i64 0, .int .i64 0, .slice none 0 0, .slice none 0 0, .slice none 0 0] 32)).drew) := (EvAt.new_at zeroEv WR gY hgY).on (Below.refl _ _).drew
          obtain ⟨W3, cs, d1, hb3⟩ := store_made q0 YF.out
          have B3 : Below WR.heap.size WR W3 := (((box_below WR (.cells #[.int .i64 0, .int .i64 0, .int .i64 0, .int .u64 0, .int .u64 0, .int .u64 0, .bool false, .bool false, .int .i64 0, .int .i64 0, .int .i64 0, .slice none 0 0, .slice none 0 0, .slice none 0 0] 32)).trans (Below.refl _ _).drew)).trans (hb3.mono (by omega))
          have S1 := Lib.hid (H5.out.on B3)
          have S2 := Lib.hid (P5.out.on B3)
          have S3 := Lib.hid (E5.out.on B3)
          have S4 := Lib.hid d1
          obtain ⟨s4, s3, so, sl⟩ := FZ.out _ S1.out
          clear B0 B1 B2 B3 q0 d1 hb3
          go_region_law (fail)
          all_goals
            go_wp2_with fail
            go_meet
            exact ⟨rfl, S1, S2, S3, S4⟩
        obtain ⟨rfl, H6, P6, EX6, EW6⟩ := hcut
        clear H5 P5 E5 cpn hgY
        have clw := run_LoadE EW6.out
        obtain ⟨_, x0, _, _, x3, _⟩ := EX6.out.facts
        obtain ⟨_, z0, _, _, z3, _⟩ := EW6.out.facts
        obtain ⟨wY, hwY⟩ : ∃ r, Hid (writesE Y = r) := ⟨_, Lib.hid rfl⟩
        have KWW := Lib.hid (fun w0 => rWrites_b Y wY hwY.out w0)
        obtain ⟨n1, h1⟩ : ∃ r, (Y.hart != X.hart) = r := ⟨_, rfl⟩
        have H1h : Hid (decide ((c.at n').1.hart ≠ (c.at n).1.hart) = n1) := Lib.hid (by rw [← HYX.out.2.1, ← HYX.out.2.2.2.2, ← h1]; by_cases e : Y.hart = X.hart <;> simp [e])
        have HWY : Hid (writesE (c.at n').1 = wY) := Lib.hid (by rw [← HYX.out.2.2.1]; exact hwY.out)
        rw [H1h.out, HWY.out] at HAB
        cases n1 with
        | false =>
          have HNX : Hid (∀ x, k0 ≤ x → x < i + 1 → amidB c n x = false) := Lib.hid (fun x h1 h2 => by
            by_cases e : x = i
            · rw [e, HAB.out]; simp
            · exact HBE.out x h1 (by omega))
          go_wp2
          go_roundw
          case rel => exact ⟨i + 1, by omega, by omega, by go_num, HNX, H6, P6, EX6⟩
          case measure => simp [intOf]; omega
        | true =>
          cases wY with
          | false =>
            have HNX : Hid (∀ x, k0 ≤ x → x < i + 1 → amidB c n x = false) := Lib.hid (fun x h1 h2 => by
              by_cases e : x = i
              · rw [e, HAB.out]; simp
              · exact HBE.out x h1 (by omega))
            go_wp2_with (go_at_call 29; (with_reducible refine (KWW.out _).mono ?_); rintro e' w9 ⟨rfl, hb⟩; replace H6 := Lib.hid (H6.out.on hb); replace P6 := Lib.hid (P6.out.on hb); replace EX6 := Lib.hid (EX6.out.on hb); replace EW6 := Lib.hid (EW6.out.on hb); clear hb clw x0 x3 z0 z3; have clw := run_LoadE EW6.out; obtain ⟨_, x0, _, _, x3, _⟩ := EX6.out.facts; obtain ⟨_, z0, _, _, z3, _⟩ := EW6.out.facts)
            go_roundw
            case rel => exact ⟨i + 1, by omega, by omega, by go_num, HNX, H6, P6, EX6⟩
            case measure => simp [intOf]; omega
          | true =>
            obtain ⟨n3, h3⟩ : ∃ r, (Y.addr == X.addr) = r := ⟨_, rfl⟩
            have H3h : Hid (decide ((c.at n').1.addr = (c.at n).1.addr) = n3) := Lib.hid (by rw [← HYX.out.1, ← HYX.out.2.2.2.1, ← h3]; rfl)
            rw [H3h.out] at HAB
            cases n3 with
            | false =>
              have HNX : Hid (∀ x, k0 ≤ x → x < i + 1 → amidB c n x = false) := Lib.hid (fun x h1 h2 => by
                by_cases e : x = i
                · rw [e, HAB.out]; rfl
                · exact HBE.out x h1 (by omega))
              go_wp2_with (go_at_call 29; (with_reducible refine (KWW.out _).mono ?_); rintro e' w9 ⟨rfl, hb⟩; replace H6 := Lib.hid (H6.out.on hb); replace P6 := Lib.hid (P6.out.on hb); replace EX6 := Lib.hid (EX6.out.on hb); replace EW6 := Lib.hid (EW6.out.on hb); clear hb clw x0 x3 z0 z3; have clw := run_LoadE EW6.out; obtain ⟨_, x0, _, _, x3, _⟩ := EX6.out.facts; obtain ⟨_, z0, _, _, z3, _⟩ := EW6.out.facts)
              go_roundw
              case rel => exact ⟨i + 1, by omega, by omega, by go_num, HNX, H6, P6, EX6⟩
              case measure => simp [intOf]; omega
            | true =>
              have HVN : Hid (v = (n' : Int)) := Lib.hid (by
                rw [← HV.out, amidF_hit c n j0 k0 i hki (by omega) (by rw [HAB.out]; rfl) (fun x h1 h2 => HBE.out x h1 h2)]; exact HOD.out)
              go_upto_region 14 with (go_at_call 29; (with_reducible refine (KWW.out _).mono ?_); rintro e' w9 ⟨rfl, hb⟩; replace H6 := Lib.hid (H6.out.on hb); replace P6 := Lib.hid (P6.out.on hb); replace EX6 := Lib.hid (EX6.out.on hb); replace EW6 := Lib.hid (EW6.out.on hb); clear hb clw x0 x3 z0 z3; have clw := run_LoadE EW6.out; obtain ⟨_, x0, _, _, x3, _⟩ := EX6.out.facts; obtain ⟨_, z0, _, _, z3, _⟩ := EW6.out.facts)
              obtain ⟨f4, f3, fo, _⟩ := FZ.out _ (H6.out.on (Below.refl _ _).drew)
              have B9 := Lib.hid (H6.out.on (Below.refl _ _).drew).below
              clear clw x0 x3 z0 z3 h1 h3
              go_region_held3 (fun w' => w'.cell? ⟨w.heap.size, 3, none⟩ = some (.slice (some ⟨bO, oO, none⟩) c.od.length q.cO) ∧ w'.cell? ⟨bO, oO + i, none⟩ = some (.int .i64 (n' : Int))) (exact ⟨f3, fo⟩) (fail)
              all_goals go_wp2_with fail
              all_goals exact bodyPost_ret (v := .tuple #[.int .i64 (l' : Int), .int .i64 (n' : Int)]) (by simp [results, Tryz.results47]) rfl ⟨by rw [HVN.out], B9.out⟩
      · obtain rfl : i = pn := by omega
        have HVN : Hid (v = -1) := Lib.hid (by rw [← HV.out, amidF_miss c n j0 k0 (fun x h1 h2 => HBE.out x h1 (by omega))])
        have B9 := Lib.hid H5.out.below
        go_wp2
        exact bodyPost_ret (v := .tuple #[.int .i64 (l' : Int), .int .i64 (-1)]) (by simp [results, Tryz.results47]) rfl ⟨by rw [HVN.out], B9.out⟩
  · obtain ⟨z, rfl⟩ : ∃ z : Nat, s = z := ⟨s.toNat, by rcases HIN.out with h | ⟨h, _⟩ <;> omega⟩
    have hz0 : (0 : Int) ≤ (z : Int) := by omega
    have hzN : z < c.N := by rcases HIN.out with h | ⟨_, h⟩ <;> omega
    have hzi : (z : Int) < (c.N : Int) := by omega
    have ds : decide ((z : Int) ≥ 0) = true := by simp
    obtain ⟨ps, hps⟩ : ∃ ps : Int, plcL c c.od.length z = ps := ⟨_, rfl⟩
    have cz := P2.out.cell z hzN
    rw [hps] at cz
    have cn := P2.out.cell n hn
    rw [← plN_nat, HPN.out] at cn
    have hlow : -1 ≤ ps := by rw [← hps, ← plN_nat]; exact plN_low HM.out z hzN
    have HV1 := Lib.hid HV0.out
    unfold partN at HV1
    rw [plN_nat c z, hps, HPN.out] at HV1
    by_cases hge : (pn : Int) ≤ ps
    · rw [if_pos hge] at HV1
      have d1 : decide (ps ≥ (pn : Int)) = true := by simpa using hge
      have d2 : decide ((pn : Int) ≤ ps) = true := by simpa using hge
      have B9 := Lib.hid H2.out.below
      clear hge hps
      go_wp2
      exact bodyPost_ret (v := .tuple #[.int .i64 (l' : Int), .int .i64 (z : Int)]) (by simp [results, Tryz.results47]) rfl ⟨by rw [HV1.out], B9.out⟩
    · rw [if_neg hge] at HV1
      have d1 : decide (ps ≥ (pn : Int)) = false := by simpa using hge
      have d2 : decide ((pn : Int) ≤ ps) = false := by simpa using hge
      have hps2 : ps < (pn : Int) := by omega
      have HV := Lib.hid HV1.out
      clear hge hps
      obtain ⟨k0, hk0⟩ : ∃ k0 : Nat, ps + 1 = k0 := ⟨(ps + 1).toNat, by omega⟩
      have e3 : IntKind.i64.wrap (ps + 1) = (k0 : Int) := by rw [IntWalk.i64_in _ (by omega)]; exact hk0
      obtain ⟨j0, hj0⟩ : ∃ j0 : Nat, (pn : Int) - (ps + 1) = j0 := ⟨((pn : Int) - (ps + 1)).toNat, by omega⟩
      rw [hj0, hk0, Int.toNat_natCast, Int.toNat_natCast] at HV
      have hkj : k0 + j0 = pn := by omega
      go_wp2
      go_loopw [12] (fun vi wx => ∃ i : Nat, k0 ≤ i ∧ i ≤ pn ∧ vi = .int .i64 i ∧ Hid (∀ x, k0 ≤ x → x < i → amidB c n x = false) ∧ Hid (Vr c q es (some ⟨gE, 0, none⟩) cA base w.heap.size w wx) ∧ Hid (IntsAt (plcL c c.od.length) c.N gP wx) ∧ Hid (EvAt X gX wx)) (fun vi _ => pn - (intOf vi).toNat)
      case atStart => exact ⟨k0, Nat.le_refl _, by omega, by first | rfl | simp, Lib.hid (fun x h1 h2 => by omega), H2, P2, E2⟩
      case round =>
        obtain ⟨i, hki, hip, rfl, HBE, H5, P5, E5⟩ := hrel
        clear H2 P2 E2
        have cpn := P5.out.cell n hn
        rw [← plN_nat, HPN.out] at cpn
        by_cases hlt : i < pn
        · obtain ⟨n', hn', hod, hmem', hpn'⟩ := place_at HM.out i (by omega)
          have HAB : Hid (amidB c n i = (decide ((c.at n').1.addr = (c.at n).1.addr) && (decide ((c.at n').1.hart ≠ (c.at n).1.hart) && writesE (c.at n').1))) := Lib.hid (by unfold amidB; rw [hod, Int.toNat_natCast])
          have HOD := Lib.hid hod
          obtain ⟨gE2, cap2, ev2, _, hra2⟩ := H5.out.vh.ra.rall (by omega)
          injection ev2 with ev1 ev2 ev3
          injection ev1 with ev1
          injection ev1 with ev1
          subst ev1
          clear ev2 ev3
          have HA5 := Lib.hid hra2
          clear hra2
          obtain ⟨Y, hY⟩ : ∃ Y, Hid (evAtN es n' = Y) := ⟨_, Lib.hid rfl⟩
          have YF : Hid Y.flat := Lib.hid (by rw [← hY.out]; exact HA5.out.flat_ n' hn')
          have HYX : Hid (Y.addr = (c.at n').1.addr ∧ Y.hart = (c.at n').1.hart ∧ writesE Y = writesE (c.at n').1 ∧ X.addr = (c.at n).1.addr ∧ X.hart = (c.at n).1.hart) := Lib.hid (by
            obtain ⟨_, _, _, ex⟩ := XL.out
            obtain ⟨_, _, _, ey⟩ := HA5.out.like n' hn'
            rw [← hY.out, ex, ey]; exact ⟨rfl, rfl, rfl, rfl, rfl⟩)
          have FZ : Hid (∀ W, Vr c q es (some ⟨gE, 0, none⟩) cA base w.heap.size w W → W.cell? ⟨w.heap.size, 4, none⟩ = some (.slice (some ⟨gE, 0, none⟩) c.N cA) ∧ W.cell? ⟨w.heap.size, 3, none⟩ = some (.slice (some ⟨bO, oO, none⟩) c.od.length q.cO) ∧ W.cell? ⟨bO, oO + i, none⟩ = some (.int .i64 (n' : Int)) ∧ (LoadE (.pointer (some ⟨gE, n' * 14, none⟩))).run Tryz.prog W = .ok Y.V W) := Lib.hid (fun W hS => by
            obtain ⟨_, _, _, f3, f4⟩ := hS.facts
            rw [HQO.out] at f3
            obtain ⟨gE3, cap3, ev3, _, hra3⟩ := hS.vh.ra.rall (by omega)
            injection ev3 with ev1 ev2 ev3
            injection ev1 with ev1
            injection ev1 with ev1
            subst ev1
            have hc := HCO.out W hS i (by omega)
            rw [HOD.out] at hc
            exact ⟨f4, f3, hc, by rw [← hY.out]; exact load0 hra3 n' hn'⟩)
          have hii : (i : Int) < (c.od.length : Int) := by omega
          have hii0 : (0 : Int) ≤ (i : Int) := by omega
          have hni' : (n' : Int) < (c.N : Int) := by omega
          have hni0' : (0 : Int) ≤ (n' : Int) := by omega
          have e4 : IntKind.i64.wrap ((i : Int) + 1) = ((i + 1 : Nat) : Int) := by rw [IntWalk.i64_in _ (by omega)]; omega
          go_upto_region 12 with fail
          obtain ⟨WR, hWR⟩ : ∃ W, wr = W := ⟨_, rfl⟩
          rw [hWR] at H5 P5 E5 HA5 cpn ⊢
          clear hWR
          obtain ⟨gY, hgY⟩ : ∃ g, WR.heap.size = g := ⟨_, rfl⟩
          go_cut [13] (fun t13 wx => t13 = .pointer (some ⟨gY, 0, none⟩) ∧ Hid (Vr c q es (some ⟨gE, 0, none⟩) cA base w.heap.size w wx) ∧ Hid (IntsAt (plcL c c.od.length) c.N gP wx) ∧ Hid (EvAt X gX wx) ∧ Hid (EvAt Y gY wx))
          case first => as_aux_lemma =>
            clear cpn
            obtain ⟨ZO, hZO⟩ : ∃ Z, Z = Obj.cells #[.int .i64 0, .int .i64 0, .int .i64 0, .int .u64 0, .int .u64 0, .int .u64 0, .bool false, .bool false, .int .i64 0, .int .i64 0, .int .i64 0, .slice none 0 0, .slice none 0 0, .slice none 0 0] 32 := ⟨_, rfl⟩
            have B0 := (Below.refl WR.heap.size WR).drew
            have B1 := (box_below WR ZO).trans (Below.refl _ _).drew
            have B2 := (Below.refl WR.heap.size WR).drew.trans (box_below WR.drew ZO)
            obtain ⟨a4, a3, ao, al⟩ := FZ.out _ (H5.out.on B0)
            obtain ⟨b4, b3, bo, bl⟩ := FZ.out _ (H5.out.on B1)
            obtain ⟨d4, d3, dd, dl⟩ := FZ.out _ (H5.out.on B2)
            subst hZO
            have q0 : EvAt zeroEv gY ((WR.alloc (.cells #[.int .i64 0, .int .i64 0, .int .i64 0, .int .u64 0, .int .u64 0, .int .u64 0, .bool false, .bool false, .int .i64 0, .int .i64 0, .int .i64 0, .slice none 0 0, .slice none 0 0, .slice none 0 0] 32)).drew) := (EvAt.new_at zeroEv WR gY hgY).on (Below.refl _ _).drew
            obtain ⟨W3, cs, d1, hb3⟩ := store_made q0 YF.out
            have B3 : Below WR.heap.size WR W3 := (((box_below WR (.cells #[.int .i64 0, .int .i64 0, .int .i64 0, .int .u64 0, .int .u64 0, .int .u64 0, .bool false, .bool false, .int .i64 0, .int .i64 0, .int .i64 0, .slice none 0 0, .slice none 0 0, .slice none 0 0] 32)).trans (Below.refl _ _).drew)).trans (hb3.mono (by omega))
            have S1 := Lib.hid (H5.out.on B3)
            have S2 := Lib.hid (P5.out.on B3)
            have S3 := Lib.hid (E5.out.on B3)
            have S4 := Lib.hid d1
            obtain ⟨s4, s3, so, sl⟩ := FZ.out _ S1.out
            clear B0 B1 B2 B3 q0 d1 hb3
            go_region_law (fail)
            all_goals
              go_wp2_with fail
              go_meet
              exact ⟨rfl, S1, S2, S3, S4⟩
          obtain ⟨rfl, H6, P6, EX6, EW6⟩ := hcut
          clear H5 P5 E5 cpn hgY
          have clw := run_LoadE EW6.out
          obtain ⟨_, x0, _, _, x3, _⟩ := EX6.out.facts
          obtain ⟨_, z0, _, _, z3, _⟩ := EW6.out.facts
          obtain ⟨wY, hwY⟩ : ∃ r, Hid (writesE Y = r) := ⟨_, Lib.hid rfl⟩
          have KWW := Lib.hid (fun w0 => rWrites_b Y wY hwY.out w0)
          obtain ⟨n1, h1⟩ : ∃ r, (Y.hart != X.hart) = r := ⟨_, rfl⟩
          have H1h : Hid (decide ((c.at n').1.hart ≠ (c.at n).1.hart) = n1) := Lib.hid (by rw [← HYX.out.2.1, ← HYX.out.2.2.2.2, ← h1]; by_cases e : Y.hart = X.hart <;> simp [e])
          have HWY : Hid (writesE (c.at n').1 = wY) := Lib.hid (by rw [← HYX.out.2.2.1]; exact hwY.out)
          rw [H1h.out, HWY.out] at HAB
          cases n1 with
          | false =>
            have HNX : Hid (∀ x, k0 ≤ x → x < i + 1 → amidB c n x = false) := Lib.hid (fun x h1 h2 => by
              by_cases e : x = i
              · rw [e, HAB.out]; simp
              · exact HBE.out x h1 (by omega))
            go_wp2
            go_roundw
            case rel => exact ⟨i + 1, by omega, by omega, by go_num, HNX, H6, P6, EX6⟩
            case measure => simp [intOf]; omega
          | true =>
            cases wY with
            | false =>
              have HNX : Hid (∀ x, k0 ≤ x → x < i + 1 → amidB c n x = false) := Lib.hid (fun x h1 h2 => by
                by_cases e : x = i
                · rw [e, HAB.out]; simp
                · exact HBE.out x h1 (by omega))
              go_wp2_with (go_at_call 29; (with_reducible refine (KWW.out _).mono ?_); rintro e' w9 ⟨rfl, hb⟩; replace H6 := Lib.hid (H6.out.on hb); replace P6 := Lib.hid (P6.out.on hb); replace EX6 := Lib.hid (EX6.out.on hb); replace EW6 := Lib.hid (EW6.out.on hb); clear hb clw x0 x3 z0 z3; have clw := run_LoadE EW6.out; obtain ⟨_, x0, _, _, x3, _⟩ := EX6.out.facts; obtain ⟨_, z0, _, _, z3, _⟩ := EW6.out.facts)
              go_roundw
              case rel => exact ⟨i + 1, by omega, by omega, by go_num, HNX, H6, P6, EX6⟩
              case measure => simp [intOf]; omega
            | true =>
              obtain ⟨n3, h3⟩ : ∃ r, (Y.addr == X.addr) = r := ⟨_, rfl⟩
              have H3h : Hid (decide ((c.at n').1.addr = (c.at n).1.addr) = n3) := Lib.hid (by rw [← HYX.out.1, ← HYX.out.2.2.2.1, ← h3]; rfl)
              rw [H3h.out] at HAB
              cases n3 with
              | false =>
                have HNX : Hid (∀ x, k0 ≤ x → x < i + 1 → amidB c n x = false) := Lib.hid (fun x h1 h2 => by
                  by_cases e : x = i
                  · rw [e, HAB.out]; rfl
                  · exact HBE.out x h1 (by omega))
                go_wp2_with (go_at_call 29; (with_reducible refine (KWW.out _).mono ?_); rintro e' w9 ⟨rfl, hb⟩; replace H6 := Lib.hid (H6.out.on hb); replace P6 := Lib.hid (P6.out.on hb); replace EX6 := Lib.hid (EX6.out.on hb); replace EW6 := Lib.hid (EW6.out.on hb); clear hb clw x0 x3 z0 z3; have clw := run_LoadE EW6.out; obtain ⟨_, x0, _, _, x3, _⟩ := EX6.out.facts; obtain ⟨_, z0, _, _, z3, _⟩ := EW6.out.facts)
                go_roundw
                case rel => exact ⟨i + 1, by omega, by omega, by go_num, HNX, H6, P6, EX6⟩
                case measure => simp [intOf]; omega
              | true =>
                have HVN : Hid (v = (n' : Int)) := Lib.hid (by
                  rw [← HV.out, amidF_hit c n j0 k0 i hki (by omega) (by rw [HAB.out]; rfl) (fun x h1 h2 => HBE.out x h1 h2)]; exact HOD.out)
                go_upto_region 14 with (go_at_call 29; (with_reducible refine (KWW.out _).mono ?_); rintro e' w9 ⟨rfl, hb⟩; replace H6 := Lib.hid (H6.out.on hb); replace P6 := Lib.hid (P6.out.on hb); replace EX6 := Lib.hid (EX6.out.on hb); replace EW6 := Lib.hid (EW6.out.on hb); clear hb clw x0 x3 z0 z3; have clw := run_LoadE EW6.out; obtain ⟨_, x0, _, _, x3, _⟩ := EX6.out.facts; obtain ⟨_, z0, _, _, z3, _⟩ := EW6.out.facts)
                obtain ⟨f4, f3, fo, _⟩ := FZ.out _ (H6.out.on (Below.refl _ _).drew)
                have B9 := Lib.hid (H6.out.on (Below.refl _ _).drew).below
                clear clw x0 x3 z0 z3 h1 h3
                go_region_held3 (fun w' => w'.cell? ⟨w.heap.size, 3, none⟩ = some (.slice (some ⟨bO, oO, none⟩) c.od.length q.cO) ∧ w'.cell? ⟨bO, oO + i, none⟩ = some (.int .i64 (n' : Int))) (exact ⟨f3, fo⟩) (fail)
                all_goals go_wp2_with fail
                all_goals exact bodyPost_ret (v := .tuple #[.int .i64 (l' : Int), .int .i64 (n' : Int)]) (by simp [results, Tryz.results47]) rfl ⟨by rw [HVN.out], B9.out⟩
        · obtain rfl : i = pn := by omega
          have HVN : Hid (v = -1) := Lib.hid (by rw [← HV.out, amidF_miss c n j0 k0 (fun x h1 h2 => HBE.out x h1 (by omega))])
          have B9 := Lib.hid H5.out.below
          go_wp2
          exact bodyPost_ret (v := .tuple #[.int .i64 (l' : Int), .int .i64 (-1)]) (by simp [results, Tryz.results47]) rfl ⟨by rw [HVN.out], B9.out⟩
end Go.Proofs.YtcbfokbdiefdeaaGreatDoor
