/-
  Proved here: the law AxiomOrders answers true of every candidate; nothing that was there is changed. Condition: numbers of 64 bits; the table of powers of ten as the library lays it.
-/
import Derived.Test.YtcbfokbdiefdeaaGreatDoorAxLives
import Derived.Test.YtcbfokbdiefdeaaGreatDoorAxLaws
import Derived.Test.YtcbfokbdiefdeaaGreatDoorRf09All
import Derived.Test.YtcbfokbdiefdeaaGreatDoorCdLight30
import Derived.Test.YtcbfokbdiefdeaaGreatDoorRf09Places
import Derived.Test.YtcbfokbdiefdeaaGreatDoorRf10Full
namespace Go.Proofs.YtcbfokbdiefdeaaGreatDoor
set_option linter.unusedVariables false
set_option linter.unusedSimpArgs false
open Go.RowKit Go.Maps
attribute [local go_sem ↓] fold_E fold_SE
attribute [local irreducible] wpStill

/-- the law's candidate and its copy, in their boxes -/
structure Sx2 (c : Cd) (q : Cv) (k : Cw) (gX : Nat) (fr od : List Int) (w W : World) : Prop where
  lk : Lk c q w W
  box : CBox (.slice k.q.aF c.fs.length k.q.cF) (.slice k.q.aH c.nh k.q.cH) (.slice k.q.aR c.fr.length k.q.cR) (.slice k.q.aO c.od.length k.q.cO) gX W
  cy : Cy c k fr od W
theorem Sx2.on {c : Cd} {q : Cv} {k : Cw} {gX : Nat} {fr od : List Int} {w W W2 : World} (h : Sx2 c q k gX fr od w W) (hb : Below W.heap.size W W2) : Sx2 c q k gX fr od w W2 := ⟨h.lk.on hb, h.box.on hb, h.cy.on hb⟩
theorem order_in {c : Cd} {q : Cv} {w : World} (h : CAt c q w) (h0 : c.od.length ≠ 0) : ∃ b off, q.aO = some ⟨b, off, none⟩ ∧ b < w.heap.size ∧ ∀ j, j < c.od.length → w.cell? ⟨b, off + j, none⟩ = some (.int .i64 (atI c.od j)) := by
  rcases h.order with ⟨_, h1⟩ | ⟨b, off, c2, e, _, _, h3, h4⟩
  · rw [h1] at h0; exact absurd rfl h0
  · injection e with e1 e2 e3
    exact ⟨b, off, e1, h3, h4⟩
theorem rowP2_cell2 : ∀ (L : List (Nat × Nat)) (i a b : Nat), L[i]? = some (a, b) → (rowP2 L)[i * 2]? = some (.int .i64 (a : Int)) ∧ (rowP2 L)[i * 2 + 1]? = some (.int .i64 (b : Int))
  | [], i, a, b, h => by simp at h
  | p :: l, 0, a, b, h => by
    simp at h; subst h
    exact ⟨rfl, rfl⟩
  | p :: l, i + 1, a, b, h => by
    have := rowP2_cell2 l i a b (by simpa using h)
    rw [show (i + 1) * 2 = i * 2 + 2 by omega]
    exact this
theorem rowP2_size2 (L : List (Nat × Nat)) : (rowP2 L).length = L.length * 2 := by
  induction L with
  | nil => rfl
  | cons p l ih => simp [rowP2] at ih ⊢; omega
theorem pair_cells2 {W : World} {bL : Nat} {a0 : Option Addr} {cap : Nat} {L : List (Nat × Nat)} (h : W.ownsRow bL 53 2 (.slice a0 L.length cap) L.length (rowP2 L)) {i a b : Nat} (hi : L[i]? = some (a, b)) : ∃ g, a0 = some ⟨g, 0, none⟩ ∧ W.cell? ⟨g, i * 2, none⟩ = some (.int .i64 (a : Int)) ∧ W.cell? ⟨g, i * 2 + 1, none⟩ = some (.int .i64 (b : Int)) := by
  have hlt : i < L.length := (List.getElem?_eq_some_iff.1 hi).1
  obtain ⟨h1, h2⟩ := rowP2_cell2 L i a b hi
  have hz := rowP2_size2 L
  rcases h.2 with ⟨_, h0⟩ | ⟨g, cap', cur, e, _⟩
  · omega
  · injection e with e1 e2 e3
    subst e1
    exact ⟨g, rfl, (h.cellAt (i * 2) (by omega)).trans h1, (h.cellAt (i * 2 + 1) (by omega)).trans h2⟩
/-- two of an order change places -/
theorem swap_at (l : List Int) (i k : Nat) (hik : i ≤ k) (hk : k < l.length) : atI ((l.set i (atI l k)).set k (atI l i)) i = atI l k ∧ atI ((l.set i (atI l k)).set k (atI l i)) k = atI l i := by
  rw [atI_set _ k i _ (by rw [List.length_set]; exact hk), atI_set _ k k _ (by rw [List.length_set]; exact hk), if_pos rfl, atI_set _ i i _ (by omega), if_pos rfl]
  refine ⟨?_, rfl⟩
  by_cases e : i = k
  · subst e; rw [if_pos rfl]
  · rw [if_neg e]
set_option maxRecDepth 100000 in
set_option maxHeartbeats 32000000 in
theorem axiomOrders_any (c : Cd) (q : Cv) (w : World) (h : CAt c q w) (hx : ∀ h, h < c.nh → ∀ k, k < c.len h → WordX (c.ev h k)) (hf : ∀ j, j < c.fs.length → (0 ≤ fA c.fs j ∧ fA c.fs j < 18446744073709551616) ∧ (0 ≤ fV c.fs j ∧ fV c.fs j < 18446744073709551616)) (hT : TabP w) (x1 x2 : Int) (b1 : -9223372036854775808 ≤ x1 ∧ x1 ≤ 9223372036854775807) (b2 : -9223372036854775808 ≤ x2 ∧ x2 ≤ 9223372036854775807) :
    Calls Tryz.prog 6 #[cdV c q, .int .i64 x1, .int .i64 x2] w fun e w' => SameOk w true e w' := by
  have S0 := Lib.hid (Lk.start h)
  have HP := Lib.hid (fun h hh k hk => (hx h hh k hk).2)
  have HE := Lib.hid (fun h hh k hk => (hx h hh k hk).1)
  have HLOW := Lib.hid (low_addr h)
  have HFW := Lib.hid hf
  have HT := Lib.hid hT
  clear h hx hf hT
  go_enter Tryz.func6, Tryz.ntmps6
  go_upto_region 3 with (go_at_call 10; (with_reducible refine (alives_any _ (HT.out.on S0.out.below)).mono ?_); rintro e' w1 ⟨rfl, hb⟩; have S1 := Lib.hid (S0.out.on hb); clear hb)
  obtain ⟨u0, u1, u2, u3⟩ := S1.out.box.facts
  obtain ⟨o, ho⟩ : ∃ o, Hid ((judgeW c).ok = o) := ⟨_, Lib.hid rfl⟩
  have KO := Lib.hid (fun w0 (hL : Lt c) h0 => Ok_any c q w0 hL h0 o ho.out)
  cases o with
  | false =>
    go_wp2_with (first
      | (go_at_call 15; (with_reducible refine (lightCand_any30 c q w1 S1.out.at_).mono ?_); rintro e' w2 ⟨r, rfl, hr, hb⟩; have S2 := Lib.hid (S1.out.on hb); have R2 := Lib.hid (fun (e : r = true) => (hr e).lt HE.out HFW.out); clear hb hr u0 u1 u2 u3; obtain ⟨u0, u1, u2, u3⟩ := S2.out.box.facts; cases r)
      | (go_at_call 12; (with_reducible refine (KO.out _ (R2.out (by first | rfl | trivial)) S2.out.at_).mono ?_); rintro e' w3 ⟨rfl, hb⟩; have S3 := Lib.hid (S2.out.on hb); clear hb u0 u1 u2 u3; obtain ⟨u0, u1, u2, u3⟩ := S3.out.box.facts))
    · go_ret
      exact ⟨rfl, S2.out.below⟩
    · go_ret
      exact ⟨rfl, S3.out.below⟩
  | true =>
    have HK := Lib.hid (judge_ok.1 ho.out)
    by_cases hn0 : c.od.length = 0
    · have hz : ((c.od.length : Int) == 0) = true := by simp [hn0]
      clear hn0
      go_wp2_with (first
        | (go_at_call 15; (with_reducible refine (lightCand_any30 c q w1 S1.out.at_).mono ?_); rintro e' w2 ⟨r, rfl, hr, hb⟩; have S2 := Lib.hid (S1.out.on hb); have R2 := Lib.hid (fun (e : r = true) => (hr e).lt HE.out HFW.out); clear hb hr u0 u1 u2 u3; obtain ⟨u0, u1, u2, u3⟩ := S2.out.box.facts; cases r)
        | (go_at_call 12; (with_reducible refine (KO.out _ (R2.out (by first | rfl | trivial)) S2.out.at_).mono ?_); rintro e' w3 ⟨rfl, hb⟩; have S3 := Lib.hid (S2.out.on hb); clear hb u0 u1 u2 u3; obtain ⟨u0, u1, u2, u3⟩ := S3.out.box.facts))
      · go_ret
        exact ⟨rfl, S2.out.below⟩
      · go_ret
        exact ⟨rfl, S3.out.below⟩
    have hz : ((c.od.length : Int) == 0) = false := by simpa using hn0
    go_upto_region 5 with (first
      | (go_at_call 15; (with_reducible refine (lightCand_any30 c q w1 S1.out.at_).mono ?_); rintro e' w2 ⟨r, rfl, hr, hb⟩; have S2 := Lib.hid (S1.out.on hb); have R2 := Lib.hid (fun (e : r = true) => (hr e).lt HE.out HFW.out); clear hb hr u0 u1 u2 u3; obtain ⟨u0, u1, u2, u3⟩ := S2.out.box.facts; cases r)
      | (go_at_call 12; (with_reducible refine (KO.out _ (R2.out (by first | rfl | trivial)) S2.out.at_).mono ?_); rintro e' w3 ⟨rfl, hb⟩; have S3 := Lib.hid (S2.out.on hb); clear hb u0 u1 u2 u3; obtain ⟨u0, u1, u2, u3⟩ := S3.out.box.facts))
    · go_ret
      exact ⟨rfl, S2.out.below⟩
    have LT := Lib.hid (R2.out (by first | rfl | trivial))
    clear S0 S1 S2 R2 HE HFW KO ho hz
    have HM := Lib.hid HK.out.may
    have HFR := Lib.hid (may_fr HK.out.may)
    have hN60 := LT.out.n
    have hfr120 := LT.out.fr
    have hod120 := LT.out.od
    obtain ⟨b, off, hq, hbl, hcell⟩ := order_in S3.out.here hn0
    have HC := Lib.hid (fun (W : World) (hS : Lk c q w W) (j : Nat) (hj : j < c.od.length) => (hS.below.cell (p := ⟨b, off + j, none⟩) hbl).trans (hcell j hj))
    have HV : Hid (cdV c q = .agg #[.slice q.aF c.fs.length q.cF, .slice q.aH c.nh q.cH, .slice q.aR c.fr.length q.cR, .slice (some ⟨b, off, none⟩) c.od.length q.cO]) := Lib.hid (by unfold cdV; rw [hq])
    have HBX : Hid (∀ W, Lk c q w W → W.cell? ⟨w.heap.size, 0, none⟩ = some (.slice q.aF c.fs.length q.cF) ∧ W.cell? ⟨w.heap.size, 1, none⟩ = some (.slice q.aH c.nh q.cH) ∧ W.cell? ⟨w.heap.size, 2, none⟩ = some (.slice q.aR c.fr.length q.cR) ∧ W.cell? ⟨w.heap.size, 3, none⟩ = some (.slice (some ⟨b, off, none⟩) c.od.length q.cO)) := Lib.hid (fun W hS => by
      have := hS.box.facts
      rw [hq] at this
      exact this)
    clear hcell hbl hq u0 u1 u2 u3
    obtain ⟨u0, u1, u2, u3⟩ := HBX.out _ S3.out
    have KL := Lib.hid (fun w0 h0 => rplaces_yes c q w0 LT.out HP.out h0 HM.out)
    rw [HV.out] at KL
    obtain ⟨L, hLL⟩ : ∃ L, pairsW c = L := ⟨_, rfl⟩
    have HLM : Hid (∀ a b, (a, b) ∈ L → ruleL c a b ≠ 0) := Lib.hid (fun a b h => (mem_pairsW HM.out a b).1 (by rw [hLL]; exact h))
    have HLO : Hid (∀ a b, (a, b) ∈ L → plN c a < plN c b) := Lib.hid (fun a b h => orders_keep HK.out a b (by rw [hLL]; exact h))
    have HLen : Hid (L.length ≤ 3600) := Lib.hid (by rw [← hLL]; unfold pairsW; rw [HM.out, if_pos rfl]; have := pairsOut_len c hN60 c.N 0; omega)
    have KQ := Lib.hid (fun w0 h0 => (show Calls Tryz.prog 25 #[cdV c q] w0 fun e w' => ∃ a cp base, e = .returned (.slice a L.length cp) ∧ w'.ownsRow base 53 2 (.slice a L.length cp) L.length (rowP2 L) ∧ Below w0.heap.size w0 w' from by
      have := rPairs_any c q w0 LT.out HP.out h0
      rw [hLL] at this
      exact this))
    rw [HV.out] at KQ
    have KR := Lib.hid (fun w0 h0 (a b : Int) => rRule_any c q w0 LT.out HP.out h0 a b)
    rw [HV.out] at KR
    have KW := Lib.hid (fun w0 h0 => ownCand_cy c q w0 LT.out h0)
    rw [HV.out] at KW
    clear hLL
    go_upto_region 6 with (go_at_call 24; (with_reducible refine (KL.out _ S3.out.at_).mono ?_); rintro e' w4 ⟨g, rfl, hg, hI, hb⟩; have S4 := Lib.hid (S3.out.on hb); have I4 := Lib.hid hI; clear hI hg hb u0 u1 u2 u3; obtain ⟨u0, u1, u2, u3⟩ := HBX.out _ S4.out)
    go_upto_region 7 with (go_at_call 25; (with_reducible refine (KQ.out _ S4.out.at_).mono ?_); rintro e' w5 ⟨aL, cL, bL, rfl, hoL, hb⟩; have S5 := Lib.hid (S4.out.on hb); have I5 := Lib.hid (I4.out.on hb); have O5 := Lib.hid hoL; clear hoL hb u0 u1 u2 u3)
    clear S3 S4 I4 KL KQ
    go_wp2
    go_loopw [9] (fun vi wr => ∃ (i : Nat), i ≤ L.length ∧ vi = .int .i64 i ∧ Hid (Below w5.heap.size w5 wr)) (fun vi _ => L.length - (intOf vi).toNat)
    case atStart => exact ⟨0, Nat.zero_le _, rfl, Lib.hid (Below.refl _ _)⟩
    case round =>
      obtain ⟨i, hi, rfl, HB⟩ := hrel
      by_cases hlt : i < L.length
      · obtain ⟨⟨x, y⟩, hxy⟩ : ∃ p, L[i]? = some p := ⟨_, List.getElem?_eq_getElem hlt⟩
        have HB2 := Lib.hid (HB.out.trans ((Below.refl wr.heap.size wr).drew.mono HB.out.size))
        obtain ⟨gL, rfl, c0, c1⟩ := pair_cells2 (own_on O5.out HB2.out) hxy
        have hmem := List.mem_of_getElem? hxy
        have hin := aheadP_in (rule_ahead (HLM.out x y hmem))
        have hpl := HLO.out x y hmem
        rw [plN_nat, plN_nat] at hpl
        have px := (I5.out.on HB2.out).cell x (by omega)
        have py := (I5.out.on HB2.out).cell y (by omega)
        obtain ⟨vx, hvx⟩ : ∃ v, plcL c c.od.length x = v := ⟨_, rfl⟩
        obtain ⟨vy, hvy⟩ : ∃ v, plcL c c.od.length y = v := ⟨_, rfl⟩
        rw [hvx] at px hpl
        rw [hvy] at py hpl
        have d1 : decide (vx ≥ vy) = false := by simpa using hpl
        have d2 : decide (vy ≤ vx) = false := by simpa using hpl
        have hii : (i : Int) < (L.length : Int) := by omega
        have hi0 : (0 : Int) ≤ (i : Int) := by omega
        have hxx : (x : Int) < (c.N : Int) := by omega
        have hyy : (y : Int) < (c.N : Int) := by omega
        have hx0 : (0 : Int) ≤ (x : Int) := by omega
        have hy0 : (0 : Int) ≤ (y : Int) := by omega
        have hL3 := HLen.out
        clear hxy hmem hin hpl hvx hvy
        go_upto_region 10 with fail
        refine wp_region_still_tail 16 (by kernel_rfl) (by kernel_rfl) ?_
        simp only [List.take_succ_cons, List.take_zero, List.drop_succ_cons, List.drop_zero]
        iterate 16 (first | (refine wpStill_skip (by as_aux_lemma => kernel_rfl) ?_; simp only [Act.put, List.setIfInBounds_toArray, List.set_cons_succ, List.set_cons_zero]) | still_step)
        refine wpStill_nil ?_
        change wpList _ _ _ _ _ (World.drew _)
        go_wp2
        go_roundw
        case rel => exact ⟨i + 1, by omega, by go_num, HB2⟩
        case measure => simp [intOf]; omega
      · obtain rfl : i = L.length := by omega
        have S6 := Lib.hid (S5.out.on HB.out)
        clear S5 I5 O5 HB hlt hi
        have hod : c.od.length ≠ 0 := hn0
        obtain ⟨i1, hi1, hi1lt⟩ : ∃ n : Nat, Hid (pickI x1 (c.od.length : Int) = n) ∧ n < c.od.length := by
          have := pickI_lt x1 (c.od.length : Int) (by omega)
          exact ⟨(pickI x1 (c.od.length : Int)).toNat, Lib.hid (by omega), by omega⟩
        obtain ⟨k1, hk1, hk1lt⟩ : ∃ n : Nat, Hid (pickI x2 (c.od.length : Int) = n) ∧ n < c.od.length := by
          have := pickI_lt x2 (c.od.length : Int) (by omega)
          exact ⟨(pickI x2 (c.od.length : Int)).toNat, Lib.hid (by omega), by omega⟩
        have KP1 := Lib.hid (fun w0 => Pick_any x1 (c.od.length : Int) b1.1 b1.2 (by omega) w0)
        have KP2 := Lib.hid (fun w0 => Pick_any x2 (c.od.length : Int) b2.1 b2.2 (by omega) w0)
        rw [hi1.out] at KP1
        rw [hk1.out] at KP2
        have SD := Lib.hid (S6.out.on (Below.refl _ _).drew)
        go_upto_region 12 with fail
        go_region_held3 (fun w' => w'.cell? ⟨w.heap.size, 3, none⟩ = some (.slice (some ⟨b, off, none⟩) c.od.length q.cO)) (exact (HBX.out _ SD.out).2.2.2)
          ((first
            | (go_at_call 16; (with_reducible refine (KP1.out _).mono ?_); rintro e' wa ⟨rfl, rfl⟩)
            | (go_at_call 16; (with_reducible refine (KP2.out _).mono ?_); rintro e' wb ⟨rfl, rfl⟩)))
        go_upto_region 13 with fail
        obtain ⟨mn, mx, hmin, hmax, hmm, hmxlt⟩ : ∃ mn mx : Nat, min (i1 : Int) (k1 : Int) = (mn : Int) ∧ max (i1 : Int) (k1 : Int) = (mx : Int) ∧ mn ≤ mx ∧ mx < c.od.length := ⟨min i1 k1, max i1 k1, by omega, by omega, by omega, by omega⟩
        obtain ⟨a, ha, haN⟩ : ∃ a : Nat, Hid (atI c.od mn = (a : Int)) ∧ a < c.N := by
          have := may_in HM.out mn (by omega)
          exact ⟨(atI c.od mn).toNat, Lib.hid (by omega), by omega⟩
        obtain ⟨b', hb', hbN⟩ : ∃ a : Nat, Hid (atI c.od mx = (a : Int)) ∧ a < c.N := by
          have := may_in HM.out mx (by omega)
          exact ⟨(atI c.od mx).toNat, Lib.hid (by omega), by omega⟩
        have hmnI : (mn : Int) < (c.od.length : Int) := by omega
        have hmxI : (mx : Int) < (c.od.length : Int) := by omega
        have hmn0 : (0 : Int) ≤ (mn : Int) := by omega
        have hmx0 : (0 : Int) ≤ (mx : Int) := by omega
        have HC1 : Hid (∀ W, Lk c q w W → W.cell? ⟨w.heap.size, 3, none⟩ = some (.slice (some ⟨b, off, none⟩) c.od.length q.cO) ∧ W.cell? ⟨b, off + mn, none⟩ = some (.int .i64 (a : Int)) ∧ W.cell? ⟨b, off + mx, none⟩ = some (.int .i64 (b' : Int))) := Lib.hid (fun W hS => by
          have h1 := HC.out W hS mn (by omega)
          have h2 := HC.out W hS mx (by omega)
          rw [ha.out] at h1
          rw [hb'.out] at h2
          exact ⟨(HBX.out W hS).2.2.2, h1, h2⟩)
        have SD2 := Lib.hid (SD.out.on (Below.refl _ _).drew)
        go_cut [10, 11] (fun t10 t11 wx => t10 = .int .i64 (a : Int) ∧ t11 = .int .i64 (b' : Int) ∧ Hid (Lk c q w wx))
        case first => as_aux_lemma =>
          go_region_held3 (fun w' => w'.cell? ⟨w.heap.size, 3, none⟩ = some (.slice (some ⟨b, off, none⟩) c.od.length q.cO) ∧ w'.cell? ⟨b, off + mn, none⟩ = some (.int .i64 (a : Int)) ∧ w'.cell? ⟨b, off + mx, none⟩ = some (.int .i64 (b' : Int))) (exact HC1.out _ SD2.out) (fail)
          all_goals
            go_wp2_with fail
            go_meet
            exact ⟨rfl, rfl, SD2⟩
        obtain ⟨rfl, rfl, SD3⟩ := hcut
        clear SD S6 HC1 SD2
        have SD2 := Lib.hid SD3.out
        clear SD3
        obtain ⟨u0, u1, u2, u3⟩ := HBX.out _ SD2.out
        go_upto_region 15 with (go_at_call 9; (with_reducible refine (KW.out _ SD2.out.at_).mono ?_); rintro e' w6 ⟨k, hk, rfl, hc, hb⟩; have S6 := Lib.hid (SD2.out.on hb); have C6 := Lib.hid hc; have HKW := Lib.hid hk; clear hc hb hk u0 u1 u2 u3)
        have P6 : Hid (Sx2 c q k w6.heap.size c.fr c.od w (w6.alloc (.cells #[.slice k.q.aF c.fs.length k.q.cF, .slice k.q.aH c.nh k.q.cH, .slice k.q.aR c.fr.length k.q.cR, .slice k.q.aO c.od.length k.q.cO] 26))) := Lib.hid ⟨S6.out.on (box_below w6 _), CBox.new _ _ _ _ w6, C6.out.on (box_below w6 _)⟩
        obtain ⟨gO, hgO, hgO1, hgO2⟩ := own_is C6.out.order hn0
        go_name_world W6 hW6
        rw [hW6] at P6
        obtain ⟨gX, hgX⟩ : ∃ g, w6.heap.size = g := ⟨_, rfl⟩
        rw [hgX] at P6 hgO2 ⊢
        clear hW6 hgX C6 S6
        have HGO : Hid (w.heap.size < gO ∧ gO < gX) := Lib.hid ⟨by have := SD2.out.box.lt; have := (P6.out.cy.setOrder hgO mn (by omega) 0).2.2.2.1; have h3 := HKW.out; rw [h3] at this; omega, hgO2⟩
        have P7 : Hid (Sx2 c q k gX c.fr (c.od.set mn b') w (W6.setCell ⟨gO, mn, none⟩ (.int .i64 b'))) := Lib.hid ⟨P6.out.lk.set1 HGO.out.1 _, (Below.heap_setCell _ ⟨gO, mn, none⟩ _ gX (by show gX ≠ gO; have := HGO.out; omega)).trans P6.out.box, (P6.out.cy.setOrder hgO mn (by omega) b').1⟩
        have P8 : Hid (Sx2 c q k gX c.fr ((c.od.set mn b').set mx a) w ((W6.setCell ⟨gO, mn, none⟩ (.int .i64 b')).setCell ⟨gO, mx, none⟩ (.int .i64 a))) := Lib.hid ⟨P7.out.lk.set1 HGO.out.1 _, (Below.heap_setCell _ ⟨gO, mx, none⟩ _ gX (by show gX ≠ gO; have := HGO.out; omega)).trans P7.out.box, (P7.out.cy.setOrder hgO mx (by rw [List.length_set]; omega) a).1⟩
        have FX : Hid (∀ fr od W, Sx2 c q k gX fr od w W → W.cell? ⟨gX, 3, none⟩ = some (.slice (some ⟨gO, 0, none⟩) c.od.length k.q.cO)) := Lib.hid (fun fr od W hP => by
          have := hP.box.facts.2.2.2
          rw [hgO] at this
          exact this)
        have P6d := Lib.hid (P6.out.on (Below.refl _ _).drew)
        have P7d := Lib.hid (P7.out.on (Below.refl _ _).drew)
        have P8d := Lib.hid (P8.out.on (Below.refl _ _).drew)
        obtain ⟨_, f6, ⟨u6, c6⟩, _, _⟩ := P6d.out.cy.setOrder hgO mn (by omega) b'
        obtain ⟨_, f7, ⟨u7, c7⟩, _, _⟩ := P7d.out.cy.setOrder hgO mx (by rw [List.length_set]; omega) a
        clear hgO1 hgO2
        go_cut [12] (fun t12 wx => t12 = .pointer (some ⟨gX, 0, none⟩) ∧ Hid (Sx2 c q k gX c.fr ((c.od.set mn b').set mx a) w wx))
        case first => as_aux_lemma =>
          go_region_held3 (fun w' => w'.cell? ⟨gX, 3, none⟩ = some (.slice (some ⟨gO, 0, none⟩) c.od.length k.q.cO)) (first | exact FX.out _ _ _ P6d.out | exact FX.out _ _ _ P7d.out | exact FX.out _ _ _ P8d.out) (fail)
          all_goals
            go_wp2_with fail
            go_meet
            exact ⟨rfl, P8d⟩
        obtain ⟨rfl, P9⟩ := hcut
        clear P6 P7 P8 P6d P7d P8d f6 f7 c6 c7 hgO
        have AE := Lib.hid P9.out.cy.as
        have LD := Lib.hid (P9.out.cy.lt LT.out hfr120 (by rw [List.length_set, List.length_set]; exact hod120))
        obtain ⟨v0, v1, v2, v3⟩ := P9.out.box.facts
        obtain ⟨u0, u1, u2, u3⟩ := HBX.out _ P9.out.lk
        have HVX : Hid (cdV (c.copy k.ess c.fr ((c.od.set mn b').set mx a)) k.q = .agg #[.slice k.q.aF c.fs.length k.q.cF, .slice k.q.aH c.nh k.q.cH, .slice k.q.aR c.fr.length k.q.cR, .slice k.q.aO c.od.length k.q.cO]) := Lib.hid (by
          show Value.agg #[.slice k.q.aF c.fs.length k.q.cF, .slice k.q.aH c.nh k.q.cH, .slice k.q.aR c.fr.length k.q.cR, .slice k.q.aO ((c.od.set mn b').set mx a).length k.q.cO] = _
          rw [List.length_set, List.length_set])
        obtain ⟨n, hn⟩ : ∃ n, ruleW c a b' = n := ⟨_, rfl⟩
        have KR1 := Lib.hid (fun w0 h0 => KR.out w0 h0 (a : Int) (b' : Int))
        rw [hn] at KR1
        have HAT := Lib.hid (fun (W : World) (hP : Sx2 c q k gX c.fr ((c.od.set mn b').set mx a) w W) => hP.cy.at_ HLOW.out)
        by_cases hz0 : n = 0
        · subst hz0
          go_wp2_with (go_at_call 26; (with_reducible refine (KR1.out _ P9.out.lk.at_).mono ?_); rintro e' w7 ⟨rfl, hb⟩; have P10 := Lib.hid (P9.out.on hb); clear hb v0 v1 v2 v3 u0 u1 u2 u3)
          go_ret
          exact ⟨rfl, P10.out.lk.below⟩
        · have KNO : Hid ((judgeW (c.copy k.ess c.fr ((c.od.set mn b').set mx a))).ok = false) := Lib.hid (by
            cases hj : (judgeW (c.copy k.ess c.fr ((c.od.set mn b').set mx a))).ok with
            | false => rfl
            | true =>
              have hsw := swap_at c.od mn mx hmm (by omega)
              rw [ha.out, hb'.out] at hsw
              have h1 := orders_law AE.out rfl (judge_ok.1 hj) a b' mn mx hmm (by show mx < ((c.od.set mn (b' : Int)).set mx (a : Int)).length; rw [List.length_set, List.length_set]; omega) hsw.1 hsw.2
              have h2 : ruleW c a b' = 0 := by unfold ruleW; rw [HM.out, if_pos rfl]; exact h1
              rw [hn] at h2
              exact absurd h2 hz0)
          have KOX := Lib.hid (fun w0 h0 => Ok_any (c.copy k.ess c.fr ((c.od.set mn b').set mx a)) k.q w0 LD.out h0 false KNO.out)
          rw [HVX.out] at KOX
          have en : (((n : Nat) : Int) == 0) = false := by simp; omega
          have en2 : ((n : Nat) == 0) = false := by simp; omega
          go_wp2_with (first
            | (go_at_call 26; (with_reducible refine (KR1.out _ P9.out.lk.at_).mono ?_); rintro e' w7 ⟨rfl, hb⟩; have P10 := Lib.hid (P9.out.on hb); clear hb v0 v1 v2 v3 u0 u1 u2 u3; obtain ⟨v0, v1, v2, v3⟩ := P10.out.box.facts)
            | (go_at_call 12; (with_reducible refine (KOX.out _ (HAT.out _ P10.out)).mono ?_); rintro e' w8 ⟨rfl, hb⟩; have P11 := Lib.hid (P10.out.on hb); clear hb))
          go_ret
          exact ⟨rfl, P11.out.lk.below⟩
end Go.Proofs.YtcbfokbdiefdeaaGreatDoor
