/-
  Proved here: the law CandCalls answers true of every two candidates, a hart, a place, an address; nothing that was there is changed. Condition: numbers of 64 bits.
-/
import Derived.Test.YtokhnjcbcpmmjaaGreatCcOwn
import Derived.Test.YtokhnjcbcpmmjaaGreatCdLives
import Derived.Test.YtokhnjcbcpmmjaaGreatCdNumber2
import Derived.Deep.RegionHeld3
namespace Go.Proofs.YtokhnjcbcpmmjaaGreat
set_option linter.unusedVariables false
set_option linter.unusedSimpArgs false
open Go.RowKit Go.Maps
attribute [local go_sem ↓] fold_E fold_SE
attribute [local irreducible] wpStill

theorem check_k (c : Cd) (q : Cv) (w : World) (hL : Lt c) (h : CAt c q w) (k : Int) (hk : (if c.may then (0 : Int) else 2) = k) : Calls Tryz.prog 8 #[cdV c q] w fun e w' => e = .returned (.int .i64 k) ∧ Below w.heap.size w w' := by
  subst hk
  exact check_c c q w hL h c.may rfl
theorem rcheck_k (c : Cd) (q : Cv) (w : World) (hL : Lt c) (hX : ∀ h, h < c.nh → ∀ k, k < c.len h → PairFits (c.ev h k)) (h : CAt c q w) (k : Int) (hk : (if c.may then (0 : Int) else 2) = k) : Calls Tryz.prog 9 #[cdV c q] w fun e w' => e = .returned (.int .i64 k) ∧ Below w.heap.size w w' := by
  subst hk
  exact rcheck9_is c q w hL hX h c.may rfl
set_option maxRecDepth 100000 in
set_option maxHeartbeats 64000000 in
theorem candCalls_any (c : Cd) (q : Cv) (o : Cd) (p : Cv) (w : World) (h : CAt c q w) (h' : CAt o p w) (hx : ∀ h, h < c.nh → ∀ k, k < c.len h → WordX (c.ev h k)) (hx' : ∀ h, h < o.nh → ∀ k, k < o.len h → WordX (o.ev h k)) (hf : ∀ j, j < c.fs.length → (0 ≤ fA c.fs j ∧ fA c.fs j < 18446744073709551616) ∧ (0 ≤ fV c.fs j ∧ fV c.fs j < 18446744073709551616)) (hf' : ∀ j, j < o.fs.length → (0 ≤ fA o.fs j ∧ fA o.fs j < 18446744073709551616) ∧ (0 ≤ fV o.fs j ∧ fV o.fs j < 18446744073709551616)) (x y a : Int) :
    Calls Tryz.prog 3 #[cdV c q, cdV o p, .int .i64 x, .int .i64 y, .int .u64 a] w fun e w' => SameOk w true e w' := by
  have S0 : Hid (Cbx c q o p w _) := Lib.hid (Cbx.start h h')
  have HP := Lib.hid (fun h hh k hk => (hx h hh k hk).2.1)
  have HN := Lib.hid (fun h hh k hk => (hx h hh k hk).2.2)
  have HN' := Lib.hid (fun h hh k hk => (hx' h hh k hk).2.2)
  have HE := Lib.hid (fun h hh k hk => (hx h hh k hk).1)
  have HE' := Lib.hid (fun h hh k hk => (hx' h hh k hk).1)
  have HFW := Lib.hid hf
  have HFW' := Lib.hid hf'
  clear h h' hx hx' hf hf'
  go_enter Tryz.func3, Tryz.ntmps3
  go_upto_region 3 with (go_at_call 4; (with_reducible refine (lives_any _).mono ?_); rintro e' w1 ⟨rfl, hb⟩; have S1 := Lib.hid (S0.out.on hb); clear hb)
  obtain ⟨x0, x1, x2, x3, y0, y1, y2, y3⟩ := S1.out.facts
  go_upto_region 5 with (first
    | (go_at_call 5; (with_reducible refine (lightCand_any c q w1 S1.out.at0).mono ?_); rintro e' w2 ⟨r, rfl, hr, hb⟩; have S2 := Lib.hid (S1.out.on hb); have R2 := Lib.hid (fun (e : r = true) => (hr e).lt HE.out HFW.out); clear hb hr x0 x1 x2 x3 y0 y1 y2 y3; obtain ⟨x0, x1, x2, x3, y0, y1, y2, y3⟩ := S2.out.facts; cases r)
    | (go_at_call 5; (with_reducible refine (lightCand_any o p w2 S2.out.at1).mono ?_); rintro e' w3 ⟨r, rfl, hr, hb⟩; have S3 := Lib.hid (S2.out.on hb); have R3 := Lib.hid (fun (e : r = true) => (hr e).lt HE'.out HFW'.out); clear hb hr x0 x1 x2 x3 y0 y1 y2 y3; cases r))
  · go_ret
    exact ⟨rfl, S2.out.below⟩
  · go_ret
    exact ⟨rfl, S3.out.below⟩
  have LC := Lib.hid (R2.out (by first | rfl | trivial))
  have LO := Lib.hid (R3.out (by first | rfl | trivial))
  clear R2 R3 S1 S0 S2
  obtain ⟨x0, x1, x2, x3, y0, y1, y2, y3⟩ := S3.out.facts
  obtain ⟨n, er, hn⟩ : ∃ n er, Hid (numW c x y = (n, er)) := ⟨_, _, Lib.hid rfl⟩
  obtain ⟨ck, hck⟩ : ∃ k, Hid ((if c.may then (0 : Int) else 2) = k) := ⟨_, Lib.hid rfl⟩
  obtain ⟨fv, hfv⟩ : ∃ v, Hid (firstW c a = v) := ⟨_, Lib.hid rfl⟩
  obtain ⟨rs, hrs⟩ : ∃ b, Hid (candB c o = b) := ⟨_, Lib.hid rfl⟩
  have KN := Lib.hid (fun w0 h0 => Number_any c q w0 LC.out h0 x y n er hn.out)
  have KNd := Lib.hid (fun w0 h0 => rnumber_any c q w0 LC.out HP.out h0 x y n er hn.out)
  have KC := Lib.hid (fun w0 h0 => check_k c q w0 LC.out h0 ck hck.out)
  have KCd := Lib.hid (fun w0 h0 => rcheck_k c q w0 LC.out HP.out h0 ck hck.out)
  have KO := Lib.hid (fun w0 h0 => ownCand_al c q w0 LC.out h0)
  have KAd := Lib.hid (fun w0 h0 => rAll_g c q w0 LC.out HP.out h0)
  have KP := Lib.hid (fun w0 h0 => Places_g c q w0 LC.out h0)
  have KPd := Lib.hid (fun w0 h0 => rPlaces_g c q w0 LC.out HP.out h0)
  have KF := Lib.hid (fun w0 h0 => First_any c q w0 LC.out h0 a fv hfv.out)
  have KFd := Lib.hid (fun w0 h0 => rFirst_any c q w0 LC.out HP.out h0 a fv hfv.out)
  have KLd := Lib.hid (fun w0 h0 => rLast_g c q w0 LC.out HP.out h0)
  have KS := Lib.hid (fun w0 h0 h1 => (show Calls Tryz.prog 22 #[cdV c q, cdV o p] w0 fun e w' => SameOk w0 rs e w' from by
    rw [← hrs.out]
    exact SameC_any c q o p w0 LC.out LO.out h0 h1 HN.out HN'.out))
  have KSd := Lib.hid (fun w0 h0 h1 => (show Calls Tryz.prog 23 #[cdV c q, cdV o p] w0 fun e w' => SameOk w0 rs e w' from by
    rw [← hrs.out]
    exact kcandA_any c q o p w0 LC.out h0 h1))
  have KV := Lib.hid (fun w0 v1 v2 e1 l1 e2 l2 (h1 : RowG c v1 e1 l1 w0) (h2 : RowG c v2 e2 l2 w0) => events_g LC.out h1 h2)
  have KI := Lib.hid (fun w0 v1 v2 (h1 : ReadsI w0 v1 (plcW c)) (h2 : ReadsI w0 v2 (plcW c)) => same_b v1 v2 (plcW c) (plcW c) true (by simp) w0 h1 h2 (plcW_len LC.out))
  have KM := Lib.hid (fun w0 v1 v2 (h1 : ReadsF w0 v1 (lastW c)) (h2 : ReadsF w0 v2 (lastW c)) => (show Calls Tryz.prog 19 #[v1, v2] w0 fun e w' => SameOk w0 true e w' from by
    have := sameC_any v1 v2 (lastW c) (lastW c) w0 h1 h2 (lastW_len LC.out)
    rw [decide_eq_true rfl] at this
    exact this))
  clear HE HE' HFW HFW' HN HN'
  go_upto_region 7 with (first
    | (go_at_call 6; (with_reducible refine (KN.out _ S3.out.at0).mono ?_); rintro e' w4 ⟨rfl, hb⟩; have S4 := Lib.hid (S3.out.on hb); clear hb x0 x1 x2 x3 y0 y1 y2 y3; obtain ⟨x0, x1, x2, x3, y0, y1, y2, y3⟩ := S4.out.facts)
    | (go_at_call 7; (with_reducible refine (KNd.out _ S4.out.at0).mono ?_); rintro e' w5 ⟨rfl, hb⟩; have S5 := Lib.hid (S4.out.on hb); clear hb x0 x1 x2 x3 y0 y1 y2 y3; obtain ⟨x0, x1, x2, x3, y0, y1, y2, y3⟩ := S5.out.facts))
  have P := Lib.hid (S5.out.on (Below.refl _ _).drew)
  clear S3 S4 S5
  have en : (n == n) = true := by simp
  have eer : (er == er) = true := by simp
  have eck : (ck == ck) = true := by simp
  have efv : (fv == fv) = true := by simp
  have ers : (rs == rs) = true := by simp
  go_region_held3 (fun w9 => w9.cell? ⟨w.heap.size, 0, none⟩ = some (.slice q.aF c.fs.length q.cF) ∧ w9.cell? ⟨w.heap.size, 1, none⟩ = some (.slice q.aH c.nh q.cH) ∧ w9.cell? ⟨w.heap.size, 2, none⟩ = some (.slice q.aR c.fr.length q.cR) ∧ w9.cell? ⟨w.heap.size, 3, none⟩ = some (.slice q.aO c.od.length q.cO) ∧ w9.cell? ⟨w.heap.size + 1, 0, none⟩ = some (.slice p.aF o.fs.length p.cF) ∧ w9.cell? ⟨w.heap.size + 1, 1, none⟩ = some (.slice p.aH o.nh p.cH) ∧ w9.cell? ⟨w.heap.size + 1, 2, none⟩ = some (.slice p.aR o.fr.length p.cR) ∧ w9.cell? ⟨w.heap.size + 1, 3, none⟩ = some (.slice p.aO o.od.length p.cO)) (exact P.out.facts)
    ((first
      | (go_at_call 8; (with_reducible refine (KC.out _ P.out.at0).mono ?_); rintro e' w10 ⟨rfl, hb⟩; replace P := Lib.hid (P.out.on hb); clear hb)
      | (go_at_call 9; (with_reducible refine (KCd.out _ P.out.at0).mono ?_); rintro e' w10 ⟨rfl, hb⟩; replace P := Lib.hid (P.out.on hb); clear hb)
      | (go_at_call 12; (with_reducible refine (KO.out _ P.out.at0).mono ?_); rintro e' w10 ⟨d, q', rfl, hc, hd, hal, hb⟩; have DC := Lib.hid hc; have LD := Lib.hid hd; have AL := Lib.hid hal; replace P := Lib.hid (P.out.on hb); clear hb hc hd hal)
      | (go_at_call 11; (with_reducible refine (All_g c d q' _ AL.out LD.out DC.out).mono ?_); rintro e' w10 ⟨v1, e1, l1, rfl, h1, hb⟩; have R1 := Lib.hid h1; replace P := Lib.hid (P.out.on hb); clear hb h1 DC LD AL)
      | (go_at_call 13; (with_reducible refine (KAd.out _ P.out.at0).mono ?_); rintro e' w10 ⟨v2, e2, l2, rfl, h2, hb⟩; have R2 := Lib.hid h2; replace R1 := Lib.hid (R1.out.below hb); replace P := Lib.hid (P.out.on hb); clear hb h2)
      | (go_at_call 10; (with_reducible refine (KV.out _ v1 v2 e1 l1 e2 l2 R1.out R2.out).mono ?_); rintro e' w10 ⟨rfl, hb⟩; replace P := Lib.hid (P.out.on hb); clear hb R1 R2)
      | (go_at_call 15; (with_reducible refine (KP.out _ P.out.at0).mono ?_); rintro e' w10 ⟨v3, rfl, h3, hb⟩; have R3 := Lib.hid h3; replace P := Lib.hid (P.out.on hb); clear hb h3)
      | (go_at_call 16; (with_reducible refine (KPd.out _ P.out.at0).mono ?_); rintro e' w10 ⟨v4, rfl, h4, hb⟩; have R4 := Lib.hid h4; replace R3 := Lib.hid (R3.out.below hb); replace P := Lib.hid (P.out.on hb); clear hb h4)
      | (go_at_call 14; (with_reducible refine (KI.out _ v3 v4 R3.out R4.out).mono ?_); rintro e' w10 ⟨rfl, hb⟩; replace P := Lib.hid (P.out.on hb); clear hb R3 R4)
      | (go_at_call 17; (with_reducible refine (KF.out _ P.out.at0).mono ?_); rintro e' w10 ⟨rfl, hb⟩; replace P := Lib.hid (P.out.on hb); clear hb)
      | (go_at_call 18; (with_reducible refine (KFd.out _ P.out.at0).mono ?_); rintro e' w10 ⟨rfl, hb⟩; replace P := Lib.hid (P.out.on hb); clear hb)
      | (go_at_call 20; (with_reducible refine (Last_g c d q' _ AL.out LD.out DC.out).mono ?_); rintro e' w10 ⟨v5, rfl, h5, hb⟩; have R5 := Lib.hid h5; replace P := Lib.hid (P.out.on hb); clear hb h5 DC LD AL)
      | (go_at_call 21; (with_reducible refine (KLd.out _ P.out.at0).mono ?_); rintro e' w10 ⟨v6, rfl, h6, hb⟩; have R6 := Lib.hid h6; replace R5 := Lib.hid (R5.out.below hb); replace P := Lib.hid (P.out.on hb); clear hb h6)
      | (go_at_call 19; (with_reducible refine (KM.out _ v5 v6 R5.out R6.out).mono ?_); rintro e' w10 ⟨rfl, hb⟩; replace P := Lib.hid (P.out.on hb); clear hb R5 R6)
      | (go_at_call 22; (with_reducible refine (KS.out _ P.out.at0 P.out.at1).mono ?_); rintro e' w10 ⟨rfl, hb⟩; replace P := Lib.hid (P.out.on hb); clear hb)
      | (go_at_call 23; (with_reducible refine (KSd.out _ P.out.at0 P.out.at1).mono ?_); rintro e' w10 ⟨rfl, hb⟩; replace P := Lib.hid (P.out.on hb); clear hb)))
  go_wp2_with fail
  go_ret
  exact ⟨rfl, P.out.below⟩
end Go.Proofs.YtokhnjcbcpmmjaaGreat
