/-
  Proved here: the law AxiomCalls answers true of every candidate, a number, a judgement; nothing that was there is changed. Condition: numbers of 64 bits; the table of powers of ten as the library lays it.
-/
import Derived.Test.YtcbfokbdiefdeaaGreatDoorAxLives
import Derived.Test.YtcbfokbdiefdeaaGreatDoorAxLaws
import Derived.Test.YtcbfokbdiefdeaaGreatDoorAxLike
import Derived.Test.YtcbfokbdiefdeaaGreatDoorRf11Where
import Derived.Test.YtcbfokbdiefdeaaGreatDoorRf11Line
import Derived.Test.YtcbfokbdiefdeaaGreatDoorKitCand
import Derived.Test.YtcbfokbdiefdeaaGreatDoorCdLight30
namespace Go.Proofs.YtcbfokbdiefdeaaGreatDoor
set_option linter.unusedVariables false
set_option linter.unusedSimpArgs false
open Go.RowKit Go.Maps
attribute [local go_sem ↓] fold_E fold_SE
attribute [local irreducible] wpStill

theorem eqJ_run (o : Bool) (y a b : Int) (w : World) : (binOp .eql 37 (.agg #[.bool o, .int .i64 y, .int .i64 a, .int .i64 b]) (.agg #[.bool o, .int .i64 y, .int .i64 a, .int .i64 b])).run Tryz.prog w = .ok (.bool true) w := by
  have hS : Tryz.prog.underlying 37 = some (.struct (Tryz.prog.fieldsOf 37)) := by kernel_rfl
  have hp : Tryz.prog.stoodInHeld 37 = false := by kernel_rfl
  have u3 := Tryz.underlying3
  have a3 := Tryz.isAgg3
  have z3 := Tryz.sizeOf3
  have u4 := Tryz.underlying4
  have a4 := Tryz.isAgg4
  have z4 := Tryz.sizeOf4
  rw [run_eql_struct, show (10000 : Nat) = 9999 + 1 from rfl, run_equalIn_agg w 9999 37 _ _ hS hp]
  simp only [Program.fieldsOf, Tryz.underlying37]
  go_simp
attribute [local go_sem ↓] eqJ_run
/-- the law's candidate and judgement in their boxes -/
structure Pa (c : Cd) (q : Cv) (k : Jd) (w W : World) : Prop where
  lk : Lk c q w W
  jb : JBox k (w.heap.size + 1) W
theorem Pa.on {c : Cd} {q : Cv} {k : Jd} {w W W2 : World} (h : Pa c q k w W) (hb : Below W.heap.size W W2) : Pa c q k w W2 := ⟨h.lk.on hb, h.jb.on hb⟩
theorem Pa.start {c : Cd} {q : Cv} {o : Bool} {y a b : Int} {w : World} (h : CAt c q w) : Pa c q ⟨o, y, a, b⟩ w ((w.alloc (.cells #[.slice q.aF c.fs.length q.cF, .slice q.aH c.nh q.cH, .slice q.aR c.fr.length q.cR, .slice q.aO c.od.length q.cO] 26)).alloc (.cells #[.bool o, .int .i64 y, .int .i64 a, .int .i64 b] 37)) := by
  refine ⟨(Lk.start h).on (box_below _ _), ?_⟩
  have hj : JBox ⟨o, y, a, b⟩ (w.alloc (.cells #[.slice q.aF c.fs.length q.cF, .slice q.aH c.nh q.cH, .slice q.aR c.fr.length q.cR, .slice q.aO c.od.length q.cO] 26)).heap.size ((w.alloc (.cells #[.slice q.aF c.fs.length q.cF, .slice q.aH c.nh q.cH, .slice q.aR c.fr.length q.cR, .slice q.aO c.od.length q.cO] 26)).alloc (.cells #[.bool o, .int .i64 y, .int .i64 a, .int .i64 b] 37)) := Array.getElem?_push_size
  rw [show (w.alloc (.cells #[.slice q.aF c.fs.length q.cF, .slice q.aH c.nh q.cH, .slice q.aR c.fr.length q.cR, .slice q.aO c.od.length q.cO] 26)).heap.size = w.heap.size + 1 by simp] at hj
  exact hj
/-- and the copy -/
structure Pb (c : Cd) (q : Cv) (d : Cd) (q' : Cv) (gD : Nat) (k : Jd) (w W : World) : Prop where
  pa : Pa c q k w W
  box : CdAt d q' gD W
  at_ : CAt d q' W
theorem Pb.on {c : Cd} {q : Cv} {d : Cd} {q' : Cv} {gD : Nat} {k : Jd} {w W W2 : World} (h : Pb c q d q' gD k w W) (hb : Below W.heap.size W W2) : Pb c q d q' gD k w W2 := ⟨h.pa.on hb, h.box.on hb, h.at_.below hb⟩
theorem Pb.facts {c : Cd} {q : Cv} {d : Cd} {q' : Cv} {gD : Nat} {o : Bool} {y a b : Int} {w W : World} (h : Pb c q d q' gD ⟨o, y, a, b⟩ w W) : W.cell? ⟨w.heap.size, 0, none⟩ = some (.slice q.aF c.fs.length q.cF) ∧ W.cell? ⟨w.heap.size, 1, none⟩ = some (.slice q.aH c.nh q.cH) ∧ W.cell? ⟨w.heap.size, 2, none⟩ = some (.slice q.aR c.fr.length q.cR) ∧ W.cell? ⟨w.heap.size, 3, none⟩ = some (.slice q.aO c.od.length q.cO) ∧ W.cell? ⟨gD, 0, none⟩ = some (.slice q'.aF d.fs.length q'.cF) ∧ W.cell? ⟨gD, 1, none⟩ = some (.slice q'.aH d.nh q'.cH) ∧ W.cell? ⟨gD, 2, none⟩ = some (.slice q'.aR d.fr.length q'.cR) ∧ W.cell? ⟨gD, 3, none⟩ = some (.slice q'.aO d.od.length q'.cO) ∧ W.cell? ⟨w.heap.size + 1, 0, none⟩ = some (.bool o) ∧ W.cell? ⟨w.heap.size + 1, 1, none⟩ = some (.int .i64 y) ∧ W.cell? ⟨w.heap.size + 1, 2, none⟩ = some (.int .i64 a) ∧ W.cell? ⟨w.heap.size + 1, 3, none⟩ = some (.int .i64 b) := by
  obtain ⟨a0, a1, a2, a3⟩ := h.pa.lk.box.facts
  obtain ⟨b0, b1, b2, b3⟩ := h.box.facts
  obtain ⟨c0, c1, c2, c3⟩ := h.pa.jb.facts
  exact ⟨a0, a1, a2, a3, b0, b1, b2, b3, c0, c1, c2, c3⟩
set_option maxRecDepth 100000 in
set_option maxHeartbeats 32000000 in
theorem axiomCalls_any (c : Cd) (q : Cv) (w : World) (h : CAt c q w) (hx : ∀ h, h < c.nh → ∀ k, k < c.len h → WordX (c.ev h k)) (hf : ∀ j, j < c.fs.length → (0 ≤ fA c.fs j ∧ fA c.fs j < 18446744073709551616) ∧ (0 ≤ fV c.fs j ∧ fV c.fs j < 18446744073709551616)) (hT : TabP w) (n : Int) (b1 : -9223372036854775808 ≤ n ∧ n ≤ 9223372036854775807) (o : Bool) (y a b : Int) (ba : -9223372036854775808 ≤ a ∧ a ≤ 9223372036854775807) (bb : -9223372036854775808 ≤ b ∧ b ≤ 9223372036854775807) :
    Calls Tryz.prog 4 #[cdV c q, .int .i64 n, .agg #[.bool o, .int .i64 y, .int .i64 a, .int .i64 b]] w fun e w' => SameOk w true e w' := by
  have S0 : Hid (Pa c q ⟨o, y, a, b⟩ w _) := Lib.hid (Pa.start h)
  have HP := Lib.hid (fun h hh k hk => (hx h hh k hk).2)
  have HE := Lib.hid (fun h hh k hk => (hx h hh k hk).1)
  have HFW := Lib.hid hf
  have HT := Lib.hid hT
  have HN := Lib.hid b1
  have HA := Lib.hid ba
  have HB := Lib.hid bb
  clear h hx hf hT b1 ba bb
  go_enter Tryz.func4, Tryz.ntmps4
  go_upto_region 3 with (go_at_call 10; (with_reducible refine (alives_any _ (HT.out.on S0.out.lk.below)).mono ?_); rintro e' w1 ⟨rfl, hb⟩; have S1 := Lib.hid (S0.out.on hb); clear hb)
  obtain ⟨x0, x1, x2, x3⟩ := S1.out.lk.box.facts
  go_upto_region 5 with (go_at_call 15; (with_reducible refine (lightCand_any30 c q w1 S1.out.lk.at_).mono ?_); rintro e' w2 ⟨r, rfl, hr, hb⟩; have S2 := Lib.hid (S1.out.on hb); have R2 := Lib.hid (fun (e : r = true) => (hr e).lt HE.out HFW.out); clear hb hr x0 x1 x2 x3; cases r)
  · go_ret
    exact ⟨rfl, S2.out.lk.below⟩
  have LT := Lib.hid (R2.out (by first | rfl | trivial))
  clear R2 S1 S0
  obtain ⟨x0, x1, x2, x3⟩ := S2.out.lk.box.facts
  have KO := Lib.hid (ownCand_al c q w2 LT.out S2.out.lk.at_)
  have hfr := LT.out.fr
  have hw2 : IntKind.i64.wrap ((c.fr.length : Int) + 2) = (c.fr.length : Int) + 2 := by rw [IntWalk.i64_in _ (by omega)]
  obtain ⟨k1, hk1⟩ : ∃ z, Hid (pickI n ((c.fr.length : Int) + 2) = z) := ⟨_, Lib.hid rfl⟩
  have KK := Lib.hid (fun w0 => Pick_fit n HN.out ((c.fr.length : Int) + 2) (by omega) w0)
  rw [hk1.out] at KK
  have hw3 : ∃ k2, IntKind.i64.wrap (k1 - 1) = k2 := ⟨_, rfl⟩
  obtain ⟨k2, hk2⟩ := hw3
  go_upto_region 7 with (first
    | (go_at_call 9; (with_reducible refine (KO.out).mono ?_); rintro e' w5 ⟨d, q', rfl, hc, hd, hal, hb⟩; have LD := Lib.hid hd; have AL := Lib.hid hal; have P5 : Hid (Pb c q d q' w5.heap.size ⟨o, y, a, b⟩ w (w5.alloc (.cells #[.slice q'.aF d.fs.length q'.cF, .slice q'.aH d.nh q'.cH, .slice q'.aR d.fr.length q'.cR, .slice q'.aO d.od.length q'.cO] 26))) := Lib.hid ⟨(S2.out.on hb).on (box_below w5 _), CdAt.new d q' w5, hc.below (box_below w5 _)⟩; clear hb hc hd hal x0 x1 x2 x3; obtain ⟨x0, x1, x2, x3, x4, x5, x6, x7, x8, x9, x10, x11⟩ := P5.out.facts)
    | (go_at_call 16; (with_reducible refine (KK.out _).mono ?_); rintro e' w6 ⟨rfl, rfl⟩))
  clear KK KO hk2 hk1 hw2 hfr x0 x1 x2 x3 x4 x5 x6 x7 x8 x9 x10 x11 HE HFW HN S2
  obtain ⟨jo, jy, ja, jb, hj⟩ : ∃ o y a b, Hid (judgeW c = ⟨o, y, a, b⟩) := ⟨_, _, _, _, Lib.hid rfl⟩
  obtain ⟨sn, hsn⟩ : ∃ z, Hid (sourceW c n = z) := ⟨_, Lib.hid rfl⟩
  obtain ⟨sk, hsk⟩ : ∃ z, Hid (sourceW c k2 = z) := ⟨_, Lib.hid rfl⟩
  obtain ⟨st, hst⟩ : ∃ z : ByteArray, Hid (⟨(lineL o y a b).toArray⟩ = z) := ⟨_, Lib.hid rfl⟩
  have KJ := Lib.hid (fun w0 h0 => (show Calls Tryz.prog 11 #[cdV d q'] w0 fun e w' => AnsIs jo jy ja jb w0 e w' from by
    have := Judge_any d q' w0 LD.out h0
    rw [AL.out.judge, hj.out] at this
    exact this))
  have KJd := Lib.hid (fun w0 h0 => (show Calls Tryz.prog 17 #[cdV c q] w0 fun e w' => AnsIs jo jy ja jb w0 e w' from by
    have := rjudge_any c q w0 LT.out HP.out h0
    rw [hj.out] at this
    exact this))
  have KQ := Lib.hid (fun w0 h0 => Ok_any d q' w0 LD.out h0 jo (by rw [AL.out.judge, hj.out]))
  have KQd := Lib.hid (fun w0 h0 => rok_any c q w0 LT.out HP.out h0 jo (by rw [hj.out]))
  have KS := Lib.hid (fun w0 h0 => Source_any d q' w0 LD.out h0 n sn (by rw [AL.out.source]; exact hsn.out))
  have KSd := Lib.hid (fun w0 h0 => rSource_any c q w0 LT.out HP.out h0 n sn hsn.out)
  have KT := Lib.hid (fun w0 h0 => Source_any d q' w0 LD.out h0 k2 sk (by rw [AL.out.source]; exact hsk.out))
  have KTd := Lib.hid (fun w0 h0 => rSource_any c q w0 LT.out HP.out h0 k2 sk hsk.out)
  have KL := Lib.hid (fun w0 h0 => (show Calls Tryz.prog 14 #[.agg #[.bool o, .int .i64 y, .int .i64 a, .int .i64 b]] w0 fun e w' => e = .returned (.string st) ∧ Below w0.heap.size w0 w' from by
    rw [← hst.out]
    exact Line_any o y a b w0 h0 HA.out HB.out))
  have KLd := Lib.hid (fun w0 => (show Calls Tryz.prog 20 #[.agg #[.bool o, .int .i64 y, .int .i64 a, .int .i64 b]] w0 fun e w' => e = .returned (.string st) ∧ Below w0.heap.size w0 w' from by
    rw [← hst.out]
    exact rLine_any o y a b w0 HA.out HB.out))
  have KC := Lib.hid (fun w0 h0 h1 => kcand_yes d q' c q w0 LT.out AL.out h0 h1)
  go_name_world W5 hW5
  rw [hW5] at P5
  obtain ⟨gD, hgD⟩ : ∃ g, w5.heap.size = g := ⟨_, rfl⟩
  rw [hgD] at P5 ⊢
  clear hW5 hgD
  have P := Lib.hid (P5.out.on (Below.refl _ _).drew)
  clear P5
  have ejo : (jo == jo) = true := by simp
  have esn : (sn == sn) = true := by simp
  have esk : (sk == sk) = true := by simp
  have est : (st.toList == st.toList) = true := by simp
  go_region_held3 (fun w9 => w9.cell? ⟨w.heap.size, 0, none⟩ = some (.slice q.aF c.fs.length q.cF) ∧ w9.cell? ⟨w.heap.size, 1, none⟩ = some (.slice q.aH c.nh q.cH) ∧ w9.cell? ⟨w.heap.size, 2, none⟩ = some (.slice q.aR c.fr.length q.cR) ∧ w9.cell? ⟨w.heap.size, 3, none⟩ = some (.slice q.aO c.od.length q.cO) ∧ w9.cell? ⟨gD, 0, none⟩ = some (.slice q'.aF d.fs.length q'.cF) ∧ w9.cell? ⟨gD, 1, none⟩ = some (.slice q'.aH d.nh q'.cH) ∧ w9.cell? ⟨gD, 2, none⟩ = some (.slice q'.aR d.fr.length q'.cR) ∧ w9.cell? ⟨gD, 3, none⟩ = some (.slice q'.aO d.od.length q'.cO) ∧ w9.cell? ⟨w.heap.size + 1, 0, none⟩ = some (.bool o) ∧ w9.cell? ⟨w.heap.size + 1, 1, none⟩ = some (.int .i64 y) ∧ w9.cell? ⟨w.heap.size + 1, 2, none⟩ = some (.int .i64 a) ∧ w9.cell? ⟨w.heap.size + 1, 3, none⟩ = some (.int .i64 b)) (exact P.out.facts)
    ((first
      | (go_at_call 11; (with_reducible refine (KJ.out _ P.out.at_).mono ?_); rintro e' w10 ⟨rfl, hb⟩; replace P := Lib.hid (P.out.on hb); clear hb)
      | (go_at_call 17; (with_reducible refine (KJd.out _ P.out.pa.lk.at_).mono ?_); rintro e' w10 ⟨rfl, hb⟩; replace P := Lib.hid (P.out.on hb); clear hb)
      | (go_at_call 12; (with_reducible refine (KQ.out _ P.out.at_).mono ?_); rintro e' w10 ⟨rfl, hb⟩; replace P := Lib.hid (P.out.on hb); clear hb)
      | (go_at_call 18; (with_reducible refine (KQd.out _ P.out.pa.lk.at_).mono ?_); rintro e' w10 ⟨rfl, hb⟩; replace P := Lib.hid (P.out.on hb); clear hb)
      | (go_at_call 13; (with_reducible refine (KS.out _ P.out.at_).mono ?_); rintro e' w10 ⟨rfl, hb⟩; replace P := Lib.hid (P.out.on hb); clear hb)
      | (go_at_call 19; (with_reducible refine (KSd.out _ P.out.pa.lk.at_).mono ?_); rintro e' w10 ⟨rfl, hb⟩; replace P := Lib.hid (P.out.on hb); clear hb)
      | (go_at_call 13; (with_reducible refine (KT.out _ P.out.at_).mono ?_); rintro e' w10 ⟨rfl, hb⟩; replace P := Lib.hid (P.out.on hb); clear hb)
      | (go_at_call 19; (with_reducible refine (KTd.out _ P.out.pa.lk.at_).mono ?_); rintro e' w10 ⟨rfl, hb⟩; replace P := Lib.hid (P.out.on hb); clear hb)
      | (go_at_call 14; (with_reducible refine (KL.out _ (HT.out.on P.out.pa.lk.below)).mono ?_); rintro e' w10 ⟨rfl, hb⟩; replace P := Lib.hid (P.out.on hb); clear hb)
      | (go_at_call 20; (with_reducible refine (KLd.out _).mono ?_); rintro e' w10 ⟨rfl, hb⟩; replace P := Lib.hid (P.out.on hb); clear hb)
      | (go_at_call 21; (with_reducible refine (KC.out _ P.out.at_ P.out.pa.lk.at_).mono ?_); rintro e' w10 ⟨rfl, hb⟩; replace P := Lib.hid (P.out.on hb); clear hb)))
  go_wp2_with fail
  go_ret
  exact ⟨rfl, P.out.pa.lk.below⟩
end Go.Proofs.YtcbfokbdiefdeaaGreatDoor
