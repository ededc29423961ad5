/-
  Proved here: the document's Check of an event (layer 7) tells what chkE tells; nothing that was there is changed. Condition: lists of at most 100,000 numbers.
-/
import Derived.Test.YtokhnjcbcpmmjaaGreatRf07Below
import Derived.Test.YtokhnjcbcpmmjaaGreatRf07Pure
import Derived.Test.YtokhnjcbcpmmjaaGreatCdFew
namespace Go.Proofs.YtokhnjcbcpmmjaaGreat
set_option linter.unusedVariables false
set_option linter.unusedSimpArgs false
open Go.RowKit
attribute [local go_sem ↓] fold_E fold_SE

structure Rk (e : Ev) (g : Nat) (w wx : World) : Prop where
  e : EvAt e g wx
  b : Below w.heap.size w wx
theorem Rk.on {e : Ev} {g : Nat} {w wx w' : World} (h : Rk e g w wx) (hb : Below wx.heap.size wx w') : Rk e g w w' := ⟨h.e.on hb, h.b.trans (hb.mono h.b.size)⟩
theorem Rk.facts3 {e : Ev} {g : Nat} {w wx : World} (h : Rk e g w wx) {v1 v2 v3 : Value} (h1 : Hid (e.a = v1)) (h2 : Hid (e.d = v2)) (h3 : Hid (e.y = v3)) : g < wx.heap.size ∧ wx.cell? ⟨g, 0, none⟩ = some (.int .i64 e.hart) ∧ wx.cell? ⟨g, 1, none⟩ = some (.int .i64 e.pos) ∧ wx.cell? ⟨g, 2, none⟩ = some (.int .i64 e.kind) ∧ wx.cell? ⟨g, 3, none⟩ = some (.int .u64 e.addr) ∧ wx.cell? ⟨g, 4, none⟩ = some (.int .u64 e.load) ∧ wx.cell? ⟨g, 5, none⟩ = some (.int .u64 e.store) ∧ wx.cell? ⟨g, 6, none⟩ = some (.bool e.aq) ∧ wx.cell? ⟨g, 7, none⟩ = some (.bool e.rl) ∧ wx.cell? ⟨g, 8, none⟩ = some (.int .i64 e.pred) ∧ wx.cell? ⟨g, 9, none⟩ = some (.int .i64 e.succ) ∧ wx.cell? ⟨g, 10, none⟩ = some (.int .i64 e.pair) ∧ wx.cell? ⟨g, 11, none⟩ = some v1 ∧ wx.cell? ⟨g, 12, none⟩ = some v2 ∧ wx.cell? ⟨g, 13, none⟩ = some v3 := by
  rw [← h1.out, ← h2.out, ← h3.out]; exact h.e.facts
set_option maxRecDepth 100000 in
set_option maxHeartbeats 8000000 in
theorem rcheck_raw (e : Ev) (l : El) (w : World) (h : EReads w e l) (hn : l.n) (hu : 0 ≤ e.addr) (r : Bool) (hr : rchk e l = r) :
    Calls Tryz.prog 58 #[e.V] w fun e' w' => ErrIs w r e' w' := by
  obtain ⟨a1, c1, e1⟩ := h.1.len
  obtain ⟨a2, c2, e2⟩ := h.2.1.len
  obtain ⟨a3, c3, e3⟩ := h.2.2.len
  obtain ⟨n1, hn1⟩ : ∃ n, Hid (l.a.length = n) := ⟨_, Lib.hid rfl⟩
  obtain ⟨n2, hn2⟩ : ∃ n, Hid (l.d.length = n) := ⟨_, Lib.hid rfl⟩
  obtain ⟨n3, hn3⟩ : ∃ n, Hid (l.y.length = n) := ⟨_, Lib.hid rfl⟩
  have hR1 : ReadsI w (.slice a1 l.a.length c1) l.a := e1 ▸ h.1
  have hR2 : ReadsI w (.slice a2 l.d.length c2) l.d := e2 ▸ h.2.1
  have hR3 : ReadsI w (.slice a3 l.y.length c3) l.y := e3 ▸ h.2.2
  obtain ⟨bA, gA⟩ : ∃ b, Hid (aheadB e.pos l.a = b) := ⟨_, Lib.hid rfl⟩
  obtain ⟨bD, gD⟩ : ∃ b, Hid (aheadB e.pos l.d = b) := ⟨_, Lib.hid rfl⟩
  obtain ⟨bY, gY⟩ : ∃ b, Hid (aheadB e.pos l.y = b) := ⟨_, Lib.hid rfl⟩
  have KA := Lib.hid (fun w0 (hb : Below w.heap.size w w0) => below_any _ l.a e.pos w0 (hR1.below hb) hn.1 bA gA.out)
  have KD := Lib.hid (fun w0 (hb : Below w.heap.size w w0) => below_any _ l.d e.pos w0 (hR2.below hb) hn.2.1 bD gD.out)
  have KY := Lib.hid (fun w0 (hb : Below w.heap.size w w0) => below_any _ l.y e.pos w0 (hR3.below hb) hn.2.2 bY gY.out)
  obtain ⟨bR, gR⟩ : ∃ b, Hid (readsE e = b) := ⟨_, Lib.hid rfl⟩
  obtain ⟨bW, gW⟩ : ∃ b, Hid (writesE e = b) := ⟨_, Lib.hid rfl⟩
  obtain ⟨bM, gM⟩ : ∃ b, Hid (memE e = b) := ⟨_, Lib.hid rfl⟩
  have KR := Lib.hid (fun w0 => rReads_b e bR gR.out w0)
  have KW := Lib.hid (fun w0 => rWrites_b e bW gW.out w0)
  have KM := Lib.hid (fun w0 => rMemory_b e bM gM.out w0)
  unfold AskIs at KR KW KM
  have N1 := hn.1
  have N2 := hn.2.1
  have N3 := hn.2.2
  rw [hn1.out] at KA e1 N1
  rw [hn2.out] at KD e2 N2
  rw [hn3.out] at KY e3 N3
  have E1 := Lib.hid e1
  have E2 := Lib.hid e2
  have E3 := Lib.hid e3
  obtain ⟨k6, hk6⟩ : ∃ b, (e.kind == 6) = b := ⟨_, rfl⟩
  obtain ⟨r0, g0⟩ : ∃ b, Hid (rOk0 e = b) := ⟨_, Lib.hid rfl⟩
  obtain ⟨rF, gF⟩ : ∃ b, Hid (rFen e ((n1 : Int) + n2 + n3) = b) := ⟨_, Lib.hid rfl⟩
  obtain ⟨r1, g1⟩ : ∃ b, Hid (rMem1 e = b) := ⟨_, Lib.hid rfl⟩
  obtain ⟨r2, g2⟩ : ∃ b, Hid (rMem2 e = b) := ⟨_, Lib.hid rfl⟩
  obtain ⟨r3, g3⟩ : ∃ b, Hid (rMem3 e = b) := ⟨_, Lib.hid rfl⟩
  obtain ⟨r4, g4⟩ : ∃ b, Hid (rMem4 e l = b) := ⟨_, Lib.hid rfl⟩
  have hX : Hid (r = if k6 then r0 && rF else (((r0 && r1) && r2) && r3) && r4) := Lib.hid (by
    rw [← hr]; unfold rchk; rw [hn1.out, hn2.out, hn3.out, hk6, g0.out, gF.out, g1.out, g2.out, g3.out, g4.out])
  have hw1 : IntKind.i64.wrap ((n1 : Int) + n2) = (n1 : Int) + n2 := IntWalk.i64_in _ (by omega)
  have hw2 : IntKind.i64.wrap ((n1 : Int) + n2 + n3) = (n1 : Int) + n2 + n3 := IntWalk.i64_in _ (by omega)
  have g4' : Hid (r4 = (((bA && bD) && bY) && (bW || ((n2 : Int) == 0)))) := Lib.hid (by rw [← g4.out]; unfold rMem4; rw [gA.out, gD.out, gY.out, gW.out, hn2.out])
  have g1' : Hid (r1 = (((((bM && (e.addr % 8 == 0)) && (bR || (e.load == 0))) && (bW || (e.store == 0))) && (e.pred == 0)) && (e.succ == 0))) := Lib.hid (by rw [← g1.out]; unfold rMem1; rw [gM.out, gR.out, gW.out])
  have HZ0 := EvAt.new e w
  have HB0 := (box_below w (.cells #[.int .i64 e.hart, .int .i64 e.pos, .int .i64 e.kind, .int .u64 e.addr, .int .u64 e.load, .int .u64 e.store, .bool e.aq, .bool e.rl, .int .i64 e.pred, .int .i64 e.succ, .int .i64 e.pair, e.a, e.d, e.y] 60))
  clear h hn hr hR1 hR2 hR3 gA gD gY gR gW gM g1 g4 e1 e2 e3 hn1 hn2 hn3
  go_enter Tryz.func58, Tryz.ntmps58
  have H0 := Lib.hid (⟨HZ0, HB0⟩ : Rk e w.heap.size w _)
  clear HZ0 HB0
  go_upto_region 1 with fail
  obtain ⟨W, hW⟩ : ∃ W, Hid (w.alloc (.cells #[.int .i64 e.hart, .int .i64 e.pos, .int .i64 e.kind, .int .u64 e.addr, .int .u64 e.load, .int .u64 e.store, .bool e.aq, .bool e.rl, .int .i64 e.pred, .int .i64 e.succ, .int .i64 e.pair, e.a, e.d, e.y] 60) = W) := ⟨_, Lib.hid rfl⟩
  rw [hW.out] at H0 ⊢
  obtain ⟨g, hg⟩ : ∃ g, Hid (w.heap.size = g) := ⟨_, Lib.hid rfl⟩
  have HZ : Hid (Rk e g w W) := by rw [← hg.out]; exact H0
  have hgw : Hid (w.heap.size = g) := hg
  rw [hg.out]
  clear H0 hW hg
  obtain ⟨hlt, f0, f1, f2, f3, f4, f5, f6, f7, f8, f9, f10, f11, f12, f13⟩ := HZ.out.facts3 E1 E2 E3
  have cl := run_LoadE HZ.out.e
  go_upto_region 2 with fail
  go_cut [4] (fun t4 wx => t4 = .bool r0 ∧ Hid (Rk e g w wx))
  case first => as_aux_lemma =>
    obtain ⟨q1, h1⟩ : ∃ b, decide (0 ≤ e.hart) = b := ⟨_, rfl⟩
    obtain ⟨q2, h2⟩ : ∃ b, decide (e.hart < 8) = b := ⟨_, rfl⟩
    obtain ⟨q3, h3⟩ : ∃ b, decide (0 ≤ e.pos) = b := ⟨_, rfl⟩
    have HQ : Hid (r0 = ((q1 && q2) && q3)) := Lib.hid (by rw [← g0.out]; unfold rOk0; rw [h1, h2, h3])
    cases q1 with
    | false =>
      go_wp2_with fail
      go_meet
      exact ⟨by rw [HQ.out]; rfl, HZ⟩
    | true =>
      cases q2 with
      | false =>
        go_wp2_with fail
        go_meet
        exact ⟨by rw [HQ.out]; rfl, HZ⟩
      | true =>
        cases q3 with
        | false =>
          go_wp2_with fail
          go_meet
          exact ⟨by rw [HQ.out]; rfl, HZ⟩
        | true =>
          go_wp2_with fail
          go_meet
          exact ⟨by rw [HQ.out]; rfl, HZ⟩
  case rest =>
    obtain ⟨rfl, HZ2⟩ := hcut
    clear HZ hlt f0 f1 f2 f3 f4 f5 f6 f7 f8 f9 f10 f11 f12 f13 cl; have HZ := Lib.hid HZ2.out; clear HZ2; obtain ⟨hlt, f0, f1, f2, f3, f4, f5, f6, f7, f8, f9, f10, f11, f12, f13⟩ := HZ.out.facts3 E1 E2 E3; have cl := run_LoadE HZ.out.e
    clear hw1 hw2 g0
    go_upto_if 34 with fail
    go_cut [4] (fun t4 wx => t4 = .bool r ∧ Hid (Rk e g w wx))
    case first =>
      cases k6 with
      | true => as_aux_lemma =>
        have HX : Hid (r = (r0 && rF)) := Lib.hid (by rw [hX.out]; rfl)
        obtain ⟨q1, h1⟩ : ∃ b, (e.addr == 0) = b := ⟨_, rfl⟩
        obtain ⟨q2, h2⟩ : ∃ b, (e.load == 0) = b := ⟨_, rfl⟩
        obtain ⟨q3, h3⟩ : ∃ b, (e.store == 0) = b := ⟨_, rfl⟩
        obtain ⟨q4, h4⟩ : ∃ b, (!e.aq) = b := ⟨_, rfl⟩
        obtain ⟨q5, h5⟩ : ∃ b, (!e.rl) = b := ⟨_, rfl⟩
        obtain ⟨q6, h6⟩ : ∃ b, (e.pair == 0) = b := ⟨_, rfl⟩
        obtain ⟨q7, h7⟩ : ∃ b, ((n1 : Int) + n2 + n3 == 0) = b := ⟨_, rfl⟩
        obtain ⟨q8, h8⟩ : ∃ b, decide (0 ≤ e.pred) = b := ⟨_, rfl⟩
        obtain ⟨q9, h9⟩ : ∃ b, decide (e.pred ≤ 15) = b := ⟨_, rfl⟩
        obtain ⟨qa, ha⟩ : ∃ b, decide (0 ≤ e.succ) = b := ⟨_, rfl⟩
        obtain ⟨qb, hb⟩ : ∃ b, decide (e.succ ≤ 15) = b := ⟨_, rfl⟩
        have HQ : Hid (r = (r0 && ((((((((((q1 && q2) && q3) && q4) && q5) && q6) && q7) && q8) && q9) && qa) && qb))) := Lib.hid (by rw [HX.out, ← gF.out]; unfold rFen; rw [h1, h2, h3, h4, h5, h6, h7, h8, h9, ha, hb])
        clear hX gF HX g2 g3 g4' g1'
        cases r0 with
        | false =>
          go_wp2_with fail
          go_meet
          exact ⟨by rw [HQ.out]; rfl, HZ⟩
        | true =>
          cases q1 with
          | false =>
            go_wp2_with fail
            go_meet
            exact ⟨by rw [HQ.out]; rfl, HZ⟩
          | true =>
            cases q2 with
            | false =>
              go_wp2_with fail
              go_meet
              exact ⟨by rw [HQ.out]; rfl, HZ⟩
            | true =>
              cases q3 with
              | false =>
                go_wp2_with fail
                go_meet
                exact ⟨by rw [HQ.out]; rfl, HZ⟩
              | true =>
                cases q4 with
                | false =>
                  go_wp2_with fail
                  go_meet
                  exact ⟨by rw [HQ.out]; rfl, HZ⟩
                | true =>
                  cases q5 with
                  | false =>
                    go_wp2_with fail
                    go_meet
                    exact ⟨by rw [HQ.out]; rfl, HZ⟩
                  | true =>
                    cases q6 with
                    | false =>
                      go_wp2_with fail
                      go_meet
                      exact ⟨by rw [HQ.out]; rfl, HZ⟩
                    | true =>
                      cases q7 with
                      | false =>
                        go_wp2_with fail
                        go_meet
                        exact ⟨by rw [HQ.out]; rfl, HZ⟩
                      | true =>
                        cases q8 with
                        | false =>
                          go_wp2_with fail
                          go_meet
                          exact ⟨by rw [HQ.out]; rfl, HZ⟩
                        | true =>
                          cases q9 with
                          | false =>
                            go_wp2_with fail
                            go_meet
                            exact ⟨by rw [HQ.out]; rfl, HZ⟩
                          | true =>
                            cases qa with
                            | false =>
                              go_wp2_with fail
                              go_meet
                              exact ⟨by rw [HQ.out]; rfl, HZ⟩
                            | true =>
                              cases qb with
                              | false =>
                                go_wp2_with fail
                                go_meet
                                exact ⟨by rw [HQ.out]; rfl, HZ⟩
                              | true =>
                                go_wp2_with fail
                                go_meet
                                exact ⟨by rw [HQ.out]; rfl, HZ⟩
      | false =>
        have HX : Hid (r = ((((r0 && r1) && r2) && r3) && r4)) := Lib.hid (by rw [hX.out]; rfl)
        clear hX gF
        go_upto_region 5 with fail
        obtain ⟨rr1, hr1⟩ : ∃ b, Hid ((r0 && r1) = b) := ⟨_, Lib.hid rfl⟩
        obtain ⟨rr2, hr2⟩ : ∃ b, Hid ((rr1 && r2) = b) := ⟨_, Lib.hid rfl⟩
        obtain ⟨rr3, hr3⟩ : ∃ b, Hid ((rr2 && r3) = b) := ⟨_, Lib.hid rfl⟩
        have HY : Hid (r = (rr3 && r4)) := Lib.hid (by rw [HX.out, ← hr3.out, ← hr2.out, ← hr1.out])
        clear HX
        go_cut [4] (fun t4 wx => t4 = .bool rr1 ∧ Hid (Rk e g w wx))
        case first => as_aux_lemma =>
          obtain ⟨q1, h1⟩ : ∃ b, (e.addr % 8 == 0) = b := ⟨_, rfl⟩
          obtain ⟨q2, h2⟩ : ∃ b, (e.load == 0) = b := ⟨_, rfl⟩
          obtain ⟨q3, h3⟩ : ∃ b, (e.store == 0) = b := ⟨_, rfl⟩
          obtain ⟨q4, h4⟩ : ∃ b, (e.pred == 0) = b := ⟨_, rfl⟩
          obtain ⟨q5, h5⟩ : ∃ b, (e.succ == 0) = b := ⟨_, rfl⟩
          have HQ : Hid (rr1 = (r0 && (((((bM && q1) && (bR || q2)) && (bW || q3)) && q4) && q5))) := Lib.hid (by rw [← hr1.out, g1'.out, h1, h2, h3, h4, h5])
          clear hr1 hr2 hr3 HY g2 g3 g4' g1'
          cases r0 with
          | false =>
            go_wp2_with (first | (go_at_call 33; (with_reducible refine (KM.out _).mono ?_); rintro e' w1 ⟨rfl, hb⟩; have HZ1 := Lib.hid (HZ.out.on hb); clear hb HZ; have HZ := Lib.hid HZ1.out; clear HZ1; clear cl hlt f0 f1 f2 f3 f4 f5 f6 f7 f8 f9 f10 f11 f12 f13; obtain ⟨hlt, f0, f1, f2, f3, f4, f5, f6, f7, f8, f9, f10, f11, f12, f13⟩ := HZ.out.facts3 E1 E2 E3; have cl := run_LoadE HZ.out.e) | (go_at_call 60; (with_reducible refine (KR.out _).mono ?_); rintro e' w1 ⟨rfl, hb⟩; have HZ1 := Lib.hid (HZ.out.on hb); clear hb HZ; have HZ := Lib.hid HZ1.out; clear HZ1; clear cl hlt f0 f1 f2 f3 f4 f5 f6 f7 f8 f9 f10 f11 f12 f13; obtain ⟨hlt, f0, f1, f2, f3, f4, f5, f6, f7, f8, f9, f10, f11, f12, f13⟩ := HZ.out.facts3 E1 E2 E3; have cl := run_LoadE HZ.out.e) | (go_at_call 46; (with_reducible refine (KW.out _).mono ?_); rintro e' w1 ⟨rfl, hb⟩; have HZ1 := Lib.hid (HZ.out.on hb); clear hb HZ; have HZ := Lib.hid HZ1.out; clear HZ1; clear cl hlt f0 f1 f2 f3 f4 f5 f6 f7 f8 f9 f10 f11 f12 f13; obtain ⟨hlt, f0, f1, f2, f3, f4, f5, f6, f7, f8, f9, f10, f11, f12, f13⟩ := HZ.out.facts3 E1 E2 E3; have cl := run_LoadE HZ.out.e))
            go_meet
            exact ⟨by rw [HQ.out]; rfl, HZ⟩
          | true =>
            cases bM with
            | false =>
              go_wp2_with (first | (go_at_call 33; (with_reducible refine (KM.out _).mono ?_); rintro e' w1 ⟨rfl, hb⟩; have HZ1 := Lib.hid (HZ.out.on hb); clear hb HZ; have HZ := Lib.hid HZ1.out; clear HZ1; clear cl hlt f0 f1 f2 f3 f4 f5 f6 f7 f8 f9 f10 f11 f12 f13; obtain ⟨hlt, f0, f1, f2, f3, f4, f5, f6, f7, f8, f9, f10, f11, f12, f13⟩ := HZ.out.facts3 E1 E2 E3; have cl := run_LoadE HZ.out.e) | (go_at_call 60; (with_reducible refine (KR.out _).mono ?_); rintro e' w1 ⟨rfl, hb⟩; have HZ1 := Lib.hid (HZ.out.on hb); clear hb HZ; have HZ := Lib.hid HZ1.out; clear HZ1; clear cl hlt f0 f1 f2 f3 f4 f5 f6 f7 f8 f9 f10 f11 f12 f13; obtain ⟨hlt, f0, f1, f2, f3, f4, f5, f6, f7, f8, f9, f10, f11, f12, f13⟩ := HZ.out.facts3 E1 E2 E3; have cl := run_LoadE HZ.out.e) | (go_at_call 46; (with_reducible refine (KW.out _).mono ?_); rintro e' w1 ⟨rfl, hb⟩; have HZ1 := Lib.hid (HZ.out.on hb); clear hb HZ; have HZ := Lib.hid HZ1.out; clear HZ1; clear cl hlt f0 f1 f2 f3 f4 f5 f6 f7 f8 f9 f10 f11 f12 f13; obtain ⟨hlt, f0, f1, f2, f3, f4, f5, f6, f7, f8, f9, f10, f11, f12, f13⟩ := HZ.out.facts3 E1 E2 E3; have cl := run_LoadE HZ.out.e))
              go_meet
              exact ⟨by rw [HQ.out]; rfl, HZ⟩
            | true =>
              cases q1 with
              | false =>
                go_wp2_with (first | (go_at_call 33; (with_reducible refine (KM.out _).mono ?_); rintro e' w1 ⟨rfl, hb⟩; have HZ1 := Lib.hid (HZ.out.on hb); clear hb HZ; have HZ := Lib.hid HZ1.out; clear HZ1; clear cl hlt f0 f1 f2 f3 f4 f5 f6 f7 f8 f9 f10 f11 f12 f13; obtain ⟨hlt, f0, f1, f2, f3, f4, f5, f6, f7, f8, f9, f10, f11, f12, f13⟩ := HZ.out.facts3 E1 E2 E3; have cl := run_LoadE HZ.out.e) | (go_at_call 60; (with_reducible refine (KR.out _).mono ?_); rintro e' w1 ⟨rfl, hb⟩; have HZ1 := Lib.hid (HZ.out.on hb); clear hb HZ; have HZ := Lib.hid HZ1.out; clear HZ1; clear cl hlt f0 f1 f2 f3 f4 f5 f6 f7 f8 f9 f10 f11 f12 f13; obtain ⟨hlt, f0, f1, f2, f3, f4, f5, f6, f7, f8, f9, f10, f11, f12, f13⟩ := HZ.out.facts3 E1 E2 E3; have cl := run_LoadE HZ.out.e) | (go_at_call 46; (with_reducible refine (KW.out _).mono ?_); rintro e' w1 ⟨rfl, hb⟩; have HZ1 := Lib.hid (HZ.out.on hb); clear hb HZ; have HZ := Lib.hid HZ1.out; clear HZ1; clear cl hlt f0 f1 f2 f3 f4 f5 f6 f7 f8 f9 f10 f11 f12 f13; obtain ⟨hlt, f0, f1, f2, f3, f4, f5, f6, f7, f8, f9, f10, f11, f12, f13⟩ := HZ.out.facts3 E1 E2 E3; have cl := run_LoadE HZ.out.e))
                go_meet
                exact ⟨by rw [HQ.out]; rfl, HZ⟩
              | true =>
                cases bR with
                | false =>
                  cases q2 with
                  | false =>
                    go_wp2_with (first | (go_at_call 33; (with_reducible refine (KM.out _).mono ?_); rintro e' w1 ⟨rfl, hb⟩; have HZ1 := Lib.hid (HZ.out.on hb); clear hb HZ; have HZ := Lib.hid HZ1.out; clear HZ1; clear cl hlt f0 f1 f2 f3 f4 f5 f6 f7 f8 f9 f10 f11 f12 f13; obtain ⟨hlt, f0, f1, f2, f3, f4, f5, f6, f7, f8, f9, f10, f11, f12, f13⟩ := HZ.out.facts3 E1 E2 E3; have cl := run_LoadE HZ.out.e) | (go_at_call 60; (with_reducible refine (KR.out _).mono ?_); rintro e' w1 ⟨rfl, hb⟩; have HZ1 := Lib.hid (HZ.out.on hb); clear hb HZ; have HZ := Lib.hid HZ1.out; clear HZ1; clear cl hlt f0 f1 f2 f3 f4 f5 f6 f7 f8 f9 f10 f11 f12 f13; obtain ⟨hlt, f0, f1, f2, f3, f4, f5, f6, f7, f8, f9, f10, f11, f12, f13⟩ := HZ.out.facts3 E1 E2 E3; have cl := run_LoadE HZ.out.e) | (go_at_call 46; (with_reducible refine (KW.out _).mono ?_); rintro e' w1 ⟨rfl, hb⟩; have HZ1 := Lib.hid (HZ.out.on hb); clear hb HZ; have HZ := Lib.hid HZ1.out; clear HZ1; clear cl hlt f0 f1 f2 f3 f4 f5 f6 f7 f8 f9 f10 f11 f12 f13; obtain ⟨hlt, f0, f1, f2, f3, f4, f5, f6, f7, f8, f9, f10, f11, f12, f13⟩ := HZ.out.facts3 E1 E2 E3; have cl := run_LoadE HZ.out.e))
                    go_meet
                    exact ⟨by rw [HQ.out]; rfl, HZ⟩
                  | true =>
                    cases bW with
                    | false =>
                      cases q3 with
                      | false =>
                        go_wp2_with (first | (go_at_call 33; (with_reducible refine (KM.out _).mono ?_); rintro e' w1 ⟨rfl, hb⟩; have HZ1 := Lib.hid (HZ.out.on hb); clear hb HZ; have HZ := Lib.hid HZ1.out; clear HZ1; clear cl hlt f0 f1 f2 f3 f4 f5 f6 f7 f8 f9 f10 f11 f12 f13; obtain ⟨hlt, f0, f1, f2, f3, f4, f5, f6, f7, f8, f9, f10, f11, f12, f13⟩ := HZ.out.facts3 E1 E2 E3; have cl := run_LoadE HZ.out.e) | (go_at_call 60; (with_reducible refine (KR.out _).mono ?_); rintro e' w1 ⟨rfl, hb⟩; have HZ1 := Lib.hid (HZ.out.on hb); clear hb HZ; have HZ := Lib.hid HZ1.out; clear HZ1; clear cl hlt f0 f1 f2 f3 f4 f5 f6 f7 f8 f9 f10 f11 f12 f13; obtain ⟨hlt, f0, f1, f2, f3, f4, f5, f6, f7, f8, f9, f10, f11, f12, f13⟩ := HZ.out.facts3 E1 E2 E3; have cl := run_LoadE HZ.out.e) | (go_at_call 46; (with_reducible refine (KW.out _).mono ?_); rintro e' w1 ⟨rfl, hb⟩; have HZ1 := Lib.hid (HZ.out.on hb); clear hb HZ; have HZ := Lib.hid HZ1.out; clear HZ1; clear cl hlt f0 f1 f2 f3 f4 f5 f6 f7 f8 f9 f10 f11 f12 f13; obtain ⟨hlt, f0, f1, f2, f3, f4, f5, f6, f7, f8, f9, f10, f11, f12, f13⟩ := HZ.out.facts3 E1 E2 E3; have cl := run_LoadE HZ.out.e))
                        go_meet
                        exact ⟨by rw [HQ.out]; rfl, HZ⟩
                      | true =>
                        cases q4 with
                        | false =>
                          go_wp2_with (first | (go_at_call 33; (with_reducible refine (KM.out _).mono ?_); rintro e' w1 ⟨rfl, hb⟩; have HZ1 := Lib.hid (HZ.out.on hb); clear hb HZ; have HZ := Lib.hid HZ1.out; clear HZ1; clear cl hlt f0 f1 f2 f3 f4 f5 f6 f7 f8 f9 f10 f11 f12 f13; obtain ⟨hlt, f0, f1, f2, f3, f4, f5, f6, f7, f8, f9, f10, f11, f12, f13⟩ := HZ.out.facts3 E1 E2 E3; have cl := run_LoadE HZ.out.e) | (go_at_call 60; (with_reducible refine (KR.out _).mono ?_); rintro e' w1 ⟨rfl, hb⟩; have HZ1 := Lib.hid (HZ.out.on hb); clear hb HZ; have HZ := Lib.hid HZ1.out; clear HZ1; clear cl hlt f0 f1 f2 f3 f4 f5 f6 f7 f8 f9 f10 f11 f12 f13; obtain ⟨hlt, f0, f1, f2, f3, f4, f5, f6, f7, f8, f9, f10, f11, f12, f13⟩ := HZ.out.facts3 E1 E2 E3; have cl := run_LoadE HZ.out.e) | (go_at_call 46; (with_reducible refine (KW.out _).mono ?_); rintro e' w1 ⟨rfl, hb⟩; have HZ1 := Lib.hid (HZ.out.on hb); clear hb HZ; have HZ := Lib.hid HZ1.out; clear HZ1; clear cl hlt f0 f1 f2 f3 f4 f5 f6 f7 f8 f9 f10 f11 f12 f13; obtain ⟨hlt, f0, f1, f2, f3, f4, f5, f6, f7, f8, f9, f10, f11, f12, f13⟩ := HZ.out.facts3 E1 E2 E3; have cl := run_LoadE HZ.out.e))
                          go_meet
                          exact ⟨by rw [HQ.out]; rfl, HZ⟩
                        | true =>
                          cases q5 with
                          | false =>
                            go_wp2_with (first | (go_at_call 33; (with_reducible refine (KM.out _).mono ?_); rintro e' w1 ⟨rfl, hb⟩; have HZ1 := Lib.hid (HZ.out.on hb); clear hb HZ; have HZ := Lib.hid HZ1.out; clear HZ1; clear cl hlt f0 f1 f2 f3 f4 f5 f6 f7 f8 f9 f10 f11 f12 f13; obtain ⟨hlt, f0, f1, f2, f3, f4, f5, f6, f7, f8, f9, f10, f11, f12, f13⟩ := HZ.out.facts3 E1 E2 E3; have cl := run_LoadE HZ.out.e) | (go_at_call 60; (with_reducible refine (KR.out _).mono ?_); rintro e' w1 ⟨rfl, hb⟩; have HZ1 := Lib.hid (HZ.out.on hb); clear hb HZ; have HZ := Lib.hid HZ1.out; clear HZ1; clear cl hlt f0 f1 f2 f3 f4 f5 f6 f7 f8 f9 f10 f11 f12 f13; obtain ⟨hlt, f0, f1, f2, f3, f4, f5, f6, f7, f8, f9, f10, f11, f12, f13⟩ := HZ.out.facts3 E1 E2 E3; have cl := run_LoadE HZ.out.e) | (go_at_call 46; (with_reducible refine (KW.out _).mono ?_); rintro e' w1 ⟨rfl, hb⟩; have HZ1 := Lib.hid (HZ.out.on hb); clear hb HZ; have HZ := Lib.hid HZ1.out; clear HZ1; clear cl hlt f0 f1 f2 f3 f4 f5 f6 f7 f8 f9 f10 f11 f12 f13; obtain ⟨hlt, f0, f1, f2, f3, f4, f5, f6, f7, f8, f9, f10, f11, f12, f13⟩ := HZ.out.facts3 E1 E2 E3; have cl := run_LoadE HZ.out.e))
                            go_meet
                            exact ⟨by rw [HQ.out]; rfl, HZ⟩
                          | true =>
                            go_wp2_with (first | (go_at_call 33; (with_reducible refine (KM.out _).mono ?_); rintro e' w1 ⟨rfl, hb⟩; have HZ1 := Lib.hid (HZ.out.on hb); clear hb HZ; have HZ := Lib.hid HZ1.out; clear HZ1; clear cl hlt f0 f1 f2 f3 f4 f5 f6 f7 f8 f9 f10 f11 f12 f13; obtain ⟨hlt, f0, f1, f2, f3, f4, f5, f6, f7, f8, f9, f10, f11, f12, f13⟩ := HZ.out.facts3 E1 E2 E3; have cl := run_LoadE HZ.out.e) | (go_at_call 60; (with_reducible refine (KR.out _).mono ?_); rintro e' w1 ⟨rfl, hb⟩; have HZ1 := Lib.hid (HZ.out.on hb); clear hb HZ; have HZ := Lib.hid HZ1.out; clear HZ1; clear cl hlt f0 f1 f2 f3 f4 f5 f6 f7 f8 f9 f10 f11 f12 f13; obtain ⟨hlt, f0, f1, f2, f3, f4, f5, f6, f7, f8, f9, f10, f11, f12, f13⟩ := HZ.out.facts3 E1 E2 E3; have cl := run_LoadE HZ.out.e) | (go_at_call 46; (with_reducible refine (KW.out _).mono ?_); rintro e' w1 ⟨rfl, hb⟩; have HZ1 := Lib.hid (HZ.out.on hb); clear hb HZ; have HZ := Lib.hid HZ1.out; clear HZ1; clear cl hlt f0 f1 f2 f3 f4 f5 f6 f7 f8 f9 f10 f11 f12 f13; obtain ⟨hlt, f0, f1, f2, f3, f4, f5, f6, f7, f8, f9, f10, f11, f12, f13⟩ := HZ.out.facts3 E1 E2 E3; have cl := run_LoadE HZ.out.e))
                            go_meet
                            exact ⟨by rw [HQ.out]; rfl, HZ⟩
                    | true =>
                      cases q4 with
                      | false =>
                        go_wp2_with (first | (go_at_call 33; (with_reducible refine (KM.out _).mono ?_); rintro e' w1 ⟨rfl, hb⟩; have HZ1 := Lib.hid (HZ.out.on hb); clear hb HZ; have HZ := Lib.hid HZ1.out; clear HZ1; clear cl hlt f0 f1 f2 f3 f4 f5 f6 f7 f8 f9 f10 f11 f12 f13; obtain ⟨hlt, f0, f1, f2, f3, f4, f5, f6, f7, f8, f9, f10, f11, f12, f13⟩ := HZ.out.facts3 E1 E2 E3; have cl := run_LoadE HZ.out.e) | (go_at_call 60; (with_reducible refine (KR.out _).mono ?_); rintro e' w1 ⟨rfl, hb⟩; have HZ1 := Lib.hid (HZ.out.on hb); clear hb HZ; have HZ := Lib.hid HZ1.out; clear HZ1; clear cl hlt f0 f1 f2 f3 f4 f5 f6 f7 f8 f9 f10 f11 f12 f13; obtain ⟨hlt, f0, f1, f2, f3, f4, f5, f6, f7, f8, f9, f10, f11, f12, f13⟩ := HZ.out.facts3 E1 E2 E3; have cl := run_LoadE HZ.out.e) | (go_at_call 46; (with_reducible refine (KW.out _).mono ?_); rintro e' w1 ⟨rfl, hb⟩; have HZ1 := Lib.hid (HZ.out.on hb); clear hb HZ; have HZ := Lib.hid HZ1.out; clear HZ1; clear cl hlt f0 f1 f2 f3 f4 f5 f6 f7 f8 f9 f10 f11 f12 f13; obtain ⟨hlt, f0, f1, f2, f3, f4, f5, f6, f7, f8, f9, f10, f11, f12, f13⟩ := HZ.out.facts3 E1 E2 E3; have cl := run_LoadE HZ.out.e))
                        go_meet
                        exact ⟨by rw [HQ.out]; rfl, HZ⟩
                      | true =>
                        cases q5 with
                        | false =>
                          go_wp2_with (first | (go_at_call 33; (with_reducible refine (KM.out _).mono ?_); rintro e' w1 ⟨rfl, hb⟩; have HZ1 := Lib.hid (HZ.out.on hb); clear hb HZ; have HZ := Lib.hid HZ1.out; clear HZ1; clear cl hlt f0 f1 f2 f3 f4 f5 f6 f7 f8 f9 f10 f11 f12 f13; obtain ⟨hlt, f0, f1, f2, f3, f4, f5, f6, f7, f8, f9, f10, f11, f12, f13⟩ := HZ.out.facts3 E1 E2 E3; have cl := run_LoadE HZ.out.e) | (go_at_call 60; (with_reducible refine (KR.out _).mono ?_); rintro e' w1 ⟨rfl, hb⟩; have HZ1 := Lib.hid (HZ.out.on hb); clear hb HZ; have HZ := Lib.hid HZ1.out; clear HZ1; clear cl hlt f0 f1 f2 f3 f4 f5 f6 f7 f8 f9 f10 f11 f12 f13; obtain ⟨hlt, f0, f1, f2, f3, f4, f5, f6, f7, f8, f9, f10, f11, f12, f13⟩ := HZ.out.facts3 E1 E2 E3; have cl := run_LoadE HZ.out.e) | (go_at_call 46; (with_reducible refine (KW.out _).mono ?_); rintro e' w1 ⟨rfl, hb⟩; have HZ1 := Lib.hid (HZ.out.on hb); clear hb HZ; have HZ := Lib.hid HZ1.out; clear HZ1; clear cl hlt f0 f1 f2 f3 f4 f5 f6 f7 f8 f9 f10 f11 f12 f13; obtain ⟨hlt, f0, f1, f2, f3, f4, f5, f6, f7, f8, f9, f10, f11, f12, f13⟩ := HZ.out.facts3 E1 E2 E3; have cl := run_LoadE HZ.out.e))
                          go_meet
                          exact ⟨by rw [HQ.out]; rfl, HZ⟩
                        | true =>
                          go_wp2_with (first | (go_at_call 33; (with_reducible refine (KM.out _).mono ?_); rintro e' w1 ⟨rfl, hb⟩; have HZ1 := Lib.hid (HZ.out.on hb); clear hb HZ; have HZ := Lib.hid HZ1.out; clear HZ1; clear cl hlt f0 f1 f2 f3 f4 f5 f6 f7 f8 f9 f10 f11 f12 f13; obtain ⟨hlt, f0, f1, f2, f3, f4, f5, f6, f7, f8, f9, f10, f11, f12, f13⟩ := HZ.out.facts3 E1 E2 E3; have cl := run_LoadE HZ.out.e) | (go_at_call 60; (with_reducible refine (KR.out _).mono ?_); rintro e' w1 ⟨rfl, hb⟩; have HZ1 := Lib.hid (HZ.out.on hb); clear hb HZ; have HZ := Lib.hid HZ1.out; clear HZ1; clear cl hlt f0 f1 f2 f3 f4 f5 f6 f7 f8 f9 f10 f11 f12 f13; obtain ⟨hlt, f0, f1, f2, f3, f4, f5, f6, f7, f8, f9, f10, f11, f12, f13⟩ := HZ.out.facts3 E1 E2 E3; have cl := run_LoadE HZ.out.e) | (go_at_call 46; (with_reducible refine (KW.out _).mono ?_); rintro e' w1 ⟨rfl, hb⟩; have HZ1 := Lib.hid (HZ.out.on hb); clear hb HZ; have HZ := Lib.hid HZ1.out; clear HZ1; clear cl hlt f0 f1 f2 f3 f4 f5 f6 f7 f8 f9 f10 f11 f12 f13; obtain ⟨hlt, f0, f1, f2, f3, f4, f5, f6, f7, f8, f9, f10, f11, f12, f13⟩ := HZ.out.facts3 E1 E2 E3; have cl := run_LoadE HZ.out.e))
                          go_meet
                          exact ⟨by rw [HQ.out]; rfl, HZ⟩
                | true =>
                  cases bW with
                  | false =>
                    cases q3 with
                    | false =>
                      go_wp2_with (first | (go_at_call 33; (with_reducible refine (KM.out _).mono ?_); rintro e' w1 ⟨rfl, hb⟩; have HZ1 := Lib.hid (HZ.out.on hb); clear hb HZ; have HZ := Lib.hid HZ1.out; clear HZ1; clear cl hlt f0 f1 f2 f3 f4 f5 f6 f7 f8 f9 f10 f11 f12 f13; obtain ⟨hlt, f0, f1, f2, f3, f4, f5, f6, f7, f8, f9, f10, f11, f12, f13⟩ := HZ.out.facts3 E1 E2 E3; have cl := run_LoadE HZ.out.e) | (go_at_call 60; (with_reducible refine (KR.out _).mono ?_); rintro e' w1 ⟨rfl, hb⟩; have HZ1 := Lib.hid (HZ.out.on hb); clear hb HZ; have HZ := Lib.hid HZ1.out; clear HZ1; clear cl hlt f0 f1 f2 f3 f4 f5 f6 f7 f8 f9 f10 f11 f12 f13; obtain ⟨hlt, f0, f1, f2, f3, f4, f5, f6, f7, f8, f9, f10, f11, f12, f13⟩ := HZ.out.facts3 E1 E2 E3; have cl := run_LoadE HZ.out.e) | (go_at_call 46; (with_reducible refine (KW.out _).mono ?_); rintro e' w1 ⟨rfl, hb⟩; have HZ1 := Lib.hid (HZ.out.on hb); clear hb HZ; have HZ := Lib.hid HZ1.out; clear HZ1; clear cl hlt f0 f1 f2 f3 f4 f5 f6 f7 f8 f9 f10 f11 f12 f13; obtain ⟨hlt, f0, f1, f2, f3, f4, f5, f6, f7, f8, f9, f10, f11, f12, f13⟩ := HZ.out.facts3 E1 E2 E3; have cl := run_LoadE HZ.out.e))
                      go_meet
                      exact ⟨by rw [HQ.out]; rfl, HZ⟩
                    | true =>
                      cases q4 with
                      | false =>
                        go_wp2_with (first | (go_at_call 33; (with_reducible refine (KM.out _).mono ?_); rintro e' w1 ⟨rfl, hb⟩; have HZ1 := Lib.hid (HZ.out.on hb); clear hb HZ; have HZ := Lib.hid HZ1.out; clear HZ1; clear cl hlt f0 f1 f2 f3 f4 f5 f6 f7 f8 f9 f10 f11 f12 f13; obtain ⟨hlt, f0, f1, f2, f3, f4, f5, f6, f7, f8, f9, f10, f11, f12, f13⟩ := HZ.out.facts3 E1 E2 E3; have cl := run_LoadE HZ.out.e) | (go_at_call 60; (with_reducible refine (KR.out _).mono ?_); rintro e' w1 ⟨rfl, hb⟩; have HZ1 := Lib.hid (HZ.out.on hb); clear hb HZ; have HZ := Lib.hid HZ1.out; clear HZ1; clear cl hlt f0 f1 f2 f3 f4 f5 f6 f7 f8 f9 f10 f11 f12 f13; obtain ⟨hlt, f0, f1, f2, f3, f4, f5, f6, f7, f8, f9, f10, f11, f12, f13⟩ := HZ.out.facts3 E1 E2 E3; have cl := run_LoadE HZ.out.e) | (go_at_call 46; (with_reducible refine (KW.out _).mono ?_); rintro e' w1 ⟨rfl, hb⟩; have HZ1 := Lib.hid (HZ.out.on hb); clear hb HZ; have HZ := Lib.hid HZ1.out; clear HZ1; clear cl hlt f0 f1 f2 f3 f4 f5 f6 f7 f8 f9 f10 f11 f12 f13; obtain ⟨hlt, f0, f1, f2, f3, f4, f5, f6, f7, f8, f9, f10, f11, f12, f13⟩ := HZ.out.facts3 E1 E2 E3; have cl := run_LoadE HZ.out.e))
                        go_meet
                        exact ⟨by rw [HQ.out]; rfl, HZ⟩
                      | true =>
                        cases q5 with
                        | false =>
                          go_wp2_with (first | (go_at_call 33; (with_reducible refine (KM.out _).mono ?_); rintro e' w1 ⟨rfl, hb⟩; have HZ1 := Lib.hid (HZ.out.on hb); clear hb HZ; have HZ := Lib.hid HZ1.out; clear HZ1; clear cl hlt f0 f1 f2 f3 f4 f5 f6 f7 f8 f9 f10 f11 f12 f13; obtain ⟨hlt, f0, f1, f2, f3, f4, f5, f6, f7, f8, f9, f10, f11, f12, f13⟩ := HZ.out.facts3 E1 E2 E3; have cl := run_LoadE HZ.out.e) | (go_at_call 60; (with_reducible refine (KR.out _).mono ?_); rintro e' w1 ⟨rfl, hb⟩; have HZ1 := Lib.hid (HZ.out.on hb); clear hb HZ; have HZ := Lib.hid HZ1.out; clear HZ1; clear cl hlt f0 f1 f2 f3 f4 f5 f6 f7 f8 f9 f10 f11 f12 f13; obtain ⟨hlt, f0, f1, f2, f3, f4, f5, f6, f7, f8, f9, f10, f11, f12, f13⟩ := HZ.out.facts3 E1 E2 E3; have cl := run_LoadE HZ.out.e) | (go_at_call 46; (with_reducible refine (KW.out _).mono ?_); rintro e' w1 ⟨rfl, hb⟩; have HZ1 := Lib.hid (HZ.out.on hb); clear hb HZ; have HZ := Lib.hid HZ1.out; clear HZ1; clear cl hlt f0 f1 f2 f3 f4 f5 f6 f7 f8 f9 f10 f11 f12 f13; obtain ⟨hlt, f0, f1, f2, f3, f4, f5, f6, f7, f8, f9, f10, f11, f12, f13⟩ := HZ.out.facts3 E1 E2 E3; have cl := run_LoadE HZ.out.e))
                          go_meet
                          exact ⟨by rw [HQ.out]; rfl, HZ⟩
                        | true =>
                          go_wp2_with (first | (go_at_call 33; (with_reducible refine (KM.out _).mono ?_); rintro e' w1 ⟨rfl, hb⟩; have HZ1 := Lib.hid (HZ.out.on hb); clear hb HZ; have HZ := Lib.hid HZ1.out; clear HZ1; clear cl hlt f0 f1 f2 f3 f4 f5 f6 f7 f8 f9 f10 f11 f12 f13; obtain ⟨hlt, f0, f1, f2, f3, f4, f5, f6, f7, f8, f9, f10, f11, f12, f13⟩ := HZ.out.facts3 E1 E2 E3; have cl := run_LoadE HZ.out.e) | (go_at_call 60; (with_reducible refine (KR.out _).mono ?_); rintro e' w1 ⟨rfl, hb⟩; have HZ1 := Lib.hid (HZ.out.on hb); clear hb HZ; have HZ := Lib.hid HZ1.out; clear HZ1; clear cl hlt f0 f1 f2 f3 f4 f5 f6 f7 f8 f9 f10 f11 f12 f13; obtain ⟨hlt, f0, f1, f2, f3, f4, f5, f6, f7, f8, f9, f10, f11, f12, f13⟩ := HZ.out.facts3 E1 E2 E3; have cl := run_LoadE HZ.out.e) | (go_at_call 46; (with_reducible refine (KW.out _).mono ?_); rintro e' w1 ⟨rfl, hb⟩; have HZ1 := Lib.hid (HZ.out.on hb); clear hb HZ; have HZ := Lib.hid HZ1.out; clear HZ1; clear cl hlt f0 f1 f2 f3 f4 f5 f6 f7 f8 f9 f10 f11 f12 f13; obtain ⟨hlt, f0, f1, f2, f3, f4, f5, f6, f7, f8, f9, f10, f11, f12, f13⟩ := HZ.out.facts3 E1 E2 E3; have cl := run_LoadE HZ.out.e))
                          go_meet
                          exact ⟨by rw [HQ.out]; rfl, HZ⟩
                  | true =>
                    cases q4 with
                    | false =>
                      go_wp2_with (first | (go_at_call 33; (with_reducible refine (KM.out _).mono ?_); rintro e' w1 ⟨rfl, hb⟩; have HZ1 := Lib.hid (HZ.out.on hb); clear hb HZ; have HZ := Lib.hid HZ1.out; clear HZ1; clear cl hlt f0 f1 f2 f3 f4 f5 f6 f7 f8 f9 f10 f11 f12 f13; obtain ⟨hlt, f0, f1, f2, f3, f4, f5, f6, f7, f8, f9, f10, f11, f12, f13⟩ := HZ.out.facts3 E1 E2 E3; have cl := run_LoadE HZ.out.e) | (go_at_call 60; (with_reducible refine (KR.out _).mono ?_); rintro e' w1 ⟨rfl, hb⟩; have HZ1 := Lib.hid (HZ.out.on hb); clear hb HZ; have HZ := Lib.hid HZ1.out; clear HZ1; clear cl hlt f0 f1 f2 f3 f4 f5 f6 f7 f8 f9 f10 f11 f12 f13; obtain ⟨hlt, f0, f1, f2, f3, f4, f5, f6, f7, f8, f9, f10, f11, f12, f13⟩ := HZ.out.facts3 E1 E2 E3; have cl := run_LoadE HZ.out.e) | (go_at_call 46; (with_reducible refine (KW.out _).mono ?_); rintro e' w1 ⟨rfl, hb⟩; have HZ1 := Lib.hid (HZ.out.on hb); clear hb HZ; have HZ := Lib.hid HZ1.out; clear HZ1; clear cl hlt f0 f1 f2 f3 f4 f5 f6 f7 f8 f9 f10 f11 f12 f13; obtain ⟨hlt, f0, f1, f2, f3, f4, f5, f6, f7, f8, f9, f10, f11, f12, f13⟩ := HZ.out.facts3 E1 E2 E3; have cl := run_LoadE HZ.out.e))
                      go_meet
                      exact ⟨by rw [HQ.out]; rfl, HZ⟩
                    | true =>
                      cases q5 with
                      | false =>
                        go_wp2_with (first | (go_at_call 33; (with_reducible refine (KM.out _).mono ?_); rintro e' w1 ⟨rfl, hb⟩; have HZ1 := Lib.hid (HZ.out.on hb); clear hb HZ; have HZ := Lib.hid HZ1.out; clear HZ1; clear cl hlt f0 f1 f2 f3 f4 f5 f6 f7 f8 f9 f10 f11 f12 f13; obtain ⟨hlt, f0, f1, f2, f3, f4, f5, f6, f7, f8, f9, f10, f11, f12, f13⟩ := HZ.out.facts3 E1 E2 E3; have cl := run_LoadE HZ.out.e) | (go_at_call 60; (with_reducible refine (KR.out _).mono ?_); rintro e' w1 ⟨rfl, hb⟩; have HZ1 := Lib.hid (HZ.out.on hb); clear hb HZ; have HZ := Lib.hid HZ1.out; clear HZ1; clear cl hlt f0 f1 f2 f3 f4 f5 f6 f7 f8 f9 f10 f11 f12 f13; obtain ⟨hlt, f0, f1, f2, f3, f4, f5, f6, f7, f8, f9, f10, f11, f12, f13⟩ := HZ.out.facts3 E1 E2 E3; have cl := run_LoadE HZ.out.e) | (go_at_call 46; (with_reducible refine (KW.out _).mono ?_); rintro e' w1 ⟨rfl, hb⟩; have HZ1 := Lib.hid (HZ.out.on hb); clear hb HZ; have HZ := Lib.hid HZ1.out; clear HZ1; clear cl hlt f0 f1 f2 f3 f4 f5 f6 f7 f8 f9 f10 f11 f12 f13; obtain ⟨hlt, f0, f1, f2, f3, f4, f5, f6, f7, f8, f9, f10, f11, f12, f13⟩ := HZ.out.facts3 E1 E2 E3; have cl := run_LoadE HZ.out.e))
                        go_meet
                        exact ⟨by rw [HQ.out]; rfl, HZ⟩
                      | true =>
                        go_wp2_with (first | (go_at_call 33; (with_reducible refine (KM.out _).mono ?_); rintro e' w1 ⟨rfl, hb⟩; have HZ1 := Lib.hid (HZ.out.on hb); clear hb HZ; have HZ := Lib.hid HZ1.out; clear HZ1; clear cl hlt f0 f1 f2 f3 f4 f5 f6 f7 f8 f9 f10 f11 f12 f13; obtain ⟨hlt, f0, f1, f2, f3, f4, f5, f6, f7, f8, f9, f10, f11, f12, f13⟩ := HZ.out.facts3 E1 E2 E3; have cl := run_LoadE HZ.out.e) | (go_at_call 60; (with_reducible refine (KR.out _).mono ?_); rintro e' w1 ⟨rfl, hb⟩; have HZ1 := Lib.hid (HZ.out.on hb); clear hb HZ; have HZ := Lib.hid HZ1.out; clear HZ1; clear cl hlt f0 f1 f2 f3 f4 f5 f6 f7 f8 f9 f10 f11 f12 f13; obtain ⟨hlt, f0, f1, f2, f3, f4, f5, f6, f7, f8, f9, f10, f11, f12, f13⟩ := HZ.out.facts3 E1 E2 E3; have cl := run_LoadE HZ.out.e) | (go_at_call 46; (with_reducible refine (KW.out _).mono ?_); rintro e' w1 ⟨rfl, hb⟩; have HZ1 := Lib.hid (HZ.out.on hb); clear hb HZ; have HZ := Lib.hid HZ1.out; clear HZ1; clear cl hlt f0 f1 f2 f3 f4 f5 f6 f7 f8 f9 f10 f11 f12 f13; obtain ⟨hlt, f0, f1, f2, f3, f4, f5, f6, f7, f8, f9, f10, f11, f12, f13⟩ := HZ.out.facts3 E1 E2 E3; have cl := run_LoadE HZ.out.e))
                        go_meet
                        exact ⟨by rw [HQ.out]; rfl, HZ⟩
        case rest =>
          obtain ⟨rfl, HZ2⟩ := hcut
          clear HZ hlt f0 f1 f2 f3 f4 f5 f6 f7 f8 f9 f10 f11 f12 f13 cl; have HZ := Lib.hid HZ2.out; clear HZ2; obtain ⟨hlt, f0, f1, f2, f3, f4, f5, f6, f7, f8, f9, f10, f11, f12, f13⟩ := HZ.out.facts3 E1 E2 E3; have cl := run_LoadE HZ.out.e
          clear hr1 g1'
          go_upto_region 6 with fail
          go_cut [4] (fun t4 wx => t4 = .bool rr2 ∧ Hid (Rk e g w wx))
          case first => as_aux_lemma =>
            obtain ⟨q1, h1⟩ : ∃ b, (e.kind != 1) = b := ⟨_, rfl⟩
            obtain ⟨q2, h2⟩ : ∃ b, (e.kind != 2) = b := ⟨_, rfl⟩
            obtain ⟨q3, h3⟩ : ∃ b, (!e.aq) = b := ⟨_, rfl⟩
            obtain ⟨q4, h4⟩ : ∃ b, (!e.rl) = b := ⟨_, rfl⟩
            have HQ : Hid (rr2 = (rr1 && ((q1 && q2) || (q3 && q4)))) := Lib.hid (by rw [← hr2.out, ← g2.out]; unfold rMem2; rw [h1, h2, h3, h4])
            clear hr2 hr3 HY g2 g3 g4' hk6
            cases rr1 with
            | false =>
              go_wp2_with fail
              go_meet
              exact ⟨by rw [HQ.out]; rfl, HZ⟩
            | true =>
              cases q1 with
              | false =>
                cases q3 with
                | false =>
                  go_wp2_with fail
                  go_meet
                  exact ⟨by rw [HQ.out]; rfl, HZ⟩
                | true =>
                  cases q4 with
                  | false =>
                    go_wp2_with fail
                    go_meet
                    exact ⟨by rw [HQ.out]; rfl, HZ⟩
                  | true =>
                    go_wp2_with fail
                    go_meet
                    exact ⟨by rw [HQ.out]; rfl, HZ⟩
              | true =>
                cases q2 with
                | false =>
                  cases q3 with
                  | false =>
                    go_wp2_with fail
                    go_meet
                    exact ⟨by rw [HQ.out]; rfl, HZ⟩
                  | true =>
                    cases q4 with
                    | false =>
                      go_wp2_with fail
                      go_meet
                      exact ⟨by rw [HQ.out]; rfl, HZ⟩
                    | true =>
                      go_wp2_with fail
                      go_meet
                      exact ⟨by rw [HQ.out]; rfl, HZ⟩
                | true =>
                  go_wp2_with fail
                  go_meet
                  exact ⟨by rw [HQ.out]; rfl, HZ⟩
          case rest =>
            obtain ⟨rfl, HZ2⟩ := hcut
            clear HZ hlt f0 f1 f2 f3 f4 f5 f6 f7 f8 f9 f10 f11 f12 f13 cl; have HZ := Lib.hid HZ2.out; clear HZ2; obtain ⟨hlt, f0, f1, f2, f3, f4, f5, f6, f7, f8, f9, f10, f11, f12, f13⟩ := HZ.out.facts3 E1 E2 E3; have cl := run_LoadE HZ.out.e
            clear hr2 g2
            go_upto_region 7 with fail
            go_cut [4] (fun t4 wx => t4 = .bool rr3 ∧ Hid (Rk e g w wx))
            case first => as_aux_lemma =>
              obtain ⟨q1, h1⟩ : ∃ b, (e.kind == 4) = b := ⟨_, rfl⟩
              have h1' : (e.kind != 4) = !q1 := by rw [← h1]; rfl
              obtain ⟨q2, h2⟩ : ∃ b, decide (0 ≤ e.pair) = b := ⟨_, rfl⟩
              obtain ⟨q3, h3⟩ : ∃ b, decide (e.pair < e.pos) = b := ⟨_, rfl⟩
              obtain ⟨q4, h4⟩ : ∃ b, (e.pair == 0) = b := ⟨_, rfl⟩
              have HQ : Hid (rr3 = (rr2 && (((q1 && q2) && q3) || (!q1 && q4)))) := Lib.hid (by rw [← hr3.out, ← g3.out]; unfold rMem3; rw [h1', h1, h2, h3, h4])
              clear hr3 HY g3 g4' hk6
              cases rr2 with
              | false =>
                go_wp2_with fail
                go_meet
                exact ⟨by rw [HQ.out]; rfl, HZ⟩
              | true =>
                cases q1 with
                | false =>
                  have h1'' : (e.kind != 4) = true := h1'
                  clear h1'
                  cases q4
                  all_goals
                    go_wp2_with fail
                    go_meet
                    exact ⟨by rw [HQ.out]; rfl, HZ⟩
                | true =>
                  have h1'' : (e.kind != 4) = false := h1'
                  clear h1'
                  cases q2 with
                  | false =>
                    go_wp2_with fail
                    go_meet
                    exact ⟨by rw [HQ.out]; rfl, HZ⟩
                  | true =>
                    cases q3
                    all_goals
                      go_wp2_with fail
                      go_meet
                      exact ⟨by rw [HQ.out]; rfl, HZ⟩
            case rest => as_aux_lemma =>
              obtain ⟨rfl, HZ2⟩ := hcut
              clear HZ hlt f0 f1 f2 f3 f4 f5 f6 f7 f8 f9 f10 f11 f12 f13 cl; have HZ := Lib.hid HZ2.out; clear HZ2; obtain ⟨hlt, f0, f1, f2, f3, f4, f5, f6, f7, f8, f9, f10, f11, f12, f13⟩ := HZ.out.facts3 E1 E2 E3; have cl := run_LoadE HZ.out.e
              clear hr3 g3 hk6
              obtain ⟨q1, h1⟩ : ∃ b, ((n2 : Int) == 0) = b := ⟨_, rfl⟩
              have HQ : Hid (r = (rr3 && (((bA && bD) && bY) && (bW || q1)))) := Lib.hid (by rw [HY.out, g4'.out, h1])
              clear HY g4'
              go_upto_region 8 with fail
              cases rr3 with
              | false =>
                go_wp2_with (first | (go_at_call 46; (with_reducible refine (KW.out _).mono ?_); rintro e' w1 ⟨rfl, hb⟩; have HZ1 := Lib.hid (HZ.out.on hb); clear hb HZ; have HZ := Lib.hid HZ1.out; clear HZ1; clear cl hlt f0 f1 f2 f3 f4 f5 f6 f7 f8 f9 f10 f11 f12 f13; obtain ⟨hlt, f0, f1, f2, f3, f4, f5, f6, f7, f8, f9, f10, f11, f12, f13⟩ := HZ.out.facts3 E1 E2 E3; have cl := run_LoadE HZ.out.e) | (go_at_call 75; (first | (with_reducible refine (KA.out _ HZ.out.b).mono ?_) | (with_reducible refine (KD.out _ HZ.out.b).mono ?_) | (with_reducible refine (KY.out _ HZ.out.b).mono ?_)); rintro e' w1 ⟨rfl, hb⟩; have HZ1 := Lib.hid (HZ.out.on hb); clear hb HZ; have HZ := Lib.hid HZ1.out; clear HZ1; clear cl hlt f0 f1 f2 f3 f4 f5 f6 f7 f8 f9 f10 f11 f12 f13; obtain ⟨hlt, f0, f1, f2, f3, f4, f5, f6, f7, f8, f9, f10, f11, f12, f13⟩ := HZ.out.facts3 E1 E2 E3; have cl := run_LoadE HZ.out.e))
                go_meet
                exact ⟨by rw [HQ.out]; rfl, HZ⟩
              | true =>
                cases bA with
                | false =>
                  go_wp2_with (first | (go_at_call 46; (with_reducible refine (KW.out _).mono ?_); rintro e' w1 ⟨rfl, hb⟩; have HZ1 := Lib.hid (HZ.out.on hb); clear hb HZ; have HZ := Lib.hid HZ1.out; clear HZ1; clear cl hlt f0 f1 f2 f3 f4 f5 f6 f7 f8 f9 f10 f11 f12 f13; obtain ⟨hlt, f0, f1, f2, f3, f4, f5, f6, f7, f8, f9, f10, f11, f12, f13⟩ := HZ.out.facts3 E1 E2 E3; have cl := run_LoadE HZ.out.e) | (go_at_call 75; (first | (with_reducible refine (KA.out _ HZ.out.b).mono ?_) | (with_reducible refine (KD.out _ HZ.out.b).mono ?_) | (with_reducible refine (KY.out _ HZ.out.b).mono ?_)); rintro e' w1 ⟨rfl, hb⟩; have HZ1 := Lib.hid (HZ.out.on hb); clear hb HZ; have HZ := Lib.hid HZ1.out; clear HZ1; clear cl hlt f0 f1 f2 f3 f4 f5 f6 f7 f8 f9 f10 f11 f12 f13; obtain ⟨hlt, f0, f1, f2, f3, f4, f5, f6, f7, f8, f9, f10, f11, f12, f13⟩ := HZ.out.facts3 E1 E2 E3; have cl := run_LoadE HZ.out.e))
                  go_meet
                  exact ⟨by rw [HQ.out]; rfl, HZ⟩
                | true =>
                  cases bD with
                  | false =>
                    go_wp2_with (first | (go_at_call 46; (with_reducible refine (KW.out _).mono ?_); rintro e' w1 ⟨rfl, hb⟩; have HZ1 := Lib.hid (HZ.out.on hb); clear hb HZ; have HZ := Lib.hid HZ1.out; clear HZ1; clear cl hlt f0 f1 f2 f3 f4 f5 f6 f7 f8 f9 f10 f11 f12 f13; obtain ⟨hlt, f0, f1, f2, f3, f4, f5, f6, f7, f8, f9, f10, f11, f12, f13⟩ := HZ.out.facts3 E1 E2 E3; have cl := run_LoadE HZ.out.e) | (go_at_call 75; (first | (with_reducible refine (KA.out _ HZ.out.b).mono ?_) | (with_reducible refine (KD.out _ HZ.out.b).mono ?_) | (with_reducible refine (KY.out _ HZ.out.b).mono ?_)); rintro e' w1 ⟨rfl, hb⟩; have HZ1 := Lib.hid (HZ.out.on hb); clear hb HZ; have HZ := Lib.hid HZ1.out; clear HZ1; clear cl hlt f0 f1 f2 f3 f4 f5 f6 f7 f8 f9 f10 f11 f12 f13; obtain ⟨hlt, f0, f1, f2, f3, f4, f5, f6, f7, f8, f9, f10, f11, f12, f13⟩ := HZ.out.facts3 E1 E2 E3; have cl := run_LoadE HZ.out.e))
                    go_meet
                    exact ⟨by rw [HQ.out]; rfl, HZ⟩
                  | true =>
                    cases bY with
                    | false =>
                      go_wp2_with (first | (go_at_call 46; (with_reducible refine (KW.out _).mono ?_); rintro e' w1 ⟨rfl, hb⟩; have HZ1 := Lib.hid (HZ.out.on hb); clear hb HZ; have HZ := Lib.hid HZ1.out; clear HZ1; clear cl hlt f0 f1 f2 f3 f4 f5 f6 f7 f8 f9 f10 f11 f12 f13; obtain ⟨hlt, f0, f1, f2, f3, f4, f5, f6, f7, f8, f9, f10, f11, f12, f13⟩ := HZ.out.facts3 E1 E2 E3; have cl := run_LoadE HZ.out.e) | (go_at_call 75; (first | (with_reducible refine (KA.out _ HZ.out.b).mono ?_) | (with_reducible refine (KD.out _ HZ.out.b).mono ?_) | (with_reducible refine (KY.out _ HZ.out.b).mono ?_)); rintro e' w1 ⟨rfl, hb⟩; have HZ1 := Lib.hid (HZ.out.on hb); clear hb HZ; have HZ := Lib.hid HZ1.out; clear HZ1; clear cl hlt f0 f1 f2 f3 f4 f5 f6 f7 f8 f9 f10 f11 f12 f13; obtain ⟨hlt, f0, f1, f2, f3, f4, f5, f6, f7, f8, f9, f10, f11, f12, f13⟩ := HZ.out.facts3 E1 E2 E3; have cl := run_LoadE HZ.out.e))
                      go_meet
                      exact ⟨by rw [HQ.out]; rfl, HZ⟩
                    | true =>
                      cases bW with
                      | false =>
                        cases q1 with
                        | false =>
                          go_wp2_with (first | (go_at_call 46; (with_reducible refine (KW.out _).mono ?_); rintro e' w1 ⟨rfl, hb⟩; have HZ1 := Lib.hid (HZ.out.on hb); clear hb HZ; have HZ := Lib.hid HZ1.out; clear HZ1; clear cl hlt f0 f1 f2 f3 f4 f5 f6 f7 f8 f9 f10 f11 f12 f13; obtain ⟨hlt, f0, f1, f2, f3, f4, f5, f6, f7, f8, f9, f10, f11, f12, f13⟩ := HZ.out.facts3 E1 E2 E3; have cl := run_LoadE HZ.out.e) | (go_at_call 75; (first | (with_reducible refine (KA.out _ HZ.out.b).mono ?_) | (with_reducible refine (KD.out _ HZ.out.b).mono ?_) | (with_reducible refine (KY.out _ HZ.out.b).mono ?_)); rintro e' w1 ⟨rfl, hb⟩; have HZ1 := Lib.hid (HZ.out.on hb); clear hb HZ; have HZ := Lib.hid HZ1.out; clear HZ1; clear cl hlt f0 f1 f2 f3 f4 f5 f6 f7 f8 f9 f10 f11 f12 f13; obtain ⟨hlt, f0, f1, f2, f3, f4, f5, f6, f7, f8, f9, f10, f11, f12, f13⟩ := HZ.out.facts3 E1 E2 E3; have cl := run_LoadE HZ.out.e))
                          go_meet
                          exact ⟨by rw [HQ.out]; rfl, HZ⟩
                        | true =>
                          go_wp2_with (first | (go_at_call 46; (with_reducible refine (KW.out _).mono ?_); rintro e' w1 ⟨rfl, hb⟩; have HZ1 := Lib.hid (HZ.out.on hb); clear hb HZ; have HZ := Lib.hid HZ1.out; clear HZ1; clear cl hlt f0 f1 f2 f3 f4 f5 f6 f7 f8 f9 f10 f11 f12 f13; obtain ⟨hlt, f0, f1, f2, f3, f4, f5, f6, f7, f8, f9, f10, f11, f12, f13⟩ := HZ.out.facts3 E1 E2 E3; have cl := run_LoadE HZ.out.e) | (go_at_call 75; (first | (with_reducible refine (KA.out _ HZ.out.b).mono ?_) | (with_reducible refine (KD.out _ HZ.out.b).mono ?_) | (with_reducible refine (KY.out _ HZ.out.b).mono ?_)); rintro e' w1 ⟨rfl, hb⟩; have HZ1 := Lib.hid (HZ.out.on hb); clear hb HZ; have HZ := Lib.hid HZ1.out; clear HZ1; clear cl hlt f0 f1 f2 f3 f4 f5 f6 f7 f8 f9 f10 f11 f12 f13; obtain ⟨hlt, f0, f1, f2, f3, f4, f5, f6, f7, f8, f9, f10, f11, f12, f13⟩ := HZ.out.facts3 E1 E2 E3; have cl := run_LoadE HZ.out.e))
                          go_meet
                          exact ⟨by rw [HQ.out]; rfl, HZ⟩
                      | true =>
                        go_wp2_with (first | (go_at_call 46; (with_reducible refine (KW.out _).mono ?_); rintro e' w1 ⟨rfl, hb⟩; have HZ1 := Lib.hid (HZ.out.on hb); clear hb HZ; have HZ := Lib.hid HZ1.out; clear HZ1; clear cl hlt f0 f1 f2 f3 f4 f5 f6 f7 f8 f9 f10 f11 f12 f13; obtain ⟨hlt, f0, f1, f2, f3, f4, f5, f6, f7, f8, f9, f10, f11, f12, f13⟩ := HZ.out.facts3 E1 E2 E3; have cl := run_LoadE HZ.out.e) | (go_at_call 75; (first | (with_reducible refine (KA.out _ HZ.out.b).mono ?_) | (with_reducible refine (KD.out _ HZ.out.b).mono ?_) | (with_reducible refine (KY.out _ HZ.out.b).mono ?_)); rintro e' w1 ⟨rfl, hb⟩; have HZ1 := Lib.hid (HZ.out.on hb); clear hb HZ; have HZ := Lib.hid HZ1.out; clear HZ1; clear cl hlt f0 f1 f2 f3 f4 f5 f6 f7 f8 f9 f10 f11 f12 f13; obtain ⟨hlt, f0, f1, f2, f3, f4, f5, f6, f7, f8, f9, f10, f11, f12, f13⟩ := HZ.out.facts3 E1 E2 E3; have cl := run_LoadE HZ.out.e))
                        go_meet
                        exact ⟨by rw [HQ.out]; rfl, HZ⟩

    case rest => as_aux_lemma =>
      obtain ⟨rfl, HZ2⟩ := hcut
      clear HZ hlt f0 f1 f2 f3 f4 f5 f6 f7 f8 f9 f10 f11 f12 f13 cl hX gF g2 g3 g4' g1'
      cases r
      all_goals
        go_wp2_with fail
        go_ret
        exact ⟨rfl, HZ2.out.b⟩
end Go.Proofs.YtokhnjcbcpmmjaaGreat
