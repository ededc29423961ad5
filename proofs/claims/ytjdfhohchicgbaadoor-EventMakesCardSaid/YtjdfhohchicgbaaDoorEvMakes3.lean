/-
  Proved here: the law EventMakes answers true of asks of kind 3 that it does not pass by. Condition: as said.
-/
import Derived.Test.YtjdfhohchicgbaaDoorEvOfKinds
import Derived.Deep.RegionHeld3
import Derived.Deep.CutBlock
import Derived.Outline
namespace Go.Proofs.YtjdfhohchicgbaaDoor
open Go.RowKit
attribute [local go_sem ↓] fold_E fold_SE fold_A

set_option maxRecDepth 100000 in
set_option maxHeartbeats 8000000 in
theorem makes_3 (hart pos found : Int) (q : Aq) (a1 a2 a3 : Option Addr) (c1 c2 c3 : Nat) (al dl yl : List Int) (w : World) (hT : TabB w) (hfit : Fit hart pos found q)
    (hr : ReadsI w (.slice a1 al.length c1) al ∧ ReadsI w (.slice a2 dl.length c2) dl ∧ ReadsI w (.slice a3 yl.length c3) yl) (na : al.length ≤ 60) (nd : dl.length ≤ 60) (ny : yl.length ≤ 60)
    (hq : q.kind = 3) (h8 : q.addr % 8 = 0) (hba : aheadB (1 + pickI pos 1000) al = true) (hbd : aheadB (1 + pickI pos 1000) dl = true) (hby : aheadB (1 + pickI pos 1000) yl = true) :
    Calls Tryd.prog 4 #[.int .i64 hart, .int .i64 pos, q.V, .int .u64 found, .agg #[.slice a1 al.length c1, .slice a2 dl.length c2, .slice a3 yl.length c3]] w fun e w' => SameOk w true e w' := by
  have S0 := Lib.hid (Ms.start q (.slice a1 al.length c1) (.slice a2 dl.length c2) (.slice a3 yl.length c3) al dl yl w hr)
  have HT := Lib.hid hT
  have HF := Lib.hid hfit
  have hu0 := hfit.ok.1
  have HL : Hid (∀ w0, Calls Tryd.prog 16 #[.agg #[.slice a1 al.length c1, .slice a2 dl.length c2, .slice a3 yl.length c3], .int .i64 60] w0 fun e w' => SameOk w0 true e w') := Lib.hid (fun w0 => by
    have := light_any a1 a2 a3 al.length dl.length yl.length c1 c2 c3 60 w0
    rw [decide_eq_true na, decide_eq_true nd, decide_eq_true ny] at this
    exact this)
  obtain ⟨H, hH⟩ : ∃ H, Hid (pickI hart 8 = H) := ⟨_, Lib.hid rfl⟩
  obtain ⟨p, hp⟩ : ∃ p, Hid (pickI pos 1000 = p) := ⟨_, Lib.hid rfl⟩
  have hH8 : 0 ≤ H ∧ H < 8 := by rw [← hH.out]; exact pickI_lt _ _ (by omega)
  have hp1000 : 0 ≤ p ∧ p < 1000 := by rw [← hp.out]; exact pickI_lt _ _ (by omega)
  obtain ⟨P, hP⟩ : ∃ P, Hid (1 + p = P) := ⟨_, Lib.hid rfl⟩
  have hP1 : 1 ≤ P ∧ P ≤ 1000 := by rw [← hP.out]; omega
  have KH := Lib.hid (fun w0 => Pick_fit hart hfit.h 8 (by omega) w0)
  have KP := Lib.hid (fun w0 => Pick_fit pos hfit.p 1000 (by omega) w0)
  rw [hH.out] at KH
  rw [hp.out] at KP
  rw [hp.out, hP.out] at hba hbd hby
  have BA := Lib.hid (fun w0 (hb : Below w.heap.size w w0) => belowL_any (.slice a1 al.length c1) al P w0 (hr.1.below hb) (by omega))
  have BD := Lib.hid (fun w0 (hb : Below w.heap.size w w0) => belowL_any (.slice a2 dl.length c2) dl P w0 (hr.2.1.below hb) (by omega))
  have BY := Lib.hid (fun w0 (hb : Below w.heap.size w w0) => belowL_any (.slice a3 yl.length c3) yl P w0 (hr.2.2.below hb) (by omega))
  rw [hba] at BA
  rw [hbd] at BD
  rw [hby] at BY
  have hA := Lib.hid hba
  have hD := Lib.hid hbd
  have hY := Lib.hid hby
  have HQ := Lib.hid hq
  have h8' : (q.addr % 8 != 0) = false := by simpa using h8
  have hna := Lib.hid na
  have hnd := Lib.hid nd
  have hny := Lib.hid ny
  have H8 := Lib.hid h8
  clear hr hT hfit hba hbd hby hq h8 na nd ny
  go_enter Tryd.func4, Tryd.ntmps4
  go_upto_region 1 with fail
  obtain ⟨W, hW⟩ : ∃ W, Hid (((w.alloc (.cells #[.int .i64 q.kind, .int .u64 q.addr, .int .u64 q.val, .int .i64 q.op, .bool q.aq, .bool q.rl, .int .i64 q.pred, .int .i64 q.succ] 32)).alloc (.cells #[.slice a1 al.length c1, .slice a2 dl.length c2, .slice a3 yl.length c3] 25)) = W) := ⟨_, Lib.hid rfl⟩
  rw [hW.out] at S0 ⊢
  clear hW
  go_upto_region 3 with (go_at_call 7; (with_reducible refine (lives_any _ (HT.out.on S0.out.below)).mono ?_); rintro e' w1 ⟨rfl, hb⟩; have S1 := Lib.hid (S0.out.on hb); clear hb)
  go_upto_region 4 with (first
    | (go_at_call 15; (with_reducible refine (KH.out _).mono ?_); rintro e' w2 ⟨rfl, rfl⟩)
    | (go_at_call 15; (with_reducible refine (KP.out _).mono ?_); rintro e' w2 ⟨rfl, rfl⟩))
  rw [hP.out]
  obtain ⟨hlt, f0, f1, f2, f3, f4, f5, f6, f7⟩ := S1.out.ask.facts
  rw [HQ.out] at f0
  obtain ⟨dlt, d0, d1, d2, _, _, _⟩ := S1.out.deps.facts
  go_upto_region 6 with (first
    | (go_at_call 16; (with_reducible refine (HL.out _).mono ?_); rintro e' w2 ⟨rfl, hb⟩; have S2 := Lib.hid (S1.out.on hb); clear hb hlt f0 f1 f2 f3 f4 f5 f6 f7 dlt d0 d1 d2; obtain ⟨hlt, f0, f1, f2, f3, f4, f5, f6, f7⟩ := S2.out.ask.facts; rw [HQ.out] at f0; obtain ⟨dlt, d0, d1, d2, _, _, _⟩ := S2.out.deps.facts)
    | (go_at_call 17; (with_reducible refine (BA.out _ S2.out.below).mono ?_); rintro e' w3 ⟨rfl, hb⟩; have S3 := Lib.hid (S2.out.on hb); clear hb BA hlt f0 f1 f2 f3 f4 f5 f6 f7 dlt d0 d1 d2; obtain ⟨hlt, f0, f1, f2, f3, f4, f5, f6, f7⟩ := S3.out.ask.facts; rw [HQ.out] at f0; obtain ⟨dlt, d0, d1, d2, _, _, _⟩ := S3.out.deps.facts)
    | (go_at_call 17; (with_reducible refine (BD.out _ S3.out.below).mono ?_); rintro e' w4 ⟨rfl, hb⟩; have S4 := Lib.hid (S3.out.on hb); clear hb BD hlt f0 f1 f2 f3 f4 f5 f6 f7 dlt d0 d1 d2; obtain ⟨hlt, f0, f1, f2, f3, f4, f5, f6, f7⟩ := S4.out.ask.facts; rw [HQ.out] at f0; obtain ⟨dlt, d0, d1, d2, _, _, _⟩ := S4.out.deps.facts)
    | (go_at_call 17; (with_reducible refine (BY.out _ S4.out.below).mono ?_); rintro e' w5 ⟨rfl, hb⟩; have S5 := Lib.hid (S4.out.on hb); clear hb BY hlt f0 f1 f2 f3 f4 f5 f6 f7 dlt d0 d1 d2; obtain ⟨hlt, f0, f1, f2, f3, f4, f5, f6, f7⟩ := S5.out.ask.facts; rw [HQ.out] at f0; obtain ⟨dlt, d0, d1, d2, _, _, _⟩ := S5.out.deps.facts))
  go_upto_region 8 with fail
  obtain ⟨V, rfl⟩ : ∃ V, V = w5 := ⟨_, rfl⟩
  have S6 : Hid (Ms q (.slice a1 al.length c1) (.slice a2 dl.length c2) (.slice a3 yl.length c3) al dl yl w V) := S5
  clear hlt f0 f1 f2 f3 f4 f5 f6 f7 dlt d0 d1 d2
  obtain ⟨pr, hpr⟩ : ∃ x, Hid (pickI q.pred 16 = x) := ⟨_, Lib.hid rfl⟩
  obtain ⟨su, hsu⟩ : ∃ x, Hid (pickI q.succ 16 = x) := ⟨_, Lib.hid rfl⟩
  have hpr16 : 0 ≤ pr ∧ pr < 16 := by rw [← hpr.out]; exact pickI_lt _ _ (by omega)
  have hsu16 : 0 ≤ su ∧ su < 16 := by rw [← hsu.out]; exact pickI_lt _ _ (by omega)
  have K6 := Lib.hid (fun w0 => Pick_fit q.pred HF.out.pr 16 (by omega) w0)
  have K7 := Lib.hid (fun w0 => Pick_fit q.succ HF.out.su 16 (by omega) w0)
  rw [hpr.out] at K6
  rw [hsu.out] at K7
  obtain ⟨hlt, f0, f1, f2, f3, f4, f5, f6, f7⟩ := S6.out.ask.facts
  rw [HQ.out] at f0
  have z6 := S6.out.ask.free 6
  have z7 := S6.out.ask.free 7
  try simp only at f0 f1 f2 f3 f4 f5 f6 f7
  have S8 : Hid (Ms ⟨q.kind, q.addr, q.val, q.op, q.aq, q.rl, pr, su⟩ (.slice a1 al.length c1) (.slice a2 dl.length c2) (.slice a3 yl.length c3) al dl yl w (((V.setCell ⟨w.heap.size, 6, none⟩ (.int .i64 pr)).setCell ⟨w.heap.size, 7, none⟩ (.int .i64 su)).drew)) := Lib.hid (by
    have Q1 : Ms ⟨q.kind, q.addr, q.val, q.op, q.aq, q.rl, pr, q.succ⟩ (.slice a1 al.length c1) (.slice a2 dl.length c2) (.slice a3 yl.length c3) al dl yl w (V.setCell ⟨w.heap.size, 6, none⟩ (.int .i64 pr)) := S6.out.set (S6.out.ask.setc 6 (.int .i64 pr))
    have Q2 : Ms ⟨q.kind, q.addr, q.val, q.op, q.aq, q.rl, pr, su⟩ (.slice a1 al.length c1) (.slice a2 dl.length c2) (.slice a3 yl.length c3) al dl yl w ((V.setCell ⟨w.heap.size, 6, none⟩ (.int .i64 pr)).setCell ⟨w.heap.size, 7, none⟩ (.int .i64 su)) := Q1.set (Q1.ask.setc 7 (.int .i64 su))
    exact Q2.drew)
  go_cut [] (fun wx => Hid (Ms ⟨q.kind, q.addr, q.val, q.op, q.aq, q.rl, pr, su⟩ (.slice a1 al.length c1) (.slice a2 dl.length c2) (.slice a3 yl.length c3) al dl yl w wx))
  case first =>
    go_region_law (first | (go_simp; go_at_call 15; (first | (with_reducible refine (K6.out _).mono ?_) | (with_reducible refine (K7.out _).mono ?_)); rintro e' w6 ⟨rfl, rfl⟩))
    all_goals
      go_wp2_with fail
      go_meet
      exact S8
  case rest =>
    have S9 := hcut
    clear hcut S8 S6
    obtain ⟨hlt, f0, f1, f2, f3, f4, f5, f6, f7⟩ := S9.out.ask.facts
    rw [HQ.out] at f0
    simp only at f1 f2 f3 f4 f5 f6 f7
    have HAm := Lib.hid (fun w0 => rAmo_int q.op found q.val HF.out.f.1 HF.out.f.2 HF.out.ok.2.2.1 HF.out.ok.2.2.2 w0)
    go_upto_region 12 with (go_at_call 18; (with_reducible refine (HAm.out _).mono ?_); rintro e' w7 ⟨rfl, hb⟩; have S10 := Lib.hid (S9.out.on hb); clear hb hlt f0 f1 f2 f3 f4 f5 f6 f7; obtain ⟨hlt, f0, f1, f2, f3, f4, f5, f6, f7⟩ := S10.out.ask.facts; rw [HQ.out] at f0; simp only at f1 f2 f3 f4 f5 f6 f7)
    obtain ⟨lf, d0, d1, d2⟩ := S10.out.f4
    have hsub : IntKind.i64.wrap (P - 1) = p := by rw [← hP.out, show 1 + p - 1 = p by omega]; first | done | exact IntWalk.i64_in _ (by omega)
    have G : Hid (Good ⟨q.kind, q.addr, q.val, q.op, q.aq, q.rl, pr, su⟩ found H P p al dl yl) := Lib.hid ⟨hH8, hP1, by rw [← hP.out]; omega, HF.out.ok, HF.out.f, H8.out, hpr16, hsu16, hna.out, hnd.out, hny.out, hA.out, hD.out, hY.out⟩
    clear hlt f0 f1 f2 f3 f4 f5 f6 f7
    have X0 := S10.out.drew
    have HZ0 := Lib.hid S10.out.drew
    clear X0
    go_cut [13, 14] (fun t13 t14 wx => ∃ g ea ed ey, t13 = .pointer (some ⟨g, 0, none⟩) ∧ t14 = .int .i64 0 ∧ Hid (Mf ⟨q.kind, q.addr, q.val, q.op, q.aq, q.rl, pr, su⟩ (.slice a1 al.length c1) (.slice a2 dl.length c2) (.slice a3 yl.length c3) al dl yl (⟨H, P, 3, q.addr, found, 0, q.aq, q.rl, 0, 0, 0, ea, ed, ey⟩ : Ev) (⟨al, [], yl⟩ : El) g w wx))
    case first =>
      as_aux_lemma =>
        go_region_held3 (fun w' => (LoadA (.pointer (some ⟨w.heap.size, 0, none⟩))).run Tryd.prog w' = .ok (⟨q.kind, q.addr, q.val, q.op, q.aq, q.rl, pr, su⟩ : Aq).V w' ∧ w'.cell? ⟨w.heap.size + 1, 0, none⟩ = some (.slice a1 al.length c1) ∧ w'.cell? ⟨w.heap.size + 1, 1, none⟩ = some (.slice a2 dl.length c2) ∧ w'.cell? ⟨w.heap.size + 1, 2, none⟩ = some (.slice a3 yl.length c3))
          (first | exact HZ0.out.f4 | exact (F12.out.ms).f4 | exact (S12.out.boxed _).f4 | exact S12.out.f4 | exact (S11.out.boxed _).f4 | exact S11.out.f4 | exact ((S10.out.boxed _).drew).f4)
          ((first
            | (go_at_call 19; (with_reducible refine (ownDeps_any _ _ _ al dl yl w7.drew HZ0.out.ra HZ0.out.rd HZ0.out.ry (by have := hna.out; omega) (by have := hnd.out; omega) (by have := hny.out; omega)).mono ?_); rintro e' w8 ⟨oa, od, oy, rfl, hd, hb⟩; obtain ⟨b1, g1, rfl⟩ := hd.1.1.len; obtain ⟨b2, g2, rfl⟩ := hd.2.1.1.len; obtain ⟨b3, g3, rfl⟩ := hd.2.2.1.len; have S11 := Lib.hid (HZ0.out.on hb); have D11 := Lib.hid (show ReadsI w8 _ al ∧ ReadsI w8 _ dl ∧ ReadsI w8 _ yl from ⟨hd.1.1, hd.2.1.1, hd.2.2.1⟩); clear hd hb)
            | (go_at_call 19; (with_reducible refine (ownDeps_any _ _ _ al dl yl ((w7.alloc (.cells #[.int .i64 0, .int .i64 0, .int .i64 0, .int .u64 0, .int .u64 0, .int .u64 0, .bool false, .bool false, .int .i64 0, .int .i64 0, .int .i64 0, .slice none 0 0, .slice none 0 0, .slice none 0 0] 27)).drew) ((S10.out.boxed (.cells #[.int .i64 0, .int .i64 0, .int .i64 0, .int .u64 0, .int .u64 0, .int .u64 0, .bool false, .bool false, .int .i64 0, .int .i64 0, .int .i64 0, .slice none 0 0, .slice none 0 0, .slice none 0 0] 27)).drew).ra ((S10.out.boxed (.cells #[.int .i64 0, .int .i64 0, .int .i64 0, .int .u64 0, .int .u64 0, .int .u64 0, .bool false, .bool false, .int .i64 0, .int .i64 0, .int .i64 0, .slice none 0 0, .slice none 0 0, .slice none 0 0] 27)).drew).rd ((S10.out.boxed (.cells #[.int .i64 0, .int .i64 0, .int .i64 0, .int .u64 0, .int .u64 0, .int .u64 0, .bool false, .bool false, .int .i64 0, .int .i64 0, .int .i64 0, .slice none 0 0, .slice none 0 0, .slice none 0 0] 27)).drew).ry (by have := hna.out; omega) (by have := hnd.out; omega) (by have := hny.out; omega)).mono ?_); rintro e' w8 ⟨oa, od, oy, rfl, hd, hb⟩; obtain ⟨b1, g1, rfl⟩ := hd.1.1.len; obtain ⟨b2, g2, rfl⟩ := hd.2.1.1.len; obtain ⟨b3, g3, rfl⟩ := hd.2.2.1.len; have S11 := Lib.hid (((S10.out.boxed (.cells #[.int .i64 0, .int .i64 0, .int .i64 0, .int .u64 0, .int .u64 0, .int .u64 0, .bool false, .bool false, .int .i64 0, .int .i64 0, .int .i64 0, .slice none 0 0, .slice none 0 0, .slice none 0 0] 27)).drew).on hb); have Z11 := Lib.hid (show EvAt zeroEv w7.heap.size w8 from ((EvAt.new zeroEv w7).on (Below.refl _ _).drew).on hb); have L11 := Lib.hid (show w7.heap.size < w8.heap.size from Z11.out.lt); have D11 := Lib.hid (show ReadsI w8 _ al ∧ ReadsI w8 _ dl ∧ ReadsI w8 _ yl from ⟨hd.1.1, hd.2.1.1, hd.2.2.1⟩); clear hd hb)
            | (go_at_call 6; have z11 := Z11.out; (with_reducible refine (of_3 ⟨q.kind, q.addr, q.val, q.op, q.aq, q.rl, pr, su⟩ found H P p al dl yl _ _ _ w8 HQ.out G.out D11.out).mono ?_); rintro e' w9 ⟨ea, ed, ey, rfl, hd, hb⟩; obtain ⟨b4, g4, rfl⟩ := hd.1.1.len; obtain ⟨b5, g5, rfl⟩ := hd.2.1.1.len; obtain ⟨b6, g6, rfl⟩ := hd.2.2.1.len; have S12 := Lib.hid (S11.out.on hb); have F12 := Lib.hid (Mf.of (e := (⟨H, P, 3, q.addr, found, 0, q.aq, q.rl, 0, 0, 0, .slice b4 al.length g4, .slice b5 0 g5, .slice b6 yl.length g6⟩ : Ev)) (l := (⟨al, [], yl⟩ : El)) (g := w7.heap.size) S12.out (z11.on hb) ⟨hd.1.1, hd.2.1.1, hd.2.2.1⟩ ⟨off_new hd.1 L11.out, off_new hd.2.1 L11.out, off_new hd.2.2 L11.out⟩ HZ0.out.lt); have run1 : (StoreE (.pointer (some ⟨w7.heap.size, 0, none⟩)) (⟨H, P, 3, q.addr, found, 0, q.aq, q.rl, 0, 0, 0, .slice b4 al.length g4, .slice b5 0 g5, .slice b6 yl.length g6⟩ : Ev).V).run Tryd.prog w9 = .ok () (w9.setRow w7.heap.size #[.int .i64 H, .int .i64 P, .int .i64 3, .int .u64 q.addr, .int .u64 found, .int .u64 0, .bool q.aq, .bool q.rl, .int .i64 0, .int .i64 0, .int .i64 0, .slice b4 al.length g4, .slice b5 0 g5, .slice b6 yl.length g6]) := run_StoreE (z11.on hb) ⟨rfl, rfl, rfl⟩; clear hd hb z11)
            | (go_at_call 6; (with_reducible refine (of_3 ⟨q.kind, q.addr, q.val, q.op, q.aq, q.rl, pr, su⟩ found H P p al dl yl _ _ _ w8 HQ.out G.out D11.out).mono ?_); rintro e' w9 ⟨ea, ed, ey, rfl, hd, hb⟩; obtain ⟨b4, g4, rfl⟩ := hd.1.1.len; obtain ⟨b5, g5, rfl⟩ := hd.2.1.1.len; obtain ⟨b6, g6, rfl⟩ := hd.2.2.1.len; have S12 := Lib.hid (S11.out.on hb); have F12 := Lib.hid (Mf.of (e := (⟨H, P, 3, q.addr, found, 0, q.aq, q.rl, 0, 0, 0, .slice b4 al.length g4, .slice b5 0 g5, .slice b6 yl.length g6⟩ : Ev)) (l := (⟨al, [], yl⟩ : El)) (g := w9.heap.size) (S12.out.boxed (.cells #[.int .i64 0, .int .i64 0, .int .i64 0, .int .u64 0, .int .u64 0, .int .u64 0, .bool false, .bool false, .int .i64 0, .int .i64 0, .int .i64 0, .slice none 0 0, .slice none 0 0, .slice none 0 0] 27)) (EvAt.new zeroEv w9) ⟨hd.1.1.alloc _, hd.2.1.1.alloc _, hd.2.2.1.alloc _⟩ ⟨off_old hd.1.1, off_old hd.2.1.1, off_old hd.2.2.1⟩ S12.out.lt); clear hd hb; have run1 : (StoreE (.pointer (some ⟨w9.heap.size, 0, none⟩)) (⟨H, P, 3, q.addr, found, 0, q.aq, q.rl, 0, 0, 0, .slice b4 al.length g4, .slice b5 0 g5, .slice b6 yl.length g6⟩ : Ev).V).run Tryd.prog (w9.alloc (.cells #[.int .i64 0, .int .i64 0, .int .i64 0, .int .u64 0, .int .u64 0, .int .u64 0, .bool false, .bool false, .int .i64 0, .int .i64 0, .int .i64 0, .slice none 0 0, .slice none 0 0, .slice none 0 0] 27)) = .ok () ((w9.alloc (.cells #[.int .i64 0, .int .i64 0, .int .i64 0, .int .u64 0, .int .u64 0, .int .u64 0, .bool false, .bool false, .int .i64 0, .int .i64 0, .int .i64 0, .slice none 0 0, .slice none 0 0, .slice none 0 0] 27)).setRow w9.heap.size #[.int .i64 H, .int .i64 P, .int .i64 3, .int .u64 q.addr, .int .u64 found, .int .u64 0, .bool q.aq, .bool q.rl, .int .i64 0, .int .i64 0, .int .i64 0, .slice b4 al.length g4, .slice b5 0 g5, .slice b6 yl.length g6]) := run_StoreE (EvAt.new zeroEv w9) ⟨rfl, rfl, rfl⟩)
            | (go_at_call 6; (with_reducible refine (of_3 ⟨q.kind, q.addr, q.val, q.op, q.aq, q.rl, pr, su⟩ found H P p al dl yl _ _ _ (w8.alloc (.cells #[.int .i64 0, .int .i64 0, .int .i64 0, .int .u64 0, .int .u64 0, .int .u64 0, .bool false, .bool false, .int .i64 0, .int .i64 0, .int .i64 0, .slice none 0 0, .slice none 0 0, .slice none 0 0] 27)) HQ.out G.out ⟨D11.out.1.alloc _, D11.out.2.1.alloc _, D11.out.2.2.alloc _⟩).mono ?_); rintro e' w9 ⟨ea, ed, ey, rfl, hd, hb⟩; obtain ⟨b4, g4, rfl⟩ := hd.1.1.len; obtain ⟨b5, g5, rfl⟩ := hd.2.1.1.len; obtain ⟨b6, g6, rfl⟩ := hd.2.2.1.len; have S12 := Lib.hid ((S11.out.boxed _).on hb); have Z12 := Lib.hid (show EvAt zeroEv w8.heap.size w9 from (EvAt.new zeroEv w8).on hb); have F12 := Lib.hid (Mf.of (e := (⟨H, P, 3, q.addr, found, 0, q.aq, q.rl, 0, 0, 0, .slice b4 al.length g4, .slice b5 0 g5, .slice b6 yl.length g6⟩ : Ev)) (l := (⟨al, [], yl⟩ : El)) (g := w8.heap.size) S12.out Z12.out ⟨hd.1.1, hd.2.1.1, hd.2.2.1⟩ ⟨off_new hd.1 (by simp), off_new hd.2.1 (by simp), off_new hd.2.2 (by simp)⟩ S11.out.lt); clear hd hb; have run1 : (StoreE (.pointer (some ⟨w8.heap.size, 0, none⟩)) (⟨H, P, 3, q.addr, found, 0, q.aq, q.rl, 0, 0, 0, .slice b4 al.length g4, .slice b5 0 g5, .slice b6 yl.length g6⟩ : Ev).V).run Tryd.prog w9 = .ok () (w9.setRow w8.heap.size #[.int .i64 H, .int .i64 P, .int .i64 3, .int .u64 q.addr, .int .u64 found, .int .u64 0, .bool q.aq, .bool q.rl, .int .i64 0, .int .i64 0, .int .i64 0, .slice b4 al.length g4, .slice b5 0 g5, .slice b6 yl.length g6]) := run_StoreE Z12.out ⟨rfl, rfl, rfl⟩)))
        all_goals
          go_wp2_with fail
          go_meet
          exact ⟨_, _, _, _, rfl, rfl, F12⟩
    case rest =>
      obtain ⟨g, ea, ed, ey, rfl, rfl, hMf⟩ := hcut
      obtain ⟨x4, y4, rfl⟩ := hMf.out.reads.1.len
      obtain ⟨x5, y5, rfl⟩ := hMf.out.reads.2.1.len
      obtain ⟨x6, y6, rfl⟩ := hMf.out.reads.2.2.len
      have M0 : Hid (Mf ⟨q.kind, q.addr, q.val, q.op, q.aq, q.rl, pr, su⟩ (.slice a1 al.length c1) (.slice a2 dl.length c2) (.slice a3 yl.length c3) al dl yl (⟨H, P, 3, q.addr, found, 0, q.aq, q.rl, 0, 0, 0, .slice x4 al.length y4, .slice x5 0 y5, .slice x6 yl.length y6⟩ : Ev) (⟨al, [], yl⟩ : El) g w _) := hMf
      clear hMf lf d0 d1 d2 HZ0 S10
      have hPm : P - 1 = p := by rw [← hP.out]; omega
      have hel : El.n (⟨al, [], yl⟩ : El) := ⟨by have := hna.out; show List.length al ≤ _; first | omega | simp, by have := hnd.out; show List.length [] ≤ _; first | omega | simp, by have := hny.out; show List.length yl ≤ _; first | omega | simp⟩
      have HEL := Lib.hid hel
      have KC := Lib.hid (fun w0 (h : EReads w0 (⟨H, P, 3, q.addr, found, 0, q.aq, q.rl, 0, 0, 0, .slice x4 al.length y4, .slice x5 0 y5, .slice x6 yl.length y6⟩ : Ev) (⟨al, [], yl⟩ : El)) => check_any _ (⟨al, [], yl⟩ : El) w0 h HEL.out hu0)
      rw [chk_3 ⟨q.kind, q.addr, q.val, q.op, q.aq, q.rl, pr, su⟩ found H P p al dl yl _ _ _ G.out] at KC
      clear hel
      obtain ⟨glt, g0, g1, g2, g3, g4, g5, g6, g7, g8, g9, g10, g11, g12, g13⟩ := M0.out.own.facts
      simp only at g0 g1 g2 g3 g4 g5 g6 g7 g8 g9 g10 g11 g12 g13
      obtain ⟨hlt, f0, f1, f2, f3, f4, f5, f6, f7⟩ := M0.out.ms.ask.facts
      rw [HQ.out] at f0
      simp only at f1 f2 f3 f4 f5 f6 f7
      obtain ⟨dlt, d0, d1, d2, _, _, _⟩ := M0.out.ms.deps.facts
      have cl := run_LoadE M0.out.own
      go_upto_region 15 with (first
        | (go_at_call 13; (with_reducible refine (KC.out _ M0.out.reads).mono ?_); rintro e' wa ⟨rfl, hb⟩; have Mwa := Lib.hid (M0.out.on hb); clear hb; clear glt g0 g1 g2 g3 g4 g5 g6 g7 g8 g9 g10 g11 g12 g13 hlt f0 f1 f2 f3 f4 f5 f6 f7 dlt d0 d1 d2 cl; obtain ⟨glt, g0, g1, g2, g3, g4, g5, g6, g7, g8, g9, g10, g11, g12, g13⟩ := Mwa.out.own.facts; simp only at g0 g1 g2 g3 g4 g5 g6 g7 g8 g9 g10 g11 g12 g13; obtain ⟨hlt, f0, f1, f2, f3, f4, f5, f6, f7⟩ := Mwa.out.ms.ask.facts; rw [HQ.out] at f0; simp only at f1 f2 f3 f4 f5 f6 f7; obtain ⟨dlt, d0, d1, d2, _, _, _⟩ := Mwa.out.ms.deps.facts; have cl := run_LoadE Mwa.out.own)
        | (go_at_call 11; (with_reducible refine (text_k3 ⟨q.kind, q.addr, q.val, q.op, q.aq, q.rl, pr, su⟩ found H P p al dl yl _ _ _ _ (HT.out.on Mwa.out.ms.below) G.out Mwa.out.reads).mono ?_); rintro e' wb ⟨s, rfl, hs, hb⟩; have Mwb := Lib.hid (Mwa.out.on hb); clear hb; clear glt g0 g1 g2 g3 g4 g5 g6 g7 g8 g9 g10 g11 g12 g13 hlt f0 f1 f2 f3 f4 f5 f6 f7 dlt d0 d1 d2 cl; obtain ⟨glt, g0, g1, g2, g3, g4, g5, g6, g7, g8, g9, g10, g11, g12, g13⟩ := Mwb.out.own.facts; simp only at g0 g1 g2 g3 g4 g5 g6 g7 g8 g9 g10 g11 g12 g13; obtain ⟨hlt, f0, f1, f2, f3, f4, f5, f6, f7⟩ := Mwb.out.ms.ask.facts; rw [HQ.out] at f0; simp only at f1 f2 f3 f4 f5 f6 f7; obtain ⟨dlt, d0, d1, d2, _, _, _⟩ := Mwb.out.ms.deps.facts; have cl := run_LoadE Mwb.out.own))
      go_upto_region 21 with (first
        | (go_at_call 8; (with_reducible refine (Reads_b _ true (by show hasB (fieldsOf 3) 16 = true; decide) _).mono ?_); rintro e' wc ⟨rfl, hb⟩; have Mwc := Lib.hid (Mwb.out.on hb); clear hb; clear glt g0 g1 g2 g3 g4 g5 g6 g7 g8 g9 g10 g11 g12 g13 hlt f0 f1 f2 f3 f4 f5 f6 f7 dlt d0 d1 d2 cl; obtain ⟨glt, g0, g1, g2, g3, g4, g5, g6, g7, g8, g9, g10, g11, g12, g13⟩ := Mwc.out.own.facts; simp only at g0 g1 g2 g3 g4 g5 g6 g7 g8 g9 g10 g11 g12 g13; obtain ⟨hlt, f0, f1, f2, f3, f4, f5, f6, f7⟩ := Mwc.out.ms.ask.facts; rw [HQ.out] at f0; simp only at f1 f2 f3 f4 f5 f6 f7; obtain ⟨dlt, d0, d1, d2, _, _, _⟩ := Mwc.out.ms.deps.facts; have cl := run_LoadE Mwc.out.own)
        | (go_at_call 9; (with_reducible refine (Writes_b _ false (by show hasB (fieldsOf 3) 32 = false; decide) _).mono ?_); rintro e' wd ⟨rfl, hb⟩; have Mwd := Lib.hid (Mwc.out.on hb); clear hb; clear glt g0 g1 g2 g3 g4 g5 g6 g7 g8 g9 g10 g11 g12 g13 hlt f0 f1 f2 f3 f4 f5 f6 f7 dlt d0 d1 d2 cl; obtain ⟨glt, g0, g1, g2, g3, g4, g5, g6, g7, g8, g9, g10, g11, g12, g13⟩ := Mwd.out.own.facts; simp only at g0 g1 g2 g3 g4 g5 g6 g7 g8 g9 g10 g11 g12 g13; obtain ⟨hlt, f0, f1, f2, f3, f4, f5, f6, f7⟩ := Mwd.out.ms.ask.facts; rw [HQ.out] at f0; simp only at f1 f2 f3 f4 f5 f6 f7; obtain ⟨dlt, d0, d1, d2, _, _, _⟩ := Mwd.out.ms.deps.facts; have cl := run_LoadE Mwd.out.own))
      have hpd : p = 0 ∨ 0 < p := by omega
      rcases hpd with hp0 | hp0
      · have hq1 : ((0 : Int) == p) = true := by simp [hp0]
        have hq2 : decide (1 < P) = false := decide_eq_false (by omega)
        clear hp0
        go_wp2_with (first
          | (go_at_call 21; (with_reducible refine (same_yes _ _ al al _ (Lib.hid rfl) Mwd.out.reads.ra Mwd.out.ms.ra (by have := hna.out; omega)).mono ?_); rintro e' we ⟨rfl, hb⟩; have Mwe := Lib.hid (Mwd.out.on hb); clear hb; clear glt g0 g1 g2 g3 g4 g5 g6 g7 g8 g9 g10 g11 g12 g13 hlt f0 f1 f2 f3 f4 f5 f6 f7 dlt d0 d1 d2 cl; obtain ⟨glt, g0, g1, g2, g3, g4, g5, g6, g7, g8, g9, g10, g11, g12, g13⟩ := Mwe.out.own.facts; simp only at g0 g1 g2 g3 g4 g5 g6 g7 g8 g9 g10 g11 g12 g13; obtain ⟨hlt, f0, f1, f2, f3, f4, f5, f6, f7⟩ := Mwe.out.ms.ask.facts; rw [HQ.out] at f0; simp only at f1 f2 f3 f4 f5 f6 f7; obtain ⟨dlt, d0, d1, d2, _, _, _⟩ := Mwe.out.ms.deps.facts; have cl := run_LoadE Mwe.out.own)
          | (go_at_call 21; (with_reducible refine (same_yes _ _ yl yl _ (Lib.hid rfl) Mwe.out.reads.ry Mwe.out.ms.ry (by have := hny.out; omega)).mono ?_); rintro e' wf ⟨rfl, hb⟩; have Mwf := Lib.hid (Mwe.out.on hb); clear hb; clear glt g0 g1 g2 g3 g4 g5 g6 g7 g8 g9 g10 g11 g12 g13 hlt f0 f1 f2 f3 f4 f5 f6 f7 dlt d0 d1 d2 cl; obtain ⟨glt, g0, g1, g2, g3, g4, g5, g6, g7, g8, g9, g10, g11, g12, g13⟩ := Mwf.out.own.facts; simp only at g0 g1 g2 g3 g4 g5 g6 g7 g8 g9 g10 g11 g12 g13; obtain ⟨hlt, f0, f1, f2, f3, f4, f5, f6, f7⟩ := Mwf.out.ms.ask.facts; rw [HQ.out] at f0; simp only at f1 f2 f3 f4 f5 f6 f7; obtain ⟨dlt, d0, d1, d2, _, _, _⟩ := Mwf.out.ms.deps.facts; have cl := run_LoadE Mwf.out.own))
        go_ret
        exact ⟨rfl, Mwf.out.ms.below⟩
      · have hq1 : ((0 : Int) == p) = false := by simp; omega
        have hq2 : decide (1 < P) = true := decide_eq_true (by omega)
        clear hp0
        go_wp2_with (first
          | (go_at_call 21; (with_reducible refine (same_yes _ _ al al _ (Lib.hid rfl) Mwd.out.reads.ra Mwd.out.ms.ra (by have := hna.out; omega)).mono ?_); rintro e' we ⟨rfl, hb⟩; have Mwe := Lib.hid (Mwd.out.on hb); clear hb; clear glt g0 g1 g2 g3 g4 g5 g6 g7 g8 g9 g10 g11 g12 g13 hlt f0 f1 f2 f3 f4 f5 f6 f7 dlt d0 d1 d2 cl; obtain ⟨glt, g0, g1, g2, g3, g4, g5, g6, g7, g8, g9, g10, g11, g12, g13⟩ := Mwe.out.own.facts; simp only at g0 g1 g2 g3 g4 g5 g6 g7 g8 g9 g10 g11 g12 g13; obtain ⟨hlt, f0, f1, f2, f3, f4, f5, f6, f7⟩ := Mwe.out.ms.ask.facts; rw [HQ.out] at f0; simp only at f1 f2 f3 f4 f5 f6 f7; obtain ⟨dlt, d0, d1, d2, _, _, _⟩ := Mwe.out.ms.deps.facts; have cl := run_LoadE Mwe.out.own)
          | (go_at_call 21; (with_reducible refine (same_yes _ _ yl yl _ (Lib.hid rfl) Mwe.out.reads.ry Mwe.out.ms.ry (by have := hny.out; omega)).mono ?_); rintro e' wf ⟨rfl, hb⟩; have Mwf := Lib.hid (Mwe.out.on hb); clear hb; clear glt g0 g1 g2 g3 g4 g5 g6 g7 g8 g9 g10 g11 g12 g13 hlt f0 f1 f2 f3 f4 f5 f6 f7 dlt d0 d1 d2 cl; obtain ⟨glt, g0, g1, g2, g3, g4, g5, g6, g7, g8, g9, g10, g11, g12, g13⟩ := Mwf.out.own.facts; simp only at g0 g1 g2 g3 g4 g5 g6 g7 g8 g9 g10 g11 g12 g13; obtain ⟨hlt, f0, f1, f2, f3, f4, f5, f6, f7⟩ := Mwf.out.ms.ask.facts; rw [HQ.out] at f0; simp only at f1 f2 f3 f4 f5 f6 f7; obtain ⟨dlt, d0, d1, d2, _, _, _⟩ := Mwf.out.ms.deps.facts; have cl := run_LoadE Mwf.out.own))
        go_ret
        exact ⟨rfl, Mwf.out.ms.below⟩
end Go.Proofs.YtjdfhohchicgbaaDoor
