/-
  Proved here: the law EventMakes answers true of asks for an amo of an op that is none, and of all that it passes by. Condition: as said.
-/
import Derived.Test.YtjdfhohchicgbaaDoorEvOfKinds
import Derived.Deep.CutBlock
import Derived.Outline
namespace Go.Proofs.YtjdfhohchicgbaaDoor
open Go.RowKit
attribute [local go_sem ↓] fold_E fold_SE fold_A

set_option maxRecDepth 100000 in
set_option maxHeartbeats 8000000 in
theorem makes_5b (hart pos found : Int) (q : Aq) (a1 a2 a3 : Option Addr) (c1 c2 c3 : Nat) (al dl yl : List Int) (w : World) (hT : TabB w) (hfit : Fit hart pos found q)
    (hr : ReadsI w (.slice a1 al.length c1) al ∧ ReadsI w (.slice a2 dl.length c2) dl ∧ ReadsI w (.slice a3 yl.length c3) yl) (na : al.length ≤ 60) (nd : dl.length ≤ 60) (ny : yl.length ≤ 60)
    (hq : q.kind = 5) (h8 : q.addr % 8 = 0) (hba : aheadB (1 + pickI pos 1000) al = true) (hbd : aheadB (1 + pickI pos 1000) dl = true) (hby : aheadB (1 + pickI pos 1000) yl = true) (hE0 : amE q.op = 2) :
    Calls Tryd.prog 4 #[.int .i64 hart, .int .i64 pos, q.V, .int .u64 found, .agg #[.slice a1 al.length c1, .slice a2 dl.length c2, .slice a3 yl.length c3]] w fun e w' => SameOk w true e w' := by
  have hE := Lib.hid hE0
  clear hE0
  have S0 := Lib.hid (Ms.start q (.slice a1 al.length c1) (.slice a2 dl.length c2) (.slice a3 yl.length c3) al dl yl w hr)
  have HT := Lib.hid hT
  have HF := Lib.hid hfit
  have hu0 := hfit.ok.1
  have HL : Hid (∀ w0, Calls Tryd.prog 16 #[.agg #[.slice a1 al.length c1, .slice a2 dl.length c2, .slice a3 yl.length c3], .int .i64 60] w0 fun e w' => SameOk w0 true e w') := Lib.hid (fun w0 => by
    have := light_any a1 a2 a3 al.length dl.length yl.length c1 c2 c3 60 w0
    rw [decide_eq_true na, decide_eq_true nd, decide_eq_true ny] at this
    exact this)
  obtain ⟨H, hH⟩ : ∃ H, Hid (pickI hart 8 = H) := ⟨_, Lib.hid rfl⟩
  obtain ⟨p, hp⟩ : ∃ p, Hid (pickI pos 1000 = p) := ⟨_, Lib.hid rfl⟩
  have hH8 : 0 ≤ H ∧ H < 8 := by rw [← hH.out]; exact pickI_lt _ _ (by omega)
  have hp1000 : 0 ≤ p ∧ p < 1000 := by rw [← hp.out]; exact pickI_lt _ _ (by omega)
  obtain ⟨P, hP⟩ : ∃ P, Hid (1 + p = P) := ⟨_, Lib.hid rfl⟩
  have hP1 : 1 ≤ P ∧ P ≤ 1000 := by rw [← hP.out]; omega
  have KH := Lib.hid (fun w0 => Pick_fit hart hfit.h 8 (by omega) w0)
  have KP := Lib.hid (fun w0 => Pick_fit pos hfit.p 1000 (by omega) w0)
  rw [hH.out] at KH
  rw [hp.out] at KP
  rw [hp.out, hP.out] at hba hbd hby
  have BA := Lib.hid (fun w0 (hb : Below w.heap.size w w0) => belowL_any (.slice a1 al.length c1) al P w0 (hr.1.below hb) (by omega))
  have BD := Lib.hid (fun w0 (hb : Below w.heap.size w w0) => belowL_any (.slice a2 dl.length c2) dl P w0 (hr.2.1.below hb) (by omega))
  have BY := Lib.hid (fun w0 (hb : Below w.heap.size w w0) => belowL_any (.slice a3 yl.length c3) yl P w0 (hr.2.2.below hb) (by omega))
  rw [hba] at BA
  rw [hbd] at BD
  rw [hby] at BY
  have hA := Lib.hid hba
  have hD := Lib.hid hbd
  have hY := Lib.hid hby
  have HQ := Lib.hid hq
  have h8' : (q.addr % 8 != 0) = false := by simpa using h8
  have hna := Lib.hid na
  have hnd := Lib.hid nd
  have hny := Lib.hid ny
  have H8 := Lib.hid h8
  clear hr hT hfit hba hbd hby hq h8 na nd ny
  go_enter Tryd.func4, Tryd.ntmps4
  go_upto_region 1 with fail
  obtain ⟨W, hW⟩ : ∃ W, Hid (((w.alloc (.cells #[.int .i64 q.kind, .int .u64 q.addr, .int .u64 q.val, .int .i64 q.op, .bool q.aq, .bool q.rl, .int .i64 q.pred, .int .i64 q.succ] 32)).alloc (.cells #[.slice a1 al.length c1, .slice a2 dl.length c2, .slice a3 yl.length c3] 25)) = W) := ⟨_, Lib.hid rfl⟩
  rw [hW.out] at S0 ⊢
  clear hW
  go_upto_region 3 with (go_at_call 7; (with_reducible refine (lives_any _ (HT.out.on S0.out.below)).mono ?_); rintro e' w1 ⟨rfl, hb⟩; have S1 := Lib.hid (S0.out.on hb); clear hb)
  go_upto_region 4 with (first
    | (go_at_call 15; (with_reducible refine (KH.out _).mono ?_); rintro e' w2 ⟨rfl, rfl⟩)
    | (go_at_call 15; (with_reducible refine (KP.out _).mono ?_); rintro e' w2 ⟨rfl, rfl⟩))
  rw [hP.out]
  obtain ⟨hlt, f0, f1, f2, f3, f4, f5, f6, f7⟩ := S1.out.ask.facts
  rw [HQ.out] at f0
  obtain ⟨dlt, d0, d1, d2, _, _, _⟩ := S1.out.deps.facts
  go_upto_region 6 with (first
    | (go_at_call 16; (with_reducible refine (HL.out _).mono ?_); rintro e' w2 ⟨rfl, hb⟩; have S2 := Lib.hid (S1.out.on hb); clear hb hlt f0 f1 f2 f3 f4 f5 f6 f7 dlt d0 d1 d2; obtain ⟨hlt, f0, f1, f2, f3, f4, f5, f6, f7⟩ := S2.out.ask.facts; rw [HQ.out] at f0; obtain ⟨dlt, d0, d1, d2, _, _, _⟩ := S2.out.deps.facts)
    | (go_at_call 17; (with_reducible refine (BA.out _ S2.out.below).mono ?_); rintro e' w3 ⟨rfl, hb⟩; have S3 := Lib.hid (S2.out.on hb); clear hb BA hlt f0 f1 f2 f3 f4 f5 f6 f7 dlt d0 d1 d2; obtain ⟨hlt, f0, f1, f2, f3, f4, f5, f6, f7⟩ := S3.out.ask.facts; rw [HQ.out] at f0; obtain ⟨dlt, d0, d1, d2, _, _, _⟩ := S3.out.deps.facts)
    | (go_at_call 17; (with_reducible refine (BD.out _ S3.out.below).mono ?_); rintro e' w4 ⟨rfl, hb⟩; have S4 := Lib.hid (S3.out.on hb); clear hb BD hlt f0 f1 f2 f3 f4 f5 f6 f7 dlt d0 d1 d2; obtain ⟨hlt, f0, f1, f2, f3, f4, f5, f6, f7⟩ := S4.out.ask.facts; rw [HQ.out] at f0; obtain ⟨dlt, d0, d1, d2, _, _, _⟩ := S4.out.deps.facts)
    | (go_at_call 17; (with_reducible refine (BY.out _ S4.out.below).mono ?_); rintro e' w5 ⟨rfl, hb⟩; have S5 := Lib.hid (S4.out.on hb); clear hb BY hlt f0 f1 f2 f3 f4 f5 f6 f7 dlt d0 d1 d2; obtain ⟨hlt, f0, f1, f2, f3, f4, f5, f6, f7⟩ := S5.out.ask.facts; rw [HQ.out] at f0; obtain ⟨dlt, d0, d1, d2, _, _, _⟩ := S5.out.deps.facts))
  go_upto_region 8 with fail
  obtain ⟨V, rfl⟩ : ∃ V, V = w5 := ⟨_, rfl⟩
  have S6 : Hid (Ms q (.slice a1 al.length c1) (.slice a2 dl.length c2) (.slice a3 yl.length c3) al dl yl w V) := S5
  clear hlt f0 f1 f2 f3 f4 f5 f6 f7 dlt d0 d1 d2
  obtain ⟨pr, hpr⟩ : ∃ x, Hid (pickI q.pred 16 = x) := ⟨_, Lib.hid rfl⟩
  obtain ⟨su, hsu⟩ : ∃ x, Hid (pickI q.succ 16 = x) := ⟨_, Lib.hid rfl⟩
  have hpr16 : 0 ≤ pr ∧ pr < 16 := by rw [← hpr.out]; exact pickI_lt _ _ (by omega)
  have hsu16 : 0 ≤ su ∧ su < 16 := by rw [← hsu.out]; exact pickI_lt _ _ (by omega)
  have K6 := Lib.hid (fun w0 => Pick_fit q.pred HF.out.pr 16 (by omega) w0)
  have K7 := Lib.hid (fun w0 => Pick_fit q.succ HF.out.su 16 (by omega) w0)
  rw [hpr.out] at K6
  rw [hsu.out] at K7
  obtain ⟨hlt, f0, f1, f2, f3, f4, f5, f6, f7⟩ := S6.out.ask.facts
  rw [HQ.out] at f0
  have z6 := S6.out.ask.free 6
  have z7 := S6.out.ask.free 7
  try simp only at f0 f1 f2 f3 f4 f5 f6 f7
  have S8 : Hid (Ms ⟨q.kind, q.addr, q.val, q.op, q.aq, q.rl, pr, su⟩ (.slice a1 al.length c1) (.slice a2 dl.length c2) (.slice a3 yl.length c3) al dl yl w (((V.setCell ⟨w.heap.size, 6, none⟩ (.int .i64 pr)).setCell ⟨w.heap.size, 7, none⟩ (.int .i64 su)).drew)) := Lib.hid (by
    have Q1 : Ms ⟨q.kind, q.addr, q.val, q.op, q.aq, q.rl, pr, q.succ⟩ (.slice a1 al.length c1) (.slice a2 dl.length c2) (.slice a3 yl.length c3) al dl yl w (V.setCell ⟨w.heap.size, 6, none⟩ (.int .i64 pr)) := S6.out.set (S6.out.ask.setc 6 (.int .i64 pr))
    have Q2 : Ms ⟨q.kind, q.addr, q.val, q.op, q.aq, q.rl, pr, su⟩ (.slice a1 al.length c1) (.slice a2 dl.length c2) (.slice a3 yl.length c3) al dl yl w ((V.setCell ⟨w.heap.size, 6, none⟩ (.int .i64 pr)).setCell ⟨w.heap.size, 7, none⟩ (.int .i64 su)) := Q1.set (Q1.ask.setc 7 (.int .i64 su))
    exact Q2.drew)
  go_cut [] (fun wx => Hid (Ms ⟨q.kind, q.addr, q.val, q.op, q.aq, q.rl, pr, su⟩ (.slice a1 al.length c1) (.slice a2 dl.length c2) (.slice a3 yl.length c3) al dl yl w wx))
  case first =>
    go_region_law (first | (go_simp; go_at_call 15; (first | (with_reducible refine (K6.out _).mono ?_) | (with_reducible refine (K7.out _).mono ?_)); rintro e' w6 ⟨rfl, rfl⟩))
    all_goals
      go_wp2_with fail
      go_meet
      exact S8
  case rest =>
    have S9 := hcut
    clear hcut S8 S6
    obtain ⟨hlt, f0, f1, f2, f3, f4, f5, f6, f7⟩ := S9.out.ask.facts
    rw [HQ.out] at f0
    simp only at f1 f2 f3 f4 f5 f6 f7
    have HAm := Lib.hid (fun w0 => rAmo_int q.op found q.val HF.out.f.1 HF.out.f.2 HF.out.ok.2.2.1 HF.out.ok.2.2.2 w0)
    unfold AmoIs at HAm
    rw [hE.out] at HAm
    go_wp2_with (go_at_call 18; (with_reducible refine (HAm.out _).mono ?_); rintro e' w7 ⟨rfl, hb⟩; have S10 := Lib.hid (S9.out.on hb); clear hb hlt f0 f1 f2 f3 f4 f5 f6 f7; obtain ⟨hlt, f0, f1, f2, f3, f4, f5, f6, f7⟩ := S10.out.ask.facts; rw [HQ.out] at f0; simp only at f1 f2 f3 f4 f5 f6 f7)
    go_ret
    exact ⟨rfl, S10.out.below⟩
set_option maxRecDepth 100000 in
set_option maxHeartbeats 8000000 in
theorem skip_heavy (hart pos found : Int) (q : Aq) (a1 a2 a3 : Option Addr) (c1 c2 c3 : Nat) (al dl yl : List Int) (w : World) (hT : TabB w) (hfit : Fit hart pos found q)
    (hr : ReadsI w (.slice a1 al.length c1) al ∧ ReadsI w (.slice a2 dl.length c2) dl ∧ ReadsI w (.slice a3 yl.length c3) yl) (hL : (decide (al.length ≤ 60) && (decide (dl.length ≤ 60) && decide (yl.length ≤ 60))) = false) :
    Calls Tryd.prog 4 #[.int .i64 hart, .int .i64 pos, q.V, .int .u64 found, .agg #[.slice a1 al.length c1, .slice a2 dl.length c2, .slice a3 yl.length c3]] w fun e w' => SameOk w true e w' := by
  have S0 := Lib.hid (Ms.start q (.slice a1 al.length c1) (.slice a2 dl.length c2) (.slice a3 yl.length c3) al dl yl w hr)
  have HT := Lib.hid hT
  have hu0 := hfit.ok.1
  obtain ⟨H, hH⟩ : ∃ H, Hid (pickI hart 8 = H) := ⟨_, Lib.hid rfl⟩
  obtain ⟨p, hp⟩ : ∃ p, Hid (pickI pos 1000 = p) := ⟨_, Lib.hid rfl⟩
  have hp1000 : 0 ≤ p ∧ p < 1000 := by rw [← hp.out]; exact pickI_lt _ _ (by omega)
  obtain ⟨P, hP⟩ : ∃ P, Hid (1 + p = P) := ⟨_, Lib.hid rfl⟩
  have KH := Lib.hid (fun w0 => Pick_fit hart hfit.h 8 (by omega) w0)
  have KP := Lib.hid (fun w0 => Pick_fit pos hfit.p 1000 (by omega) w0)
  rw [hH.out] at KH
  rw [hp.out] at KP
  have HL : Hid (∀ w0, Calls Tryd.prog 16 #[.agg #[.slice a1 al.length c1, .slice a2 dl.length c2, .slice a3 yl.length c3], .int .i64 60] w0 fun e w' => SameOk w0 false e w') := Lib.hid (fun w0 => by
    have := light_any a1 a2 a3 al.length dl.length yl.length c1 c2 c3 60 w0
    rw [hL] at this
    exact this)
  clear hL
  clear hr hT hfit
  go_enter Tryd.func4, Tryd.ntmps4
  go_upto_region 1 with fail
  obtain ⟨W, hW⟩ : ∃ W, Hid (((w.alloc (.cells #[.int .i64 q.kind, .int .u64 q.addr, .int .u64 q.val, .int .i64 q.op, .bool q.aq, .bool q.rl, .int .i64 q.pred, .int .i64 q.succ] 32)).alloc (.cells #[.slice a1 al.length c1, .slice a2 dl.length c2, .slice a3 yl.length c3] 25)) = W) := ⟨_, Lib.hid rfl⟩
  rw [hW.out] at S0 ⊢
  clear hW
  go_upto_region 3 with (go_at_call 7; (with_reducible refine (lives_any _ (HT.out.on S0.out.below)).mono ?_); rintro e' w1 ⟨rfl, hb⟩; have S1 := Lib.hid (S0.out.on hb); clear hb)
  go_upto_region 4 with (first
    | (go_at_call 15; (with_reducible refine (KH.out _).mono ?_); rintro e' w2 ⟨rfl, rfl⟩)
    | (go_at_call 15; (with_reducible refine (KP.out _).mono ?_); rintro e' w2 ⟨rfl, rfl⟩))
  rw [hP.out]
  obtain ⟨hlt, f0, f1, f2, f3, f4, f5, f6, f7⟩ := S1.out.ask.facts
  obtain ⟨dlt, d0, d1, d2, _, _, _⟩ := S1.out.deps.facts
  go_wp2_with (first
    | (go_at_call 16; (with_reducible refine (HL.out _).mono ?_); rintro e' w2 ⟨rfl, hb⟩; have S2 := Lib.hid (S1.out.on hb); clear hb hlt f0 f1 f2 f3 f4 f5 f6 f7 dlt d0 d1 d2; obtain ⟨hlt, f0, f1, f2, f3, f4, f5, f6, f7⟩ := S2.out.ask.facts; obtain ⟨dlt, d0, d1, d2, _, _, _⟩ := S2.out.deps.facts))
  go_ret
  exact ⟨rfl, S2.out.below⟩
set_option maxRecDepth 100000 in
set_option maxHeartbeats 8000000 in
theorem skip_low (hart pos found : Int) (q : Aq) (a1 a2 a3 : Option Addr) (c1 c2 c3 : Nat) (al dl yl : List Int) (w : World) (hT : TabB w) (hfit : Fit hart pos found q)
    (hr : ReadsI w (.slice a1 al.length c1) al ∧ ReadsI w (.slice a2 dl.length c2) dl ∧ ReadsI w (.slice a3 yl.length c3) yl) (na : al.length ≤ 60) (nd : dl.length ≤ 60) (ny : yl.length ≤ 60) (hk : q.kind < 1) :
    Calls Tryd.prog 4 #[.int .i64 hart, .int .i64 pos, q.V, .int .u64 found, .agg #[.slice a1 al.length c1, .slice a2 dl.length c2, .slice a3 yl.length c3]] w fun e w' => SameOk w true e w' := by
  have S0 := Lib.hid (Ms.start q (.slice a1 al.length c1) (.slice a2 dl.length c2) (.slice a3 yl.length c3) al dl yl w hr)
  have HT := Lib.hid hT
  have hu0 := hfit.ok.1
  obtain ⟨H, hH⟩ : ∃ H, Hid (pickI hart 8 = H) := ⟨_, Lib.hid rfl⟩
  obtain ⟨p, hp⟩ : ∃ p, Hid (pickI pos 1000 = p) := ⟨_, Lib.hid rfl⟩
  have hp1000 : 0 ≤ p ∧ p < 1000 := by rw [← hp.out]; exact pickI_lt _ _ (by omega)
  obtain ⟨P, hP⟩ : ∃ P, Hid (1 + p = P) := ⟨_, Lib.hid rfl⟩
  have KH := Lib.hid (fun w0 => Pick_fit hart hfit.h 8 (by omega) w0)
  have KP := Lib.hid (fun w0 => Pick_fit pos hfit.p 1000 (by omega) w0)
  rw [hH.out] at KH
  rw [hp.out] at KP
  have HL : Hid (∀ w0, Calls Tryd.prog 16 #[.agg #[.slice a1 al.length c1, .slice a2 dl.length c2, .slice a3 yl.length c3], .int .i64 60] w0 fun e w' => SameOk w0 true e w') := Lib.hid (fun w0 => by
    have := light_any a1 a2 a3 al.length dl.length yl.length c1 c2 c3 60 w0
    rw [decide_eq_true na, decide_eq_true nd, decide_eq_true ny] at this
    exact this)
  clear na nd ny
  clear hr hT hfit
  go_enter Tryd.func4, Tryd.ntmps4
  go_upto_region 1 with fail
  obtain ⟨W, hW⟩ : ∃ W, Hid (((w.alloc (.cells #[.int .i64 q.kind, .int .u64 q.addr, .int .u64 q.val, .int .i64 q.op, .bool q.aq, .bool q.rl, .int .i64 q.pred, .int .i64 q.succ] 32)).alloc (.cells #[.slice a1 al.length c1, .slice a2 dl.length c2, .slice a3 yl.length c3] 25)) = W) := ⟨_, Lib.hid rfl⟩
  rw [hW.out] at S0 ⊢
  clear hW
  go_upto_region 3 with (go_at_call 7; (with_reducible refine (lives_any _ (HT.out.on S0.out.below)).mono ?_); rintro e' w1 ⟨rfl, hb⟩; have S1 := Lib.hid (S0.out.on hb); clear hb)
  go_upto_region 4 with (first
    | (go_at_call 15; (with_reducible refine (KH.out _).mono ?_); rintro e' w2 ⟨rfl, rfl⟩)
    | (go_at_call 15; (with_reducible refine (KP.out _).mono ?_); rintro e' w2 ⟨rfl, rfl⟩))
  rw [hP.out]
  obtain ⟨hlt, f0, f1, f2, f3, f4, f5, f6, f7⟩ := S1.out.ask.facts
  obtain ⟨dlt, d0, d1, d2, _, _, _⟩ := S1.out.deps.facts
  go_wp2_with (first
    | (go_at_call 16; (with_reducible refine (HL.out _).mono ?_); rintro e' w2 ⟨rfl, hb⟩; have S2 := Lib.hid (S1.out.on hb); clear hb hlt f0 f1 f2 f3 f4 f5 f6 f7 dlt d0 d1 d2; obtain ⟨hlt, f0, f1, f2, f3, f4, f5, f6, f7⟩ := S2.out.ask.facts; obtain ⟨dlt, d0, d1, d2, _, _, _⟩ := S2.out.deps.facts))
  go_ret
  exact ⟨rfl, S2.out.below⟩
set_option maxRecDepth 100000 in
set_option maxHeartbeats 8000000 in
theorem skip_high (hart pos found : Int) (q : Aq) (a1 a2 a3 : Option Addr) (c1 c2 c3 : Nat) (al dl yl : List Int) (w : World) (hT : TabB w) (hfit : Fit hart pos found q)
    (hr : ReadsI w (.slice a1 al.length c1) al ∧ ReadsI w (.slice a2 dl.length c2) dl ∧ ReadsI w (.slice a3 yl.length c3) yl) (na : al.length ≤ 60) (nd : dl.length ≤ 60) (ny : yl.length ≤ 60) (hk : 6 < q.kind) :
    Calls Tryd.prog 4 #[.int .i64 hart, .int .i64 pos, q.V, .int .u64 found, .agg #[.slice a1 al.length c1, .slice a2 dl.length c2, .slice a3 yl.length c3]] w fun e w' => SameOk w true e w' := by
  have S0 := Lib.hid (Ms.start q (.slice a1 al.length c1) (.slice a2 dl.length c2) (.slice a3 yl.length c3) al dl yl w hr)
  have HT := Lib.hid hT
  have hu0 := hfit.ok.1
  obtain ⟨H, hH⟩ : ∃ H, Hid (pickI hart 8 = H) := ⟨_, Lib.hid rfl⟩
  obtain ⟨p, hp⟩ : ∃ p, Hid (pickI pos 1000 = p) := ⟨_, Lib.hid rfl⟩
  have hp1000 : 0 ≤ p ∧ p < 1000 := by rw [← hp.out]; exact pickI_lt _ _ (by omega)
  obtain ⟨P, hP⟩ : ∃ P, Hid (1 + p = P) := ⟨_, Lib.hid rfl⟩
  have KH := Lib.hid (fun w0 => Pick_fit hart hfit.h 8 (by omega) w0)
  have KP := Lib.hid (fun w0 => Pick_fit pos hfit.p 1000 (by omega) w0)
  rw [hH.out] at KH
  rw [hp.out] at KP
  have HL : Hid (∀ w0, Calls Tryd.prog 16 #[.agg #[.slice a1 al.length c1, .slice a2 dl.length c2, .slice a3 yl.length c3], .int .i64 60] w0 fun e w' => SameOk w0 true e w') := Lib.hid (fun w0 => by
    have := light_any a1 a2 a3 al.length dl.length yl.length c1 c2 c3 60 w0
    rw [decide_eq_true na, decide_eq_true nd, decide_eq_true ny] at this
    exact this)
  clear na nd ny
  have hk1 : ¬ q.kind < 1 := by omega
  clear hr hT hfit
  go_enter Tryd.func4, Tryd.ntmps4
  go_upto_region 1 with fail
  obtain ⟨W, hW⟩ : ∃ W, Hid (((w.alloc (.cells #[.int .i64 q.kind, .int .u64 q.addr, .int .u64 q.val, .int .i64 q.op, .bool q.aq, .bool q.rl, .int .i64 q.pred, .int .i64 q.succ] 32)).alloc (.cells #[.slice a1 al.length c1, .slice a2 dl.length c2, .slice a3 yl.length c3] 25)) = W) := ⟨_, Lib.hid rfl⟩
  rw [hW.out] at S0 ⊢
  clear hW
  go_upto_region 3 with (go_at_call 7; (with_reducible refine (lives_any _ (HT.out.on S0.out.below)).mono ?_); rintro e' w1 ⟨rfl, hb⟩; have S1 := Lib.hid (S0.out.on hb); clear hb)
  go_upto_region 4 with (first
    | (go_at_call 15; (with_reducible refine (KH.out _).mono ?_); rintro e' w2 ⟨rfl, rfl⟩)
    | (go_at_call 15; (with_reducible refine (KP.out _).mono ?_); rintro e' w2 ⟨rfl, rfl⟩))
  rw [hP.out]
  obtain ⟨hlt, f0, f1, f2, f3, f4, f5, f6, f7⟩ := S1.out.ask.facts
  obtain ⟨dlt, d0, d1, d2, _, _, _⟩ := S1.out.deps.facts
  go_wp2_with (first
    | (go_at_call 16; (with_reducible refine (HL.out _).mono ?_); rintro e' w2 ⟨rfl, hb⟩; have S2 := Lib.hid (S1.out.on hb); clear hb hlt f0 f1 f2 f3 f4 f5 f6 f7 dlt d0 d1 d2; obtain ⟨hlt, f0, f1, f2, f3, f4, f5, f6, f7⟩ := S2.out.ask.facts; obtain ⟨dlt, d0, d1, d2, _, _, _⟩ := S2.out.deps.facts))
  go_ret
  exact ⟨rfl, S2.out.below⟩
set_option maxRecDepth 100000 in
set_option maxHeartbeats 8000000 in
theorem skip_odd (hart pos found : Int) (q : Aq) (a1 a2 a3 : Option Addr) (c1 c2 c3 : Nat) (al dl yl : List Int) (w : World) (hT : TabB w) (hfit : Fit hart pos found q)
    (hr : ReadsI w (.slice a1 al.length c1) al ∧ ReadsI w (.slice a2 dl.length c2) dl ∧ ReadsI w (.slice a3 yl.length c3) yl) (na : al.length ≤ 60) (nd : dl.length ≤ 60) (ny : yl.length ≤ 60) (hk : 1 ≤ q.kind ∧ q.kind ≤ 6) (h8 : q.addr % 8 ≠ 0) :
    Calls Tryd.prog 4 #[.int .i64 hart, .int .i64 pos, q.V, .int .u64 found, .agg #[.slice a1 al.length c1, .slice a2 dl.length c2, .slice a3 yl.length c3]] w fun e w' => SameOk w true e w' := by
  have S0 := Lib.hid (Ms.start q (.slice a1 al.length c1) (.slice a2 dl.length c2) (.slice a3 yl.length c3) al dl yl w hr)
  have HT := Lib.hid hT
  have hu0 := hfit.ok.1
  obtain ⟨H, hH⟩ : ∃ H, Hid (pickI hart 8 = H) := ⟨_, Lib.hid rfl⟩
  obtain ⟨p, hp⟩ : ∃ p, Hid (pickI pos 1000 = p) := ⟨_, Lib.hid rfl⟩
  have hp1000 : 0 ≤ p ∧ p < 1000 := by rw [← hp.out]; exact pickI_lt _ _ (by omega)
  obtain ⟨P, hP⟩ : ∃ P, Hid (1 + p = P) := ⟨_, Lib.hid rfl⟩
  have KH := Lib.hid (fun w0 => Pick_fit hart hfit.h 8 (by omega) w0)
  have KP := Lib.hid (fun w0 => Pick_fit pos hfit.p 1000 (by omega) w0)
  rw [hH.out] at KH
  rw [hp.out] at KP
  have HL : Hid (∀ w0, Calls Tryd.prog 16 #[.agg #[.slice a1 al.length c1, .slice a2 dl.length c2, .slice a3 yl.length c3], .int .i64 60] w0 fun e w' => SameOk w0 true e w') := Lib.hid (fun w0 => by
    have := light_any a1 a2 a3 al.length dl.length yl.length c1 c2 c3 60 w0
    rw [decide_eq_true na, decide_eq_true nd, decide_eq_true ny] at this
    exact this)
  have hk1 := hk.1
  have hk2 := hk.2
  clear hk
  clear na nd ny
  have h8' : (q.addr % 8 != 0) = true := by simpa using h8
  clear h8
  clear hr hT hfit
  go_enter Tryd.func4, Tryd.ntmps4
  go_upto_region 1 with fail
  obtain ⟨W, hW⟩ : ∃ W, Hid (((w.alloc (.cells #[.int .i64 q.kind, .int .u64 q.addr, .int .u64 q.val, .int .i64 q.op, .bool q.aq, .bool q.rl, .int .i64 q.pred, .int .i64 q.succ] 32)).alloc (.cells #[.slice a1 al.length c1, .slice a2 dl.length c2, .slice a3 yl.length c3] 25)) = W) := ⟨_, Lib.hid rfl⟩
  rw [hW.out] at S0 ⊢
  clear hW
  go_upto_region 3 with (go_at_call 7; (with_reducible refine (lives_any _ (HT.out.on S0.out.below)).mono ?_); rintro e' w1 ⟨rfl, hb⟩; have S1 := Lib.hid (S0.out.on hb); clear hb)
  go_upto_region 4 with (first
    | (go_at_call 15; (with_reducible refine (KH.out _).mono ?_); rintro e' w2 ⟨rfl, rfl⟩)
    | (go_at_call 15; (with_reducible refine (KP.out _).mono ?_); rintro e' w2 ⟨rfl, rfl⟩))
  rw [hP.out]
  obtain ⟨hlt, f0, f1, f2, f3, f4, f5, f6, f7⟩ := S1.out.ask.facts
  obtain ⟨dlt, d0, d1, d2, _, _, _⟩ := S1.out.deps.facts
  go_wp2_with (first
    | (go_at_call 16; (with_reducible refine (HL.out _).mono ?_); rintro e' w2 ⟨rfl, hb⟩; have S2 := Lib.hid (S1.out.on hb); clear hb hlt f0 f1 f2 f3 f4 f5 f6 f7 dlt d0 d1 d2; obtain ⟨hlt, f0, f1, f2, f3, f4, f5, f6, f7⟩ := S2.out.ask.facts; obtain ⟨dlt, d0, d1, d2, _, _, _⟩ := S2.out.deps.facts))
  go_ret
  exact ⟨rfl, S2.out.below⟩
set_option maxRecDepth 100000 in
set_option maxHeartbeats 8000000 in
theorem skip_badA (hart pos found : Int) (q : Aq) (a1 a2 a3 : Option Addr) (c1 c2 c3 : Nat) (al dl yl : List Int) (w : World) (hT : TabB w) (hfit : Fit hart pos found q)
    (hr : ReadsI w (.slice a1 al.length c1) al ∧ ReadsI w (.slice a2 dl.length c2) dl ∧ ReadsI w (.slice a3 yl.length c3) yl) (na : al.length ≤ 60) (nd : dl.length ≤ 60) (ny : yl.length ≤ 60) (hk : 1 ≤ q.kind ∧ q.kind ≤ 6) (h8 : q.addr % 8 = 0) (hBA : aheadB (1 + pickI pos 1000) al = false) :
    Calls Tryd.prog 4 #[.int .i64 hart, .int .i64 pos, q.V, .int .u64 found, .agg #[.slice a1 al.length c1, .slice a2 dl.length c2, .slice a3 yl.length c3]] w fun e w' => SameOk w true e w' := by
  have S0 := Lib.hid (Ms.start q (.slice a1 al.length c1) (.slice a2 dl.length c2) (.slice a3 yl.length c3) al dl yl w hr)
  have HT := Lib.hid hT
  have hu0 := hfit.ok.1
  obtain ⟨H, hH⟩ : ∃ H, Hid (pickI hart 8 = H) := ⟨_, Lib.hid rfl⟩
  obtain ⟨p, hp⟩ : ∃ p, Hid (pickI pos 1000 = p) := ⟨_, Lib.hid rfl⟩
  have hp1000 : 0 ≤ p ∧ p < 1000 := by rw [← hp.out]; exact pickI_lt _ _ (by omega)
  obtain ⟨P, hP⟩ : ∃ P, Hid (1 + p = P) := ⟨_, Lib.hid rfl⟩
  have KH := Lib.hid (fun w0 => Pick_fit hart hfit.h 8 (by omega) w0)
  have KP := Lib.hid (fun w0 => Pick_fit pos hfit.p 1000 (by omega) w0)
  rw [hH.out] at KH
  rw [hp.out] at KP
  have HL : Hid (∀ w0, Calls Tryd.prog 16 #[.agg #[.slice a1 al.length c1, .slice a2 dl.length c2, .slice a3 yl.length c3], .int .i64 60] w0 fun e w' => SameOk w0 true e w') := Lib.hid (fun w0 => by
    have := light_any a1 a2 a3 al.length dl.length yl.length c1 c2 c3 60 w0
    rw [decide_eq_true na, decide_eq_true nd, decide_eq_true ny] at this
    exact this)
  have hk1 := hk.1
  have hk2 := hk.2
  clear hk
  have h8' : (q.addr % 8 != 0) = false := by simpa using h8
  clear h8
  have BA := Lib.hid (fun w0 (hb : Below w.heap.size w w0) => belowL_any (.slice a1 al.length c1) al P w0 (hr.1.below hb) (by omega))
  rw [hp.out, hP.out] at hBA
  rw [hBA] at BA
  clear hBA
  clear na nd ny
  clear hr hT hfit
  go_enter Tryd.func4, Tryd.ntmps4
  go_upto_region 1 with fail
  obtain ⟨W, hW⟩ : ∃ W, Hid (((w.alloc (.cells #[.int .i64 q.kind, .int .u64 q.addr, .int .u64 q.val, .int .i64 q.op, .bool q.aq, .bool q.rl, .int .i64 q.pred, .int .i64 q.succ] 32)).alloc (.cells #[.slice a1 al.length c1, .slice a2 dl.length c2, .slice a3 yl.length c3] 25)) = W) := ⟨_, Lib.hid rfl⟩
  rw [hW.out] at S0 ⊢
  clear hW
  go_upto_region 3 with (go_at_call 7; (with_reducible refine (lives_any _ (HT.out.on S0.out.below)).mono ?_); rintro e' w1 ⟨rfl, hb⟩; have S1 := Lib.hid (S0.out.on hb); clear hb)
  go_upto_region 4 with (first
    | (go_at_call 15; (with_reducible refine (KH.out _).mono ?_); rintro e' w2 ⟨rfl, rfl⟩)
    | (go_at_call 15; (with_reducible refine (KP.out _).mono ?_); rintro e' w2 ⟨rfl, rfl⟩))
  rw [hP.out]
  obtain ⟨hlt, f0, f1, f2, f3, f4, f5, f6, f7⟩ := S1.out.ask.facts
  obtain ⟨dlt, d0, d1, d2, _, _, _⟩ := S1.out.deps.facts
  go_wp2_with (first
    | (go_at_call 16; (with_reducible refine (HL.out _).mono ?_); rintro e' w2 ⟨rfl, hb⟩; have S2 := Lib.hid (S1.out.on hb); clear hb hlt f0 f1 f2 f3 f4 f5 f6 f7 dlt d0 d1 d2; obtain ⟨hlt, f0, f1, f2, f3, f4, f5, f6, f7⟩ := S2.out.ask.facts; obtain ⟨dlt, d0, d1, d2, _, _, _⟩ := S2.out.deps.facts)
    | (go_at_call 17; (with_reducible refine (BA.out _ S2.out.below).mono ?_); rintro e' w3 ⟨rfl, hb⟩; have S3 := Lib.hid (S2.out.on hb); clear hb BA hlt f0 f1 f2 f3 f4 f5 f6 f7 dlt d0 d1 d2; obtain ⟨hlt, f0, f1, f2, f3, f4, f5, f6, f7⟩ := S3.out.ask.facts; obtain ⟨dlt, d0, d1, d2, _, _, _⟩ := S3.out.deps.facts))
  go_ret
  exact ⟨rfl, S3.out.below⟩
set_option maxRecDepth 100000 in
set_option maxHeartbeats 8000000 in
theorem skip_badD (hart pos found : Int) (q : Aq) (a1 a2 a3 : Option Addr) (c1 c2 c3 : Nat) (al dl yl : List Int) (w : World) (hT : TabB w) (hfit : Fit hart pos found q)
    (hr : ReadsI w (.slice a1 al.length c1) al ∧ ReadsI w (.slice a2 dl.length c2) dl ∧ ReadsI w (.slice a3 yl.length c3) yl) (na : al.length ≤ 60) (nd : dl.length ≤ 60) (ny : yl.length ≤ 60) (hk : 1 ≤ q.kind ∧ q.kind ≤ 6) (h8 : q.addr % 8 = 0) (hBA : aheadB (1 + pickI pos 1000) al = true) (hBD : aheadB (1 + pickI pos 1000) dl = false) :
    Calls Tryd.prog 4 #[.int .i64 hart, .int .i64 pos, q.V, .int .u64 found, .agg #[.slice a1 al.length c1, .slice a2 dl.length c2, .slice a3 yl.length c3]] w fun e w' => SameOk w true e w' := by
  have S0 := Lib.hid (Ms.start q (.slice a1 al.length c1) (.slice a2 dl.length c2) (.slice a3 yl.length c3) al dl yl w hr)
  have HT := Lib.hid hT
  have hu0 := hfit.ok.1
  obtain ⟨H, hH⟩ : ∃ H, Hid (pickI hart 8 = H) := ⟨_, Lib.hid rfl⟩
  obtain ⟨p, hp⟩ : ∃ p, Hid (pickI pos 1000 = p) := ⟨_, Lib.hid rfl⟩
  have hp1000 : 0 ≤ p ∧ p < 1000 := by rw [← hp.out]; exact pickI_lt _ _ (by omega)
  obtain ⟨P, hP⟩ : ∃ P, Hid (1 + p = P) := ⟨_, Lib.hid rfl⟩
  have KH := Lib.hid (fun w0 => Pick_fit hart hfit.h 8 (by omega) w0)
  have KP := Lib.hid (fun w0 => Pick_fit pos hfit.p 1000 (by omega) w0)
  rw [hH.out] at KH
  rw [hp.out] at KP
  have HL : Hid (∀ w0, Calls Tryd.prog 16 #[.agg #[.slice a1 al.length c1, .slice a2 dl.length c2, .slice a3 yl.length c3], .int .i64 60] w0 fun e w' => SameOk w0 true e w') := Lib.hid (fun w0 => by
    have := light_any a1 a2 a3 al.length dl.length yl.length c1 c2 c3 60 w0
    rw [decide_eq_true na, decide_eq_true nd, decide_eq_true ny] at this
    exact this)
  have hk1 := hk.1
  have hk2 := hk.2
  clear hk
  have h8' : (q.addr % 8 != 0) = false := by simpa using h8
  clear h8
  have BA := Lib.hid (fun w0 (hb : Below w.heap.size w w0) => belowL_any (.slice a1 al.length c1) al P w0 (hr.1.below hb) (by omega))
  rw [hp.out, hP.out] at hBA
  rw [hBA] at BA
  clear hBA
  have BD := Lib.hid (fun w0 (hb : Below w.heap.size w w0) => belowL_any (.slice a2 dl.length c2) dl P w0 (hr.2.1.below hb) (by omega))
  rw [hp.out, hP.out] at hBD
  rw [hBD] at BD
  clear hBD
  clear na nd ny
  clear hr hT hfit
  go_enter Tryd.func4, Tryd.ntmps4
  go_upto_region 1 with fail
  obtain ⟨W, hW⟩ : ∃ W, Hid (((w.alloc (.cells #[.int .i64 q.kind, .int .u64 q.addr, .int .u64 q.val, .int .i64 q.op, .bool q.aq, .bool q.rl, .int .i64 q.pred, .int .i64 q.succ] 32)).alloc (.cells #[.slice a1 al.length c1, .slice a2 dl.length c2, .slice a3 yl.length c3] 25)) = W) := ⟨_, Lib.hid rfl⟩
  rw [hW.out] at S0 ⊢
  clear hW
  go_upto_region 3 with (go_at_call 7; (with_reducible refine (lives_any _ (HT.out.on S0.out.below)).mono ?_); rintro e' w1 ⟨rfl, hb⟩; have S1 := Lib.hid (S0.out.on hb); clear hb)
  go_upto_region 4 with (first
    | (go_at_call 15; (with_reducible refine (KH.out _).mono ?_); rintro e' w2 ⟨rfl, rfl⟩)
    | (go_at_call 15; (with_reducible refine (KP.out _).mono ?_); rintro e' w2 ⟨rfl, rfl⟩))
  rw [hP.out]
  obtain ⟨hlt, f0, f1, f2, f3, f4, f5, f6, f7⟩ := S1.out.ask.facts
  obtain ⟨dlt, d0, d1, d2, _, _, _⟩ := S1.out.deps.facts
  go_wp2_with (first
    | (go_at_call 16; (with_reducible refine (HL.out _).mono ?_); rintro e' w2 ⟨rfl, hb⟩; have S2 := Lib.hid (S1.out.on hb); clear hb hlt f0 f1 f2 f3 f4 f5 f6 f7 dlt d0 d1 d2; obtain ⟨hlt, f0, f1, f2, f3, f4, f5, f6, f7⟩ := S2.out.ask.facts; obtain ⟨dlt, d0, d1, d2, _, _, _⟩ := S2.out.deps.facts)
    | (go_at_call 17; (with_reducible refine (BA.out _ S2.out.below).mono ?_); rintro e' w3 ⟨rfl, hb⟩; have S3 := Lib.hid (S2.out.on hb); clear hb BA hlt f0 f1 f2 f3 f4 f5 f6 f7 dlt d0 d1 d2; obtain ⟨hlt, f0, f1, f2, f3, f4, f5, f6, f7⟩ := S3.out.ask.facts; obtain ⟨dlt, d0, d1, d2, _, _, _⟩ := S3.out.deps.facts)
    | (go_at_call 17; (with_reducible refine (BD.out _ S3.out.below).mono ?_); rintro e' w4 ⟨rfl, hb⟩; have S4 := Lib.hid (S3.out.on hb); clear hb BD hlt f0 f1 f2 f3 f4 f5 f6 f7 dlt d0 d1 d2; obtain ⟨hlt, f0, f1, f2, f3, f4, f5, f6, f7⟩ := S4.out.ask.facts; obtain ⟨dlt, d0, d1, d2, _, _, _⟩ := S4.out.deps.facts))
  go_ret
  exact ⟨rfl, S4.out.below⟩
set_option maxRecDepth 100000 in
set_option maxHeartbeats 8000000 in
theorem skip_badY (hart pos found : Int) (q : Aq) (a1 a2 a3 : Option Addr) (c1 c2 c3 : Nat) (al dl yl : List Int) (w : World) (hT : TabB w) (hfit : Fit hart pos found q)
    (hr : ReadsI w (.slice a1 al.length c1) al ∧ ReadsI w (.slice a2 dl.length c2) dl ∧ ReadsI w (.slice a3 yl.length c3) yl) (na : al.length ≤ 60) (nd : dl.length ≤ 60) (ny : yl.length ≤ 60) (hk : 1 ≤ q.kind ∧ q.kind ≤ 6) (h8 : q.addr % 8 = 0) (hBA : aheadB (1 + pickI pos 1000) al = true) (hBD : aheadB (1 + pickI pos 1000) dl = true) (hBY : aheadB (1 + pickI pos 1000) yl = false) :
    Calls Tryd.prog 4 #[.int .i64 hart, .int .i64 pos, q.V, .int .u64 found, .agg #[.slice a1 al.length c1, .slice a2 dl.length c2, .slice a3 yl.length c3]] w fun e w' => SameOk w true e w' := by
  have S0 := Lib.hid (Ms.start q (.slice a1 al.length c1) (.slice a2 dl.length c2) (.slice a3 yl.length c3) al dl yl w hr)
  have HT := Lib.hid hT
  have hu0 := hfit.ok.1
  obtain ⟨H, hH⟩ : ∃ H, Hid (pickI hart 8 = H) := ⟨_, Lib.hid rfl⟩
  obtain ⟨p, hp⟩ : ∃ p, Hid (pickI pos 1000 = p) := ⟨_, Lib.hid rfl⟩
  have hp1000 : 0 ≤ p ∧ p < 1000 := by rw [← hp.out]; exact pickI_lt _ _ (by omega)
  obtain ⟨P, hP⟩ : ∃ P, Hid (1 + p = P) := ⟨_, Lib.hid rfl⟩
  have KH := Lib.hid (fun w0 => Pick_fit hart hfit.h 8 (by omega) w0)
  have KP := Lib.hid (fun w0 => Pick_fit pos hfit.p 1000 (by omega) w0)
  rw [hH.out] at KH
  rw [hp.out] at KP
  have HL : Hid (∀ w0, Calls Tryd.prog 16 #[.agg #[.slice a1 al.length c1, .slice a2 dl.length c2, .slice a3 yl.length c3], .int .i64 60] w0 fun e w' => SameOk w0 true e w') := Lib.hid (fun w0 => by
    have := light_any a1 a2 a3 al.length dl.length yl.length c1 c2 c3 60 w0
    rw [decide_eq_true na, decide_eq_true nd, decide_eq_true ny] at this
    exact this)
  have hk1 := hk.1
  have hk2 := hk.2
  clear hk
  have h8' : (q.addr % 8 != 0) = false := by simpa using h8
  clear h8
  have BA := Lib.hid (fun w0 (hb : Below w.heap.size w w0) => belowL_any (.slice a1 al.length c1) al P w0 (hr.1.below hb) (by omega))
  rw [hp.out, hP.out] at hBA
  rw [hBA] at BA
  clear hBA
  have BD := Lib.hid (fun w0 (hb : Below w.heap.size w w0) => belowL_any (.slice a2 dl.length c2) dl P w0 (hr.2.1.below hb) (by omega))
  rw [hp.out, hP.out] at hBD
  rw [hBD] at BD
  clear hBD
  have BY := Lib.hid (fun w0 (hb : Below w.heap.size w w0) => belowL_any (.slice a3 yl.length c3) yl P w0 (hr.2.2.below hb) (by omega))
  rw [hp.out, hP.out] at hBY
  rw [hBY] at BY
  clear hBY
  clear na nd ny
  clear hr hT hfit
  go_enter Tryd.func4, Tryd.ntmps4
  go_upto_region 1 with fail
  obtain ⟨W, hW⟩ : ∃ W, Hid (((w.alloc (.cells #[.int .i64 q.kind, .int .u64 q.addr, .int .u64 q.val, .int .i64 q.op, .bool q.aq, .bool q.rl, .int .i64 q.pred, .int .i64 q.succ] 32)).alloc (.cells #[.slice a1 al.length c1, .slice a2 dl.length c2, .slice a3 yl.length c3] 25)) = W) := ⟨_, Lib.hid rfl⟩
  rw [hW.out] at S0 ⊢
  clear hW
  go_upto_region 3 with (go_at_call 7; (with_reducible refine (lives_any _ (HT.out.on S0.out.below)).mono ?_); rintro e' w1 ⟨rfl, hb⟩; have S1 := Lib.hid (S0.out.on hb); clear hb)
  go_upto_region 4 with (first
    | (go_at_call 15; (with_reducible refine (KH.out _).mono ?_); rintro e' w2 ⟨rfl, rfl⟩)
    | (go_at_call 15; (with_reducible refine (KP.out _).mono ?_); rintro e' w2 ⟨rfl, rfl⟩))
  rw [hP.out]
  obtain ⟨hlt, f0, f1, f2, f3, f4, f5, f6, f7⟩ := S1.out.ask.facts
  obtain ⟨dlt, d0, d1, d2, _, _, _⟩ := S1.out.deps.facts
  go_wp2_with (first
    | (go_at_call 16; (with_reducible refine (HL.out _).mono ?_); rintro e' w2 ⟨rfl, hb⟩; have S2 := Lib.hid (S1.out.on hb); clear hb hlt f0 f1 f2 f3 f4 f5 f6 f7 dlt d0 d1 d2; obtain ⟨hlt, f0, f1, f2, f3, f4, f5, f6, f7⟩ := S2.out.ask.facts; obtain ⟨dlt, d0, d1, d2, _, _, _⟩ := S2.out.deps.facts)
    | (go_at_call 17; (with_reducible refine (BA.out _ S2.out.below).mono ?_); rintro e' w3 ⟨rfl, hb⟩; have S3 := Lib.hid (S2.out.on hb); clear hb BA hlt f0 f1 f2 f3 f4 f5 f6 f7 dlt d0 d1 d2; obtain ⟨hlt, f0, f1, f2, f3, f4, f5, f6, f7⟩ := S3.out.ask.facts; obtain ⟨dlt, d0, d1, d2, _, _, _⟩ := S3.out.deps.facts)
    | (go_at_call 17; (with_reducible refine (BD.out _ S3.out.below).mono ?_); rintro e' w4 ⟨rfl, hb⟩; have S4 := Lib.hid (S3.out.on hb); clear hb BD hlt f0 f1 f2 f3 f4 f5 f6 f7 dlt d0 d1 d2; obtain ⟨hlt, f0, f1, f2, f3, f4, f5, f6, f7⟩ := S4.out.ask.facts; obtain ⟨dlt, d0, d1, d2, _, _, _⟩ := S4.out.deps.facts)
    | (go_at_call 17; (with_reducible refine (BY.out _ S4.out.below).mono ?_); rintro e' w5 ⟨rfl, hb⟩; have S5 := Lib.hid (S4.out.on hb); clear hb BY hlt f0 f1 f2 f3 f4 f5 f6 f7 dlt d0 d1 d2; obtain ⟨hlt, f0, f1, f2, f3, f4, f5, f6, f7⟩ := S5.out.ask.facts; obtain ⟨dlt, d0, d1, d2, _, _, _⟩ := S5.out.deps.facts))
  go_ret
  exact ⟨rfl, S5.out.below⟩
end Go.Proofs.YtjdfhohchicgbaaDoor
