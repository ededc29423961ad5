/-
  Proved here: event's Of answers the event that an ask makes, or ErrArg; nothing that was there is changed. Condition: numbers of 64 bits; lists of at most 100,000 numbers.
-/
import Derived.Test.YtjdfhohchicgbaaDoorEvMadeMore
import Derived.Test.YtjdfhohchicgbaaDoorEvDeps
import Derived.Deep.CutBlock
namespace Go.Proofs.YtjdfhohchicgbaaDoor
open Go.RowKit
attribute [local go_sem ↓] fold_E fold_SE

def LoadA (x : Value) : Sem Value := Instr.loadAt 32 x
theorem fold_A (x : Value) : Instr.loadAt 32 x = LoadA x := rfl
attribute [local go_sem ↓] fold_A
theorem run_LoadA {q : Aq} {n : Nat} {w : World} (H : AskAt q n w) : (LoadA (.pointer (some ⟨n, 0, none⟩))).run Tryd.prog w = .ok q.V w := by
  unfold LoadA Instr.loadAt Instr.sureAddr
  simp only [Sem.run_bind, Sem.run_pure, Result.andThen_ok, run_loadVar_row w n _ 32 _ (0, 0) _ H Tryd.underlying32 rfl (by as_aux_lemma => kernel_rfl)]
/-- the boxes of a call of Of: the ask, the deps, the result, nought as yet -/
structure Of3 (q : Aq) (va vd vy : Value) (al dl yl : List Int) (w W : World) : Prop where
  ask : AskAt q w.heap.size W
  deps : DAt va vd vy (w.heap.size + 1) W
  out : EvAt zeroEv (w.heap.size + 2) W
  below : Below w.heap.size w W
  here : ReadsI w va al ∧ ReadsI w vd dl ∧ ReadsI w vy yl
theorem Of3.on {q : Aq} {va vd vy : Value} {al dl yl : List Int} {w W W2 : World} (h : Of3 q va vd vy al dl yl w W) (hb : Below W.heap.size W W2) : Of3 q va vd vy al dl yl w W2 :=
  ⟨h.ask.on hb, h.deps.on hb, h.out.on hb, h.below.trans (hb.mono h.below.size), h.here⟩
theorem Of3.start (q : Aq) (va vd vy : Value) (al dl yl : List Int) (w : World) (h : ReadsI w va al ∧ ReadsI w vd dl ∧ ReadsI w vy yl) : Of3 q va vd vy al dl yl w (((w.alloc (.cells #[.int .i64 q.kind, .int .u64 q.addr, .int .u64 q.val, .int .i64 q.op, .bool q.aq, .bool q.rl, .int .i64 q.pred, .int .i64 q.succ] 32)).alloc (.cells #[va, vd, vy] 25)).alloc (.cells #[.int .i64 0, .int .i64 0, .int .i64 0, .int .u64 0, .int .u64 0, .int .u64 0, .bool false, .bool false, .int .i64 0, .int .i64 0, .int .i64 0, .slice none 0 0, .slice none 0 0, .slice none 0 0] 27)) := by
  have D1 := DAt.new va vd vy (w.alloc (.cells #[.int .i64 q.kind, .int .u64 q.addr, .int .u64 q.val, .int .i64 q.op, .bool q.aq, .bool q.rl, .int .i64 q.pred, .int .i64 q.succ] 32))
  have D2 := EvAt.new zeroEv ((w.alloc (.cells #[.int .i64 q.kind, .int .u64 q.addr, .int .u64 q.val, .int .i64 q.op, .bool q.aq, .bool q.rl, .int .i64 q.pred, .int .i64 q.succ] 32)).alloc (.cells #[va, vd, vy] 25))
  simp only [World.size_alloc] at D1 D2
  exact ⟨(AskAt.new q w).on (two_below _ _ _), D1.alloc _, D2, (box_below w _).trans ((two_below _ _ _).mono (by simp)), h⟩
/-- Of's own event, in its box -/
structure Oe (q : Aq) (va vd vy : Value) (al dl yl : List Int) (e : Ev) (g : Nat) (w W : World) : Prop where
  boxes : Of3 q va vd vy al dl yl w W
  own : EvAt e g W
  far : w.heap.size + 2 < g
theorem Oe.on {q : Aq} {va vd vy : Value} {al dl yl : List Int} {e : Ev} {g : Nat} {w W W2 : World} (h : Oe q va vd vy al dl yl e g w W) (hb : Below W.heap.size W W2) : Oe q va vd vy al dl yl e g w W2 := ⟨h.boxes.on hb, h.own.on hb, h.far⟩
theorem Oe.under {q : Aq} {va vd vy : Value} {al dl yl : List Int} {e e2 : Ev} {g : Nat} {w W W2 : World} (h : Oe q va vd vy al dl yl e g w W) (hb : Below g W W2) (he : EvAt e2 g W2) : Oe q va vd vy al dl yl e2 g w W2 :=
  ⟨⟨h.boxes.ask.below hb (by have := h.far; omega), h.boxes.deps.below hb (by have := h.far; omega), h.boxes.out.below hb h.far, h.boxes.below.trans (hb.mono (by have := h.far; omega)), h.boxes.here⟩, he, h.far⟩
theorem Oe.set {q : Aq} {va vd vy : Value} {al dl yl : List Int} {e e2 : Ev} {g k : Nat} {v : Value} {w W : World} (h : Oe q va vd vy al dl yl e g w W) (he : EvAt e2 g (W.setCell ⟨g, k, none⟩ v)) : Oe q va vd vy al dl yl e2 g w (W.setCell ⟨g, k, none⟩ v) :=
  h.under ((Below.refl _ _).setCell (p := ⟨g, k, none⟩) (Nat.le_refl _) v) he
theorem ReadsN.far {n g k : Nat} {w : World} {v : Value} {zs : List Int} (h : ReadsN n w v zs) (x : Value) (hg : g < n) : ReadsN n (w.setCell ⟨g, k, none⟩ x) v zs :=
  ⟨h.1.set g k x (fun e => absurd (h.2 g e) (by omega)), h.2⟩
/-- what reads from above block n reads so still where block n alone was written -/
theorem reads_but {n m B : Nat} {W w9 : World} {v : Value} {zs : List Int} (hv : ReadsN B W v zs) (hn : n < B) (hm : m ≤ B) (ho : ∀ j, j ≠ n → w9.heap[j]? = W.heap[j]?) (hz : w9.heap.size = W.heap.size) : ReadsN m w9 v zs := by
  refine ⟨?_, fun k hk => by have := hv.2 k hk; omega⟩
  rcases hv.1 with h0 | ⟨b, off, c, e, h2, h3, h4, h5⟩
  · exact .inl h0
  · subst e
    have hbn := hv.2 b rfl
    refine .inr ⟨b, off, c, rfl, h2, h3, by omega, fun j hj => ?_⟩
    rw [← h5 j hj]
    exact World.cell?_of_block (ho b (by omega))
/-- what Of answers -/
def OfIs (w : World) (e : Ev) (l : El) (e' : Ending) (w' : World) : Prop := ∃ a d y, e' = .returned (.tuple #[(⟨e.hart, e.pos, e.kind, e.addr, e.load, e.store, e.aq, e.rl, e.pred, e.succ, e.pair, a, d, y⟩ : Ev).V, .int .i64 0]) ∧ DepsN w.heap.size w' a d y l.a l.d l.y ∧ Below w.heap.size w w'
/-- an ask that makes none -/
theorem Of_none (hart pos found pair : Int) (q : Aq) (va vd vy : Value) (al dl yl : List Int) (w : World) (hr : ReadsI w va al ∧ ReadsI w vd dl ∧ ReadsI w vy yl) (hm : ∀ w, Calls Tryd.prog 24 #[q.V, .int .u64 found] w fun e' w' => MadeIs w zeroEv 2 e' w') :
    Calls Tryd.prog 6 #[.int .i64 hart, .int .i64 pos, q.V, .int .u64 found, .int .i64 pair, .agg #[va, vd, vy]] w fun e' w' => MadeIs w zeroEv 2 e' w' := by
  have HM := Lib.hid hm
  have S0 := Lib.hid (Of3.start q va vd vy al dl yl w hr)
  clear hm hr
  go_enter Tryd.func6, Tryd.ntmps6
  go_upto_region 1 with fail
  obtain ⟨W, hW⟩ : ∃ W, Hid ((((w.alloc (.cells #[.int .i64 q.kind, .int .u64 q.addr, .int .u64 q.val, .int .i64 q.op, .bool q.aq, .bool q.rl, .int .i64 q.pred, .int .i64 q.succ] 32)).alloc (.cells #[va, vd, vy] 25)).alloc (.cells #[.int .i64 0, .int .i64 0, .int .i64 0, .int .u64 0, .int .u64 0, .int .u64 0, .bool false, .bool false, .int .i64 0, .int .i64 0, .int .i64 0, .slice none 0 0, .slice none 0 0, .slice none 0 0] 27)) = W) := ⟨_, Lib.hid rfl⟩
  rw [hW.out] at S0 ⊢
  clear hW
  have cl := run_LoadA S0.out.ask
  go_wp2_with (first
    | (go_at_call 24; (with_reducible refine (HM.out _).mono ?_); rintro e' w1 ⟨rfl, hb⟩; have S1 := Lib.hid (S0.out.on hb); clear hb cl)
    | (refine store_ev (EvAt.new zeroEv w1) zeroEv zeroEv_flat rfl (.tmp 14) (.tmp 22) rfl rfl rfl ?_; intro w2 D2 ho2 hb2 hz2; have S2 := Lib.hid (S1.out.on ((box_below w1 _).trans hb2)); clear D2 ho2 hb2 hz2)
    | (refine store_ev S2.out.out zeroEv zeroEv_flat rfl (.tmp 12) (.tmp 26) rfl rfl rfl ?_; intro w3 D3 ho3 hb3 hz3))
  refine bodyPost_ret (made_end rfl rfl rfl D3) rfl ⟨rfl, S2.out.below.trans (hb3.mono (by omega))⟩
set_option maxRecDepth 100000 in
set_option maxHeartbeats 8000000 in
theorem Of_any (hart pos found pair : Int) (q : Aq) (va vd vy : Value) (al dl yl : List Int) (e0 : Ev) (w : World) (hr : ReadsI w va al ∧ ReadsI w vd dl ∧ ReadsI w vy yl) (na : al.length ≤ 100000) (nd : dl.length ≤ 100000) (ny : yl.length ≤ 100000)
    (hm : ∀ w, Calls Tryd.prog 24 #[q.V, .int .u64 found] w fun e' w' => MadeIs w e0 0 e' w') (h0 : e0.a = .slice none 0 0 ∧ e0.d = .slice none 0 0 ∧ e0.y = .slice none 0 0) (hu : 0 ≤ e0.addr) (F : Nat) (hF : Hid (fieldsOf e0.kind = F))
    (bp : Bool) (hbp : Hid (hasB F 1024 = bp)) (b : Bool)
    (hb : Hid (chkE (⟨hart, pos, e0.kind, e0.addr, e0.load, e0.store, e0.aq, e0.rl, e0.pred, e0.succ, if bp then pair else e0.pair, .slice none 0 0, .slice none 0 0, .slice none 0 0⟩ : Ev) ⟨if hasB F 2048 then al else [], if hasB F 4096 then dl else [], if hasB F 8192 then yl else []⟩ = b)) :
    Calls Tryd.prog 6 #[.int .i64 hart, .int .i64 pos, q.V, .int .u64 found, .int .i64 pair, .agg #[va, vd, vy]] w fun e' w' =>
      if b = true then OfIs w (⟨hart, pos, e0.kind, e0.addr, e0.load, e0.store, e0.aq, e0.rl, e0.pred, e0.succ, if bp then pair else e0.pair, .slice none 0 0, .slice none 0 0, .slice none 0 0⟩ : Ev) ⟨if hasB F 2048 then al else [], if hasB F 4096 then dl else [], if hasB F 8192 then yl else []⟩ e' w' else MadeIs w zeroEv 2 e' w' := by
  have HM := Lib.hid hm
  have S0 := Lib.hid (Of3.start q va vd vy al dl yl w hr)
  have hFlt : F < 65536 := by rw [← hF.out]; exact fieldsOf_lt _
  have HP : Hid (∀ w, Calls Tryd.prog 26 #[.int .u16 (F : Int), .int .u16 1024] w fun e w' => e = .returned (.bool (hasB F 1024)) ∧ w = w') := Lib.hid (fun w => has_any F 1024 hFlt (by omega) w)
  rw [hbp.out] at HP
  have HK := Lib.hid (look_any e0.kind)
  unfold FieldsAre at HK
  rw [hF.out] at HK
  have KP := Lib.hid (fun w0 (hb : Below w.heap.size w w0) => kept_any F hFlt va vd vy al dl yl w0 (hr.1.below hb) (hr.2.1.below hb) (hr.2.2.below hb) na nd ny)
  obtain ⟨l, hl⟩ : ∃ l : El, Hid ((⟨if hasB F 2048 then al else [], if hasB F 4096 then dl else [], if hasB F 8192 then yl else []⟩ : El) = l) := ⟨_, Lib.hid rfl⟩
  have hln : l.n := by
    rw [← hl.out]
    refine ⟨?_, ?_, ?_⟩ <;> (show List.length (if _ then _ else _) ≤ _; split <;> simp [*])
  have KP2 : Hid (∀ w0, Below w.heap.size w w0 → Calls Tryd.prog 27 #[.int .u16 (F : Int), .agg #[va, vd, vy]] w0 fun e w' => DepsOk w0 l.a l.d l.y e w') := Lib.hid (fun w0 hb => by rw [← hl.out]; exact KP.out w0 hb)
  rw [hl.out] at hb ⊢
  obtain ⟨pr, hpr⟩ : ∃ pr, Hid ((if bp then pair else e0.pair) = pr) := ⟨_, Lib.hid rfl⟩
  rw [hpr.out] at hb ⊢
  have e0V : e0.V = .agg #[.int .i64 e0.hart, .int .i64 e0.pos, .int .i64 e0.kind, .int .u64 e0.addr, .int .u64 e0.load, .int .u64 e0.store, .bool e0.aq, .bool e0.rl, .int .i64 e0.pred, .int .i64 e0.succ, .int .i64 e0.pair, .slice none 0 0, .slice none 0 0, .slice none 0 0] := by
    simp only [Ev.V]; rw [h0.1, h0.2.1, h0.2.2]
  have E0 := Lib.hid e0V
  clear hm hr h0 KP hl hbp hF na nd ny e0V
  go_enter Tryd.func6, Tryd.ntmps6
  go_upto_region 1 with fail
  obtain ⟨W, hW⟩ : ∃ W, Hid ((((w.alloc (.cells #[.int .i64 q.kind, .int .u64 q.addr, .int .u64 q.val, .int .i64 q.op, .bool q.aq, .bool q.rl, .int .i64 q.pred, .int .i64 q.succ] 32)).alloc (.cells #[va, vd, vy] 25)).alloc (.cells #[.int .i64 0, .int .i64 0, .int .i64 0, .int .u64 0, .int .u64 0, .int .u64 0, .bool false, .bool false, .int .i64 0, .int .i64 0, .int .i64 0, .slice none 0 0, .slice none 0 0, .slice none 0 0] 27)) = W) := ⟨_, Lib.hid rfl⟩
  rw [hW.out] at S0 ⊢
  clear hW
  have cl := run_LoadA S0.out.ask
  go_upto_region 4 with (first
    | (go_at_call 24; (with_reducible refine (HM.out _).mono ?_); rintro e' w1 ⟨rfl, hb⟩; have S1 := Lib.hid (S0.out.on hb); clear hb cl)
    | (refine store_ev (EvAt.new zeroEv w1) ⟨e0.hart, e0.pos, e0.kind, e0.addr, e0.load, e0.store, e0.aq, e0.rl, e0.pred, e0.succ, e0.pair, .slice none 0 0, .slice none 0 0, .slice none 0 0⟩ ⟨rfl, rfl, rfl⟩ rfl (.tmp 14) (.tmp 22) rfl rfl E0.out ?_; intro w2 D2 ho2 hb2 hz2; have S2 : Hid (Oe q va vd vy al dl yl ⟨e0.hart, e0.pos, e0.kind, e0.addr, e0.load, e0.store, e0.aq, e0.rl, e0.pred, e0.succ, e0.pair, .slice none 0 0, .slice none 0 0, .slice none 0 0⟩ w1.heap.size w w2) := Lib.hid ⟨S1.out.on ((box_below w1 _).trans hb2), D2, by have := S1.out.out.lt; omega⟩; clear D2 ho2 hb2 hz2))
  obtain ⟨glt, g0, g1, _⟩ := S2.out.own.facts
  have z0 := S2.out.own.free 0
  have z1 := S2.out.own.free 1
  go_upto_region 5 with fail
  obtain ⟨V, hV⟩ : ∃ V, Hid ((w2.setCell ⟨w1.heap.size, 0, none⟩ (.int .i64 hart)).setCell ⟨w1.heap.size, 1, none⟩ (.int .i64 pos) = V) := ⟨_, Lib.hid rfl⟩
  have S3 : Hid (Oe q va vd vy al dl yl ⟨hart, pos, e0.kind, e0.addr, e0.load, e0.store, e0.aq, e0.rl, e0.pred, e0.succ, e0.pair, .slice none 0 0, .slice none 0 0, .slice none 0 0⟩ w1.heap.size w V) := Lib.hid (by
    rw [← hV.out]
    have Q1 : Oe q va vd vy al dl yl ⟨hart, e0.pos, e0.kind, e0.addr, e0.load, e0.store, e0.aq, e0.rl, e0.pred, e0.succ, e0.pair, .slice none 0 0, .slice none 0 0, .slice none 0 0⟩ w1.heap.size w (w2.setCell ⟨w1.heap.size, 0, none⟩ (.int .i64 hart)) := S2.out.set (S2.out.own.setc 0 (.int .i64 hart))
    exact Q1.set (Q1.own.setc 1 (.int .i64 pos)))
  rw [hV.out]
  clear hV glt g0 g1 z0 z1
  obtain ⟨glt, g0, g1, g2, _⟩ := S3.out.own.facts
  go_upto_region 6 with (go_at_call 25; (with_reducible refine (HK.out _).mono ?_); rintro e' w3 ⟨rfl, hb⟩; have S4 := Lib.hid (S3.out.on hb); clear hb glt g0 g1 g2)
  obtain ⟨glt, g0, g1, g2, g3, g4, g5, g6, g7, g8, g9, g10, _⟩ := S4.out.own.facts
  have z10 := S4.out.own.free 10
  have hS5 : Hid (bp = true → Oe q va vd vy al dl yl ⟨hart, pos, e0.kind, e0.addr, e0.load, e0.store, e0.aq, e0.rl, e0.pred, e0.succ, pr, .slice none 0 0, .slice none 0 0, .slice none 0 0⟩ w1.heap.size w (w3.setCell ⟨w1.heap.size, 10, none⟩ (.int .i64 pair))) := Lib.hid (fun hb => by
    rw [← hpr.out, if_pos hb]
    exact S4.out.set (S4.out.own.setc 10 (.int .i64 pair)))
  have hS6 : Hid (bp = false → Oe q va vd vy al dl yl ⟨hart, pos, e0.kind, e0.addr, e0.load, e0.store, e0.aq, e0.rl, e0.pred, e0.succ, pr, .slice none 0 0, .slice none 0 0, .slice none 0 0⟩ w1.heap.size w w3) := Lib.hid (fun hb => by
    rw [← hpr.out, if_neg (by rw [hb]; decide)]
    exact S4.out)
  have hchk : Hid (∀ a d y, chkE (⟨hart, pos, e0.kind, e0.addr, e0.load, e0.store, e0.aq, e0.rl, e0.pred, e0.succ, pr, a, d, y⟩ : Ev) l = b) := Lib.hid (fun a d y => hb.out)
  clear hb
  cases bp
  all_goals
    have S5a := Lib.hid (by first | exact hS5.out rfl | exact hS6.out rfl)
    clear hS5 hS6
    go_upto_region 8 with (go_at_call 26; (with_reducible refine (HP.out _).mono ?_); rintro e' w4 ⟨rfl, rfl⟩)
    go_name_world X hX
    have S5 : Hid (Oe q va vd vy al dl yl ⟨hart, pos, e0.kind, e0.addr, e0.load, e0.store, e0.aq, e0.rl, e0.pred, e0.succ, pr, .slice none 0 0, .slice none 0 0, .slice none 0 0⟩ w1.heap.size w X) := Lib.hid (by rw [← hX]; exact S5a.out)
    clear hX S5a glt g0 g1 g2 g3 g4 g5 g6 g7 g8 g9 g10 z10
    obtain ⟨dlt, d0, d1, d2, _, _, _⟩ := S5.out.boxes.deps.facts
    go_upto_region 9 with (go_at_call 27; (with_reducible refine (KP2.out _ S5.out.boxes.below).mono ?_); rintro e' w5 ⟨ka, kd, ky, rfl, hd, hb5⟩; obtain ⟨a1, c1, rfl⟩ := hd.1.1.len; obtain ⟨a2, c2, rfl⟩ := hd.2.1.1.len; obtain ⟨a3, c3, rfl⟩ := hd.2.2.1.len; have S6 := Lib.hid (S5.out.on hb5); have D6 := Lib.hid hd; clear hd hb5 dlt d0 d1 d2; obtain ⟨glt, g0, g1, g2, g3, g4, g5, g6, g7, g8, g9, g10, g11, g12, g13⟩ := S6.out.own.facts; have z11 := S6.out.own.free 11; have z12 := S6.out.own.free 12; have z13 := S6.out.own.free 13)
    obtain ⟨Y, hY⟩ : ∃ Y, Hid (((w5.setCell ⟨w1.heap.size, 11, none⟩ (.slice a1 l.a.length c1)).setCell ⟨w1.heap.size, 12, none⟩ (.slice a2 l.d.length c2)).setCell ⟨w1.heap.size, 13, none⟩ (.slice a3 l.y.length c3) = Y) := ⟨_, Lib.hid rfl⟩
    have hgX := S5.out.own.lt
    have S7 : Hid (Oe q va vd vy al dl yl (⟨hart, pos, e0.kind, e0.addr, e0.load, e0.store, e0.aq, e0.rl, e0.pred, e0.succ, pr, .slice a1 l.a.length c1, .slice a2 l.d.length c2, .slice a3 l.y.length c3⟩ : Ev) w1.heap.size w Y) := Lib.hid (by
      rw [← hY.out]
      have Q1 : Oe q va vd vy al dl yl ⟨hart, pos, e0.kind, e0.addr, e0.load, e0.store, e0.aq, e0.rl, e0.pred, e0.succ, pr, .slice a1 l.a.length c1, .slice none 0 0, .slice none 0 0⟩ w1.heap.size w (w5.setCell ⟨w1.heap.size, 11, none⟩ (.slice a1 l.a.length c1)) := S6.out.set (S6.out.own.setc 11 (.slice a1 l.a.length c1))
      have Q2 : Oe q va vd vy al dl yl ⟨hart, pos, e0.kind, e0.addr, e0.load, e0.store, e0.aq, e0.rl, e0.pred, e0.succ, pr, .slice a1 l.a.length c1, .slice a2 l.d.length c2, .slice none 0 0⟩ w1.heap.size w ((w5.setCell ⟨w1.heap.size, 11, none⟩ (.slice a1 l.a.length c1)).setCell ⟨w1.heap.size, 12, none⟩ (.slice a2 l.d.length c2)) := Q1.set (Q1.own.setc 12 (.slice a2 l.d.length c2))
      exact Q2.set (Q2.own.setc 13 (.slice a3 l.y.length c3)))
    have D7 : Hid (DepsN X.heap.size Y (.slice a1 l.a.length c1) (.slice a2 l.d.length c2) (.slice a3 l.y.length c3) l.a l.d l.y) := Lib.hid (by
      rw [← hY.out]
      exact ⟨((D6.out.1.far _ hgX).far _ hgX).far _ hgX, ((D6.out.2.1.far _ hgX).far _ hgX).far _ hgX, ((D6.out.2.2.far _ hgX).far _ hgX).far _ hgX⟩)
    rw [hY.out]
    clear hY glt g0 g1 g2 g3 g4 g5 g6 g7 g8 g9 g10 g11 g12 g13 z11 z12 z13
    have cl := run_LoadE S7.out.own
    have CK := Lib.hid (check_any (⟨hart, pos, e0.kind, e0.addr, e0.load, e0.store, e0.aq, e0.rl, e0.pred, e0.succ, pr, .slice a1 l.a.length c1, .slice a2 l.d.length c2, .slice a3 l.y.length c3⟩ : Ev) l Y ⟨D7.out.1.1, D7.out.2.1.1, D7.out.2.2.1⟩ hln hu)
    rw [hchk.out] at CK
    cases b with
    | false =>
      go_wp2_with (first
        | (go_at_call 13; (with_reducible refine (CK.out).mono ?_); rintro e' w6 ⟨rfl, hb6⟩; have S8 := Lib.hid (S7.out.on hb6); clear hb6 cl)
        | (refine store_ev S8.out.boxes.out zeroEv zeroEv_flat rfl (.tmp 12) (.tmp 47) rfl rfl rfl ?_; intro w7 D8 ho8 hb8 hz8))
      refine bodyPost_ret (made_end rfl rfl rfl D8) rfl ⟨rfl, S8.out.boxes.below.trans (hb8.mono (by omega))⟩
    | true =>
      go_wp2_with (first
        | (go_at_call 13; (with_reducible refine (CK.out).mono ?_); rintro e' w6 ⟨rfl, hb6⟩; have S8 := Lib.hid (S7.out.on hb6); have D8 := Lib.hid (show DepsN X.heap.size w6 _ _ _ l.a l.d l.y from ⟨D7.out.1.on hb6, D7.out.2.1.on hb6, D7.out.2.2.on hb6⟩); clear hb6 cl; have cl := run_LoadE S8.out.own)
        | (refine store_ev S8.out.boxes.out (⟨hart, pos, e0.kind, e0.addr, e0.load, e0.store, e0.aq, e0.rl, e0.pred, e0.succ, pr, .slice a1 l.a.length c1, .slice a2 l.d.length c2, .slice a3 l.y.length c3⟩ : Ev) ⟨rfl, rfl, rfl⟩ rfl (.tmp 12) (.tmp 49) rfl rfl rfl ?_; intro w7 D9 ho9 hb9 hz9))
      have hfar := S5.out.far
      exact bodyPost_ret (made_end rfl rfl rfl D9) rfl ⟨_, _, _, rfl, ⟨reads_but D8.out.1 (by omega) (by omega) ho9 hz9, reads_but D8.out.2.1 (by omega) (by omega) ho9 hz9, reads_but D8.out.2.2 (by omega) (by omega) ho9 hz9⟩, S8.out.boxes.below.trans (hb9.mono (by omega))⟩
end Go.Proofs.YtjdfhohchicgbaaDoor
