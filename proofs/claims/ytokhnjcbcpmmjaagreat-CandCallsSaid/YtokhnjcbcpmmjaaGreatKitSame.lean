/-
  Proved here: the kit's Same of ints, Deps and Event tell whether two are the same; nothing that was there is changed. Condition: lists of at most 100,000 numbers.
-/
import Derived.Test.YtokhnjcbcpmmjaaGreatRf07Pure
import Derived.Test.YtokhnjcbcpmmjaaGreatEvMakesWords
import Derived.Test.YtokhnjcbcpmmjaaGreatEvRowsArg
import Derived.Test.YtokhnjcbcpmmjaaGreatCdSame
import Derived.Deep.RegionHeld3
namespace Go.Proofs.YtokhnjcbcpmmjaaGreat
set_option linter.unusedVariables false
set_option linter.unusedSimpArgs false
open Go.RowKit
attribute [local go_sem ↓] fold_E fold_SE
attribute [local irreducible] wpStill

set_option maxRecDepth 100000 in
set_option maxHeartbeats 4000000 in
theorem deps_any (a d y a2 d2 y2 : Value) (al dl yl al2 dl2 yl2 : List Int) (w : World) (ha : ReadsI w a al) (hd : ReadsI w d dl) (hy : ReadsI w y yl) (ha2 : ReadsI w a2 al2) (hd2 : ReadsI w d2 dl2) (hy2 : ReadsI w y2 yl2) (na : al.length ≤ 100000) (nd : dl.length ≤ 100000) (ny : yl.length ≤ 100000) :
    Calls Tryz.prog 61 #[.agg #[a, d, y], .agg #[a2, d2, y2]] w fun e w' => SameOk w (depsB al dl yl al2 dl2 yl2) e w' := by
  unfold depsB
  obtain ⟨r1, G1⟩ : ∃ r, Hid (decide (al = al2) = r) := ⟨_, Lib.hid rfl⟩
  obtain ⟨r2, G2⟩ : ∃ r, Hid (decide (dl = dl2) = r) := ⟨_, Lib.hid rfl⟩
  rw [G1.out, G2.out]
  obtain ⟨b1, b2, b3⟩ := deps_boxes a d y a2 d2 y2 w
  have B1 := Lib.hid b1
  have B2 := Lib.hid b2
  have B3 := Lib.hid b3
  clear b1 b2 b3
  have HA := Lib.hid (fun (w0 : World) (b : Below w.heap.size w w0) (r : Bool) (hr : decide (al = al2) = r) => same_b a a2 al al2 r hr w0 (ha.below b) (ha2.below b) na)
  have HD := Lib.hid (fun (w0 : World) (b : Below w.heap.size w w0) (r : Bool) (hr : decide (dl = dl2) = r) => same_b d d2 dl dl2 r hr w0 (hd.below b) (hd2.below b) nd)
  have HY := Lib.hid (fun (w0 : World) (b : Below w.heap.size w w0) (r : Bool) (hr : decide (yl = yl2) = r) => same_b y y2 yl yl2 r hr w0 (hy.below b) (hy2.below b) ny)
  clear ha hd hy ha2 hd2 hy2
  go_enter Tryz.func61, Tryz.ntmps61
  go_upto_region 1 with fail
  obtain ⟨W, HW⟩ : ∃ W, Hid ((w.alloc (.cells #[a, d, y] 58)).alloc (.cells #[a2, d2, y2] 58) = W) := ⟨_, Lib.hid rfl⟩
  rw [HW.out] at B1 B2 B3 ⊢
  obtain ⟨z, c0, c1, c2, _, _, _⟩ := B1.out.facts
  obtain ⟨z2, e0, e1, e2, _, _, _⟩ := B2.out.facts
  cases r1 with
  | false =>
    go_wp2_with (go_at_call 14; (with_reducible refine (HA.out _ B3.out _ G1.out).mono ?_); rintro e w1 ⟨rfl, hb1⟩; have K1 := Lib.hid (B3.out.trans (hb1.mono B3.out.size)); clear hb1)
    go_ret
    exact ⟨rfl, K1.out⟩
  | true =>
    cases r2 with
    | false =>
      go_wp2_with (first
        | (go_at_call 14; (with_reducible refine (HA.out _ B3.out _ G1.out).mono ?_); rintro e w1 ⟨rfl, hb1⟩; clear HA z c0 c1 c2 z2 e0 e1 e2; have K1 := Lib.hid (B3.out.trans (hb1.mono B3.out.size)); have B11 := Lib.hid (B1.out.below hb1 B1.out.lt); have B21 := Lib.hid (B2.out.below hb1 B2.out.lt); clear hb1; obtain ⟨z, c0, c1, c2, _, _, _⟩ := B11.out.facts; obtain ⟨z2, e0, e1, e2, _, _, _⟩ := B21.out.facts)
        | (go_at_call 14; (with_reducible refine (HD.out _ K1.out _ G2.out).mono ?_); rintro e w2 ⟨rfl, hb2⟩; have K2 := Lib.hid (K1.out.trans (hb2.mono K1.out.size)); clear hb2))
      go_ret
      exact ⟨rfl, K2.out⟩
    | true =>
      go_wp2_with (first
        | (go_at_call 14; (with_reducible refine (HA.out _ B3.out _ G1.out).mono ?_); rintro e w1 ⟨rfl, hb1⟩; clear HA z c0 c1 c2 z2 e0 e1 e2; have K1 := Lib.hid (B3.out.trans (hb1.mono B3.out.size)); have B11 := Lib.hid (B1.out.below hb1 B1.out.lt); have B21 := Lib.hid (B2.out.below hb1 B2.out.lt); clear hb1; obtain ⟨z, c0, c1, c2, _, _, _⟩ := B11.out.facts; obtain ⟨z2, e0, e1, e2, _, _, _⟩ := B21.out.facts)
        | (go_at_call 14; (with_reducible refine (HD.out _ K1.out _ G2.out).mono ?_); rintro e w2 ⟨rfl, hb2⟩; clear HD z c0 c1 c2 z2 e0 e1 e2; have K2 := Lib.hid (K1.out.trans (hb2.mono K1.out.size)); have B12 := Lib.hid (B11.out.below hb2 B11.out.lt); have B22 := Lib.hid (B21.out.below hb2 B21.out.lt); clear hb2; obtain ⟨z, c0, c1, c2, _, _, _⟩ := B12.out.facts; obtain ⟨z2, e0, e1, e2, _, _, _⟩ := B22.out.facts)
        | (go_at_call 14; (with_reducible refine (HY.out _ K2.out _ rfl).mono ?_); rintro e w3 ⟨rfl, hb3⟩; have K3 := Lib.hid (K2.out.trans (hb3.mono K2.out.size)); clear hb3))
      go_ret
      exact ⟨rfl, K3.out⟩
/-- the boxes of a call of Event -/
structure Eb (e f : Ev) (w W : World) : Prop where
  b0 : EvAt e w.heap.size W
  b1 : EvAt f (w.heap.size + 1) W
  below : Below w.heap.size w W
theorem Eb.on {e f : Ev} {w W W2 : World} (h : Eb e f w W) (hb : Below W.heap.size W W2) : Eb e f w W2 := ⟨h.b0.on hb, h.b1.on hb, h.below.trans (hb.mono h.below.size)⟩
theorem Eb.f28 {e f : Ev} {w W : World} (h : Eb e f w W) : W.cell? ⟨w.heap.size, 0, none⟩ = some (.int .i64 e.hart) ∧ W.cell? ⟨w.heap.size, 1, none⟩ = some (.int .i64 e.pos) ∧ W.cell? ⟨w.heap.size, 2, none⟩ = some (.int .i64 e.kind) ∧ W.cell? ⟨w.heap.size, 3, none⟩ = some (.int .u64 e.addr) ∧ W.cell? ⟨w.heap.size, 4, none⟩ = some (.int .u64 e.load) ∧ W.cell? ⟨w.heap.size, 5, none⟩ = some (.int .u64 e.store) ∧ W.cell? ⟨w.heap.size, 6, none⟩ = some (.bool e.aq) ∧ W.cell? ⟨w.heap.size, 7, none⟩ = some (.bool e.rl) ∧ W.cell? ⟨w.heap.size, 8, none⟩ = some (.int .i64 e.pred) ∧ W.cell? ⟨w.heap.size, 9, none⟩ = some (.int .i64 e.succ) ∧ W.cell? ⟨w.heap.size, 10, none⟩ = some (.int .i64 e.pair) ∧ W.cell? ⟨w.heap.size, 11, none⟩ = some e.a ∧ W.cell? ⟨w.heap.size, 12, none⟩ = some e.d ∧ W.cell? ⟨w.heap.size, 13, none⟩ = some e.y ∧ W.cell? ⟨w.heap.size + 1, 0, none⟩ = some (.int .i64 f.hart) ∧ W.cell? ⟨w.heap.size + 1, 1, none⟩ = some (.int .i64 f.pos) ∧ W.cell? ⟨w.heap.size + 1, 2, none⟩ = some (.int .i64 f.kind) ∧ W.cell? ⟨w.heap.size + 1, 3, none⟩ = some (.int .u64 f.addr) ∧ W.cell? ⟨w.heap.size + 1, 4, none⟩ = some (.int .u64 f.load) ∧ W.cell? ⟨w.heap.size + 1, 5, none⟩ = some (.int .u64 f.store) ∧ W.cell? ⟨w.heap.size + 1, 6, none⟩ = some (.bool f.aq) ∧ W.cell? ⟨w.heap.size + 1, 7, none⟩ = some (.bool f.rl) ∧ W.cell? ⟨w.heap.size + 1, 8, none⟩ = some (.int .i64 f.pred) ∧ W.cell? ⟨w.heap.size + 1, 9, none⟩ = some (.int .i64 f.succ) ∧ W.cell? ⟨w.heap.size + 1, 10, none⟩ = some (.int .i64 f.pair) ∧ W.cell? ⟨w.heap.size + 1, 11, none⟩ = some f.a ∧ W.cell? ⟨w.heap.size + 1, 12, none⟩ = some f.d ∧ W.cell? ⟨w.heap.size + 1, 13, none⟩ = some f.y := by
  obtain ⟨_, x0, x1, x2, x3, x4, x5, x6, x7, x8, x9, x10, x11, x12, x13⟩ := h.b0.facts
  obtain ⟨_, y0, y1, y2, y3, y4, y5, y6, y7, y8, y9, y10, y11, y12, y13⟩ := h.b1.facts
  exact ⟨x0, x1, x2, x3, x4, x5, x6, x7, x8, x9, x10, x11, x12, x13, y0, y1, y2, y3, y4, y5, y6, y7, y8, y9, y10, y11, y12, y13⟩
theorem Eb.start (e f : Ev) (w : World) : Eb e f w ((w.alloc (.cells #[.int .i64 e.hart, .int .i64 e.pos, .int .i64 e.kind, .int .u64 e.addr, .int .u64 e.load, .int .u64 e.store, .bool e.aq, .bool e.rl, .int .i64 e.pred, .int .i64 e.succ, .int .i64 e.pair, e.a, e.d, e.y] 60)).alloc (.cells #[.int .i64 f.hart, .int .i64 f.pos, .int .i64 f.kind, .int .u64 f.addr, .int .u64 f.load, .int .u64 f.store, .bool f.aq, .bool f.rl, .int .i64 f.pred, .int .i64 f.succ, .int .i64 f.pair, f.a, f.d, f.y] 60)) :=
  ⟨(EvAt.new e w).alloc _, EvAt.new_at f _ _ (by simp), two_below _ _ _⟩
/-- are two events the same -/
def evB (e f : Ev) (l m : El) : Bool := depsB l.a l.d l.y m.a m.d m.y && ((e.hart == f.hart) && ((e.pos == f.pos) && ((e.kind == f.kind) && ((e.addr == f.addr) && ((e.load == f.load) && ((e.store == f.store) && ((e.aq == f.aq) && ((e.rl == f.rl) && ((e.pred == f.pred) && ((e.succ == f.succ) && ((e.pair == f.pair))))))))))))
set_option maxRecDepth 100000 in
set_option maxHeartbeats 64000000 in
theorem kevent_any (e f : Ev) (l m : El) (w : World) (h1 : EReads w e l) (h2 : EReads w f m) (hn : l.n) : Calls Tryz.prog 34 #[e.V, f.V] w fun e' w' => SameOk w (evB e f l m) e' w' := by
  have S0 := Lib.hid (Eb.start e f w)
  obtain ⟨r, hr⟩ : ∃ r, Hid (depsB l.a l.d l.y m.a m.d m.y = r) := ⟨_, Lib.hid rfl⟩
  have KD := Lib.hid (fun (w0 : World) (b : Below w.heap.size w w0) => (show Calls Tryz.prog 61 #[.agg #[e.a, e.d, e.y], .agg #[f.a, f.d, f.y]] w0 fun e' w' => SameOk w0 r e' w' from by
    rw [← hr.out]
    exact deps_any e.a e.d e.y f.a f.d f.y l.a l.d l.y m.a m.d m.y w0 (h1.1.below b) (h1.2.1.below b) (h1.2.2.below b) (h2.1.below b) (h2.2.1.below b) (h2.2.2.below b) hn.1 hn.2.1 hn.2.2))
  have HE : Hid (evB e f l m = (r && ((e.hart == f.hart) && ((e.pos == f.pos) && ((e.kind == f.kind) && ((e.addr == f.addr) && ((e.load == f.load) && ((e.store == f.store) && ((e.aq == f.aq) && ((e.rl == f.rl) && ((e.pred == f.pred) && ((e.succ == f.succ) && ((e.pair == f.pair)))))))))))))) := Lib.hid (by unfold evB; rw [hr.out])
  clear h1 h2 hn hr
  obtain ⟨rb, hrb⟩ : ∃ rb, Hid (evB e f l m = rb) := ⟨_, Lib.hid rfl⟩
  rw [hrb.out] at HE ⊢
  clear hrb
  go_enter Tryz.func34, Tryz.ntmps34
  go_upto_region 1 with fail
  obtain ⟨W, HW⟩ : ∃ W, Hid ((w.alloc (.cells #[.int .i64 e.hart, .int .i64 e.pos, .int .i64 e.kind, .int .u64 e.addr, .int .u64 e.load, .int .u64 e.store, .bool e.aq, .bool e.rl, .int .i64 e.pred, .int .i64 e.succ, .int .i64 e.pair, e.a, e.d, e.y] 60)).alloc (.cells #[.int .i64 f.hart, .int .i64 f.pos, .int .i64 f.kind, .int .u64 f.addr, .int .u64 f.load, .int .u64 f.store, .bool f.aq, .bool f.rl, .int .i64 f.pred, .int .i64 f.succ, .int .i64 f.pair, f.a, f.d, f.y] 60) = W) := ⟨_, Lib.hid rfl⟩
  rw [HW.out] at S0 ⊢
  clear HW
  obtain ⟨x0, x1, x2, x3, x4, x5, x6, x7, x8, x9, x10, x11, x12, x13, y0, y1, y2, y3, y4, y5, y6, y7, y8, y9, y10, y11, y12, y13⟩ := S0.out.f28
  cases r with
  | false =>
    go_wp2_with (go_at_call 61; (with_reducible refine (KD.out _ S0.out.below).mono ?_); rintro e' w2 ⟨rfl, hb⟩; have S2 := Lib.hid (S0.out.on hb); clear hb x0 x1 x2 x3 x4 x5 x6 x7 x8 x9 x10 x11 x12 x13 y0 y1 y2 y3 y4 y5 y6 y7 y8 y9 y10 y11 y12 y13; obtain ⟨x0, x1, x2, x3, x4, x5, x6, x7, x8, x9, x10, x11, x12, x13, y0, y1, y2, y3, y4, y5, y6, y7, y8, y9, y10, y11, y12, y13⟩ := S2.out.f28)
    go_ret
    exact ⟨by rw [HE.out]; simp [], S2.out.below⟩
  | true =>
    cases q0 : (e.hart == f.hart) with
    | false =>
      have d0 : decide (e.hart = f.hart) = false := by simpa using q0
      go_wp2_with (go_at_call 61; (with_reducible refine (KD.out _ S0.out.below).mono ?_); rintro e' w2 ⟨rfl, hb⟩; have S2 := Lib.hid (S0.out.on hb); clear hb x0 x1 x2 x3 x4 x5 x6 x7 x8 x9 x10 x11 x12 x13 y0 y1 y2 y3 y4 y5 y6 y7 y8 y9 y10 y11 y12 y13; obtain ⟨x0, x1, x2, x3, x4, x5, x6, x7, x8, x9, x10, x11, x12, x13, y0, y1, y2, y3, y4, y5, y6, y7, y8, y9, y10, y11, y12, y13⟩ := S2.out.f28)
      go_ret
      exact ⟨by rw [HE.out]; simp [q0], S2.out.below⟩
    | true =>
      have d0 : decide (e.hart = f.hart) = true := by simpa using q0
      cases q1 : (e.pos == f.pos) with
      | false =>
        have d1 : decide (e.pos = f.pos) = false := by simpa using q1
        go_wp2_with (go_at_call 61; (with_reducible refine (KD.out _ S0.out.below).mono ?_); rintro e' w2 ⟨rfl, hb⟩; have S2 := Lib.hid (S0.out.on hb); clear hb x0 x1 x2 x3 x4 x5 x6 x7 x8 x9 x10 x11 x12 x13 y0 y1 y2 y3 y4 y5 y6 y7 y8 y9 y10 y11 y12 y13; obtain ⟨x0, x1, x2, x3, x4, x5, x6, x7, x8, x9, x10, x11, x12, x13, y0, y1, y2, y3, y4, y5, y6, y7, y8, y9, y10, y11, y12, y13⟩ := S2.out.f28)
        go_ret
        exact ⟨by rw [HE.out]; simp [q0, q1], S2.out.below⟩
      | true =>
        have d1 : decide (e.pos = f.pos) = true := by simpa using q1
        cases q2 : (e.kind == f.kind) with
        | false =>
          have d2 : decide (e.kind = f.kind) = false := by simpa using q2
          go_wp2_with (go_at_call 61; (with_reducible refine (KD.out _ S0.out.below).mono ?_); rintro e' w2 ⟨rfl, hb⟩; have S2 := Lib.hid (S0.out.on hb); clear hb x0 x1 x2 x3 x4 x5 x6 x7 x8 x9 x10 x11 x12 x13 y0 y1 y2 y3 y4 y5 y6 y7 y8 y9 y10 y11 y12 y13; obtain ⟨x0, x1, x2, x3, x4, x5, x6, x7, x8, x9, x10, x11, x12, x13, y0, y1, y2, y3, y4, y5, y6, y7, y8, y9, y10, y11, y12, y13⟩ := S2.out.f28)
          go_ret
          exact ⟨by rw [HE.out]; simp [q0, q1, q2], S2.out.below⟩
        | true =>
          have d2 : decide (e.kind = f.kind) = true := by simpa using q2
          cases q3 : (e.addr == f.addr) with
          | false =>
            have d3 : decide (e.addr = f.addr) = false := by simpa using q3
            go_wp2_with (go_at_call 61; (with_reducible refine (KD.out _ S0.out.below).mono ?_); rintro e' w2 ⟨rfl, hb⟩; have S2 := Lib.hid (S0.out.on hb); clear hb x0 x1 x2 x3 x4 x5 x6 x7 x8 x9 x10 x11 x12 x13 y0 y1 y2 y3 y4 y5 y6 y7 y8 y9 y10 y11 y12 y13; obtain ⟨x0, x1, x2, x3, x4, x5, x6, x7, x8, x9, x10, x11, x12, x13, y0, y1, y2, y3, y4, y5, y6, y7, y8, y9, y10, y11, y12, y13⟩ := S2.out.f28)
            go_ret
            exact ⟨by rw [HE.out]; simp [q0, q1, q2, q3], S2.out.below⟩
          | true =>
            have d3 : decide (e.addr = f.addr) = true := by simpa using q3
            cases q4 : (e.load == f.load) with
            | false =>
              have d4 : decide (e.load = f.load) = false := by simpa using q4
              go_wp2_with (go_at_call 61; (with_reducible refine (KD.out _ S0.out.below).mono ?_); rintro e' w2 ⟨rfl, hb⟩; have S2 := Lib.hid (S0.out.on hb); clear hb x0 x1 x2 x3 x4 x5 x6 x7 x8 x9 x10 x11 x12 x13 y0 y1 y2 y3 y4 y5 y6 y7 y8 y9 y10 y11 y12 y13; obtain ⟨x0, x1, x2, x3, x4, x5, x6, x7, x8, x9, x10, x11, x12, x13, y0, y1, y2, y3, y4, y5, y6, y7, y8, y9, y10, y11, y12, y13⟩ := S2.out.f28)
              go_ret
              exact ⟨by rw [HE.out]; simp [q0, q1, q2, q3, q4], S2.out.below⟩
            | true =>
              have d4 : decide (e.load = f.load) = true := by simpa using q4
              cases q5 : (e.store == f.store) with
              | false =>
                have d5 : decide (e.store = f.store) = false := by simpa using q5
                go_wp2_with (go_at_call 61; (with_reducible refine (KD.out _ S0.out.below).mono ?_); rintro e' w2 ⟨rfl, hb⟩; have S2 := Lib.hid (S0.out.on hb); clear hb x0 x1 x2 x3 x4 x5 x6 x7 x8 x9 x10 x11 x12 x13 y0 y1 y2 y3 y4 y5 y6 y7 y8 y9 y10 y11 y12 y13; obtain ⟨x0, x1, x2, x3, x4, x5, x6, x7, x8, x9, x10, x11, x12, x13, y0, y1, y2, y3, y4, y5, y6, y7, y8, y9, y10, y11, y12, y13⟩ := S2.out.f28)
                go_ret
                exact ⟨by rw [HE.out]; simp [q0, q1, q2, q3, q4, q5], S2.out.below⟩
              | true =>
                have d5 : decide (e.store = f.store) = true := by simpa using q5
                cases q6 : (e.aq == f.aq) with
                | false =>
                  go_wp2_with (go_at_call 61; (with_reducible refine (KD.out _ S0.out.below).mono ?_); rintro e' w2 ⟨rfl, hb⟩; have S2 := Lib.hid (S0.out.on hb); clear hb x0 x1 x2 x3 x4 x5 x6 x7 x8 x9 x10 x11 x12 x13 y0 y1 y2 y3 y4 y5 y6 y7 y8 y9 y10 y11 y12 y13; obtain ⟨x0, x1, x2, x3, x4, x5, x6, x7, x8, x9, x10, x11, x12, x13, y0, y1, y2, y3, y4, y5, y6, y7, y8, y9, y10, y11, y12, y13⟩ := S2.out.f28)
                  go_ret
                  exact ⟨by rw [HE.out]; simp [q0, q1, q2, q3, q4, q5, q6], S2.out.below⟩
                | true =>
                  cases q7 : (e.rl == f.rl) with
                  | false =>
                    go_wp2_with (go_at_call 61; (with_reducible refine (KD.out _ S0.out.below).mono ?_); rintro e' w2 ⟨rfl, hb⟩; have S2 := Lib.hid (S0.out.on hb); clear hb x0 x1 x2 x3 x4 x5 x6 x7 x8 x9 x10 x11 x12 x13 y0 y1 y2 y3 y4 y5 y6 y7 y8 y9 y10 y11 y12 y13; obtain ⟨x0, x1, x2, x3, x4, x5, x6, x7, x8, x9, x10, x11, x12, x13, y0, y1, y2, y3, y4, y5, y6, y7, y8, y9, y10, y11, y12, y13⟩ := S2.out.f28)
                    go_ret
                    exact ⟨by rw [HE.out]; simp [q0, q1, q2, q3, q4, q5, q6, q7], S2.out.below⟩
                  | true =>
                    cases q8 : (e.pred == f.pred) with
                    | false =>
                      have d8 : decide (e.pred = f.pred) = false := by simpa using q8
                      go_wp2_with (go_at_call 61; (with_reducible refine (KD.out _ S0.out.below).mono ?_); rintro e' w2 ⟨rfl, hb⟩; have S2 := Lib.hid (S0.out.on hb); clear hb x0 x1 x2 x3 x4 x5 x6 x7 x8 x9 x10 x11 x12 x13 y0 y1 y2 y3 y4 y5 y6 y7 y8 y9 y10 y11 y12 y13; obtain ⟨x0, x1, x2, x3, x4, x5, x6, x7, x8, x9, x10, x11, x12, x13, y0, y1, y2, y3, y4, y5, y6, y7, y8, y9, y10, y11, y12, y13⟩ := S2.out.f28)
                      go_ret
                      exact ⟨by rw [HE.out]; simp [q0, q1, q2, q3, q4, q5, q6, q7, q8], S2.out.below⟩
                    | true =>
                      have d8 : decide (e.pred = f.pred) = true := by simpa using q8
                      cases q9 : (e.succ == f.succ) with
                      | false =>
                        have d9 : decide (e.succ = f.succ) = false := by simpa using q9
                        go_wp2_with (go_at_call 61; (with_reducible refine (KD.out _ S0.out.below).mono ?_); rintro e' w2 ⟨rfl, hb⟩; have S2 := Lib.hid (S0.out.on hb); clear hb x0 x1 x2 x3 x4 x5 x6 x7 x8 x9 x10 x11 x12 x13 y0 y1 y2 y3 y4 y5 y6 y7 y8 y9 y10 y11 y12 y13; obtain ⟨x0, x1, x2, x3, x4, x5, x6, x7, x8, x9, x10, x11, x12, x13, y0, y1, y2, y3, y4, y5, y6, y7, y8, y9, y10, y11, y12, y13⟩ := S2.out.f28)
                        go_ret
                        exact ⟨by rw [HE.out]; simp [q0, q1, q2, q3, q4, q5, q6, q7, q8, q9], S2.out.below⟩
                      | true =>
                        have d9 : decide (e.succ = f.succ) = true := by simpa using q9
                        cases q10 : (e.pair == f.pair) with
                        | false =>
                          have d10 : decide (e.pair = f.pair) = false := by simpa using q10
                          go_wp2_with (go_at_call 61; (with_reducible refine (KD.out _ S0.out.below).mono ?_); rintro e' w2 ⟨rfl, hb⟩; have S2 := Lib.hid (S0.out.on hb); clear hb x0 x1 x2 x3 x4 x5 x6 x7 x8 x9 x10 x11 x12 x13 y0 y1 y2 y3 y4 y5 y6 y7 y8 y9 y10 y11 y12 y13; obtain ⟨x0, x1, x2, x3, x4, x5, x6, x7, x8, x9, x10, x11, x12, x13, y0, y1, y2, y3, y4, y5, y6, y7, y8, y9, y10, y11, y12, y13⟩ := S2.out.f28)
                          go_ret
                          exact ⟨by rw [HE.out]; simp [q0, q1, q2, q3, q4, q5, q6, q7, q8, q9, q10], S2.out.below⟩
                        | true =>
                          have d10 : decide (e.pair = f.pair) = true := by simpa using q10
                          go_wp2_with (go_at_call 61; (with_reducible refine (KD.out _ S0.out.below).mono ?_); rintro e' w2 ⟨rfl, hb⟩; have S2 := Lib.hid (S0.out.on hb); clear hb x0 x1 x2 x3 x4 x5 x6 x7 x8 x9 x10 x11 x12 x13 y0 y1 y2 y3 y4 y5 y6 y7 y8 y9 y10 y11 y12 y13; obtain ⟨x0, x1, x2, x3, x4, x5, x6, x7, x8, x9, x10, x11, x12, x13, y0, y1, y2, y3, y4, y5, y6, y7, y8, y9, y10, y11, y12, y13⟩ := S2.out.f28)
                          go_ret
                          exact ⟨by rw [HE.out]; simp [q0, q1, q2, q3, q4, q5, q6, q7, q8, q9, q10], S2.out.below⟩
end Go.Proofs.YtokhnjcbcpmmjaaGreat
