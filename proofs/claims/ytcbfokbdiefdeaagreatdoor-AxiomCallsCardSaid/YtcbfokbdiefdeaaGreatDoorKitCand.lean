/-
  Proved here: the kit's Same of ints, Deps, Event, Events and Cand tell of a copy and what it is a copy of that they are the same; nothing that was there is changed. Condition: a light candidate.
-/
import Derived.Test.YtcbfokbdiefdeaaGreatDoorPpOwn
import Derived.Test.YtcbfokbdiefdeaaGreatDoorRf07Check
import Derived.Test.YtcbfokbdiefdeaaGreatDoorCdSame
import Derived.Deep.RegionHeld3
namespace Go.Proofs.YtcbfokbdiefdeaaGreatDoor
set_option linter.unusedVariables false
set_option linter.unusedSimpArgs false
open Go.RowKit
attribute [local go_sem ↓] fold_E fold_SE
attribute [local irreducible] wpStill

theorem samei_none (a1 a2 : Option Addr) (c d : Nat) (w : World) : Calls Tryz.prog 51 #[.slice a1 0 c, .slice a2 0 d] w fun e w' => SameOk w true e w' := by
  go_enter Tryz.func51, Tryz.ntmps51
  go_wp2
  refine wp_loop_rounds 1 ?_
  rw [rounds_succ]
  go_wp2
  go_ret
  exact ⟨rfl, Below.refl _ _⟩
set_option maxRecDepth 100000 in
set_option maxHeartbeats 2000000 in
theorem samei_some (a : List Int) (n b1 o1 c1 b2 o2 c2 : Nat) (w : World) (hn : n ≤ 100000) (hl1 : b1 < w.heap.size) (hl2 : b2 < w.heap.size) (h1 : ∀ j, j < n → w.cell? ⟨b1, o1 + j, none⟩ = some (.int .i64 (atI a j))) (h2 : ∀ j, j < n → w.cell? ⟨b2, o2 + j, none⟩ = some (.int .i64 (atI a j))) :
    Calls Tryz.prog 51 #[.slice (some ⟨b1, o1, none⟩) n c1, .slice (some ⟨b2, o2, none⟩) n c2] w fun e w' => SameOk w true e w' := by
  have H1 := Lib.hid h1
  have H2 := Lib.hid h2
  have d0 : (((n : Nat) : Int) != ((n : Nat) : Int)) = false := by simp
  clear h1 h2
  go_enter Tryz.func51, Tryz.ntmps51
  go_wp2
  go_loopw [5] (fun i wr => ∃ k : Nat, k ≤ n ∧ i = .int .i64 k ∧ Below w.heap.size w wr) (fun i _ => n - (intOf i).toNat)
  case atStart => exact ⟨0, Nat.zero_le _, rfl, Below.refl _ _⟩
  case round =>
    obtain ⟨k, hk, rfl, hbel⟩ := hrel
    have HL := Lib.hid hbel
    clear hbel
    by_cases hlt : k < n
    · have hc1 := (HL.out.cell (p := ⟨b1, o1 + k, none⟩) hl1).trans (H1.out k hlt)
      have hc2 := (HL.out.cell (p := ⟨b2, o2 + k, none⟩) hl2).trans (H2.out k hlt)
      have h0 : (atI a k != atI a k) = false := by simp
      go_upto_region 6 with fail
      go_quiet (fail)
      have HL2 := Lib.hid (below_drewW HL.out nq)
      go_wp2
      go_roundw
      case rel => exact ⟨k + 1, by omega, by go_num, HL2.out⟩
      case measure => simp [intOf]; omega
    · have HK : Hid (k = n) := Lib.hid (by omega)
      go_wp2
      go_ret
      exact ⟨rfl, HL.out⟩
theorem samei_yes (va vb : Value) (a : List Int) (w : World) (ha : ReadsI w va a) (hb : ReadsI w vb a) (hn : a.length ≤ 100000) : Calls Tryz.prog 51 #[va, vb] w fun e w' => SameOk w true e w' := by
  rcases ha with ⟨⟨a1, c1, rfl, _⟩, rfl⟩ | ⟨b1, o1, c1, rfl, _, _, g1, g2⟩
  · obtain ⟨a2, d, rfl⟩ := hb.len
    exact samei_none a1 a2 c1 d w
  · rcases hb with ⟨⟨a2, c2, rfl, _⟩, rfl⟩ | ⟨b2, o2, c2, rfl, _, _, k1, k2⟩
    · exact samei_none _ a2 c1 c2 w
    · exact samei_some a a.length b1 o1 c1 b2 o2 c2 w hn g1 k1 g2 k2
set_option maxRecDepth 100000 in
set_option maxHeartbeats 4000000 in
theorem kdeps_yes (a d y a2 d2 y2 : Value) (l : El) (w : World) (ha : ReadsI w a l.a) (hd : ReadsI w d l.d) (hy : ReadsI w y l.y) (ha2 : ReadsI w a2 l.a) (hd2 : ReadsI w d2 l.d) (hy2 : ReadsI w y2 l.y) (hn : l.n) :
    Calls Tryz.prog 85 #[.agg #[a, d, y], .agg #[a2, d2, y2]] w fun e w' => SameOk w true e w' := by
  obtain ⟨b1, b2, b3⟩ := deps_boxes a d y a2 d2 y2 w
  have B1 := Lib.hid b1
  have B2 := Lib.hid b2
  have B3 := Lib.hid b3
  clear b1 b2 b3
  have HA := Lib.hid (fun (w0 : World) (b : Below w.heap.size w w0) => samei_yes a a2 l.a w0 (ha.below b) (ha2.below b) hn.1)
  have HD := Lib.hid (fun (w0 : World) (b : Below w.heap.size w w0) => samei_yes d d2 l.d w0 (hd.below b) (hd2.below b) hn.2.1)
  have HY := Lib.hid (fun (w0 : World) (b : Below w.heap.size w w0) => samei_yes y y2 l.y w0 (hy.below b) (hy2.below b) hn.2.2)
  clear ha hd hy ha2 hd2 hy2 hn
  go_enter Tryz.func85, Tryz.ntmps85
  go_upto_region 1 with fail
  obtain ⟨W, HW⟩ : ∃ W, Hid ((w.alloc (.cells #[a, d, y] 30)).alloc (.cells #[a2, d2, y2] 30) = W) := ⟨_, Lib.hid rfl⟩
  rw [HW.out] at B1 B2 B3 ⊢
  obtain ⟨z, c0, c1, c2, _, _, _⟩ := B1.out.facts
  obtain ⟨z2, e0, e1, e2, _, _, _⟩ := B2.out.facts
  go_wp2_with (first
    | (go_at_call 51; (with_reducible refine (HA.out _ B3.out).mono ?_); rintro e w1 ⟨rfl, hb1⟩; clear HA z c0 c1 c2 z2 e0 e1 e2; have K1 := Lib.hid (B3.out.trans (hb1.mono B3.out.size)); have B11 := Lib.hid (B1.out.below hb1 B1.out.lt); have B21 := Lib.hid (B2.out.below hb1 B2.out.lt); clear hb1; obtain ⟨z, c0, c1, c2, _, _, _⟩ := B11.out.facts; obtain ⟨z2, e0, e1, e2, _, _, _⟩ := B21.out.facts)
    | (go_at_call 51; (with_reducible refine (HD.out _ K1.out).mono ?_); rintro e w2 ⟨rfl, hb2⟩; clear HD z c0 c1 c2 z2 e0 e1 e2; have K2 := Lib.hid (K1.out.trans (hb2.mono K1.out.size)); have B12 := Lib.hid (B11.out.below hb2 B11.out.lt); have B22 := Lib.hid (B21.out.below hb2 B21.out.lt); clear hb2; obtain ⟨z, c0, c1, c2, _, _, _⟩ := B12.out.facts; obtain ⟨z2, e0, e1, e2, _, _, _⟩ := B22.out.facts)
    | (go_at_call 51; (with_reducible refine (HY.out _ K2.out).mono ?_); rintro e w3 ⟨rfl, hb3⟩; have K3 := Lib.hid (K2.out.trans (hb3.mono K2.out.size)); clear hb3))
  go_ret
  exact ⟨rfl, K3.out⟩
/-- the boxes of a call of Event -/
structure Eb (e f : Ev) (w W : World) : Prop where
  b0 : EvAt e w.heap.size W
  b1 : EvAt f (w.heap.size + 1) W
  below : Below w.heap.size w W
theorem Eb.on {e f : Ev} {w W W2 : World} (h : Eb e f w W) (hb : Below W.heap.size W W2) : Eb e f w W2 := ⟨h.b0.on hb, h.b1.on hb, h.below.trans (hb.mono h.below.size)⟩
theorem Eb.f28 {e : Ev} {a d y : Value} {w W : World} (h : Eb (e.lists a d y) e w W) : W.cell? ⟨w.heap.size, 0, none⟩ = some (.int .i64 e.hart) ∧ W.cell? ⟨w.heap.size, 1, none⟩ = some (.int .i64 e.pos) ∧ W.cell? ⟨w.heap.size, 2, none⟩ = some (.int .i64 e.kind) ∧ W.cell? ⟨w.heap.size, 3, none⟩ = some (.int .u64 e.addr) ∧ W.cell? ⟨w.heap.size, 4, none⟩ = some (.int .u64 e.load) ∧ W.cell? ⟨w.heap.size, 5, none⟩ = some (.int .u64 e.store) ∧ W.cell? ⟨w.heap.size, 6, none⟩ = some (.bool e.aq) ∧ W.cell? ⟨w.heap.size, 7, none⟩ = some (.bool e.rl) ∧ W.cell? ⟨w.heap.size, 8, none⟩ = some (.int .i64 e.pred) ∧ W.cell? ⟨w.heap.size, 9, none⟩ = some (.int .i64 e.succ) ∧ W.cell? ⟨w.heap.size, 10, none⟩ = some (.int .i64 e.pair) ∧ W.cell? ⟨w.heap.size, 11, none⟩ = some a ∧ W.cell? ⟨w.heap.size, 12, none⟩ = some d ∧ W.cell? ⟨w.heap.size, 13, none⟩ = some y ∧ W.cell? ⟨w.heap.size + 1, 0, none⟩ = some (.int .i64 e.hart) ∧ W.cell? ⟨w.heap.size + 1, 1, none⟩ = some (.int .i64 e.pos) ∧ W.cell? ⟨w.heap.size + 1, 2, none⟩ = some (.int .i64 e.kind) ∧ W.cell? ⟨w.heap.size + 1, 3, none⟩ = some (.int .u64 e.addr) ∧ W.cell? ⟨w.heap.size + 1, 4, none⟩ = some (.int .u64 e.load) ∧ W.cell? ⟨w.heap.size + 1, 5, none⟩ = some (.int .u64 e.store) ∧ W.cell? ⟨w.heap.size + 1, 6, none⟩ = some (.bool e.aq) ∧ W.cell? ⟨w.heap.size + 1, 7, none⟩ = some (.bool e.rl) ∧ W.cell? ⟨w.heap.size + 1, 8, none⟩ = some (.int .i64 e.pred) ∧ W.cell? ⟨w.heap.size + 1, 9, none⟩ = some (.int .i64 e.succ) ∧ W.cell? ⟨w.heap.size + 1, 10, none⟩ = some (.int .i64 e.pair) ∧ W.cell? ⟨w.heap.size + 1, 11, none⟩ = some e.a ∧ W.cell? ⟨w.heap.size + 1, 12, none⟩ = some e.d ∧ W.cell? ⟨w.heap.size + 1, 13, none⟩ = some e.y := by
  obtain ⟨_, x0, x1, x2, x3, x4, x5, x6, x7, x8, x9, x10, x11, x12, x13⟩ := h.b0.facts
  obtain ⟨_, y0, y1, y2, y3, y4, y5, y6, y7, y8, y9, y10, y11, y12, y13⟩ := h.b1.facts
  exact ⟨x0, x1, x2, x3, x4, x5, x6, x7, x8, x9, x10, x11, x12, x13, y0, y1, y2, y3, y4, y5, y6, y7, y8, y9, y10, y11, y12, y13⟩
theorem Eb.start (e f : Ev) (w : World) : Eb e f w ((w.alloc (.cells #[.int .i64 e.hart, .int .i64 e.pos, .int .i64 e.kind, .int .u64 e.addr, .int .u64 e.load, .int .u64 e.store, .bool e.aq, .bool e.rl, .int .i64 e.pred, .int .i64 e.succ, .int .i64 e.pair, e.a, e.d, e.y] 32)).alloc (.cells #[.int .i64 f.hart, .int .i64 f.pos, .int .i64 f.kind, .int .u64 f.addr, .int .u64 f.load, .int .u64 f.store, .bool f.aq, .bool f.rl, .int .i64 f.pred, .int .i64 f.succ, .int .i64 f.pair, f.a, f.d, f.y] 32)) :=
  ⟨(EvAt.new e w).alloc _, EvAt.new_at f _ _ (by simp), two_below _ _ _⟩
set_option maxRecDepth 100000 in
set_option maxHeartbeats 8000000 in
theorem kevent_yes (e : Ev) (a d y : Value) (l : El) (w : World) (h1 : EReads w (e.lists a d y) l) (h2 : EReads w e l) (hn : l.n) : Calls Tryz.prog 69 #[(e.lists a d y).V, e.V] w fun e' w' => SameOk w true e' w' := by
  have S0 := Lib.hid (Eb.start (e.lists a d y) e w)
  have KD := Lib.hid (fun (w0 : World) (b : Below w.heap.size w w0) => kdeps_yes a d y e.a e.d e.y l w0 (h1.1.below b) (h1.2.1.below b) (h1.2.2.below b) (h2.1.below b) (h2.2.1.below b) (h2.2.2.below b) hn)
  clear h1 h2 hn
  go_enter Tryz.func69, Tryz.ntmps69
  go_upto_region 1 with fail
  obtain ⟨W, HW⟩ : ∃ W, Hid ((w.alloc (.cells #[.int .i64 e.hart, .int .i64 e.pos, .int .i64 e.kind, .int .u64 e.addr, .int .u64 e.load, .int .u64 e.store, .bool e.aq, .bool e.rl, .int .i64 e.pred, .int .i64 e.succ, .int .i64 e.pair, a, d, y] 32)).alloc (.cells #[.int .i64 e.hart, .int .i64 e.pos, .int .i64 e.kind, .int .u64 e.addr, .int .u64 e.load, .int .u64 e.store, .bool e.aq, .bool e.rl, .int .i64 e.pred, .int .i64 e.succ, .int .i64 e.pair, e.a, e.d, e.y] 32) = W) := ⟨_, Lib.hid rfl⟩
  rw [HW.out] at S0 ⊢
  clear HW
  obtain ⟨x0, x1, x2, x3, x4, x5, x6, x7, x8, x9, x10, x11, x12, x13, y0, y1, y2, y3, y4, y5, y6, y7, y8, y9, y10, y11, y12, y13⟩ := S0.out.f28
  go_wp2_with (go_at_call 85; (with_reducible refine (KD.out _ S0.out.below).mono ?_); rintro e' w2 ⟨rfl, hb⟩; have S2 := Lib.hid (S0.out.on hb); clear hb x0 x1 x2 x3 x4 x5 x6 x7 x8 x9 x10 x11 x12 x13 y0 y1 y2 y3 y4 y5 y6 y7 y8 y9 y10 y11 y12 y13; obtain ⟨x0, x1, x2, x3, x4, x5, x6, x7, x8, x9, x10, x11, x12, x13, y0, y1, y2, y3, y4, y5, y6, y7, y8, y9, y10, y11, y12, y13⟩ := S2.out.f28)
  go_ret
  exact ⟨rfl, S2.out.below⟩
theorem kevents_none (a1 a2 : Option Addr) (c d : Nat) (w : World) : Calls Tryz.prog 49 #[.slice a1 0 c, .slice a2 0 d] w fun e w' => SameOk w true e w' := by
  go_enter Tryz.func49, Tryz.ntmps49
  go_wp2
  refine wp_loop_rounds 1 ?_
  rw [rounds_succ]
  go_wp2
  go_ret
  exact ⟨rfl, Below.refl _ _⟩
set_option maxRecDepth 100000 in
set_option maxHeartbeats 4000000 in
theorem kevents_some (n b1 o1 c1 b2 o2 c2 : Nat) (ev1 ev2 : Nat → Ev) (el : Nat → El) (w : World) (hn : n ≤ 60) (hl : ∀ k, k < n → (el k).n) (hp : 0 < n) (h1 : Rw n b1 o1 ev1 el w) (h2 : Rw n b2 o2 ev2 el w) (hx : ∀ k, ∃ a d y, ev1 k = (ev2 k).lists a d y) :
    Calls Tryz.prog 49 #[.slice (some ⟨b1, o1, none⟩) n c1, .slice (some ⟨b2, o2, none⟩) n c2] w fun e w' => SameOk w true e w' := by
  have H1 := Lib.hid h1
  have H2 := Lib.hid h2
  have HX := Lib.hid hx
  have HLn := Lib.hid hl
  have d0 : (((n : Nat) : Int) != ((n : Nat) : Int)) = false := by simp
  clear h1 h2 hx hl
  go_enter Tryz.func49, Tryz.ntmps49
  go_wp2
  go_loopw [5] (fun i wr => ∃ k : Nat, k ≤ n ∧ i = .int .i64 k ∧ Hid (Below w.heap.size w wr)) (fun i _ => n - (intOf i).toNat)
  case atStart => exact ⟨0, Nat.zero_le _, rfl, Lib.hid (Below.refl _ _)⟩
  case round =>
    obtain ⟨k, hk, rfl, HL⟩ := hrel
    by_cases hlt : k < n
    · have hki : (k : Int) < (n : Int) := by omega
      have hk0 : (0 : Int) ≤ (k : Int) := by omega
      have HL0 := Lib.hid (HL.out.trans ((Below.refl wr.heap.size wr).drew.mono HL.out.size))
      have G1 := Lib.hid (H1.out.below HL.out)
      have G2 := Lib.hid (H2.out.below HL.out)
      obtain ⟨a, d, y, hxk⟩ := HX.out k
      obtain ⟨X, hX⟩ : ∃ X, ev2 k = X := ⟨_, rfl⟩
      rw [hX] at hxk
      have q1 := (G1.out.at_ k hlt)
      have q2 := (G2.out.at_ k hlt)
      rw [hxk] at q1
      rw [hX] at q2
      have KE := Lib.hid (fun (w0 : World) (b : Below w.heap.size w w0) => kevent_yes X a d y (el k) w0 (by rw [← hxk]; exact ((H1.out.below b).reads k hlt)) (by rw [← hX]; exact ((H2.out.below b).reads k hlt)) (HLn.out k hlt))
      have FX : Hid (∀ W, Below wr.heap.size wr W → (LoadE (.pointer (some ⟨b1, o1 + k * 14, none⟩))).run Tryz.prog W = .ok (X.lists a d y).V W ∧ (LoadE (.pointer (some ⟨b2, o2 + k * 14, none⟩))).run Tryz.prog W = .ok X.V W) := Lib.hid (fun W hb => ⟨(q1.below hb (G1.out.lt hp)).load, (q2.below hb (G2.out.lt hp)).load⟩)
      clear hxk hX q1 q2
      have BD := Lib.hid (Below.refl wr.heap.size wr).drew
      go_upto_region 6 with fail
      go_region_held3 (fun w' => (LoadE (.pointer (some ⟨b1, o1 + k * 14, none⟩))).run Tryz.prog w' = .ok (X.lists a d y).V w' ∧ (LoadE (.pointer (some ⟨b2, o2 + k * 14, none⟩))).run Tryz.prog w' = .ok X.V w') (first | exact FX.out _ BD.out | exact FX.out _ B2.out)
        ((go_at_call 69; (with_reducible refine (KE.out _ HL0.out).mono ?_); rintro e' w2 ⟨rfl, hb⟩; have B2 := Lib.hid (BD.out.trans hb); have L2 := Lib.hid (HL0.out.trans (hb.mono HL0.out.size)); clear hb))
      go_wp2
      go_roundw
      case rel => exact ⟨k + 1, by omega, by go_num, L2⟩
      case measure => simp [intOf]; omega
    · obtain rfl : k = n := by omega
      go_wp2
      go_ret
      exact ⟨rfl, HL.out⟩
theorem kevents_yes (v1 v2 : Value) (n : Nat) (ev1 ev2 : Nat → Ev) (el : Nat → El) (w : World) (hn : n ≤ 60) (hl : ∀ k, k < n → (el k).n) (h1 : RowV w v1 n ev1 el) (h2 : RowV w v2 n ev2 el) (hx : ∀ k, ∃ a d y, ev1 k = (ev2 k).lists a d y) :
    Calls Tryz.prog 49 #[v1, v2] w fun e w' => SameOk w true e w' := by
  obtain ⟨a1, c1, rfl, _, h1⟩ := h1
  obtain ⟨a2, c2, rfl, _, h2⟩ := h2
  by_cases hp : 0 < n
  · rcases h1 with h | ⟨b1, o1, rfl, h1⟩
    · omega
    rcases h2 with h | ⟨b2, o2, rfl, h2⟩
    · omega
    exact kevents_some n b1 o1 c1 b2 o2 c2 ev1 ev2 el w hn hl hp h1 h2 hx
  · obtain rfl : n = 0 := by omega
    exact kevents_none a1 a2 c1 c2 w
/-- the boxes of a call of Cand -/
structure Cb (d : Cd) (q' : Cv) (c : Cd) (q : Cv) (w W : World) : Prop where
  b0 : CdAt d q' w.heap.size W
  b1 : CdAt c q (w.heap.size + 1) W
  at0 : CAt d q' W
  at1 : CAt c q W
  below : Below w.heap.size w W
theorem Cb.on {d : Cd} {q' : Cv} {c : Cd} {q : Cv} {w W W2 : World} (h : Cb d q' c q w W) (hb : Below W.heap.size W W2) : Cb d q' c q w W2 := ⟨h.b0.on hb, h.b1.on hb, h.at0.below hb, h.at1.below hb, h.below.trans (hb.mono h.below.size)⟩
theorem Cb.start {d : Cd} {q' : Cv} {c : Cd} {q : Cv} {w : World} (h0 : CAt d q' w) (h1 : CAt c q w) : Cb d q' c q w ((w.alloc (.cells #[.slice q'.aF d.fs.length q'.cF, .slice q'.aH d.nh q'.cH, .slice q'.aR d.fr.length q'.cR, .slice q'.aO d.od.length q'.cO] 26)).alloc (.cells #[.slice q.aF c.fs.length q.cF, .slice q.aH c.nh q.cH, .slice q.aR c.fr.length q.cR, .slice q.aO c.od.length q.cO] 26)) := by
  have B := ((box_below w (.cells #[.slice q'.aF d.fs.length q'.cF, .slice q'.aH d.nh q'.cH, .slice q'.aR d.fr.length q'.cR, .slice q'.aO d.od.length q'.cO] 26)).trans ((box_below _ (.cells #[.slice q.aF c.fs.length q.cF, .slice q.aH c.nh q.cH, .slice q.aR c.fr.length q.cR, .slice q.aO c.od.length q.cO] 26)).mono (by simp)))
  have h := CdAt.new c q (w.alloc (.cells #[.slice q'.aF d.fs.length q'.cF, .slice q'.aH d.nh q'.cH, .slice q'.aR d.fr.length q'.cR, .slice q'.aO d.od.length q'.cO] 26))
  rw [show (w.alloc (.cells #[.slice q'.aF d.fs.length q'.cF, .slice q'.aH d.nh q'.cH, .slice q'.aR d.fr.length q'.cR, .slice q'.aO d.od.length q'.cO] 26)).heap.size = w.heap.size + 1 by simp] at h
  exact ⟨(CdAt.new d q' w).on (box_below _ _), h, h0.below B, h1.below B, B⟩
theorem Cb.facts {d : Cd} {q' : Cv} {c : Cd} {q : Cv} {w W : World} (h : Cb d q' c q w W) : W.cell? ⟨w.heap.size, 0, none⟩ = some (.slice q'.aF d.fs.length q'.cF) ∧ W.cell? ⟨w.heap.size, 1, none⟩ = some (.slice q'.aH d.nh q'.cH) ∧ W.cell? ⟨w.heap.size, 2, none⟩ = some (.slice q'.aR d.fr.length q'.cR) ∧ W.cell? ⟨w.heap.size, 3, none⟩ = some (.slice q'.aO d.od.length q'.cO) ∧ W.cell? ⟨w.heap.size + 1, 0, none⟩ = some (.slice q.aF c.fs.length q.cF) ∧ W.cell? ⟨w.heap.size + 1, 1, none⟩ = some (.slice q.aH c.nh q.cH) ∧ W.cell? ⟨w.heap.size + 1, 2, none⟩ = some (.slice q.aR c.fr.length q.cR) ∧ W.cell? ⟨w.heap.size + 1, 3, none⟩ = some (.slice q.aO c.od.length q.cO) := by
  obtain ⟨a0, a1, a2, a3⟩ := h.b0.facts
  obtain ⟨b0, b1, b2, b3⟩ := h.b1.facts
  exact ⟨a0, a1, a2, a3, b0, b1, b2, b3⟩
set_option maxRecDepth 100000 in
set_option maxHeartbeats 8000000 in
theorem kcand_yes (d : Cd) (q' : Cv) (c : Cd) (q : Cv) (w : World) (hL : Lt c) (hA : Al c d) (h0 : CAt d q' w) (h1 : CAt c q w) : Calls Tryz.prog 21 #[cdV d q', cdV c q] w fun e w' => SameOk w true e w' := by
  have S0 := Lib.hid (Cb.start h0 h1)
  have KE := Lib.hid (fun (h : Nat) (hh : h < c.nh) (v1 v2 : Value) (w0 : World) (x1 : RowV w0 v1 (c.len h) (d.ev h) (c.el h)) (x2 : RowV w0 v2 (c.len h) (c.ev h) (c.el h)) => kevents_yes v1 v2 (c.len h) (d.ev h) (c.ev h) (c.el h) w0 (hL.small h hh).1 (fun k hk => ((hL.small h hh).2 k hk).n) x1 x2 (hA.ae.ev h))
  have KF := Lib.hid (fun (w0 : World) (x0 : CAt d q' w0) (x1 : CAt c q w0) => (show Calls Tryz.prog 50 #[.slice q'.aF c.fs.length q'.cF, .slice q.aF c.fs.length q.cF] w0 fun e w' => SameOk w0 true e w' from by
    have y0 := x0.first
    rw [hA.ae.fs] at y0
    have := sameC_any _ _ c.fs c.fs w0 y0 x1.first (by have := hL.fs; omega)
    rw [decide_eq_true rfl] at this
    exact this))
  have KR := Lib.hid (fun (w0 : World) (x0 : CAt d q' w0) (x1 : CAt c q w0) => (show Calls Tryz.prog 51 #[.slice q'.aR c.fr.length q'.cR, .slice q.aR c.fr.length q.cR] w0 fun e w' => SameOk w0 true e w' from by
    have y0 := x0.from_
    rw [hA.fr] at y0
    exact samei_yes _ _ c.fr w0 y0 x1.from_ (by have := hL.fr; omega)))
  have KO := Lib.hid (fun (w0 : World) (x0 : CAt d q' w0) (x1 : CAt c q w0) => (show Calls Tryz.prog 51 #[.slice q'.aO c.od.length q'.cO, .slice q.aO c.od.length q.cO] w0 fun e w' => SameOk w0 true e w' from by
    have y0 := x0.order
    rw [hA.od] at y0
    exact samei_yes _ _ c.od w0 y0 x1.order (by have := hL.od; omega)))
  have HRow : Hid (∀ (W : World), Cb d q' c q w W → ∀ h, h < c.nh → ∃ b1 o1 a1 c1 b2 o2 a2 c2, q'.aH = some ⟨b1, o1, none⟩ ∧ W.cell? ⟨b1, o1 + h, none⟩ = some (.slice a1 (c.len h) c1) ∧ RowV W (.slice a1 (c.len h) c1) (c.len h) (d.ev h) (c.el h) ∧ q.aH = some ⟨b2, o2, none⟩ ∧ W.cell? ⟨b2, o2 + h, none⟩ = some (.slice a2 (c.len h) c2) ∧ RowV W (.slice a2 (c.len h) c2) (c.len h) (c.ev h) (c.el h)) := Lib.hid (fun W hW h hh => by
    obtain ⟨b1, o1, a1, c1, e1, f1, _, g1⟩ := hW.at0.harts.row h (by rw [hA.ae.nh]; exact hh)
    obtain ⟨b2, o2, a2, c2, e2, f2, _, g2⟩ := hW.at1.harts.row h hh
    rw [hA.ae.len] at f1 g1
    rw [hA.ae.el] at g1
    exact ⟨b1, o1, a1, c1, b2, o2, a2, c2, e1, f1, g1, e2, f2, g2⟩)
  have FX : Hid (∀ W, Cb d q' c q w W → W.cell? ⟨w.heap.size, 0, none⟩ = some (.slice q'.aF c.fs.length q'.cF) ∧ W.cell? ⟨w.heap.size, 1, none⟩ = some (.slice q'.aH c.nh q'.cH) ∧ W.cell? ⟨w.heap.size, 2, none⟩ = some (.slice q'.aR c.fr.length q'.cR) ∧ W.cell? ⟨w.heap.size, 3, none⟩ = some (.slice q'.aO c.od.length q'.cO) ∧ W.cell? ⟨w.heap.size + 1, 0, none⟩ = some (.slice q.aF c.fs.length q.cF) ∧ W.cell? ⟨w.heap.size + 1, 1, none⟩ = some (.slice q.aH c.nh q.cH) ∧ W.cell? ⟨w.heap.size + 1, 2, none⟩ = some (.slice q.aR c.fr.length q.cR) ∧ W.cell? ⟨w.heap.size + 1, 3, none⟩ = some (.slice q.aO c.od.length q.cO)) := Lib.hid (fun W hW => by
    have := hW.facts
    rw [hA.ae.fs, hA.ae.nh, hA.fr, hA.od] at this
    exact this)
  have hnh := hL.nh
  have dn : (((c.nh : Nat) : Int) != ((c.nh : Nat) : Int)) = false := by simp
  obtain ⟨x0, x1, x2, x3, y0, y1, y2, y3⟩ := FX.out _ S0.out
  rw [hA.ae.fs, hA.ae.nh, hA.fr, hA.od] at x0 x1 x2 x3 y0 y1 y2 y3 S0
  clear h0 h1
  unfold cdV
  rw [hA.ae.fs, hA.ae.nh, hA.fr, hA.od]
  clear hA hL
  go_enter Tryz.func21, Tryz.ntmps21
  go_wp2
  go_loopw [5] (fun i wr => ∃ k : Nat, k ≤ c.nh ∧ i = .int .i64 k ∧ Hid (Cb d q' c q w wr)) (fun i _ => c.nh - (intOf i).toNat)
  case atStart => exact ⟨0, Nat.zero_le _, rfl, S0⟩
  case round =>
    clear x0 x1 x2 x3 y0 y1 y2 y3 S0
    obtain ⟨k, hk, rfl, S1⟩ := hrel
    obtain ⟨x0, x1, x2, x3, y0, y1, y2, y3⟩ := FX.out _ S1.out
    by_cases hlt : k < c.nh
    · have hki : (k : Int) < (c.nh : Int) := by omega
      have hk0 : (0 : Int) ≤ (k : Int) := by omega
      obtain ⟨b1, o1, a1, c1, b2, o2, a2, c2, e1, f1, g1, e2, f2, g2⟩ := HRow.out _ S1.out k hlt
      have G1 := Lib.hid g1
      have G2 := Lib.hid g2
      have l1 : b1 < wr.heap.size := by
        rcases Nat.lt_or_ge b1 wr.heap.size with h | h
        · exact h
        · rw [World.cell?, Array.getElem?_eq_none (by exact h)] at f1; simp at f1
      have l2 : b2 < wr.heap.size := by
        rcases Nat.lt_or_ge b2 wr.heap.size with h | h
        · exact h
        · rw [World.cell?, Array.getElem?_eq_none (by exact h)] at f2; simp at f2
      rw [e1] at x1
      rw [e2] at y1
      have SD := Lib.hid (S1.out.on (Below.refl wr.heap.size wr).drew)
      have FR : Hid (∀ W, Below wr.heap.size wr W → Cb d q' c q w W → W.cell? ⟨w.heap.size, 1, none⟩ = some (.slice (some ⟨b1, o1, none⟩) c.nh q'.cH) ∧ W.cell? ⟨w.heap.size + 1, 1, none⟩ = some (.slice (some ⟨b2, o2, none⟩) c.nh q.cH) ∧ W.cell? ⟨b1, o1 + k, none⟩ = some (.slice a1 (c.len k) c1) ∧ W.cell? ⟨b2, o2 + k, none⟩ = some (.slice a2 (c.len k) c2)) := Lib.hid (fun W hb hW => by
        obtain ⟨_, p1, _, _, _, p2, _, _⟩ := FX.out _ hW
        rw [e1] at p1
        rw [e2] at p2
        exact ⟨p1, p2, (hb.cell (p := ⟨b1, o1 + k, none⟩) l1).trans f1, (hb.cell (p := ⟨b2, o2 + k, none⟩) l2).trans f2⟩)
      have BD := Lib.hid (Below.refl wr.heap.size wr).drew
      clear g1 g2 f1 f2 l1 l2 e1 e2
      go_upto_region 6 with fail
      go_region_held3 (fun w' => w'.cell? ⟨w.heap.size, 1, none⟩ = some (.slice (some ⟨b1, o1, none⟩) c.nh q'.cH) ∧ w'.cell? ⟨w.heap.size + 1, 1, none⟩ = some (.slice (some ⟨b2, o2, none⟩) c.nh q.cH) ∧ w'.cell? ⟨b1, o1 + k, none⟩ = some (.slice a1 (c.len k) c1) ∧ w'.cell? ⟨b2, o2 + k, none⟩ = some (.slice a2 (c.len k) c2)) (first | exact FR.out _ BD.out SD.out | exact FR.out _ B2.out S2.out)
        ((go_at_call 49; (with_reducible refine (KE.out k hlt _ _ _ (G1.out.below BD.out) (G2.out.below BD.out)).mono ?_); rintro e' w2 ⟨rfl, hb⟩; have S2 := Lib.hid (SD.out.on hb); have B2 := Lib.hid (BD.out.trans hb); clear hb))
      go_wp2
      go_roundw
      case rel => exact ⟨k + 1, by omega, by go_num, S2⟩
      case measure => simp [intOf]; omega
    · obtain rfl : k = c.nh := by omega
      go_wp2_with (first
        | (go_at_call 50; (with_reducible refine (KF.out _ S1.out.at0 S1.out.at1).mono ?_); rintro e' w3 ⟨rfl, hb⟩; have S3 := Lib.hid (S1.out.on hb); clear hb x0 x1 x2 x3 y0 y1 y2 y3; obtain ⟨x0, x1, x2, x3, y0, y1, y2, y3⟩ := FX.out _ S3.out)
        | (go_at_call 51; (with_reducible refine (KR.out _ S3.out.at0 S3.out.at1).mono ?_); rintro e' w4 ⟨rfl, hb⟩; have S4 := Lib.hid (S3.out.on hb); clear hb x0 x1 x2 x3 y0 y1 y2 y3; obtain ⟨x0, x1, x2, x3, y0, y1, y2, y3⟩ := FX.out _ S4.out)
        | (go_at_call 51; (with_reducible refine (KO.out _ S4.out.at0 S4.out.at1).mono ?_); rintro e' w5 ⟨rfl, hb⟩; have S5 := Lib.hid (S4.out.on hb); clear hb))
      go_ret
      exact ⟨rfl, S5.out.below⟩
end Go.Proofs.YtcbfokbdiefdeaaGreatDoor
