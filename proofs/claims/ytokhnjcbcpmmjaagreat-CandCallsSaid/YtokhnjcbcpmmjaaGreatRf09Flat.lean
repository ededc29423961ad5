/-
  Proved here: the document's flat: all events by number in a row of the call's own, their lists in new memory; nothing that was there is changed. Condition: at most 60 events, lists of at most 100,000 numbers.
-/
import Derived.Test.YtokhnjcbcpmmjaaGreatRf07Copy
import Derived.Test.YtokhnjcbcpmmjaaGreatRf07Pure
import Derived.Test.YtokhnjcbcpmmjaaGreatCdFew
import Derived.Test.YtokhnjcbcpmmjaaGreatRf09From
namespace Go.Proofs.YtokhnjcbcpmmjaaGreat
set_option linter.unusedVariables false
set_option linter.unusedSimpArgs false
open Go.RowKit
attribute [local go_sem ↓] fold_E fold_SE

/-- the events so far in a row of the call's own -/
structure Fl (c : Cd) (q : Cv) (es : List Ev) (v : Value) (k : Nat) (w W : World) : Prop where
  lk : Lk c q w W
  own : W.ownsRow (w.heap.size + 1) 60 14 v k (flat es)
  cp : Cp (fun n => (c.at n).1) (fun n => (c.at n).2) es W
  len : es.length = k
theorem Fl.on {c : Cd} {q : Cv} {es : List Ev} {v : Value} {k : Nat} {w W W2 : World} (h : Fl c q es v k w W) (hb : Below W.heap.size W W2) : Fl c q es v k w W2 := ⟨h.lk.on hb, own_on h.own hb, h.cp.on hb, h.len⟩
theorem Fl.grown {c : Cd} {q : Cv} {es : List Ev} {v v2 : Value} {k : Nat} {w W W2 : World} (h : Fl c q es v k w W) {e : Ev} {l : El} (hat : c.at k = (e, l)) {a d y : Value} (hr : EReads W (e.lists a d y) l) (ht : TypedD W a d y)
    (ho : W2.ownsRow (w.heap.size + 1) 60 14 v2 (k + 1) (flat es ++ (e.lists a d y).row)) (hg : W.grownBy W2 v.ownBlock) : Fl c q (es ++ [e.lists a d y]) v2 (k + 1) w W2 := by
  obtain rfl : (c.at k).1 = e := by rw [hat]
  obtain rfl : (c.at k).2 = l := by rw [hat]
  have hlt := fun g hg' => (h.own.lt g hg').1
  have hc := h.cp.add k h.len hr ht
  refine ⟨⟨(hg.block _ h.lk.box.lt (fun e => by have := hlt _ e.symm; omega)).trans h.lk.box, h.lk.below.grown hg h.lk.below.size (fun g hg' => by have := hlt g hg'; omega), h.lk.here⟩, by rw [flat_more]; exact ho, hc.grown h.own hg, by rw [List.length_append, h.len]; rfl⟩
theorem Fl.start {c : Cd} {q : Cv} {w : World} (h : CAt c q w) : Fl c q [] (.slice none 0 0) 0 w (w.alloc (.cells #[.slice q.aF c.fs.length q.cF, .slice q.aH c.nh q.cH, .slice q.aR c.fr.length q.cR, .slice q.aO c.od.length q.cO] 26)) :=
  ⟨Lk.start h, World.ownsRow_nil _ _ _ _, Cp.nil _ _ _, rfl⟩
def FlatIs (c : Cd) (w : World) (e : Ending) (w' : World) : Prop := ∃ v es, e = .returned v ∧ es.length = c.N ∧ w'.ownsRow (w.heap.size + 1) 60 14 v c.N (flat es) ∧ Cp (fun n => (c.at n).1) (fun n => (c.at n).2) es w' ∧ Below w.heap.size w w'
set_option maxRecDepth 100000 in
set_option maxHeartbeats 16000000 in
theorem flat_any (c : Cd) (q : Cv) (w : World) (hnh : c.nh ≤ 9) (hn60 : c.N ≤ 60) (hs : ∀ h, h < c.nh → ∀ j, j < c.len h → (c.el h j).n) (h : CAt c q w) : Calls Tryz.prog 31 #[cdV c q] w fun e w' => FlatIs c w e w' := by
  have S0 := Lib.hid (Fl.start h)
  have HS := Lib.hid hs
  clear h hs
  go_enter Tryz.func31, Tryz.ntmps31
  go_wp2
  go_loopw [3, 4] (fun vo vi wr => ∃ (h : Nat) (es : List Ev) (v : Value), v = vo ∧ h ≤ c.nh ∧ vi = .int .i64 h ∧ Hid (Fl c q es v (baseL c.len h) w wr)) (fun _ vi _ => c.nh - (intOf vi).toNat)
  case atStart => exact ⟨0, [], _, rfl, Nat.zero_le _, rfl, S0⟩
  case round =>
    obtain ⟨h, es, v, rfl, hh, rfl, hF⟩ := hrel
    obtain ⟨x0, x1, x2, x3⟩ := hF.out.lk.box.facts
    by_cases hlt : h < c.nh
    · have hlt' : (h : Int) < (c.nh : Int) := by omega
      have hl60 : c.len h ≤ 60 := by have hm2 := baseL_lt c.len h c.nh hlt; have : baseL c.len c.nh ≤ 60 := hn60; omega
      go_wp2
      go_loopw [3, 5] (fun vo vj wr2 => ∃ (j : Nat) (es : List Ev) (v : Value), v = vo ∧ j ≤ c.len h ∧ vj = .int .i64 j ∧ Hid (Fl c q es v (baseL c.len h + j) w wr2)) (fun _ vj _ => c.len h - (intOf vj).toNat)
      case atStart => exact ⟨0, es, _, rfl, Nat.zero_le _, rfl, hF⟩
      case round =>
        clear x0 x1 x2 x3 hF
        obtain ⟨j, es, v, rfl, hj, rfl, hG⟩ := hrel
        obtain ⟨x0, x1, x2, x3⟩ := hG.out.lk.box.facts
        obtain ⟨b, off, a2, c2, hq, hc, _, hrow⟩ := hG.out.lk.at_.harts.row h hlt
        rw [hq] at x1
        have hh0 : (0 : Int) ≤ (h : Int) := by omega
        by_cases hjl : j < c.len h
        · obtain ⟨a3, c3, e3, _, hrw⟩ := hrow
          injection e3 with e31 e32 e33
          subst e31 e33
          rcases hrw with h0 | ⟨b2, off2, e4, hrw⟩
          · exact absurd h0 (by omega)
          subst e4
          have hatk := c.at_is h j hlt hjl
          have hm2 := baseL_lt c.len h c.nh hlt
          have hKN : baseL c.len h + j < c.N := by show _ < baseL c.len c.nh; omega
          have cl := (hrw.at_ j hjl).load
          have HR := Lib.hid (hrw.reads j hjl)
          have HELN := Lib.hid (HS.out h hlt j hjl)
          obtain ⟨K, hK⟩ : ∃ K, baseL c.len h + j = K := ⟨_, rfl⟩
          have HNX : Hid (baseL c.len h + (j + 1) = K + 1) := Lib.hid (by omega)
          have hK1 : K ≤ 1000 := by omega
          rw [hK] at hatk hG
          obtain ⟨e, he⟩ : ∃ e, Hid (c.ev h j = e) := ⟨_, Lib.hid rfl⟩
          obtain ⟨l, hl⟩ : ∃ l, Hid (c.el h j = l) := ⟨_, Lib.hid rfl⟩
          rw [he.out] at cl HR
          rw [hl.out] at HR HELN
          have HAT : Hid (c.at K = (e, l)) := Lib.hid (by rw [hatk, he.out, hl.out])
          have hfl := Lib.hid HR.out.flat
          clear hatk hKN hm2 hK hq hrw
          have hji : (j : Int) < (c.len h : Int) := by omega
          have hj0 : (0 : Int) ≤ (j : Int) := by omega
          obtain ⟨s1, y1, e1⟩ := HR.out.1.len
          obtain ⟨s2, y2, e2⟩ := HR.out.2.1.len
          obtain ⟨s3, y3, e3⟩ := HR.out.2.2.len
          have KC := Lib.hid (fun w0 (hb : Below wr.heap.size wr w0) => copy_any e.a e.d e.y l.a l.d l.y w0 (HR.out.1.below hb) (HR.out.2.1.below hb) (HR.out.2.2.below hb) HELN.out.1 HELN.out.2.1 HELN.out.2.2)
          rw [e1, e2, e3] at KC
          have X1 := Lib.hid e1
          have X2 := Lib.hid e2
          have X3 := Lib.hid e3
          clear e1 e2 e3
          go_upto_region 9 with (refine store_ev (EvAt.new zeroEv _) e hfl.out rfl (.tmp 6) (.tmp 31) rfl rfl rfl ?_; intro w1 D1 ho1 hb1 hz1; have B1 := Lib.hid ((box_below wr (.cells #[.int .i64 0, .int .i64 0, .int .i64 0, .int .u64 0, .int .u64 0, .int .u64 0, .bool false, .bool false, .int .i64 0, .int .i64 0, .int .i64 0, .slice none 0 0, .slice none 0 0, .slice none 0 0] 60)).trans hb1); have E1 := Lib.hid D1; clear D1 ho1 hb1 hz1)
          clear cl x0 x1 x2 x3 hc
          obtain ⟨glt, g0, g1, g2, g3, g4, g5, g6, g7, g8, g9, g10, g11, g12, g13⟩ := E1.out.facts
          rw [X1.out] at g11
          rw [X2.out] at g12
          rw [X3.out] at g13
          go_upto_region 10 with (go_at_call 59; (with_reducible refine (KC.out _ B1.out).mono ?_); rintro e' w2 ⟨va, vd, vy, rfl, hd, ht, hb⟩; obtain ⟨a1, c1, rfl⟩ := hd.1.1.len; obtain ⟨a2, c2, rfl⟩ := hd.2.1.1.len; obtain ⟨a3, c3, rfl⟩ := hd.2.2.1.len; have E2 := Lib.hid (E1.out.on hb); have D1 := Lib.hid hd; have T1 := Lib.hid ht; have L1 := Lib.hid E1.out.lt; have B2 := Lib.hid (B1.out.trans (hb.mono B1.out.size)); clear hd hb ht glt g0 g1 g2 g3 g4 g5 g6 g7 g8 g9 g10 g11 g12 g13; obtain ⟨glt, g0, g1, g2, g3, g4, g5, g6, g7, g8, g9, g10, g11, g12, g13⟩ := E2.out.facts; have z11 := E2.out.free 11; have z12 := E2.out.free 12; have z13 := E2.out.free 13)
          obtain ⟨Y, hY⟩ : ∃ Y, Hid ((((w2.setCell ⟨wr.heap.size, 11, none⟩ (.slice a1 l.a.length c1)).setCell ⟨wr.heap.size, 12, none⟩ (.slice a2 l.d.length c2)).setCell ⟨wr.heap.size, 13, none⟩ (.slice a3 l.y.length c3)) = Y) := ⟨_, Lib.hid rfl⟩
          have BY : Hid (Below wr.heap.size wr Y) := Lib.hid (by
            rw [← hY.out]
            exact ((B2.out.setCell (p := ⟨wr.heap.size, 11, none⟩) (Nat.le_refl _) _).setCell (p := ⟨wr.heap.size, 12, none⟩) (Nat.le_refl _) _).setCell (p := ⟨wr.heap.size, 13, none⟩) (Nat.le_refl _) _)
          have E3 : Hid (EvAt (e.lists (.slice a1 l.a.length c1) (.slice a2 l.d.length c2) (.slice a3 l.y.length c3)) wr.heap.size Y) := Lib.hid (by
            rw [← hY.out]
            have Q1 : EvAt (e.lists (.slice a1 l.a.length c1) e.d e.y) wr.heap.size (w2.setCell ⟨wr.heap.size, 11, none⟩ (.slice a1 l.a.length c1)) := E2.out.setc 11 (.slice a1 l.a.length c1)
            have Q2 : EvAt (e.lists (.slice a1 l.a.length c1) (.slice a2 l.d.length c2) e.y) wr.heap.size ((w2.setCell ⟨wr.heap.size, 11, none⟩ (.slice a1 l.a.length c1)).setCell ⟨wr.heap.size, 12, none⟩ (.slice a2 l.d.length c2)) := Q1.setc 12 (.slice a2 l.d.length c2)
            exact Q2.setc 13 (.slice a3 l.y.length c3))
          have far : ∀ v zs, ReadsN w1.heap.size w2 v zs → TypedI w2 v → ReadsI Y v zs ∧ TypedI Y v := fun v zs hv ht => by
            have hlt : wr.heap.size < w1.heap.size := L1.out
            have q1 := hv.far (k := 11) (.slice a1 l.a.length c1) hlt
            have t1 := typed_set (k := 11) (x := (.slice a1 l.a.length c1)) ht hv hlt
            have q2 := q1.far (k := 12) (.slice a2 l.d.length c2) hlt
            have t2 := typed_set (k := 12) (x := (.slice a2 l.d.length c2)) t1 q1 hlt
            have q3 := q2.far (k := 13) (.slice a3 l.y.length c3) hlt
            have t3 := typed_set (k := 13) (x := (.slice a3 l.y.length c3)) t2 q2 hlt
            rw [← hY.out]
            exact ⟨q3.1, t3⟩
          have P2 := Lib.hid (show EReads Y (e.lists (.slice a1 l.a.length c1) (.slice a2 l.d.length c2) (.slice a3 l.y.length c3)) l from ⟨(far _ _ D1.out.1 T1.out.1).1, (far _ _ D1.out.2.1 T1.out.2.1).1, (far _ _ D1.out.2.2 T1.out.2.2).1⟩)
          have T2 := Lib.hid (show TypedD Y (.slice a1 l.a.length c1) (.slice a2 l.d.length c2) (.slice a3 l.y.length c3) from ⟨(far _ _ D1.out.1 T1.out.1).2, (far _ _ D1.out.2.1 T1.out.2.1).2, (far _ _ D1.out.2.2 T1.out.2.2).2⟩)
          rw [hY.out]
          clear hY far glt g0 g1 g2 g3 g4 g5 g6 g7 g8 g9 g10 g11 g12 g13 z11 z12 z13 E2 D1 T1 B2 B1 E1
          have cl := run_LoadE E3.out
          have FY := Lib.hid (hG.out.on BY.out)
          have F2 := Lib.hid (FY.out.on (box_below Y (.cells #[.int .i64 ((e.lists (.slice a1 l.a.length c1) (.slice a2 l.d.length c2) (.slice a3 l.y.length c3))).hart, .int .i64 ((e.lists (.slice a1 l.a.length c1) (.slice a2 l.d.length c2) (.slice a3 l.y.length c3))).pos, .int .i64 ((e.lists (.slice a1 l.a.length c1) (.slice a2 l.d.length c2) (.slice a3 l.y.length c3))).kind, .int .u64 ((e.lists (.slice a1 l.a.length c1) (.slice a2 l.d.length c2) (.slice a3 l.y.length c3))).addr, .int .u64 ((e.lists (.slice a1 l.a.length c1) (.slice a2 l.d.length c2) (.slice a3 l.y.length c3))).load, .int .u64 ((e.lists (.slice a1 l.a.length c1) (.slice a2 l.d.length c2) (.slice a3 l.y.length c3))).store, .bool ((e.lists (.slice a1 l.a.length c1) (.slice a2 l.d.length c2) (.slice a3 l.y.length c3))).aq, .bool ((e.lists (.slice a1 l.a.length c1) (.slice a2 l.d.length c2) (.slice a3 l.y.length c3))).rl, .int .i64 ((e.lists (.slice a1 l.a.length c1) (.slice a2 l.d.length c2) (.slice a3 l.y.length c3))).pred, .int .i64 ((e.lists (.slice a1 l.a.length c1) (.slice a2 l.d.length c2) (.slice a3 l.y.length c3))).succ, .int .i64 ((e.lists (.slice a1 l.a.length c1) (.slice a2 l.d.length c2) (.slice a3 l.y.length c3))).pair, ((e.lists (.slice a1 l.a.length c1) (.slice a2 l.d.length c2) (.slice a3 l.y.length c3))).a, ((e.lists (.slice a1 l.a.length c1) (.slice a2 l.d.length c2) (.slice a3 l.y.length c3))).d, ((e.lists (.slice a1 l.a.length c1) (.slice a2 l.d.length c2) (.slice a3 l.y.length c3))).y] 60)))
          have P3 := Lib.hid (P2.out.below (box_below Y (.cells #[.int .i64 ((e.lists (.slice a1 l.a.length c1) (.slice a2 l.d.length c2) (.slice a3 l.y.length c3))).hart, .int .i64 ((e.lists (.slice a1 l.a.length c1) (.slice a2 l.d.length c2) (.slice a3 l.y.length c3))).pos, .int .i64 ((e.lists (.slice a1 l.a.length c1) (.slice a2 l.d.length c2) (.slice a3 l.y.length c3))).kind, .int .u64 ((e.lists (.slice a1 l.a.length c1) (.slice a2 l.d.length c2) (.slice a3 l.y.length c3))).addr, .int .u64 ((e.lists (.slice a1 l.a.length c1) (.slice a2 l.d.length c2) (.slice a3 l.y.length c3))).load, .int .u64 ((e.lists (.slice a1 l.a.length c1) (.slice a2 l.d.length c2) (.slice a3 l.y.length c3))).store, .bool ((e.lists (.slice a1 l.a.length c1) (.slice a2 l.d.length c2) (.slice a3 l.y.length c3))).aq, .bool ((e.lists (.slice a1 l.a.length c1) (.slice a2 l.d.length c2) (.slice a3 l.y.length c3))).rl, .int .i64 ((e.lists (.slice a1 l.a.length c1) (.slice a2 l.d.length c2) (.slice a3 l.y.length c3))).pred, .int .i64 ((e.lists (.slice a1 l.a.length c1) (.slice a2 l.d.length c2) (.slice a3 l.y.length c3))).succ, .int .i64 ((e.lists (.slice a1 l.a.length c1) (.slice a2 l.d.length c2) (.slice a3 l.y.length c3))).pair, ((e.lists (.slice a1 l.a.length c1) (.slice a2 l.d.length c2) (.slice a3 l.y.length c3))).a, ((e.lists (.slice a1 l.a.length c1) (.slice a2 l.d.length c2) (.slice a3 l.y.length c3))).d, ((e.lists (.slice a1 l.a.length c1) (.slice a2 l.d.length c2) (.slice a3 l.y.length c3))).y] 60)))
          have T3 := Lib.hid (T2.out.on (box_below Y (.cells #[.int .i64 ((e.lists (.slice a1 l.a.length c1) (.slice a2 l.d.length c2) (.slice a3 l.y.length c3))).hart, .int .i64 ((e.lists (.slice a1 l.a.length c1) (.slice a2 l.d.length c2) (.slice a3 l.y.length c3))).pos, .int .i64 ((e.lists (.slice a1 l.a.length c1) (.slice a2 l.d.length c2) (.slice a3 l.y.length c3))).kind, .int .u64 ((e.lists (.slice a1 l.a.length c1) (.slice a2 l.d.length c2) (.slice a3 l.y.length c3))).addr, .int .u64 ((e.lists (.slice a1 l.a.length c1) (.slice a2 l.d.length c2) (.slice a3 l.y.length c3))).load, .int .u64 ((e.lists (.slice a1 l.a.length c1) (.slice a2 l.d.length c2) (.slice a3 l.y.length c3))).store, .bool ((e.lists (.slice a1 l.a.length c1) (.slice a2 l.d.length c2) (.slice a3 l.y.length c3))).aq, .bool ((e.lists (.slice a1 l.a.length c1) (.slice a2 l.d.length c2) (.slice a3 l.y.length c3))).rl, .int .i64 ((e.lists (.slice a1 l.a.length c1) (.slice a2 l.d.length c2) (.slice a3 l.y.length c3))).pred, .int .i64 ((e.lists (.slice a1 l.a.length c1) (.slice a2 l.d.length c2) (.slice a3 l.y.length c3))).succ, .int .i64 ((e.lists (.slice a1 l.a.length c1) (.slice a2 l.d.length c2) (.slice a3 l.y.length c3))).pair, ((e.lists (.slice a1 l.a.length c1) (.slice a2 l.d.length c2) (.slice a3 l.y.length c3))).a, ((e.lists (.slice a1 l.a.length c1) (.slice a2 l.d.length c2) (.slice a3 l.y.length c3))).d, ((e.lists (.slice a1 l.a.length c1) (.slice a2 l.d.length c2) (.slice a3 l.y.length c3))).y] 60)))
          go_wp2_with (refine append_ev rfl (.tmp 36) (.tmp 38) rfl (w.heap.size + 1) v K (flat es) rfl F2.out.own (e.lists (.slice a1 l.a.length c1) (.slice a2 l.d.length c2) (.slice a3 l.y.length c3)) ⟨rfl, rfl, rfl⟩ Y.heap.size rfl (EvAt.new (e.lists (.slice a1 l.a.length c1) (.slice a2 l.d.length c2) (.slice a3 l.y.length c3)) Y) hK1 F2.out.lk.box.lt ?_; intro v4 w4 hw4 hg4; have F4 := Lib.hid (F2.out.grown HAT.out P3.out T3.out hw4 hg4); clear hw4 hg4)
          go_roundw
          case rel => exact ⟨j + 1, _, _, rfl, by omega, by go_num, by rw [HNX.out]; exact F4⟩
          case measure => simp [intOf]; omega
        · obtain rfl : j = c.len h := by omega
          clear hq hrow
          go_wp2
          go_roundw
          case rel => exact ⟨h + 1, es, _, rfl, by omega, by go_num, hG⟩
          case measure => simp [intOf]; omega
    · obtain rfl : h = c.nh := by omega
      go_wp2
      go_ret
      exact ⟨_, es, rfl, hF.out.len, hF.out.own, hF.out.cp, hF.out.lk.below⟩
end Go.Proofs.YtokhnjcbcpmmjaaGreat
