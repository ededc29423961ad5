/-
  Proved here: the document's View.Holds tells what package ppo's rules tell; nothing that was there is changed. Condition: a light candidate that may be.
-/
import Derived.Test.YtcbfokbdiefdeaaGreatDoorRf10Small
namespace Go.Proofs.YtcbfokbdiefdeaaGreatDoor
set_option linter.unusedVariables false
set_option linter.unusedSimpArgs false
open Go.RowKit Go.Maps
attribute [local go_sem ↓] fold_E fold_SE

/-- a view in its box, two events in theirs -/
structure Hz (c : Cd) (q : Cv) (es : List Ev) (aA : Option Addr) (cA base gV : Nat) (X Y : Ev) (gX gY : Nat) (w W : World) : Prop where
  v : Vr c q es aA cA base gV w W
  x : EvAt X gX W
  y : EvAt Y gY W
theorem Hz.on {c : Cd} {q : Cv} {es : List Ev} {aA : Option Addr} {cA base gV : Nat} {X Y : Ev} {gX gY : Nat} {w W W2 : World} (h : Hz c q es aA cA base gV X Y gX gY w W) (hb : Below W.heap.size W W2) : Hz c q es aA cA base gV X Y gX gY w W2 := ⟨h.v.on hb, h.x.on hb, h.y.on hb⟩
theorem ra_reads {c : Cd} {es : List Ev} {v : Value} {base : Nat} {w : World} (h : Ra c es v base w) (k : Nat) (hk : k < c.N) : EReads w (evAtN es k) (c.at k).2 := by
  refine h.cp.reads k _ ?_
  unfold evAtN
  rw [List.getD_eq_getElem?_getD, List.getElem?_eq_getElem (by rw [h.len]; exact hk)]; rfl
theorem from_cells {c : Cd} {q : Cv} {W0 : World} (h : CAt c q W0) (hm : c.may = true) (hN : 0 < c.N) : ∃ bR oR, q.aR = some ⟨bR, oR, none⟩ ∧ ∀ W, CAt c q W → ∀ n, n < c.N → W.cell? ⟨bR, oR + n, none⟩ = some (.int .i64 (atI c.fr n)) := by
  have hl := (may_found hm).1
  obtain ⟨b, off, e, _⟩ := reads_at h.from_ (k := 0) (by omega)
  refine ⟨b, off, e, fun W hW n hn => ?_⟩
  obtain ⟨b2, o2, e2, h2⟩ := reads_at hW.from_ (k := n) (by omega)
  rw [e] at e2
  injection e2 with e3
  injection e3 with e4 e5 e6
  subst e4 e5
  exact h2
def f2 (c : Cd) (a b m : Nat) : Bool := writesE (c.at m).1 && decide ((c.at m).1.addr = (c.at a).1.addr)
theorem bne_dec (a b : Int) : (a != b) = decide (a ≠ b) := by
  by_cases h : a = b
  · simp [h]
  · have : (a != b) = true := by simpa using h
    rw [this, decide_eq_true h]
/-- what View.Holds answers -/
def holdsR (c : Cd) (a b rule : Int) : Bool := decide (1 ≤ rule) && (decide (rule ≤ 13) && (aheadP c a b && ruleB c a.toNat b.toNat (rule.toNat - 1)))
theorem holdsR_no {c : Cd} {a b rule : Int} (h : aheadP c a b = false) : holdsR c a b rule = false := by unfold holdsR; rw [h]; simp
theorem holdsR_out {c : Cd} {a b rule : Int} (h : rule < 1 ∨ 13 < rule) : holdsR c a b rule = false := by
  unfold holdsR
  rcases h with h | h
  · rw [decide_eq_false (show ¬ 1 ≤ rule by omega)]; rfl
  · rw [decide_eq_false (show ¬ rule ≤ 13 by omega)]; simp
set_option maxRecDepth 100000 in
set_option maxHeartbeats 32000000 in
theorem holdsV_any (c : Cd) (q : Cv) (es : List Ev) (aA : Option Addr) (cA base : Nat) (w : World) (hL : Lt c) (hm : c.may = true) (h : Vh c q es aA cA base w) (a b rule : Int) (r : Bool) (hr : holdsR c a b rule = r) :
    Calls Tryz.prog 73 #[vwV c q aA cA, .int .i64 a, .int .i64 b, .int .i64 rule] w fun e w' => SaysB w r e w' := by
  have S0 := Lib.hid (Vr.start h)
  have HR := Lib.hid hr
  have HM := Lib.hid hm
  have HL := Lib.hid hL
  obtain ⟨ah, hah⟩ : ∃ z, Hid (aheadP c a b = z) := ⟨_, Lib.hid rfl⟩
  have KAH := Lib.hid (fun w0 h0 => aheadV_any c q es aA cA base w0 h0 a b ah (by rw [aheadR_is hm]; exact hah.out))
  clear h hr hm hL
  obtain ⟨y0, y1, y2, y3, y4⟩ := S0.out.facts
  cases ah with
  | false =>
    go_enter Tryz.func73, Tryz.ntmps73
    go_wp2_with (go_at_call 87; (with_reducible refine (KAH.out _ S0.out.vh).mono ?_); rintro e' w1 ⟨rfl, hb⟩; have S1 := Lib.hid (S0.out.on hb); clear hb)
    go_ret
    exact ⟨by rw [← HR.out, holdsR_no hah.out]; rfl, S1.out.below⟩
  | true =>
    have hin := aheadP_in hah.out
    obtain ⟨x, rfl⟩ : ∃ x : Nat, a = x := ⟨a.toNat, by omega⟩
    obtain ⟨y, rfl⟩ : ∃ y : Nat, b = y := ⟨b.toNat, by omega⟩
    have HAH := Lib.hid (aheadP_hart hah.out)
    have hxy : x < y := by omega
    have hyN : y < c.N := by omega
    have hxN : x < c.N := by omega
    have hxi : (x : Int) < (c.N : Int) := by omega
    have hyi : (y : Int) < (c.N : Int) := by omega
    have hx0 : (0 : Int) ≤ (x : Int) := by omega
    have hy0 : (0 : Int) ≤ (y : Int) := by omega
    have hN60 := HL.out.n
    clear hin
    obtain ⟨g, cap, ev, _, hra⟩ := S0.out.vh.ra.rall (by omega)
    injection ev with ev1 ev2 ev3
    subst ev1 ev3
    clear ev2
    obtain ⟨X, hX⟩ : ∃ X, Hid (evAtN es x = X) := ⟨_, Lib.hid rfl⟩
    obtain ⟨Y, hY⟩ : ∃ Y, Hid (evAtN es y = Y) := ⟨_, Lib.hid rfl⟩
    have FX : Hid X.flat := Lib.hid (by rw [← hX.out]; exact hra.flat_ x hxN)
    have FY : Hid Y.flat := Lib.hid (by rw [← hY.out]; exact hra.flat_ y hyN)
    have LX : Hid (∃ a d z, X = (c.at x).1.lists a d z) := Lib.hid (by rw [← hX.out]; exact hra.like x hxN)
    have LY : Hid (∃ a d z, Y = (c.at y).1.lists a d z) := Lib.hid (by rw [← hY.out]; exact hra.like y hyN)
    have HA0 := Lib.hid (fun W0 (hW : Vr c q es (some ⟨g, 0, none⟩) cA base w.heap.size w W0) => (show RAll c (evAtN es) g 0 W0 from by
      obtain ⟨g', cap', ev', _, hra'⟩ := hW.vh.ra.rall (by omega)
      injection ev' with e1 e2 e3
      injection e1 with e1
      injection e1 with e1
      subst e1
      exact hra'))
    have RDY : Hid (∀ W, Vr c q es (some ⟨g, 0, none⟩) cA base w.heap.size w W → EReads W Y (c.at y).2) := Lib.hid (fun W hW => by rw [← hY.out]; exact ra_reads hW.vh.ra y hyN)
    have SMY := Lib.hid (small_at HL.out y hyN).n
    clear hra
    go_enter Tryz.func73, Tryz.ntmps73
    go_upto_region 3 with (go_at_call 87; (with_reducible refine (KAH.out _ S0.out.vh).mono ?_); rintro e' w1 ⟨rfl, hb⟩; have S1 := Lib.hid (S0.out.on hb); clear hb)
    clear y0 y1 y2 y3 y4
    have K := Lib.hid (fun w0 (hb : Below w1.heap.size w1 w0) => (show w0.cell? ⟨w.heap.size, 4, none⟩ = some (.slice (some ⟨g, 0, none⟩) c.N cA) ∧ (LoadE (.pointer (some ⟨g, x * 14, none⟩))).run Tryz.prog w0 = .ok X.V w0 ∧ (LoadE (.pointer (some ⟨g, y * 14, none⟩))).run Tryz.prog w0 = .ok Y.V w0 from ⟨(S1.out.on hb).facts.2.2.2.2, by rw [← hX.out]; exact load0 (HA0.out _ (S1.out.on hb)) x hxN, by rw [← hY.out]; exact load0 (HA0.out _ (S1.out.on hb)) y hyN⟩))
    go_cut [9, 10] (fun t9 t10 wx => ∃ g6 g7, t9 = .pointer (some ⟨g6, 0, none⟩) ∧ t10 = .pointer (some ⟨g7, 0, none⟩) ∧ Hid (EvAt X g6 wx ∧ EvAt Y g7 wx ∧ Below w1.heap.size w1 wx))
    case first => as_aux_lemma =>
      have bT := Lib.hid (blw_drew (blw_alloc (.cells #[.int .i64 0, .int .i64 0, .int .i64 0, .int .u64 0, .int .u64 0, .int .u64 0, .bool false, .bool false, .int .i64 0, .int .i64 0, .int .i64 0, .slice none 0 0, .slice none 0 0, .slice none 0 0] 32) (box_below w1 (.cells #[.int .i64 0, .int .i64 0, .int .i64 0, .int .u64 0, .int .u64 0, .int .u64 0, .bool false, .bool false, .int .i64 0, .int .i64 0, .int .i64 0, .slice none 0 0, .slice none 0 0, .slice none 0 0] 32))))
      have D0 : EvAt zeroEv w1.heap.size ((w1.alloc (.cells #[.int .i64 0, .int .i64 0, .int .i64 0, .int .u64 0, .int .u64 0, .int .u64 0, .bool false, .bool false, .int .i64 0, .int .i64 0, .int .i64 0, .slice none 0 0, .slice none 0 0, .slice none 0 0] 32)).alloc (.cells #[.int .i64 0, .int .i64 0, .int .i64 0, .int .u64 0, .int .u64 0, .int .u64 0, .bool false, .bool false, .int .i64 0, .int .i64 0, .int .i64 0, .slice none 0 0, .slice none 0 0, .slice none 0 0] 32)).drew := ((EvAt.new zeroEv w1).alloc _).on (Below.refl _ _).drew
      have D1 : EvAt zeroEv (w1.heap.size + 1) ((w1.alloc (.cells #[.int .i64 0, .int .i64 0, .int .i64 0, .int .u64 0, .int .u64 0, .int .u64 0, .bool false, .bool false, .int .i64 0, .int .i64 0, .int .i64 0, .slice none 0 0, .slice none 0 0, .slice none 0 0] 32)).alloc (.cells #[.int .i64 0, .int .i64 0, .int .i64 0, .int .u64 0, .int .u64 0, .int .u64 0, .bool false, .bool false, .int .i64 0, .int .i64 0, .int .i64 0, .slice none 0 0, .slice none 0 0, .slice none 0 0] 32)).drew := (EvAt.new_at zeroEv (w1.alloc (.cells #[.int .i64 0, .int .i64 0, .int .i64 0, .int .u64 0, .int .u64 0, .int .u64 0, .bool false, .bool false, .int .i64 0, .int .i64 0, .int .i64 0, .slice none 0 0, .slice none 0 0, .slice none 0 0] 32)) (w1.heap.size + 1) (by simp)).on (Below.refl _ _).drew
      obtain ⟨Wa, sa, ea, ba, fa⟩ := store_two D0 FX.out
      obtain ⟨Wb, sb, eb, bb, fb⟩ := store_two D1 FX.out
      obtain ⟨Wc, sc, ec, bc, fc⟩ := store_two D0 FY.out
      obtain ⟨Wd, sd, ed, bd, fd⟩ := store_two D1 FY.out
      obtain ⟨Wad, sad, ead, bad, fad⟩ := store_two (fa (w1.heap.size + 1) zeroEv (by omega) D1) FY.out
      obtain ⟨Wbc, sbc, ebc, bbc, fbc⟩ := store_two (fb w1.heap.size zeroEv (by omega) D0) FY.out
      obtain ⟨Wcb, scb, ecb, bcb, fcb⟩ := store_two (fc (w1.heap.size + 1) zeroEv (by omega) D1) FX.out
      obtain ⟨Wda, sda, eda, bda, fda⟩ := store_two (fd w1.heap.size zeroEv (by omega) D0) FX.out
      have La := Lib.hid (bT.out.trans ba)
      have Lb := Lib.hid (bT.out.trans (bb.mono (show w1.heap.size ≤ w1.heap.size + 1 by omega)))
      have Lc := Lib.hid (bT.out.trans bc)
      have Ld := Lib.hid (bT.out.trans (bd.mono (show w1.heap.size ≤ w1.heap.size + 1 by omega)))
      have Lad := Lib.hid (La.out.trans (bad.mono (show w1.heap.size ≤ w1.heap.size + 1 by omega)))
      have Lbc := Lib.hid (Lb.out.trans bbc)
      have Lcb := Lib.hid (Lc.out.trans (bcb.mono (show w1.heap.size ≤ w1.heap.size + 1 by omega)))
      have Lda := Lib.hid (Ld.out.trans bda)
      have Qad := Lib.hid (show EvAt X w1.heap.size Wad ∧ EvAt Y (w1.heap.size + 1) Wad from ⟨fad _ _ (by omega) ea, ead⟩)
      have Qbc := Lib.hid (show EvAt X (w1.heap.size + 1) Wbc ∧ EvAt Y w1.heap.size Wbc from ⟨fbc _ _ (by omega) eb, ebc⟩)
      have Qcb := Lib.hid (show EvAt X (w1.heap.size + 1) Wcb ∧ EvAt Y w1.heap.size Wcb from ⟨ecb, fcb _ _ (by omega) ec⟩)
      have Qda := Lib.hid (show EvAt X w1.heap.size Wda ∧ EvAt Y (w1.heap.size + 1) Wda from ⟨eda, fda _ _ (by omega) ed⟩)
      clear ba bb bc bd bad bbc bcb bda fa fb fc fd fad fbc fcb fda ea eb ec ed ead ebc ecb eda D0 D1
      have l0 := Lib.hid (K.out _ (Below.refl _ _).drew)
      go_region_held3 (fun w' => w'.cell? ⟨w.heap.size, 4, none⟩ = some (.slice (some ⟨g, 0, none⟩) c.N cA) ∧ (LoadE (.pointer (some ⟨g, x * 14, none⟩))).run Tryz.prog w' = .ok X.V w' ∧ (LoadE (.pointer (some ⟨g, y * 14, none⟩))).run Tryz.prog w' = .ok Y.V w')
        (first | exact l0.out | exact K.out _ (blw_drew (box_below w1 (.cells #[.int .i64 0, .int .i64 0, .int .i64 0, .int .u64 0, .int .u64 0, .int .u64 0, .bool false, .bool false, .int .i64 0, .int .i64 0, .int .i64 0, .slice none 0 0, .slice none 0 0, .slice none 0 0] 32))) | exact K.out _ bT.out | exact K.out _ La.out | exact K.out _ Lb.out | exact K.out _ Lc.out | exact K.out _ Ld.out | exact K.out _ Lad.out | exact K.out _ Lbc.out | exact K.out _ Lcb.out | exact K.out _ Lda.out)
        (fail)
      all_goals
        go_wp2_with fail
        go_meet
        first
          | exact ⟨_, _, rfl, rfl, Lib.hid ⟨Qad.out.1, Qad.out.2, Lad.out⟩⟩
          | exact ⟨_, _, rfl, rfl, Lib.hid ⟨Qbc.out.1, Qbc.out.2, Lbc.out⟩⟩
          | exact ⟨_, _, rfl, rfl, Lib.hid ⟨Qcb.out.1, Qcb.out.2, Lcb.out⟩⟩
          | exact ⟨_, _, rfl, rfl, Lib.hid ⟨Qda.out.1, Qda.out.2, Lda.out⟩⟩
    case rest =>
      obtain ⟨gX, gY, rfl, rfl, HZ⟩ := hcut
      have H3 : Hid (Hz c q es (some ⟨g, 0, none⟩) cA base w.heap.size X Y gX gY w wc) := Lib.hid ⟨S1.out.on HZ.out.2.2, HZ.out.1, HZ.out.2.1⟩
      clear K HZ S0 S1 KAH
      rcases (show rule = 1 ∨ rule = 2 ∨ rule = 3 ∨ rule = 4 ∨ rule = 5 ∨ rule = 6 ∨ rule = 7 ∨ rule = 8 ∨ rule = 9 ∨ rule = 10 ∨ rule = 11 ∨ rule = 12 ∨ rule = 13 ∨ (rule < 1 ∨ 13 < rule) by omega) with rfl | rfl | rfl | rfl | rfl | rfl | rfl | rfl | rfl | rfl | rfl | rfl | rfl | hout
      · as_aux_lemma =>
          have HK : Hid ((writesE Y && (X.addr == Y.addr)) = r) := Lib.hid (by
            obtain ⟨_, _, _, e1⟩ := LX.out
            obtain ⟨_, _, _, e2⟩ := LY.out
            rw [← HR.out]
            unfold holdsR
            rw [hah.out]
            (try rw [e1])
            (try rw [e2])
            rfl)
          obtain ⟨wy, hwy⟩ : ∃ z, Hid (writesE Y = z) := ⟨_, Lib.hid rfl⟩
          rw [hwy.out] at HK
          obtain ⟨ea, hea⟩ : ∃ z, Hid ((X.addr == Y.addr) = z) := ⟨_, Lib.hid rfl⟩
          rw [hea.out] at HK
          have bea := hea.out
          have KW := Lib.hid (fun w0 => rWrites_b Y wy hwy.out w0)
          have cly := run_LoadE H3.out.y
          cases wy <;> cases ea
          all_goals
            go_wp2_with (go_at_call 29; (with_reducible refine (KW.out _).mono ?_); rintro e' w2 ⟨rfl, hb⟩; have H4 := Lib.hid (H3.out.on hb); clear hb cly; obtain ⟨_, px0, px1, px2, px3, _⟩ := H4.out.x.facts; obtain ⟨_, py0, py1, py2, py3, _⟩ := H4.out.y.facts)
            go_ret
            exact ⟨by rw [← HK.out]; rfl, H4.out.v.below⟩
      · as_aux_lemma =>
          have hx1 : wrap64 ((x : Int) + 1) = (x : Int) + 1 := IntWalk.wrap64_in _ (by omega)
          go_wp2
          go_loopw [11] (fun vm wr => ∃ m : Nat, x < m ∧ m ≤ y ∧ vm = .int .i64 m ∧ Hid (∀ m', x < m' → m' < m → f2 c x y m' = false) ∧ Hid (Hz c q es (some ⟨g, 0, none⟩) cA base w.heap.size X Y gX gY w wr)) (fun vm _ => y - (intOf vm).toNat)
          case atStart => exact ⟨x + 1, by omega, by omega, by go_num, Lib.hid (fun m' h1 h2 => absurd h1 (by omega)), H3⟩
          case round =>
            clear H3
            obtain ⟨m, hm1, hm2, rfl, HN, H3⟩ := hrel
            by_cases hml : m < y
            · have hmi : (m : Int) < (y : Int) := by omega
              have hm0 : (0 : Int) ≤ (m : Int) := by omega
              have hmN : (m : Int) < (c.N : Int) := by omega
              have hmN2 : m < c.N := by omega
              have hra := HA0.out _ H3.out.v
              obtain ⟨E, hE⟩ : ∃ E, Hid (evAtN es m = E) := ⟨_, Lib.hid rfl⟩
              have FE : Hid E.flat := Lib.hid (by rw [← hE.out]; exact hra.flat_ m hmN2)
              have LE : Hid (∃ a d z, E = (c.at m).1.lists a d z) := Lib.hid (by rw [← hE.out]; exact hra.like m hmN2)
              have KE := Lib.hid (fun w0 h0 => (show (LoadE (.pointer (some ⟨g, m * 14, none⟩))).run Tryz.prog w0 = .ok E.V w0 from by rw [← hE.out]; exact load0 (HA0.out w0 h0) m hmN2))
              have RDE : Hid (∀ W, Vr c q es (some ⟨g, 0, none⟩) cA base w.heap.size w W → EReads W E (c.at m).2) := Lib.hid (fun W hW => by rw [← hE.out]; exact ra_reads hW.vh.ra m hmN2)
              have SME := Lib.hid (small_at HL.out m hmN2).n
              have HKP := Lib.hid (may_num HM.out m hmN2)
              clear hra
              have HF : Hid ((writesE E && (E.addr == X.addr)) = f2 c x y m) := Lib.hid (by
                obtain ⟨_, _, _, e1⟩ := LX.out
                obtain ⟨_, _, _, e2⟩ := LY.out
                obtain ⟨_, _, _, e3⟩ := LE.out
                (try rw [e1])
                (try rw [e2])
                (try rw [e3])
                rfl)
              obtain ⟨we, hwe⟩ : ∃ z, Hid (writesE E = z) := ⟨_, Lib.hid rfl⟩
              rw [hwe.out] at HF
              obtain ⟨ea, hea⟩ : ∃ z, Hid ((E.addr == X.addr) = z) := ⟨_, Lib.hid rfl⟩
              rw [hea.out] at HF
              have bea := hea.out
              have HY2 : Hid (f2 c x y m = true → Hid (r = false)) := Lib.hid (fun hf => Lib.hid (by
                rw [← HR.out]
                unfold holdsR
                rw [hah.out]
                unfold f2 at hf
                simp only [Bool.and_eq_true, decide_eq_true_eq] at hf
                exact r2_some hm1 hml hf.1 hf.2))
              have KW := Lib.hid (fun w0 => rWrites_b E we hwe.out w0)
              go_upto_region 11 with fail
              have H4 := Lib.hid (H3.out.on (Below.refl wr.heap.size wr).drew)
              have KS : Hid (∀ w0, Hz c q es (some ⟨g, 0, none⟩) cA base w.heap.size X Y gX gY w w0 → w0.cell? ⟨w.heap.size, 4, none⟩ = some (.slice (some ⟨g, 0, none⟩) c.N cA) ∧ (LoadE (.pointer (some ⟨g, m * 14, none⟩))).run Tryz.prog w0 = .ok E.V w0 ∧ w0.cell? ⟨g, m * 14 + 3, none⟩ = some (.int .u64 E.addr) ∧ w0.cell? ⟨gX, 3, none⟩ = some (.int .u64 X.addr)) := Lib.hid (fun w0 h0 => ⟨h0.v.facts.2.2.2.2, KE.out _ h0.v, by
                have := (HA0.out w0 h0.v).at_ m hmN2 3 _ rfl
                rw [Nat.zero_add, hE.out] at this
                exact this, h0.x.facts.2.2.2.2.1⟩)
              cases we with
              | false =>
                refine wp_region_held_drew (S := (fun w' => w'.cell? ⟨w.heap.size, 4, none⟩ = some (.slice (some ⟨g, 0, none⟩) c.N cA) ∧ (LoadE (.pointer (some ⟨g, m * 14, none⟩))).run Tryz.prog w' = .ok E.V w' ∧ w'.cell? ⟨g, m * 14 + 3, none⟩ = some (.int .u64 E.addr) ∧ w'.cell? ⟨gX, 3, none⟩ = some (.int .u64 X.addr))) (by kernel_rfl) ?_ (fun hHeld => ?_)
                · exact KS.out _ H4.out
                refine wpAnyH_take (i := 0) (oi := ⟨some 54, _, _, _, _, _⟩) (v := .pointer (some ⟨w.heap.size, 4, none⟩)) rfl (by kernel_rfl) (by kernel_rfl) (by kernel_rfl) (fun _ _ _ h => h) (Or.inl ⟨by kernel_rfl, fun w hSw => by ((try dsimp only at hSw); go_simp; done)⟩) (by assumption) ?_
                (try simp only [Act.put, List.setIfInBounds_toArray, List.set_cons_zero, List.set_cons_succ])
                refine wpAnyH_take (i := 1) (oi := ⟨some 55, _, _, _, _, _⟩) (v := .slice (some ⟨g, 0, none⟩) c.N cA) rfl (by kernel_rfl) (by kernel_rfl) (by kernel_rfl) (fun _ _ _ h => h) (Or.inl ⟨by kernel_rfl, fun w hSw => by ((try dsimp only at hSw); go_simp; done)⟩) (by assumption) ?_
                (try simp only [Act.put, List.setIfInBounds_toArray, List.set_cons_zero, List.set_cons_succ])
                refine wpAnyH_take (i := 2) (oi := ⟨some 56, _, _, _, _, _⟩) (v := .int .i64 (m : Int)) rfl (by kernel_rfl) (by kernel_rfl) (by kernel_rfl) (fun _ _ _ h => h) (Or.inl ⟨by kernel_rfl, fun w hSw => by ((try dsimp only at hSw); go_simp; done)⟩) (by assumption) ?_
                (try simp only [Act.put, List.setIfInBounds_toArray, List.set_cons_zero, List.set_cons_succ])
                refine wpAnyH_take (i := 3) (oi := ⟨some 57, _, _, _, _, _⟩) (v := .pointer (some ⟨g, m * 14, none⟩)) rfl (by kernel_rfl) (by kernel_rfl) (by kernel_rfl) (fun _ _ _ h => h) (Or.inl ⟨by kernel_rfl, fun w hSw => by ((try dsimp only at hSw); go_simp; done)⟩) (by assumption) ?_
                (try simp only [Act.put, List.setIfInBounds_toArray, List.set_cons_zero, List.set_cons_succ])
                refine wpAnyH_take (i := 4) (oi := ⟨some 58, _, _, _, _, _⟩) (v := E.V) rfl (by kernel_rfl) (by kernel_rfl) (by kernel_rfl) (fun _ _ _ h => h) (Or.inl ⟨by kernel_rfl, fun w hSw => by ((try dsimp only at hSw); go_simp; done)⟩) (by assumption) ?_
                (try simp only [Act.put, List.setIfInBounds_toArray, List.set_cons_zero, List.set_cons_succ])
                refine wpAnyH_ready (rs := [5]) (by kernel_rfl) (by simp) ?_
                refine AllReadyH.cons (o := ⟨some 59, _, _, _, _, _⟩) rfl (fun K hK => ?_) AllReadyH.nil
                go_simp
                ((go_at_call 29; (with_reducible refine (KW.out _).mono ?_); rintro e' wa ⟨rfl, hb⟩; have H5 := Lib.hid (H4.out.on hb); clear hb))
                (try go_wp2_with fail)
                refine hK.out _ _ ?_ (fun hHeld => ?_)
                · exact KS.out _ H5.out
                clear hK K
                (try simp only [Act.put, List.setIfInBounds_toArray, List.set_cons_zero, List.set_cons_succ])
                refine wpAnyH_take (i := 6) (oi := ⟨some 60, _, _, _, _, _⟩) (v := .bool false) rfl (by kernel_rfl) (by kernel_rfl) (by kernel_rfl) (fun _ _ _ h => h) (Or.inl ⟨by kernel_rfl, fun w hSw => by ((try dsimp only at hSw); go_simp; done)⟩) (by assumption) ?_
                (try simp only [Act.put, List.setIfInBounds_toArray, List.set_cons_zero, List.set_cons_succ])
                refine wpAnyH_take (i := 7) (oi := ⟨some 61, _, _, _, _, _⟩) (v := undef) rfl (by kernel_rfl) (by kernel_rfl) (by kernel_rfl) (fun _ _ _ h => h) (Or.inr ⟨by kernel_rfl, rfl⟩) (by assumption) ?_
                (try simp only [Act.put, List.setIfInBounds_toArray, List.set_cons_zero, List.set_cons_succ])
                refine wpAnyH_take (i := 8) (oi := ⟨some 62, _, _, _, _, _⟩) (v := undef) rfl (by kernel_rfl) (by kernel_rfl) (by kernel_rfl) (fun _ _ _ h => h) (Or.inr ⟨by kernel_rfl, rfl⟩) (by assumption) ?_
                (try simp only [Act.put, List.setIfInBounds_toArray, List.set_cons_zero, List.set_cons_succ])
                refine wpAnyH_take (i := 9) (oi := ⟨some 63, _, _, _, _, _⟩) (v := undef) rfl (by kernel_rfl) (by kernel_rfl) (by kernel_rfl) (fun _ _ _ h => h) (Or.inr ⟨by kernel_rfl, rfl⟩) (by assumption) ?_
                (try simp only [Act.put, List.setIfInBounds_toArray, List.set_cons_zero, List.set_cons_succ])
                refine wpAnyH_take (i := 10) (oi := ⟨some 64, _, _, _, _, _⟩) (v := undef) rfl (by kernel_rfl) (by kernel_rfl) (by kernel_rfl) (fun _ _ _ h => h) (Or.inr ⟨by kernel_rfl, rfl⟩) (by assumption) ?_
                (try simp only [Act.put, List.setIfInBounds_toArray, List.set_cons_zero, List.set_cons_succ])
                refine wpAnyH_take (i := 11) (oi := ⟨some 65, _, _, _, _, _⟩) (v := undef) rfl (by kernel_rfl) (by kernel_rfl) (by kernel_rfl) (fun _ _ _ h => h) (Or.inr ⟨by kernel_rfl, rfl⟩) (by assumption) ?_
                (try simp only [Act.put, List.setIfInBounds_toArray, List.set_cons_zero, List.set_cons_succ])
                refine wpAnyH_take (i := 12) (oi := ⟨some 66, _, _, _, _, _⟩) (v := undef) rfl (by kernel_rfl) (by kernel_rfl) (by kernel_rfl) (fun _ _ _ h => h) (Or.inr ⟨by kernel_rfl, rfl⟩) (by assumption) ?_
                (try simp only [Act.put, List.setIfInBounds_toArray, List.set_cons_zero, List.set_cons_succ])
                refine wpAnyH_take (i := 13) (oi := ⟨some 67, _, _, _, _, _⟩) (v := undef) rfl (by kernel_rfl) (by kernel_rfl) (by kernel_rfl) (fun _ _ _ h => h) (Or.inr ⟨by kernel_rfl, rfl⟩) (by assumption) ?_
                (try simp only [Act.put, List.setIfInBounds_toArray, List.set_cons_zero, List.set_cons_succ])
                refine wpAnyH_take (i := 14) (oi := ⟨some 68, _, _, _, _, _⟩) (v := undef) rfl (by kernel_rfl) (by kernel_rfl) (by kernel_rfl) (fun _ _ _ h => h) (Or.inr ⟨by kernel_rfl, rfl⟩) (by assumption) ?_
                (try simp only [Act.put, List.setIfInBounds_toArray, List.set_cons_zero, List.set_cons_succ])
                refine wpAnyH_take (i := 15) (oi := ⟨some 69, _, _, _, _, _⟩) (v := undef) rfl (by kernel_rfl) (by kernel_rfl) (by kernel_rfl) (fun _ _ _ h => h) (Or.inr ⟨by kernel_rfl, rfl⟩) (by assumption) ?_
                (try simp only [Act.put, List.setIfInBounds_toArray, List.set_cons_zero, List.set_cons_succ])
                refine wpAnyH_take (i := 16) (oi := ⟨some 70, _, _, _, _, _⟩) (v := .bool false) rfl (by kernel_rfl) (by kernel_rfl) (by kernel_rfl) (fun _ _ _ h => h) (Or.inl ⟨by kernel_rfl, fun w hSw => by ((try dsimp only at hSw); go_simp; done)⟩) (by assumption) ?_
                (try simp only [Act.put, List.setIfInBounds_toArray, List.set_cons_zero, List.set_cons_succ])
                refine wpAnyH_done (by kernel_rfl) ?_ _
                go_wp2
                go_roundw
                case rel => exact ⟨m + 1, by omega, by omega, by go_num, Lib.hid (fun m' h1 h2 => by
                  by_cases e : m' = m
                  · subst e; rw [← HF.out]; rfl
                  · exact HN.out m' h1 (by omega)), H5⟩
                case measure => simp [intOf]; omega
              | true =>
                cases ea with
                | false =>
                  refine wp_region_held_drew (S := (fun w' => w'.cell? ⟨w.heap.size, 4, none⟩ = some (.slice (some ⟨g, 0, none⟩) c.N cA) ∧ (LoadE (.pointer (some ⟨g, m * 14, none⟩))).run Tryz.prog w' = .ok E.V w' ∧ w'.cell? ⟨g, m * 14 + 3, none⟩ = some (.int .u64 E.addr) ∧ w'.cell? ⟨gX, 3, none⟩ = some (.int .u64 X.addr))) (by kernel_rfl) ?_ (fun hHeld => ?_)
                  · exact KS.out _ H4.out
                  refine wpAnyH_take (i := 0) (oi := ⟨some 54, _, _, _, _, _⟩) (v := .pointer (some ⟨w.heap.size, 4, none⟩)) rfl (by kernel_rfl) (by kernel_rfl) (by kernel_rfl) (fun _ _ _ h => h) (Or.inl ⟨by kernel_rfl, fun w hSw => by ((try dsimp only at hSw); go_simp; done)⟩) (by assumption) ?_
                  (try simp only [Act.put, List.setIfInBounds_toArray, List.set_cons_zero, List.set_cons_succ])
                  refine wpAnyH_take (i := 1) (oi := ⟨some 55, _, _, _, _, _⟩) (v := .slice (some ⟨g, 0, none⟩) c.N cA) rfl (by kernel_rfl) (by kernel_rfl) (by kernel_rfl) (fun _ _ _ h => h) (Or.inl ⟨by kernel_rfl, fun w hSw => by ((try dsimp only at hSw); go_simp; done)⟩) (by assumption) ?_
                  (try simp only [Act.put, List.setIfInBounds_toArray, List.set_cons_zero, List.set_cons_succ])
                  refine wpAnyH_take (i := 2) (oi := ⟨some 56, _, _, _, _, _⟩) (v := .int .i64 (m : Int)) rfl (by kernel_rfl) (by kernel_rfl) (by kernel_rfl) (fun _ _ _ h => h) (Or.inl ⟨by kernel_rfl, fun w hSw => by ((try dsimp only at hSw); go_simp; done)⟩) (by assumption) ?_
                  (try simp only [Act.put, List.setIfInBounds_toArray, List.set_cons_zero, List.set_cons_succ])
                  refine wpAnyH_take (i := 3) (oi := ⟨some 57, _, _, _, _, _⟩) (v := .pointer (some ⟨g, m * 14, none⟩)) rfl (by kernel_rfl) (by kernel_rfl) (by kernel_rfl) (fun _ _ _ h => h) (Or.inl ⟨by kernel_rfl, fun w hSw => by ((try dsimp only at hSw); go_simp; done)⟩) (by assumption) ?_
                  (try simp only [Act.put, List.setIfInBounds_toArray, List.set_cons_zero, List.set_cons_succ])
                  refine wpAnyH_take (i := 4) (oi := ⟨some 58, _, _, _, _, _⟩) (v := E.V) rfl (by kernel_rfl) (by kernel_rfl) (by kernel_rfl) (fun _ _ _ h => h) (Or.inl ⟨by kernel_rfl, fun w hSw => by ((try dsimp only at hSw); go_simp; done)⟩) (by assumption) ?_
                  (try simp only [Act.put, List.setIfInBounds_toArray, List.set_cons_zero, List.set_cons_succ])
                  refine wpAnyH_ready (rs := [5]) (by kernel_rfl) (by simp) ?_
                  refine AllReadyH.cons (o := ⟨some 59, _, _, _, _, _⟩) rfl (fun K hK => ?_) AllReadyH.nil
                  go_simp
                  ((go_at_call 29; (with_reducible refine (KW.out _).mono ?_); rintro e' wa ⟨rfl, hb⟩; have H5 := Lib.hid (H4.out.on hb); clear hb))
                  (try go_wp2_with fail)
                  refine hK.out _ _ ?_ (fun hHeld => ?_)
                  · exact KS.out _ H5.out
                  clear hK K
                  (try simp only [Act.put, List.setIfInBounds_toArray, List.set_cons_zero, List.set_cons_succ])
                  refine wpAnyH_take (i := 6) (oi := ⟨some 60, _, _, _, _, _⟩) (v := .bool true) rfl (by kernel_rfl) (by kernel_rfl) (by kernel_rfl) (fun _ _ _ h => h) (Or.inl ⟨by kernel_rfl, fun w hSw => by ((try dsimp only at hSw); go_simp; done)⟩) (by assumption) ?_
                  (try simp only [Act.put, List.setIfInBounds_toArray, List.set_cons_zero, List.set_cons_succ])
                  refine wpAnyH_take (i := 7) (oi := ⟨some 61, _, _, _, _, _⟩) (v := .pointer (some ⟨w.heap.size, 4, none⟩)) rfl (by kernel_rfl) (by kernel_rfl) (by kernel_rfl) (fun _ _ _ h => h) (Or.inl ⟨by kernel_rfl, fun w hSw => by ((try dsimp only at hSw); go_simp; done)⟩) (by assumption) ?_
                  (try simp only [Act.put, List.setIfInBounds_toArray, List.set_cons_zero, List.set_cons_succ])
                  refine wpAnyH_take (i := 8) (oi := ⟨some 62, _, _, _, _, _⟩) (v := .slice (some ⟨g, 0, none⟩) c.N cA) rfl (by kernel_rfl) (by kernel_rfl) (by kernel_rfl) (fun _ _ _ h => h) (Or.inl ⟨by kernel_rfl, fun w hSw => by ((try dsimp only at hSw); go_simp; done)⟩) (by assumption) ?_
                  (try simp only [Act.put, List.setIfInBounds_toArray, List.set_cons_zero, List.set_cons_succ])
                  refine wpAnyH_take (i := 9) (oi := ⟨some 63, _, _, _, _, _⟩) (v := .int .i64 (m : Int)) rfl (by kernel_rfl) (by kernel_rfl) (by kernel_rfl) (fun _ _ _ h => h) (Or.inl ⟨by kernel_rfl, fun w hSw => by ((try dsimp only at hSw); go_simp; done)⟩) (by assumption) ?_
                  (try simp only [Act.put, List.setIfInBounds_toArray, List.set_cons_zero, List.set_cons_succ])
                  refine wpAnyH_take (i := 10) (oi := ⟨some 64, _, _, _, _, _⟩) (v := .pointer (some ⟨g, m * 14, none⟩)) rfl (by kernel_rfl) (by kernel_rfl) (by kernel_rfl) (fun _ _ _ h => h) (Or.inl ⟨by kernel_rfl, fun w hSw => by ((try dsimp only at hSw); go_simp; done)⟩) (by assumption) ?_
                  (try simp only [Act.put, List.setIfInBounds_toArray, List.set_cons_zero, List.set_cons_succ])
                  refine wpAnyH_take (i := 11) (oi := ⟨some 65, _, _, _, _, _⟩) (v := .pointer (some ⟨g, m * 14 + 3, none⟩)) rfl (by kernel_rfl) (by kernel_rfl) (by kernel_rfl) (fun _ _ _ h => h) (Or.inl ⟨by kernel_rfl, fun w hSw => by ((try dsimp only at hSw); go_simp; done)⟩) (by assumption) ?_
                  (try simp only [Act.put, List.setIfInBounds_toArray, List.set_cons_zero, List.set_cons_succ])
                  refine wpAnyH_take (i := 12) (oi := ⟨some 66, _, _, _, _, _⟩) (v := .int .u64 E.addr) rfl (by kernel_rfl) (by kernel_rfl) (by kernel_rfl) (fun _ _ _ h => h) (Or.inl ⟨by kernel_rfl, fun w hSw => by ((try dsimp only at hSw); go_simp; done)⟩) (by assumption) ?_
                  (try simp only [Act.put, List.setIfInBounds_toArray, List.set_cons_zero, List.set_cons_succ])
                  refine wpAnyH_take (i := 13) (oi := ⟨some 67, _, _, _, _, _⟩) (v := .pointer (some ⟨gX, 3, none⟩)) rfl (by kernel_rfl) (by kernel_rfl) (by kernel_rfl) (fun _ _ _ h => h) (Or.inl ⟨by kernel_rfl, fun w hSw => by ((try dsimp only at hSw); go_simp; done)⟩) (by assumption) ?_
                  (try simp only [Act.put, List.setIfInBounds_toArray, List.set_cons_zero, List.set_cons_succ])
                  refine wpAnyH_take (i := 14) (oi := ⟨some 68, _, _, _, _, _⟩) (v := .int .u64 X.addr) rfl (by kernel_rfl) (by kernel_rfl) (by kernel_rfl) (fun _ _ _ h => h) (Or.inl ⟨by kernel_rfl, fun w hSw => by ((try dsimp only at hSw); go_simp; done)⟩) (by assumption) ?_
                  (try simp only [Act.put, List.setIfInBounds_toArray, List.set_cons_zero, List.set_cons_succ])
                  refine wpAnyH_take (i := 15) (oi := ⟨some 69, _, _, _, _, _⟩) (v := .bool false) rfl (by kernel_rfl) (by kernel_rfl) (by kernel_rfl) (fun _ _ _ h => h) (Or.inl ⟨by kernel_rfl, fun w hSw => by ((try dsimp only at hSw); go_simp; done)⟩) (by assumption) ?_
                  (try simp only [Act.put, List.setIfInBounds_toArray, List.set_cons_zero, List.set_cons_succ])
                  refine wpAnyH_take (i := 16) (oi := ⟨some 70, _, _, _, _, _⟩) (v := .bool false) rfl (by kernel_rfl) (by kernel_rfl) (by kernel_rfl) (fun _ _ _ h => h) (Or.inl ⟨by kernel_rfl, fun w hSw => by ((try dsimp only at hSw); go_simp; done)⟩) (by assumption) ?_
                  (try simp only [Act.put, List.setIfInBounds_toArray, List.set_cons_zero, List.set_cons_succ])
                  refine wpAnyH_done (by kernel_rfl) ?_ _
                  go_wp2
                  go_roundw
                  case rel => exact ⟨m + 1, by omega, by omega, by go_num, Lib.hid (fun m' h1 h2 => by
                    by_cases e : m' = m
                    · subst e; rw [← HF.out]; rfl
                    · exact HN.out m' h1 (by omega)), H5⟩
                  case measure => simp [intOf]; omega
                | true =>
                  refine wp_region_held_drew (S := (fun w' => w'.cell? ⟨w.heap.size, 4, none⟩ = some (.slice (some ⟨g, 0, none⟩) c.N cA) ∧ (LoadE (.pointer (some ⟨g, m * 14, none⟩))).run Tryz.prog w' = .ok E.V w' ∧ w'.cell? ⟨g, m * 14 + 3, none⟩ = some (.int .u64 E.addr) ∧ w'.cell? ⟨gX, 3, none⟩ = some (.int .u64 X.addr))) (by kernel_rfl) ?_ (fun hHeld => ?_)
                  · exact KS.out _ H4.out
                  refine wpAnyH_take (i := 0) (oi := ⟨some 54, _, _, _, _, _⟩) (v := .pointer (some ⟨w.heap.size, 4, none⟩)) rfl (by kernel_rfl) (by kernel_rfl) (by kernel_rfl) (fun _ _ _ h => h) (Or.inl ⟨by kernel_rfl, fun w hSw => by ((try dsimp only at hSw); go_simp; done)⟩) (by assumption) ?_
                  (try simp only [Act.put, List.setIfInBounds_toArray, List.set_cons_zero, List.set_cons_succ])
                  refine wpAnyH_take (i := 1) (oi := ⟨some 55, _, _, _, _, _⟩) (v := .slice (some ⟨g, 0, none⟩) c.N cA) rfl (by kernel_rfl) (by kernel_rfl) (by kernel_rfl) (fun _ _ _ h => h) (Or.inl ⟨by kernel_rfl, fun w hSw => by ((try dsimp only at hSw); go_simp; done)⟩) (by assumption) ?_
                  (try simp only [Act.put, List.setIfInBounds_toArray, List.set_cons_zero, List.set_cons_succ])
                  refine wpAnyH_take (i := 2) (oi := ⟨some 56, _, _, _, _, _⟩) (v := .int .i64 (m : Int)) rfl (by kernel_rfl) (by kernel_rfl) (by kernel_rfl) (fun _ _ _ h => h) (Or.inl ⟨by kernel_rfl, fun w hSw => by ((try dsimp only at hSw); go_simp; done)⟩) (by assumption) ?_
                  (try simp only [Act.put, List.setIfInBounds_toArray, List.set_cons_zero, List.set_cons_succ])
                  refine wpAnyH_take (i := 3) (oi := ⟨some 57, _, _, _, _, _⟩) (v := .pointer (some ⟨g, m * 14, none⟩)) rfl (by kernel_rfl) (by kernel_rfl) (by kernel_rfl) (fun _ _ _ h => h) (Or.inl ⟨by kernel_rfl, fun w hSw => by ((try dsimp only at hSw); go_simp; done)⟩) (by assumption) ?_
                  (try simp only [Act.put, List.setIfInBounds_toArray, List.set_cons_zero, List.set_cons_succ])
                  refine wpAnyH_take (i := 4) (oi := ⟨some 58, _, _, _, _, _⟩) (v := E.V) rfl (by kernel_rfl) (by kernel_rfl) (by kernel_rfl) (fun _ _ _ h => h) (Or.inl ⟨by kernel_rfl, fun w hSw => by ((try dsimp only at hSw); go_simp; done)⟩) (by assumption) ?_
                  (try simp only [Act.put, List.setIfInBounds_toArray, List.set_cons_zero, List.set_cons_succ])
                  refine wpAnyH_ready (rs := [5]) (by kernel_rfl) (by simp) ?_
                  refine AllReadyH.cons (o := ⟨some 59, _, _, _, _, _⟩) rfl (fun K hK => ?_) AllReadyH.nil
                  go_simp
                  ((go_at_call 29; (with_reducible refine (KW.out _).mono ?_); rintro e' wa ⟨rfl, hb⟩; have H5 := Lib.hid (H4.out.on hb); clear hb))
                  (try go_wp2_with fail)
                  refine hK.out _ _ ?_ (fun hHeld => ?_)
                  · exact KS.out _ H5.out
                  clear hK K
                  (try simp only [Act.put, List.setIfInBounds_toArray, List.set_cons_zero, List.set_cons_succ])
                  refine wpAnyH_take (i := 6) (oi := ⟨some 60, _, _, _, _, _⟩) (v := .bool true) rfl (by kernel_rfl) (by kernel_rfl) (by kernel_rfl) (fun _ _ _ h => h) (Or.inl ⟨by kernel_rfl, fun w hSw => by ((try dsimp only at hSw); go_simp; done)⟩) (by assumption) ?_
                  (try simp only [Act.put, List.setIfInBounds_toArray, List.set_cons_zero, List.set_cons_succ])
                  refine wpAnyH_take (i := 7) (oi := ⟨some 61, _, _, _, _, _⟩) (v := .pointer (some ⟨w.heap.size, 4, none⟩)) rfl (by kernel_rfl) (by kernel_rfl) (by kernel_rfl) (fun _ _ _ h => h) (Or.inl ⟨by kernel_rfl, fun w hSw => by ((try dsimp only at hSw); go_simp; done)⟩) (by assumption) ?_
                  (try simp only [Act.put, List.setIfInBounds_toArray, List.set_cons_zero, List.set_cons_succ])
                  refine wpAnyH_take (i := 8) (oi := ⟨some 62, _, _, _, _, _⟩) (v := .slice (some ⟨g, 0, none⟩) c.N cA) rfl (by kernel_rfl) (by kernel_rfl) (by kernel_rfl) (fun _ _ _ h => h) (Or.inl ⟨by kernel_rfl, fun w hSw => by ((try dsimp only at hSw); go_simp; done)⟩) (by assumption) ?_
                  (try simp only [Act.put, List.setIfInBounds_toArray, List.set_cons_zero, List.set_cons_succ])
                  refine wpAnyH_take (i := 9) (oi := ⟨some 63, _, _, _, _, _⟩) (v := .int .i64 (m : Int)) rfl (by kernel_rfl) (by kernel_rfl) (by kernel_rfl) (fun _ _ _ h => h) (Or.inl ⟨by kernel_rfl, fun w hSw => by ((try dsimp only at hSw); go_simp; done)⟩) (by assumption) ?_
                  (try simp only [Act.put, List.setIfInBounds_toArray, List.set_cons_zero, List.set_cons_succ])
                  refine wpAnyH_take (i := 10) (oi := ⟨some 64, _, _, _, _, _⟩) (v := .pointer (some ⟨g, m * 14, none⟩)) rfl (by kernel_rfl) (by kernel_rfl) (by kernel_rfl) (fun _ _ _ h => h) (Or.inl ⟨by kernel_rfl, fun w hSw => by ((try dsimp only at hSw); go_simp; done)⟩) (by assumption) ?_
                  (try simp only [Act.put, List.setIfInBounds_toArray, List.set_cons_zero, List.set_cons_succ])
                  refine wpAnyH_take (i := 11) (oi := ⟨some 65, _, _, _, _, _⟩) (v := .pointer (some ⟨g, m * 14 + 3, none⟩)) rfl (by kernel_rfl) (by kernel_rfl) (by kernel_rfl) (fun _ _ _ h => h) (Or.inl ⟨by kernel_rfl, fun w hSw => by ((try dsimp only at hSw); go_simp; done)⟩) (by assumption) ?_
                  (try simp only [Act.put, List.setIfInBounds_toArray, List.set_cons_zero, List.set_cons_succ])
                  refine wpAnyH_take (i := 12) (oi := ⟨some 66, _, _, _, _, _⟩) (v := .int .u64 E.addr) rfl (by kernel_rfl) (by kernel_rfl) (by kernel_rfl) (fun _ _ _ h => h) (Or.inl ⟨by kernel_rfl, fun w hSw => by ((try dsimp only at hSw); go_simp; done)⟩) (by assumption) ?_
                  (try simp only [Act.put, List.setIfInBounds_toArray, List.set_cons_zero, List.set_cons_succ])
                  refine wpAnyH_take (i := 13) (oi := ⟨some 67, _, _, _, _, _⟩) (v := .pointer (some ⟨gX, 3, none⟩)) rfl (by kernel_rfl) (by kernel_rfl) (by kernel_rfl) (fun _ _ _ h => h) (Or.inl ⟨by kernel_rfl, fun w hSw => by ((try dsimp only at hSw); go_simp; done)⟩) (by assumption) ?_
                  (try simp only [Act.put, List.setIfInBounds_toArray, List.set_cons_zero, List.set_cons_succ])
                  refine wpAnyH_take (i := 14) (oi := ⟨some 68, _, _, _, _, _⟩) (v := .int .u64 X.addr) rfl (by kernel_rfl) (by kernel_rfl) (by kernel_rfl) (fun _ _ _ h => h) (Or.inl ⟨by kernel_rfl, fun w hSw => by ((try dsimp only at hSw); go_simp; done)⟩) (by assumption) ?_
                  (try simp only [Act.put, List.setIfInBounds_toArray, List.set_cons_zero, List.set_cons_succ])
                  refine wpAnyH_take (i := 15) (oi := ⟨some 69, _, _, _, _, _⟩) (v := .bool true) rfl (by kernel_rfl) (by kernel_rfl) (by kernel_rfl) (fun _ _ _ h => h) (Or.inl ⟨by kernel_rfl, fun w hSw => by ((try dsimp only at hSw); go_simp; done)⟩) (by assumption) ?_
                  (try simp only [Act.put, List.setIfInBounds_toArray, List.set_cons_zero, List.set_cons_succ])
                  refine wpAnyH_take (i := 16) (oi := ⟨some 70, _, _, _, _, _⟩) (v := .bool true) rfl (by kernel_rfl) (by kernel_rfl) (by kernel_rfl) (fun _ _ _ h => h) (Or.inl ⟨by kernel_rfl, fun w hSw => by ((try dsimp only at hSw); go_simp; done)⟩) (by assumption) ?_
                  (try simp only [Act.put, List.setIfInBounds_toArray, List.set_cons_zero, List.set_cons_succ])
                  refine wpAnyH_done (by kernel_rfl) ?_ _
                  go_wp2
                  go_ret
                  exact ⟨by rw [(HY2.out (by rw [← HF.out]; rfl)).out]; rfl, H5.out.v.below⟩
            · obtain rfl : m = y := by omega
              have HK : Hid ((readsE X && (readsE Y && ((X.addr == Y.addr) && (atI c.fr x != atI c.fr m)))) = r) := Lib.hid (by
                obtain ⟨_, _, _, e1⟩ := LX.out
                obtain ⟨_, _, _, e2⟩ := LY.out
                rw [← HR.out]
                unfold holdsR
                rw [hah.out]
                show _ = ruleB c x m 1
                rw [r2_none HN.out, e1, e2, bne_dec]
                rfl)
              obtain ⟨rx, hrx⟩ : ∃ z, Hid (readsE X = z) := ⟨_, Lib.hid rfl⟩
              rw [hrx.out] at HK
              obtain ⟨ry, hry⟩ : ∃ z, Hid (readsE Y = z) := ⟨_, Lib.hid rfl⟩
              rw [hry.out] at HK
              obtain ⟨ea, hea⟩ : ∃ z, Hid ((X.addr == Y.addr) = z) := ⟨_, Lib.hid rfl⟩
              rw [hea.out] at HK
              have bea := hea.out
              obtain ⟨nf, hnf⟩ : ∃ z, Hid ((atI c.fr x != atI c.fr m) = z) := ⟨_, Lib.hid rfl⟩
              rw [hnf.out] at HK
              obtain ⟨bR, oR, hqR, hfc⟩ := from_cells H3.out.v.vh.cand HM.out (by omega)
              have HFC := Lib.hid hfc
              have hfl : c.fr.length = c.N := (may_found HM.out).1
              have HQR := Lib.hid hqR
              have HFL := Lib.hid hfl
              clear hfc hqR hfl
              have bnf := hnf.out
              have KX := Lib.hid (fun w0 => rReads_b X rx hrx.out w0)
              have KY := Lib.hid (fun w0 => rReads_b Y ry hry.out w0)
              have HFX := Lib.hid (fun W hW => HFC.out W hW x hxN)
              have HFY := Lib.hid (fun W hW => HFC.out W hW m hyN)
              obtain ⟨fx, hfx⟩ : ∃ f, Hid (atI c.fr x = f) := ⟨_, Lib.hid rfl⟩
              obtain ⟨fy, hfy⟩ : ∃ f, Hid (atI c.fr m = f) := ⟨_, Lib.hid rfl⟩
              rw [hfx.out, hfy.out] at bnf
              rw [hfx.out] at HFX
              rw [hfy.out] at HFY
              go_upto_region 13 with fail
              have H4 := Lib.hid (H3.out.on (Below.refl wr.heap.size wr).drew)
              have KS : Hid (∀ w0, Hz c q es (some ⟨g, 0, none⟩) cA base w.heap.size X Y gX gY w w0 → (LoadE (.pointer (some ⟨gX, 0, none⟩))).run Tryz.prog w0 = .ok X.V w0 ∧ (LoadE (.pointer (some ⟨gY, 0, none⟩))).run Tryz.prog w0 = .ok Y.V w0 ∧ w0.cell? ⟨gX, 3, none⟩ = some (.int .u64 X.addr) ∧ w0.cell? ⟨gY, 3, none⟩ = some (.int .u64 Y.addr) ∧ w0.cell? ⟨w.heap.size, 2, none⟩ = some (.slice (some ⟨bR, oR, none⟩) c.N q.cR) ∧ w0.cell? ⟨bR, oR + x, none⟩ = some (.int .i64 fx) ∧ w0.cell? ⟨bR, oR + m, none⟩ = some (.int .i64 fy)) := Lib.hid (fun w0 h0 => ⟨run_LoadE h0.x, run_LoadE h0.y, h0.x.facts.2.2.2.2.1, h0.y.facts.2.2.2.2.1, by
                have := h0.v.facts.2.2.1
                rw [HQR.out, HFL.out] at this
                exact this, HFX.out _ h0.v.vh.cand, HFY.out _ h0.v.vh.cand⟩)
              cases rx with
              | false =>
                refine wp_region_held_drew (S := (fun w' => (LoadE (.pointer (some ⟨gX, 0, none⟩))).run Tryz.prog w' = .ok X.V w' ∧ (LoadE (.pointer (some ⟨gY, 0, none⟩))).run Tryz.prog w' = .ok Y.V w' ∧ w'.cell? ⟨gX, 3, none⟩ = some (.int .u64 X.addr) ∧ w'.cell? ⟨gY, 3, none⟩ = some (.int .u64 Y.addr) ∧ w'.cell? ⟨w.heap.size, 2, none⟩ = some (.slice (some ⟨bR, oR, none⟩) c.N q.cR) ∧ w'.cell? ⟨bR, oR + x, none⟩ = some (.int .i64 fx) ∧ w'.cell? ⟨bR, oR + m, none⟩ = some (.int .i64 fy))) (by kernel_rfl) ?_ (fun hHeld => ?_)
                · exact KS.out _ H4.out
                refine wpAnyH_take (i := 0) (oi := ⟨some 71, _, _, _, _, _⟩) (v := X.V) rfl (by kernel_rfl) (by kernel_rfl) (by kernel_rfl) (fun _ _ _ h => h) (Or.inl ⟨by kernel_rfl, fun w hSw => by ((try dsimp only at hSw); go_simp; done)⟩) (by assumption) ?_
                (try simp only [Act.put, List.setIfInBounds_toArray, List.set_cons_zero, List.set_cons_succ])
                refine wpAnyH_ready (rs := [1]) (by kernel_rfl) (by simp) ?_
                refine AllReadyH.cons (o := ⟨some 72, _, _, _, _, _⟩) rfl (fun K hK => ?_) AllReadyH.nil
                go_simp
                ((go_at_call 28; (with_reducible refine (KX.out _).mono ?_); rintro e' wa ⟨rfl, hb⟩; have H5 := Lib.hid (H4.out.on hb); clear hb))
                (try go_wp2_with fail)
                refine hK.out _ _ ?_ (fun hHeld => ?_)
                · exact KS.out _ H5.out
                clear hK K
                (try simp only [Act.put, List.setIfInBounds_toArray, List.set_cons_zero, List.set_cons_succ])
                refine wpAnyH_take (i := 2) (oi := ⟨some 73, _, _, _, _, _⟩) (v := .bool false) rfl (by kernel_rfl) (by kernel_rfl) (by kernel_rfl) (fun _ _ _ h => h) (Or.inl ⟨by kernel_rfl, fun w hSw => by ((try dsimp only at hSw); go_simp; done)⟩) (by assumption) ?_
                (try simp only [Act.put, List.setIfInBounds_toArray, List.set_cons_zero, List.set_cons_succ])
                refine wpAnyH_take (i := 3) (oi := ⟨some 74, _, _, _, _, _⟩) (v := undef) rfl (by kernel_rfl) (by kernel_rfl) (by kernel_rfl) (fun _ _ _ h => h) (Or.inr ⟨by kernel_rfl, rfl⟩) (by assumption) ?_
                (try simp only [Act.put, List.setIfInBounds_toArray, List.set_cons_zero, List.set_cons_succ])
                refine wpAnyH_take (i := 4) (oi := ⟨some 75, _, _, _, _, _⟩) (v := undef) rfl (by kernel_rfl) (by kernel_rfl) (by kernel_rfl) (fun _ _ _ h => h) (Or.inr ⟨by kernel_rfl, rfl⟩) (by assumption) ?_
                (try simp only [Act.put, List.setIfInBounds_toArray, List.set_cons_zero, List.set_cons_succ])
                refine wpAnyH_take (i := 5) (oi := ⟨some 76, _, _, _, _, _⟩) (v := .bool false) rfl (by kernel_rfl) (by kernel_rfl) (by kernel_rfl) (fun _ _ _ h => h) (Or.inl ⟨by kernel_rfl, fun w hSw => by ((try dsimp only at hSw); go_simp; done)⟩) (by assumption) ?_
                (try simp only [Act.put, List.setIfInBounds_toArray, List.set_cons_zero, List.set_cons_succ])
                refine wpAnyH_take (i := 6) (oi := ⟨some 77, _, _, _, _, _⟩) (v := .bool false) rfl (by kernel_rfl) (by kernel_rfl) (by kernel_rfl) (fun _ _ _ h => h) (Or.inl ⟨by kernel_rfl, fun w hSw => by ((try dsimp only at hSw); go_simp; done)⟩) (by assumption) ?_
                (try simp only [Act.put, List.setIfInBounds_toArray, List.set_cons_zero, List.set_cons_succ])
                refine wpAnyH_take (i := 7) (oi := ⟨some 78, _, _, _, _, _⟩) (v := undef) rfl (by kernel_rfl) (by kernel_rfl) (by kernel_rfl) (fun _ _ _ h => h) (Or.inr ⟨by kernel_rfl, rfl⟩) (by assumption) ?_
                (try simp only [Act.put, List.setIfInBounds_toArray, List.set_cons_zero, List.set_cons_succ])
                refine wpAnyH_take (i := 8) (oi := ⟨some 79, _, _, _, _, _⟩) (v := undef) rfl (by kernel_rfl) (by kernel_rfl) (by kernel_rfl) (fun _ _ _ h => h) (Or.inr ⟨by kernel_rfl, rfl⟩) (by assumption) ?_
                (try simp only [Act.put, List.setIfInBounds_toArray, List.set_cons_zero, List.set_cons_succ])
                refine wpAnyH_take (i := 9) (oi := ⟨some 80, _, _, _, _, _⟩) (v := undef) rfl (by kernel_rfl) (by kernel_rfl) (by kernel_rfl) (fun _ _ _ h => h) (Or.inr ⟨by kernel_rfl, rfl⟩) (by assumption) ?_
                (try simp only [Act.put, List.setIfInBounds_toArray, List.set_cons_zero, List.set_cons_succ])
                refine wpAnyH_take (i := 10) (oi := ⟨some 81, _, _, _, _, _⟩) (v := undef) rfl (by kernel_rfl) (by kernel_rfl) (by kernel_rfl) (fun _ _ _ h => h) (Or.inr ⟨by kernel_rfl, rfl⟩) (by assumption) ?_
                (try simp only [Act.put, List.setIfInBounds_toArray, List.set_cons_zero, List.set_cons_succ])
                refine wpAnyH_take (i := 11) (oi := ⟨some 82, _, _, _, _, _⟩) (v := undef) rfl (by kernel_rfl) (by kernel_rfl) (by kernel_rfl) (fun _ _ _ h => h) (Or.inr ⟨by kernel_rfl, rfl⟩) (by assumption) ?_
                (try simp only [Act.put, List.setIfInBounds_toArray, List.set_cons_zero, List.set_cons_succ])
                refine wpAnyH_take (i := 12) (oi := ⟨some 83, _, _, _, _, _⟩) (v := .bool false) rfl (by kernel_rfl) (by kernel_rfl) (by kernel_rfl) (fun _ _ _ h => h) (Or.inl ⟨by kernel_rfl, fun w hSw => by ((try dsimp only at hSw); go_simp; done)⟩) (by assumption) ?_
                (try simp only [Act.put, List.setIfInBounds_toArray, List.set_cons_zero, List.set_cons_succ])
                refine wpAnyH_take (i := 13) (oi := ⟨some 84, _, _, _, _, _⟩) (v := .bool false) rfl (by kernel_rfl) (by kernel_rfl) (by kernel_rfl) (fun _ _ _ h => h) (Or.inl ⟨by kernel_rfl, fun w hSw => by ((try dsimp only at hSw); go_simp; done)⟩) (by assumption) ?_
                (try simp only [Act.put, List.setIfInBounds_toArray, List.set_cons_zero, List.set_cons_succ])
                refine wpAnyH_take (i := 14) (oi := ⟨some 85, _, _, _, _, _⟩) (v := undef) rfl (by kernel_rfl) (by kernel_rfl) (by kernel_rfl) (fun _ _ _ h => h) (Or.inr ⟨by kernel_rfl, rfl⟩) (by assumption) ?_
                (try simp only [Act.put, List.setIfInBounds_toArray, List.set_cons_zero, List.set_cons_succ])
                refine wpAnyH_take (i := 15) (oi := ⟨some 86, _, _, _, _, _⟩) (v := undef) rfl (by kernel_rfl) (by kernel_rfl) (by kernel_rfl) (fun _ _ _ h => h) (Or.inr ⟨by kernel_rfl, rfl⟩) (by assumption) ?_
                (try simp only [Act.put, List.setIfInBounds_toArray, List.set_cons_zero, List.set_cons_succ])
                refine wpAnyH_take (i := 16) (oi := ⟨some 87, _, _, _, _, _⟩) (v := undef) rfl (by kernel_rfl) (by kernel_rfl) (by kernel_rfl) (fun _ _ _ h => h) (Or.inr ⟨by kernel_rfl, rfl⟩) (by assumption) ?_
                (try simp only [Act.put, List.setIfInBounds_toArray, List.set_cons_zero, List.set_cons_succ])
                refine wpAnyH_take (i := 17) (oi := ⟨some 88, _, _, _, _, _⟩) (v := undef) rfl (by kernel_rfl) (by kernel_rfl) (by kernel_rfl) (fun _ _ _ h => h) (Or.inr ⟨by kernel_rfl, rfl⟩) (by assumption) ?_
                (try simp only [Act.put, List.setIfInBounds_toArray, List.set_cons_zero, List.set_cons_succ])
                refine wpAnyH_take (i := 18) (oi := ⟨some 89, _, _, _, _, _⟩) (v := undef) rfl (by kernel_rfl) (by kernel_rfl) (by kernel_rfl) (fun _ _ _ h => h) (Or.inr ⟨by kernel_rfl, rfl⟩) (by assumption) ?_
                (try simp only [Act.put, List.setIfInBounds_toArray, List.set_cons_zero, List.set_cons_succ])
                refine wpAnyH_take (i := 19) (oi := ⟨some 90, _, _, _, _, _⟩) (v := undef) rfl (by kernel_rfl) (by kernel_rfl) (by kernel_rfl) (fun _ _ _ h => h) (Or.inr ⟨by kernel_rfl, rfl⟩) (by assumption) ?_
                (try simp only [Act.put, List.setIfInBounds_toArray, List.set_cons_zero, List.set_cons_succ])
                refine wpAnyH_take (i := 20) (oi := ⟨some 91, _, _, _, _, _⟩) (v := undef) rfl (by kernel_rfl) (by kernel_rfl) (by kernel_rfl) (fun _ _ _ h => h) (Or.inr ⟨by kernel_rfl, rfl⟩) (by assumption) ?_
                (try simp only [Act.put, List.setIfInBounds_toArray, List.set_cons_zero, List.set_cons_succ])
                refine wpAnyH_take (i := 21) (oi := ⟨some 92, _, _, _, _, _⟩) (v := undef) rfl (by kernel_rfl) (by kernel_rfl) (by kernel_rfl) (fun _ _ _ h => h) (Or.inr ⟨by kernel_rfl, rfl⟩) (by assumption) ?_
                (try simp only [Act.put, List.setIfInBounds_toArray, List.set_cons_zero, List.set_cons_succ])
                refine wpAnyH_take (i := 22) (oi := ⟨some 93, _, _, _, _, _⟩) (v := undef) rfl (by kernel_rfl) (by kernel_rfl) (by kernel_rfl) (fun _ _ _ h => h) (Or.inr ⟨by kernel_rfl, rfl⟩) (by assumption) ?_
                (try simp only [Act.put, List.setIfInBounds_toArray, List.set_cons_zero, List.set_cons_succ])
                refine wpAnyH_take (i := 23) (oi := ⟨some 94, _, _, _, _, _⟩) (v := undef) rfl (by kernel_rfl) (by kernel_rfl) (by kernel_rfl) (fun _ _ _ h => h) (Or.inr ⟨by kernel_rfl, rfl⟩) (by assumption) ?_
                (try simp only [Act.put, List.setIfInBounds_toArray, List.set_cons_zero, List.set_cons_succ])
                refine wpAnyH_take (i := 24) (oi := ⟨some 95, _, _, _, _, _⟩) (v := undef) rfl (by kernel_rfl) (by kernel_rfl) (by kernel_rfl) (fun _ _ _ h => h) (Or.inr ⟨by kernel_rfl, rfl⟩) (by assumption) ?_
                (try simp only [Act.put, List.setIfInBounds_toArray, List.set_cons_zero, List.set_cons_succ])
                refine wpAnyH_take (i := 25) (oi := ⟨some 96, _, _, _, _, _⟩) (v := undef) rfl (by kernel_rfl) (by kernel_rfl) (by kernel_rfl) (fun _ _ _ h => h) (Or.inr ⟨by kernel_rfl, rfl⟩) (by assumption) ?_
                (try simp only [Act.put, List.setIfInBounds_toArray, List.set_cons_zero, List.set_cons_succ])
                refine wpAnyH_take (i := 26) (oi := ⟨some 97, _, _, _, _, _⟩) (v := undef) rfl (by kernel_rfl) (by kernel_rfl) (by kernel_rfl) (fun _ _ _ h => h) (Or.inr ⟨by kernel_rfl, rfl⟩) (by assumption) ?_
                (try simp only [Act.put, List.setIfInBounds_toArray, List.set_cons_zero, List.set_cons_succ])
                refine wpAnyH_take (i := 27) (oi := ⟨some 98, _, _, _, _, _⟩) (v := .bool false) rfl (by kernel_rfl) (by kernel_rfl) (by kernel_rfl) (fun _ _ _ h => h) (Or.inl ⟨by kernel_rfl, fun w hSw => by ((try dsimp only at hSw); go_simp; done)⟩) (by assumption) ?_
                (try simp only [Act.put, List.setIfInBounds_toArray, List.set_cons_zero, List.set_cons_succ])
                refine wpAnyH_take (i := 28) (oi := ⟨some 8, _, _, _, _, _⟩) (v := .bool false) rfl (by kernel_rfl) (by kernel_rfl) (by kernel_rfl) (fun _ _ _ h => h) (Or.inl ⟨by kernel_rfl, fun w hSw => by ((try dsimp only at hSw); go_simp; done)⟩) (by assumption) ?_
                (try simp only [Act.put, List.setIfInBounds_toArray, List.set_cons_zero, List.set_cons_succ])
                refine wpAnyH_done (by kernel_rfl) ?_ _
                go_wp2
                go_ret
                exact ⟨by rw [← HK.out]; rfl, H5.out.v.below⟩
              | true =>
                cases ry with
                | false =>
                  refine wp_region_held_drew (S := (fun w' => (LoadE (.pointer (some ⟨gX, 0, none⟩))).run Tryz.prog w' = .ok X.V w' ∧ (LoadE (.pointer (some ⟨gY, 0, none⟩))).run Tryz.prog w' = .ok Y.V w' ∧ w'.cell? ⟨gX, 3, none⟩ = some (.int .u64 X.addr) ∧ w'.cell? ⟨gY, 3, none⟩ = some (.int .u64 Y.addr) ∧ w'.cell? ⟨w.heap.size, 2, none⟩ = some (.slice (some ⟨bR, oR, none⟩) c.N q.cR) ∧ w'.cell? ⟨bR, oR + x, none⟩ = some (.int .i64 fx) ∧ w'.cell? ⟨bR, oR + m, none⟩ = some (.int .i64 fy))) (by kernel_rfl) ?_ (fun hHeld => ?_)
                  · exact KS.out _ H4.out
                  refine wpAnyH_take (i := 0) (oi := ⟨some 71, _, _, _, _, _⟩) (v := X.V) rfl (by kernel_rfl) (by kernel_rfl) (by kernel_rfl) (fun _ _ _ h => h) (Or.inl ⟨by kernel_rfl, fun w hSw => by ((try dsimp only at hSw); go_simp; done)⟩) (by assumption) ?_
                  (try simp only [Act.put, List.setIfInBounds_toArray, List.set_cons_zero, List.set_cons_succ])
                  refine wpAnyH_ready (rs := [1]) (by kernel_rfl) (by simp) ?_
                  refine AllReadyH.cons (o := ⟨some 72, _, _, _, _, _⟩) rfl (fun K hK => ?_) AllReadyH.nil
                  go_simp
                  ((go_at_call 28; (with_reducible refine (KX.out _).mono ?_); rintro e' wa ⟨rfl, hb⟩; have H5 := Lib.hid (H4.out.on hb); clear hb))
                  (try go_wp2_with fail)
                  refine hK.out _ _ ?_ (fun hHeld => ?_)
                  · exact KS.out _ H5.out
                  clear hK K
                  (try simp only [Act.put, List.setIfInBounds_toArray, List.set_cons_zero, List.set_cons_succ])
                  refine wpAnyH_take (i := 2) (oi := ⟨some 73, _, _, _, _, _⟩) (v := .bool true) rfl (by kernel_rfl) (by kernel_rfl) (by kernel_rfl) (fun _ _ _ h => h) (Or.inl ⟨by kernel_rfl, fun w hSw => by ((try dsimp only at hSw); go_simp; done)⟩) (by assumption) ?_
                  (try simp only [Act.put, List.setIfInBounds_toArray, List.set_cons_zero, List.set_cons_succ])
                  refine wpAnyH_take (i := 3) (oi := ⟨some 74, _, _, _, _, _⟩) (v := Y.V) rfl (by kernel_rfl) (by kernel_rfl) (by kernel_rfl) (fun _ _ _ h => h) (Or.inl ⟨by kernel_rfl, fun w hSw => by ((try dsimp only at hSw); go_simp; done)⟩) (by assumption) ?_
                  (try simp only [Act.put, List.setIfInBounds_toArray, List.set_cons_zero, List.set_cons_succ])
                  refine wpAnyH_ready (rs := [4]) (by kernel_rfl) (by simp) ?_
                  refine AllReadyH.cons (o := ⟨some 75, _, _, _, _, _⟩) rfl (fun K hK => ?_) AllReadyH.nil
                  go_simp
                  ((go_at_call 28; (with_reducible refine (KY.out _).mono ?_); rintro e' wb ⟨rfl, hb⟩; have H6 := Lib.hid (H5.out.on hb); clear hb))
                  (try go_wp2_with fail)
                  refine hK.out _ _ ?_ (fun hHeld => ?_)
                  · exact KS.out _ H6.out
                  clear hK K
                  (try simp only [Act.put, List.setIfInBounds_toArray, List.set_cons_zero, List.set_cons_succ])
                  refine wpAnyH_take (i := 5) (oi := ⟨some 76, _, _, _, _, _⟩) (v := .bool false) rfl (by kernel_rfl) (by kernel_rfl) (by kernel_rfl) (fun _ _ _ h => h) (Or.inl ⟨by kernel_rfl, fun w hSw => by ((try dsimp only at hSw); go_simp; done)⟩) (by assumption) ?_
                  (try simp only [Act.put, List.setIfInBounds_toArray, List.set_cons_zero, List.set_cons_succ])
                  refine wpAnyH_take (i := 6) (oi := ⟨some 77, _, _, _, _, _⟩) (v := .bool false) rfl (by kernel_rfl) (by kernel_rfl) (by kernel_rfl) (fun _ _ _ h => h) (Or.inl ⟨by kernel_rfl, fun w hSw => by ((try dsimp only at hSw); go_simp; done)⟩) (by assumption) ?_
                  (try simp only [Act.put, List.setIfInBounds_toArray, List.set_cons_zero, List.set_cons_succ])
                  refine wpAnyH_take (i := 7) (oi := ⟨some 78, _, _, _, _, _⟩) (v := undef) rfl (by kernel_rfl) (by kernel_rfl) (by kernel_rfl) (fun _ _ _ h => h) (Or.inr ⟨by kernel_rfl, rfl⟩) (by assumption) ?_
                  (try simp only [Act.put, List.setIfInBounds_toArray, List.set_cons_zero, List.set_cons_succ])
                  refine wpAnyH_take (i := 8) (oi := ⟨some 79, _, _, _, _, _⟩) (v := undef) rfl (by kernel_rfl) (by kernel_rfl) (by kernel_rfl) (fun _ _ _ h => h) (Or.inr ⟨by kernel_rfl, rfl⟩) (by assumption) ?_
                  (try simp only [Act.put, List.setIfInBounds_toArray, List.set_cons_zero, List.set_cons_succ])
                  refine wpAnyH_take (i := 9) (oi := ⟨some 80, _, _, _, _, _⟩) (v := undef) rfl (by kernel_rfl) (by kernel_rfl) (by kernel_rfl) (fun _ _ _ h => h) (Or.inr ⟨by kernel_rfl, rfl⟩) (by assumption) ?_
                  (try simp only [Act.put, List.setIfInBounds_toArray, List.set_cons_zero, List.set_cons_succ])
                  refine wpAnyH_take (i := 10) (oi := ⟨some 81, _, _, _, _, _⟩) (v := undef) rfl (by kernel_rfl) (by kernel_rfl) (by kernel_rfl) (fun _ _ _ h => h) (Or.inr ⟨by kernel_rfl, rfl⟩) (by assumption) ?_
                  (try simp only [Act.put, List.setIfInBounds_toArray, List.set_cons_zero, List.set_cons_succ])
                  refine wpAnyH_take (i := 11) (oi := ⟨some 82, _, _, _, _, _⟩) (v := undef) rfl (by kernel_rfl) (by kernel_rfl) (by kernel_rfl) (fun _ _ _ h => h) (Or.inr ⟨by kernel_rfl, rfl⟩) (by assumption) ?_
                  (try simp only [Act.put, List.setIfInBounds_toArray, List.set_cons_zero, List.set_cons_succ])
                  refine wpAnyH_take (i := 12) (oi := ⟨some 83, _, _, _, _, _⟩) (v := .bool false) rfl (by kernel_rfl) (by kernel_rfl) (by kernel_rfl) (fun _ _ _ h => h) (Or.inl ⟨by kernel_rfl, fun w hSw => by ((try dsimp only at hSw); go_simp; done)⟩) (by assumption) ?_
                  (try simp only [Act.put, List.setIfInBounds_toArray, List.set_cons_zero, List.set_cons_succ])
                  refine wpAnyH_take (i := 13) (oi := ⟨some 84, _, _, _, _, _⟩) (v := .bool false) rfl (by kernel_rfl) (by kernel_rfl) (by kernel_rfl) (fun _ _ _ h => h) (Or.inl ⟨by kernel_rfl, fun w hSw => by ((try dsimp only at hSw); go_simp; done)⟩) (by assumption) ?_
                  (try simp only [Act.put, List.setIfInBounds_toArray, List.set_cons_zero, List.set_cons_succ])
                  refine wpAnyH_take (i := 14) (oi := ⟨some 85, _, _, _, _, _⟩) (v := undef) rfl (by kernel_rfl) (by kernel_rfl) (by kernel_rfl) (fun _ _ _ h => h) (Or.inr ⟨by kernel_rfl, rfl⟩) (by assumption) ?_
                  (try simp only [Act.put, List.setIfInBounds_toArray, List.set_cons_zero, List.set_cons_succ])
                  refine wpAnyH_take (i := 15) (oi := ⟨some 86, _, _, _, _, _⟩) (v := undef) rfl (by kernel_rfl) (by kernel_rfl) (by kernel_rfl) (fun _ _ _ h => h) (Or.inr ⟨by kernel_rfl, rfl⟩) (by assumption) ?_
                  (try simp only [Act.put, List.setIfInBounds_toArray, List.set_cons_zero, List.set_cons_succ])
                  refine wpAnyH_take (i := 16) (oi := ⟨some 87, _, _, _, _, _⟩) (v := undef) rfl (by kernel_rfl) (by kernel_rfl) (by kernel_rfl) (fun _ _ _ h => h) (Or.inr ⟨by kernel_rfl, rfl⟩) (by assumption) ?_
                  (try simp only [Act.put, List.setIfInBounds_toArray, List.set_cons_zero, List.set_cons_succ])
                  refine wpAnyH_take (i := 17) (oi := ⟨some 88, _, _, _, _, _⟩) (v := undef) rfl (by kernel_rfl) (by kernel_rfl) (by kernel_rfl) (fun _ _ _ h => h) (Or.inr ⟨by kernel_rfl, rfl⟩) (by assumption) ?_
                  (try simp only [Act.put, List.setIfInBounds_toArray, List.set_cons_zero, List.set_cons_succ])
                  refine wpAnyH_take (i := 18) (oi := ⟨some 89, _, _, _, _, _⟩) (v := undef) rfl (by kernel_rfl) (by kernel_rfl) (by kernel_rfl) (fun _ _ _ h => h) (Or.inr ⟨by kernel_rfl, rfl⟩) (by assumption) ?_
                  (try simp only [Act.put, List.setIfInBounds_toArray, List.set_cons_zero, List.set_cons_succ])
                  refine wpAnyH_take (i := 19) (oi := ⟨some 90, _, _, _, _, _⟩) (v := undef) rfl (by kernel_rfl) (by kernel_rfl) (by kernel_rfl) (fun _ _ _ h => h) (Or.inr ⟨by kernel_rfl, rfl⟩) (by assumption) ?_
                  (try simp only [Act.put, List.setIfInBounds_toArray, List.set_cons_zero, List.set_cons_succ])
                  refine wpAnyH_take (i := 20) (oi := ⟨some 91, _, _, _, _, _⟩) (v := undef) rfl (by kernel_rfl) (by kernel_rfl) (by kernel_rfl) (fun _ _ _ h => h) (Or.inr ⟨by kernel_rfl, rfl⟩) (by assumption) ?_
                  (try simp only [Act.put, List.setIfInBounds_toArray, List.set_cons_zero, List.set_cons_succ])
                  refine wpAnyH_take (i := 21) (oi := ⟨some 92, _, _, _, _, _⟩) (v := undef) rfl (by kernel_rfl) (by kernel_rfl) (by kernel_rfl) (fun _ _ _ h => h) (Or.inr ⟨by kernel_rfl, rfl⟩) (by assumption) ?_
                  (try simp only [Act.put, List.setIfInBounds_toArray, List.set_cons_zero, List.set_cons_succ])
                  refine wpAnyH_take (i := 22) (oi := ⟨some 93, _, _, _, _, _⟩) (v := undef) rfl (by kernel_rfl) (by kernel_rfl) (by kernel_rfl) (fun _ _ _ h => h) (Or.inr ⟨by kernel_rfl, rfl⟩) (by assumption) ?_
                  (try simp only [Act.put, List.setIfInBounds_toArray, List.set_cons_zero, List.set_cons_succ])
                  refine wpAnyH_take (i := 23) (oi := ⟨some 94, _, _, _, _, _⟩) (v := undef) rfl (by kernel_rfl) (by kernel_rfl) (by kernel_rfl) (fun _ _ _ h => h) (Or.inr ⟨by kernel_rfl, rfl⟩) (by assumption) ?_
                  (try simp only [Act.put, List.setIfInBounds_toArray, List.set_cons_zero, List.set_cons_succ])
                  refine wpAnyH_take (i := 24) (oi := ⟨some 95, _, _, _, _, _⟩) (v := undef) rfl (by kernel_rfl) (by kernel_rfl) (by kernel_rfl) (fun _ _ _ h => h) (Or.inr ⟨by kernel_rfl, rfl⟩) (by assumption) ?_
                  (try simp only [Act.put, List.setIfInBounds_toArray, List.set_cons_zero, List.set_cons_succ])
                  refine wpAnyH_take (i := 25) (oi := ⟨some 96, _, _, _, _, _⟩) (v := undef) rfl (by kernel_rfl) (by kernel_rfl) (by kernel_rfl) (fun _ _ _ h => h) (Or.inr ⟨by kernel_rfl, rfl⟩) (by assumption) ?_
                  (try simp only [Act.put, List.setIfInBounds_toArray, List.set_cons_zero, List.set_cons_succ])
                  refine wpAnyH_take (i := 26) (oi := ⟨some 97, _, _, _, _, _⟩) (v := undef) rfl (by kernel_rfl) (by kernel_rfl) (by kernel_rfl) (fun _ _ _ h => h) (Or.inr ⟨by kernel_rfl, rfl⟩) (by assumption) ?_
                  (try simp only [Act.put, List.setIfInBounds_toArray, List.set_cons_zero, List.set_cons_succ])
                  refine wpAnyH_take (i := 27) (oi := ⟨some 98, _, _, _, _, _⟩) (v := .bool false) rfl (by kernel_rfl) (by kernel_rfl) (by kernel_rfl) (fun _ _ _ h => h) (Or.inl ⟨by kernel_rfl, fun w hSw => by ((try dsimp only at hSw); go_simp; done)⟩) (by assumption) ?_
                  (try simp only [Act.put, List.setIfInBounds_toArray, List.set_cons_zero, List.set_cons_succ])
                  refine wpAnyH_take (i := 28) (oi := ⟨some 8, _, _, _, _, _⟩) (v := .bool false) rfl (by kernel_rfl) (by kernel_rfl) (by kernel_rfl) (fun _ _ _ h => h) (Or.inl ⟨by kernel_rfl, fun w hSw => by ((try dsimp only at hSw); go_simp; done)⟩) (by assumption) ?_
                  (try simp only [Act.put, List.setIfInBounds_toArray, List.set_cons_zero, List.set_cons_succ])
                  refine wpAnyH_done (by kernel_rfl) ?_ _
                  go_wp2
                  go_ret
                  exact ⟨by rw [← HK.out]; rfl, H6.out.v.below⟩
                | true =>
                  cases ea with
                  | false =>
                    refine wp_region_held_drew (S := (fun w' => (LoadE (.pointer (some ⟨gX, 0, none⟩))).run Tryz.prog w' = .ok X.V w' ∧ (LoadE (.pointer (some ⟨gY, 0, none⟩))).run Tryz.prog w' = .ok Y.V w' ∧ w'.cell? ⟨gX, 3, none⟩ = some (.int .u64 X.addr) ∧ w'.cell? ⟨gY, 3, none⟩ = some (.int .u64 Y.addr) ∧ w'.cell? ⟨w.heap.size, 2, none⟩ = some (.slice (some ⟨bR, oR, none⟩) c.N q.cR) ∧ w'.cell? ⟨bR, oR + x, none⟩ = some (.int .i64 fx) ∧ w'.cell? ⟨bR, oR + m, none⟩ = some (.int .i64 fy))) (by kernel_rfl) ?_ (fun hHeld => ?_)
                    · exact KS.out _ H4.out
                    refine wpAnyH_take (i := 0) (oi := ⟨some 71, _, _, _, _, _⟩) (v := X.V) rfl (by kernel_rfl) (by kernel_rfl) (by kernel_rfl) (fun _ _ _ h => h) (Or.inl ⟨by kernel_rfl, fun w hSw => by ((try dsimp only at hSw); go_simp; done)⟩) (by assumption) ?_
                    (try simp only [Act.put, List.setIfInBounds_toArray, List.set_cons_zero, List.set_cons_succ])
                    refine wpAnyH_ready (rs := [1]) (by kernel_rfl) (by simp) ?_
                    refine AllReadyH.cons (o := ⟨some 72, _, _, _, _, _⟩) rfl (fun K hK => ?_) AllReadyH.nil
                    go_simp
                    ((go_at_call 28; (with_reducible refine (KX.out _).mono ?_); rintro e' wa ⟨rfl, hb⟩; have H5 := Lib.hid (H4.out.on hb); clear hb))
                    (try go_wp2_with fail)
                    refine hK.out _ _ ?_ (fun hHeld => ?_)
                    · exact KS.out _ H5.out
                    clear hK K
                    (try simp only [Act.put, List.setIfInBounds_toArray, List.set_cons_zero, List.set_cons_succ])
                    refine wpAnyH_take (i := 2) (oi := ⟨some 73, _, _, _, _, _⟩) (v := .bool true) rfl (by kernel_rfl) (by kernel_rfl) (by kernel_rfl) (fun _ _ _ h => h) (Or.inl ⟨by kernel_rfl, fun w hSw => by ((try dsimp only at hSw); go_simp; done)⟩) (by assumption) ?_
                    (try simp only [Act.put, List.setIfInBounds_toArray, List.set_cons_zero, List.set_cons_succ])
                    refine wpAnyH_take (i := 3) (oi := ⟨some 74, _, _, _, _, _⟩) (v := Y.V) rfl (by kernel_rfl) (by kernel_rfl) (by kernel_rfl) (fun _ _ _ h => h) (Or.inl ⟨by kernel_rfl, fun w hSw => by ((try dsimp only at hSw); go_simp; done)⟩) (by assumption) ?_
                    (try simp only [Act.put, List.setIfInBounds_toArray, List.set_cons_zero, List.set_cons_succ])
                    refine wpAnyH_ready (rs := [4]) (by kernel_rfl) (by simp) ?_
                    refine AllReadyH.cons (o := ⟨some 75, _, _, _, _, _⟩) rfl (fun K hK => ?_) AllReadyH.nil
                    go_simp
                    ((go_at_call 28; (with_reducible refine (KY.out _).mono ?_); rintro e' wb ⟨rfl, hb⟩; have H6 := Lib.hid (H5.out.on hb); clear hb))
                    (try go_wp2_with fail)
                    refine hK.out _ _ ?_ (fun hHeld => ?_)
                    · exact KS.out _ H6.out
                    clear hK K
                    (try simp only [Act.put, List.setIfInBounds_toArray, List.set_cons_zero, List.set_cons_succ])
                    refine wpAnyH_take (i := 5) (oi := ⟨some 76, _, _, _, _, _⟩) (v := .bool true) rfl (by kernel_rfl) (by kernel_rfl) (by kernel_rfl) (fun _ _ _ h => h) (Or.inl ⟨by kernel_rfl, fun w hSw => by ((try dsimp only at hSw); go_simp; done)⟩) (by assumption) ?_
                    (try simp only [Act.put, List.setIfInBounds_toArray, List.set_cons_zero, List.set_cons_succ])
                    refine wpAnyH_take (i := 6) (oi := ⟨some 77, _, _, _, _, _⟩) (v := .bool true) rfl (by kernel_rfl) (by kernel_rfl) (by kernel_rfl) (fun _ _ _ h => h) (Or.inl ⟨by kernel_rfl, fun w hSw => by ((try dsimp only at hSw); go_simp; done)⟩) (by assumption) ?_
                    (try simp only [Act.put, List.setIfInBounds_toArray, List.set_cons_zero, List.set_cons_succ])
                    refine wpAnyH_take (i := 7) (oi := ⟨some 78, _, _, _, _, _⟩) (v := .pointer (some ⟨gX, 3, none⟩)) rfl (by kernel_rfl) (by kernel_rfl) (by kernel_rfl) (fun _ _ _ h => h) (Or.inl ⟨by kernel_rfl, fun w hSw => by ((try dsimp only at hSw); go_simp; done)⟩) (by assumption) ?_
                    (try simp only [Act.put, List.setIfInBounds_toArray, List.set_cons_zero, List.set_cons_succ])
                    refine wpAnyH_take (i := 8) (oi := ⟨some 79, _, _, _, _, _⟩) (v := .int .u64 X.addr) rfl (by kernel_rfl) (by kernel_rfl) (by kernel_rfl) (fun _ _ _ h => h) (Or.inl ⟨by kernel_rfl, fun w hSw => by ((try dsimp only at hSw); go_simp; done)⟩) (by assumption) ?_
                    (try simp only [Act.put, List.setIfInBounds_toArray, List.set_cons_zero, List.set_cons_succ])
                    refine wpAnyH_take (i := 9) (oi := ⟨some 80, _, _, _, _, _⟩) (v := .pointer (some ⟨gY, 3, none⟩)) rfl (by kernel_rfl) (by kernel_rfl) (by kernel_rfl) (fun _ _ _ h => h) (Or.inl ⟨by kernel_rfl, fun w hSw => by ((try dsimp only at hSw); go_simp; done)⟩) (by assumption) ?_
                    (try simp only [Act.put, List.setIfInBounds_toArray, List.set_cons_zero, List.set_cons_succ])
                    refine wpAnyH_take (i := 10) (oi := ⟨some 81, _, _, _, _, _⟩) (v := .int .u64 Y.addr) rfl (by kernel_rfl) (by kernel_rfl) (by kernel_rfl) (fun _ _ _ h => h) (Or.inl ⟨by kernel_rfl, fun w hSw => by ((try dsimp only at hSw); go_simp; done)⟩) (by assumption) ?_
                    (try simp only [Act.put, List.setIfInBounds_toArray, List.set_cons_zero, List.set_cons_succ])
                    refine wpAnyH_take (i := 11) (oi := ⟨some 82, _, _, _, _, _⟩) (v := .bool false) rfl (by kernel_rfl) (by kernel_rfl) (by kernel_rfl) (fun _ _ _ h => h) (Or.inl ⟨by kernel_rfl, fun w hSw => by ((try dsimp only at hSw); go_simp; done)⟩) (by assumption) ?_
                    (try simp only [Act.put, List.setIfInBounds_toArray, List.set_cons_zero, List.set_cons_succ])
                    refine wpAnyH_take (i := 12) (oi := ⟨some 83, _, _, _, _, _⟩) (v := .bool false) rfl (by kernel_rfl) (by kernel_rfl) (by kernel_rfl) (fun _ _ _ h => h) (Or.inl ⟨by kernel_rfl, fun w hSw => by ((try dsimp only at hSw); go_simp; done)⟩) (by assumption) ?_
                    (try simp only [Act.put, List.setIfInBounds_toArray, List.set_cons_zero, List.set_cons_succ])
                    refine wpAnyH_take (i := 13) (oi := ⟨some 84, _, _, _, _, _⟩) (v := .bool false) rfl (by kernel_rfl) (by kernel_rfl) (by kernel_rfl) (fun _ _ _ h => h) (Or.inl ⟨by kernel_rfl, fun w hSw => by ((try dsimp only at hSw); go_simp; done)⟩) (by assumption) ?_
                    (try simp only [Act.put, List.setIfInBounds_toArray, List.set_cons_zero, List.set_cons_succ])
                    refine wpAnyH_take (i := 14) (oi := ⟨some 85, _, _, _, _, _⟩) (v := undef) rfl (by kernel_rfl) (by kernel_rfl) (by kernel_rfl) (fun _ _ _ h => h) (Or.inr ⟨by kernel_rfl, rfl⟩) (by assumption) ?_
                    (try simp only [Act.put, List.setIfInBounds_toArray, List.set_cons_zero, List.set_cons_succ])
                    refine wpAnyH_take (i := 15) (oi := ⟨some 86, _, _, _, _, _⟩) (v := undef) rfl (by kernel_rfl) (by kernel_rfl) (by kernel_rfl) (fun _ _ _ h => h) (Or.inr ⟨by kernel_rfl, rfl⟩) (by assumption) ?_
                    (try simp only [Act.put, List.setIfInBounds_toArray, List.set_cons_zero, List.set_cons_succ])
                    refine wpAnyH_take (i := 16) (oi := ⟨some 87, _, _, _, _, _⟩) (v := undef) rfl (by kernel_rfl) (by kernel_rfl) (by kernel_rfl) (fun _ _ _ h => h) (Or.inr ⟨by kernel_rfl, rfl⟩) (by assumption) ?_
                    (try simp only [Act.put, List.setIfInBounds_toArray, List.set_cons_zero, List.set_cons_succ])
                    refine wpAnyH_take (i := 17) (oi := ⟨some 88, _, _, _, _, _⟩) (v := undef) rfl (by kernel_rfl) (by kernel_rfl) (by kernel_rfl) (fun _ _ _ h => h) (Or.inr ⟨by kernel_rfl, rfl⟩) (by assumption) ?_
                    (try simp only [Act.put, List.setIfInBounds_toArray, List.set_cons_zero, List.set_cons_succ])
                    refine wpAnyH_take (i := 18) (oi := ⟨some 89, _, _, _, _, _⟩) (v := undef) rfl (by kernel_rfl) (by kernel_rfl) (by kernel_rfl) (fun _ _ _ h => h) (Or.inr ⟨by kernel_rfl, rfl⟩) (by assumption) ?_
                    (try simp only [Act.put, List.setIfInBounds_toArray, List.set_cons_zero, List.set_cons_succ])
                    refine wpAnyH_take (i := 19) (oi := ⟨some 90, _, _, _, _, _⟩) (v := undef) rfl (by kernel_rfl) (by kernel_rfl) (by kernel_rfl) (fun _ _ _ h => h) (Or.inr ⟨by kernel_rfl, rfl⟩) (by assumption) ?_
                    (try simp only [Act.put, List.setIfInBounds_toArray, List.set_cons_zero, List.set_cons_succ])
                    refine wpAnyH_take (i := 20) (oi := ⟨some 91, _, _, _, _, _⟩) (v := undef) rfl (by kernel_rfl) (by kernel_rfl) (by kernel_rfl) (fun _ _ _ h => h) (Or.inr ⟨by kernel_rfl, rfl⟩) (by assumption) ?_
                    (try simp only [Act.put, List.setIfInBounds_toArray, List.set_cons_zero, List.set_cons_succ])
                    refine wpAnyH_take (i := 21) (oi := ⟨some 92, _, _, _, _, _⟩) (v := undef) rfl (by kernel_rfl) (by kernel_rfl) (by kernel_rfl) (fun _ _ _ h => h) (Or.inr ⟨by kernel_rfl, rfl⟩) (by assumption) ?_
                    (try simp only [Act.put, List.setIfInBounds_toArray, List.set_cons_zero, List.set_cons_succ])
                    refine wpAnyH_take (i := 22) (oi := ⟨some 93, _, _, _, _, _⟩) (v := undef) rfl (by kernel_rfl) (by kernel_rfl) (by kernel_rfl) (fun _ _ _ h => h) (Or.inr ⟨by kernel_rfl, rfl⟩) (by assumption) ?_
                    (try simp only [Act.put, List.setIfInBounds_toArray, List.set_cons_zero, List.set_cons_succ])
                    refine wpAnyH_take (i := 23) (oi := ⟨some 94, _, _, _, _, _⟩) (v := undef) rfl (by kernel_rfl) (by kernel_rfl) (by kernel_rfl) (fun _ _ _ h => h) (Or.inr ⟨by kernel_rfl, rfl⟩) (by assumption) ?_
                    (try simp only [Act.put, List.setIfInBounds_toArray, List.set_cons_zero, List.set_cons_succ])
                    refine wpAnyH_take (i := 24) (oi := ⟨some 95, _, _, _, _, _⟩) (v := undef) rfl (by kernel_rfl) (by kernel_rfl) (by kernel_rfl) (fun _ _ _ h => h) (Or.inr ⟨by kernel_rfl, rfl⟩) (by assumption) ?_
                    (try simp only [Act.put, List.setIfInBounds_toArray, List.set_cons_zero, List.set_cons_succ])
                    refine wpAnyH_take (i := 25) (oi := ⟨some 96, _, _, _, _, _⟩) (v := undef) rfl (by kernel_rfl) (by kernel_rfl) (by kernel_rfl) (fun _ _ _ h => h) (Or.inr ⟨by kernel_rfl, rfl⟩) (by assumption) ?_
                    (try simp only [Act.put, List.setIfInBounds_toArray, List.set_cons_zero, List.set_cons_succ])
                    refine wpAnyH_take (i := 26) (oi := ⟨some 97, _, _, _, _, _⟩) (v := undef) rfl (by kernel_rfl) (by kernel_rfl) (by kernel_rfl) (fun _ _ _ h => h) (Or.inr ⟨by kernel_rfl, rfl⟩) (by assumption) ?_
                    (try simp only [Act.put, List.setIfInBounds_toArray, List.set_cons_zero, List.set_cons_succ])
                    refine wpAnyH_take (i := 27) (oi := ⟨some 98, _, _, _, _, _⟩) (v := .bool false) rfl (by kernel_rfl) (by kernel_rfl) (by kernel_rfl) (fun _ _ _ h => h) (Or.inl ⟨by kernel_rfl, fun w hSw => by ((try dsimp only at hSw); go_simp; done)⟩) (by assumption) ?_
                    (try simp only [Act.put, List.setIfInBounds_toArray, List.set_cons_zero, List.set_cons_succ])
                    refine wpAnyH_take (i := 28) (oi := ⟨some 8, _, _, _, _, _⟩) (v := .bool false) rfl (by kernel_rfl) (by kernel_rfl) (by kernel_rfl) (fun _ _ _ h => h) (Or.inl ⟨by kernel_rfl, fun w hSw => by ((try dsimp only at hSw); go_simp; done)⟩) (by assumption) ?_
                    (try simp only [Act.put, List.setIfInBounds_toArray, List.set_cons_zero, List.set_cons_succ])
                    refine wpAnyH_done (by kernel_rfl) ?_ _
                    go_wp2
                    go_ret
                    exact ⟨by rw [← HK.out]; rfl, H6.out.v.below⟩
                  | true =>
                    refine wp_region_held_drew (S := (fun w' => (LoadE (.pointer (some ⟨gX, 0, none⟩))).run Tryz.prog w' = .ok X.V w' ∧ (LoadE (.pointer (some ⟨gY, 0, none⟩))).run Tryz.prog w' = .ok Y.V w' ∧ w'.cell? ⟨gX, 3, none⟩ = some (.int .u64 X.addr) ∧ w'.cell? ⟨gY, 3, none⟩ = some (.int .u64 Y.addr) ∧ w'.cell? ⟨w.heap.size, 2, none⟩ = some (.slice (some ⟨bR, oR, none⟩) c.N q.cR) ∧ w'.cell? ⟨bR, oR + x, none⟩ = some (.int .i64 fx) ∧ w'.cell? ⟨bR, oR + m, none⟩ = some (.int .i64 fy))) (by kernel_rfl) ?_ (fun hHeld => ?_)
                    · exact KS.out _ H4.out
                    refine wpAnyH_take (i := 0) (oi := ⟨some 71, _, _, _, _, _⟩) (v := X.V) rfl (by kernel_rfl) (by kernel_rfl) (by kernel_rfl) (fun _ _ _ h => h) (Or.inl ⟨by kernel_rfl, fun w hSw => by ((try dsimp only at hSw); go_simp; done)⟩) (by assumption) ?_
                    (try simp only [Act.put, List.setIfInBounds_toArray, List.set_cons_zero, List.set_cons_succ])
                    refine wpAnyH_ready (rs := [1]) (by kernel_rfl) (by simp) ?_
                    refine AllReadyH.cons (o := ⟨some 72, _, _, _, _, _⟩) rfl (fun K hK => ?_) AllReadyH.nil
                    go_simp
                    ((go_at_call 28; (with_reducible refine (KX.out _).mono ?_); rintro e' wa ⟨rfl, hb⟩; have H5 := Lib.hid (H4.out.on hb); clear hb))
                    (try go_wp2_with fail)
                    refine hK.out _ _ ?_ (fun hHeld => ?_)
                    · exact KS.out _ H5.out
                    clear hK K
                    (try simp only [Act.put, List.setIfInBounds_toArray, List.set_cons_zero, List.set_cons_succ])
                    refine wpAnyH_take (i := 2) (oi := ⟨some 73, _, _, _, _, _⟩) (v := .bool true) rfl (by kernel_rfl) (by kernel_rfl) (by kernel_rfl) (fun _ _ _ h => h) (Or.inl ⟨by kernel_rfl, fun w hSw => by ((try dsimp only at hSw); go_simp; done)⟩) (by assumption) ?_
                    (try simp only [Act.put, List.setIfInBounds_toArray, List.set_cons_zero, List.set_cons_succ])
                    refine wpAnyH_take (i := 3) (oi := ⟨some 74, _, _, _, _, _⟩) (v := Y.V) rfl (by kernel_rfl) (by kernel_rfl) (by kernel_rfl) (fun _ _ _ h => h) (Or.inl ⟨by kernel_rfl, fun w hSw => by ((try dsimp only at hSw); go_simp; done)⟩) (by assumption) ?_
                    (try simp only [Act.put, List.setIfInBounds_toArray, List.set_cons_zero, List.set_cons_succ])
                    refine wpAnyH_ready (rs := [4]) (by kernel_rfl) (by simp) ?_
                    refine AllReadyH.cons (o := ⟨some 75, _, _, _, _, _⟩) rfl (fun K hK => ?_) AllReadyH.nil
                    go_simp
                    ((go_at_call 28; (with_reducible refine (KY.out _).mono ?_); rintro e' wb ⟨rfl, hb⟩; have H6 := Lib.hid (H5.out.on hb); clear hb))
                    (try go_wp2_with fail)
                    refine hK.out _ _ ?_ (fun hHeld => ?_)
                    · exact KS.out _ H6.out
                    clear hK K
                    (try simp only [Act.put, List.setIfInBounds_toArray, List.set_cons_zero, List.set_cons_succ])
                    refine wpAnyH_take (i := 5) (oi := ⟨some 76, _, _, _, _, _⟩) (v := .bool true) rfl (by kernel_rfl) (by kernel_rfl) (by kernel_rfl) (fun _ _ _ h => h) (Or.inl ⟨by kernel_rfl, fun w hSw => by ((try dsimp only at hSw); go_simp; done)⟩) (by assumption) ?_
                    (try simp only [Act.put, List.setIfInBounds_toArray, List.set_cons_zero, List.set_cons_succ])
                    refine wpAnyH_take (i := 6) (oi := ⟨some 77, _, _, _, _, _⟩) (v := .bool true) rfl (by kernel_rfl) (by kernel_rfl) (by kernel_rfl) (fun _ _ _ h => h) (Or.inl ⟨by kernel_rfl, fun w hSw => by ((try dsimp only at hSw); go_simp; done)⟩) (by assumption) ?_
                    (try simp only [Act.put, List.setIfInBounds_toArray, List.set_cons_zero, List.set_cons_succ])
                    refine wpAnyH_take (i := 7) (oi := ⟨some 78, _, _, _, _, _⟩) (v := .pointer (some ⟨gX, 3, none⟩)) rfl (by kernel_rfl) (by kernel_rfl) (by kernel_rfl) (fun _ _ _ h => h) (Or.inl ⟨by kernel_rfl, fun w hSw => by ((try dsimp only at hSw); go_simp; done)⟩) (by assumption) ?_
                    (try simp only [Act.put, List.setIfInBounds_toArray, List.set_cons_zero, List.set_cons_succ])
                    refine wpAnyH_take (i := 8) (oi := ⟨some 79, _, _, _, _, _⟩) (v := .int .u64 X.addr) rfl (by kernel_rfl) (by kernel_rfl) (by kernel_rfl) (fun _ _ _ h => h) (Or.inl ⟨by kernel_rfl, fun w hSw => by ((try dsimp only at hSw); go_simp; done)⟩) (by assumption) ?_
                    (try simp only [Act.put, List.setIfInBounds_toArray, List.set_cons_zero, List.set_cons_succ])
                    refine wpAnyH_take (i := 9) (oi := ⟨some 80, _, _, _, _, _⟩) (v := .pointer (some ⟨gY, 3, none⟩)) rfl (by kernel_rfl) (by kernel_rfl) (by kernel_rfl) (fun _ _ _ h => h) (Or.inl ⟨by kernel_rfl, fun w hSw => by ((try dsimp only at hSw); go_simp; done)⟩) (by assumption) ?_
                    (try simp only [Act.put, List.setIfInBounds_toArray, List.set_cons_zero, List.set_cons_succ])
                    refine wpAnyH_take (i := 10) (oi := ⟨some 81, _, _, _, _, _⟩) (v := .int .u64 Y.addr) rfl (by kernel_rfl) (by kernel_rfl) (by kernel_rfl) (fun _ _ _ h => h) (Or.inl ⟨by kernel_rfl, fun w hSw => by ((try dsimp only at hSw); go_simp; done)⟩) (by assumption) ?_
                    (try simp only [Act.put, List.setIfInBounds_toArray, List.set_cons_zero, List.set_cons_succ])
                    refine wpAnyH_take (i := 11) (oi := ⟨some 82, _, _, _, _, _⟩) (v := .bool true) rfl (by kernel_rfl) (by kernel_rfl) (by kernel_rfl) (fun _ _ _ h => h) (Or.inl ⟨by kernel_rfl, fun w hSw => by ((try dsimp only at hSw); go_simp; done)⟩) (by assumption) ?_
                    (try simp only [Act.put, List.setIfInBounds_toArray, List.set_cons_zero, List.set_cons_succ])
                    refine wpAnyH_take (i := 12) (oi := ⟨some 83, _, _, _, _, _⟩) (v := .bool true) rfl (by kernel_rfl) (by kernel_rfl) (by kernel_rfl) (fun _ _ _ h => h) (Or.inl ⟨by kernel_rfl, fun w hSw => by ((try dsimp only at hSw); go_simp; done)⟩) (by assumption) ?_
                    (try simp only [Act.put, List.setIfInBounds_toArray, List.set_cons_zero, List.set_cons_succ])
                    refine wpAnyH_take (i := 13) (oi := ⟨some 84, _, _, _, _, _⟩) (v := .bool true) rfl (by kernel_rfl) (by kernel_rfl) (by kernel_rfl) (fun _ _ _ h => h) (Or.inl ⟨by kernel_rfl, fun w hSw => by ((try dsimp only at hSw); go_simp; done)⟩) (by assumption) ?_
                    (try simp only [Act.put, List.setIfInBounds_toArray, List.set_cons_zero, List.set_cons_succ])
                    refine wpAnyH_take (i := 14) (oi := ⟨some 85, _, _, _, _, _⟩) (v := .pointer (some ⟨w.heap.size, 0, none⟩)) rfl (by kernel_rfl) (by kernel_rfl) (by kernel_rfl) (fun _ _ _ h => h) (Or.inl ⟨by kernel_rfl, fun w hSw => by ((try dsimp only at hSw); go_simp; done)⟩) (by assumption) ?_
                    (try simp only [Act.put, List.setIfInBounds_toArray, List.set_cons_zero, List.set_cons_succ])
                    refine wpAnyH_take (i := 15) (oi := ⟨some 86, _, _, _, _, _⟩) (v := .pointer (some ⟨w.heap.size, 2, none⟩)) rfl (by kernel_rfl) (by kernel_rfl) (by kernel_rfl) (fun _ _ _ h => h) (Or.inl ⟨by kernel_rfl, fun w hSw => by ((try dsimp only at hSw); go_simp; done)⟩) (by assumption) ?_
                    (try simp only [Act.put, List.setIfInBounds_toArray, List.set_cons_zero, List.set_cons_succ])
                    refine wpAnyH_take (i := 16) (oi := ⟨some 87, _, _, _, _, _⟩) (v := .slice (some ⟨bR, oR, none⟩) c.N q.cR) rfl (by kernel_rfl) (by kernel_rfl) (by kernel_rfl) (fun _ _ _ h => h) (Or.inl ⟨by kernel_rfl, fun w hSw => by ((try dsimp only at hSw); go_simp; done)⟩) (by assumption) ?_
                    (try simp only [Act.put, List.setIfInBounds_toArray, List.set_cons_zero, List.set_cons_succ])
                    refine wpAnyH_take (i := 17) (oi := ⟨some 88, _, _, _, _, _⟩) (v := .int .i64 (x : Int)) rfl (by kernel_rfl) (by kernel_rfl) (by kernel_rfl) (fun _ _ _ h => h) (Or.inl ⟨by kernel_rfl, fun w hSw => by ((try dsimp only at hSw); go_simp; done)⟩) (by assumption) ?_
                    (try simp only [Act.put, List.setIfInBounds_toArray, List.set_cons_zero, List.set_cons_succ])
                    refine wpAnyH_take (i := 18) (oi := ⟨some 89, _, _, _, _, _⟩) (v := .pointer (some ⟨bR, oR + x, none⟩)) rfl (by kernel_rfl) (by kernel_rfl) (by kernel_rfl) (fun _ _ _ h => h) (Or.inl ⟨by kernel_rfl, fun w hSw => by ((try dsimp only at hSw); go_simp; done)⟩) (by assumption) ?_
                    (try simp only [Act.put, List.setIfInBounds_toArray, List.set_cons_zero, List.set_cons_succ])
                    refine wpAnyH_take (i := 19) (oi := ⟨some 90, _, _, _, _, _⟩) (v := .int .i64 fx) rfl (by kernel_rfl) (by kernel_rfl) (by kernel_rfl) (fun _ _ _ h => h) (Or.inl ⟨by kernel_rfl, fun w hSw => by ((try dsimp only at hSw); go_simp; done)⟩) (by assumption) ?_
                    (try simp only [Act.put, List.setIfInBounds_toArray, List.set_cons_zero, List.set_cons_succ])
                    refine wpAnyH_take (i := 20) (oi := ⟨some 91, _, _, _, _, _⟩) (v := .pointer (some ⟨w.heap.size, 0, none⟩)) rfl (by kernel_rfl) (by kernel_rfl) (by kernel_rfl) (fun _ _ _ h => h) (Or.inl ⟨by kernel_rfl, fun w hSw => by ((try dsimp only at hSw); go_simp; done)⟩) (by assumption) ?_
                    (try simp only [Act.put, List.setIfInBounds_toArray, List.set_cons_zero, List.set_cons_succ])
                    refine wpAnyH_take (i := 21) (oi := ⟨some 92, _, _, _, _, _⟩) (v := .pointer (some ⟨w.heap.size, 2, none⟩)) rfl (by kernel_rfl) (by kernel_rfl) (by kernel_rfl) (fun _ _ _ h => h) (Or.inl ⟨by kernel_rfl, fun w hSw => by ((try dsimp only at hSw); go_simp; done)⟩) (by assumption) ?_
                    (try simp only [Act.put, List.setIfInBounds_toArray, List.set_cons_zero, List.set_cons_succ])
                    refine wpAnyH_take (i := 22) (oi := ⟨some 93, _, _, _, _, _⟩) (v := .slice (some ⟨bR, oR, none⟩) c.N q.cR) rfl (by kernel_rfl) (by kernel_rfl) (by kernel_rfl) (fun _ _ _ h => h) (Or.inl ⟨by kernel_rfl, fun w hSw => by ((try dsimp only at hSw); go_simp; done)⟩) (by assumption) ?_
                    (try simp only [Act.put, List.setIfInBounds_toArray, List.set_cons_zero, List.set_cons_succ])
                    refine wpAnyH_take (i := 23) (oi := ⟨some 94, _, _, _, _, _⟩) (v := .int .i64 (m : Int)) rfl (by kernel_rfl) (by kernel_rfl) (by kernel_rfl) (fun _ _ _ h => h) (Or.inl ⟨by kernel_rfl, fun w hSw => by ((try dsimp only at hSw); go_simp; done)⟩) (by assumption) ?_
                    (try simp only [Act.put, List.setIfInBounds_toArray, List.set_cons_zero, List.set_cons_succ])
                    refine wpAnyH_take (i := 24) (oi := ⟨some 95, _, _, _, _, _⟩) (v := .pointer (some ⟨bR, oR + m, none⟩)) rfl (by kernel_rfl) (by kernel_rfl) (by kernel_rfl) (fun _ _ _ h => h) (Or.inl ⟨by kernel_rfl, fun w hSw => by ((try dsimp only at hSw); go_simp; done)⟩) (by assumption) ?_
                    (try simp only [Act.put, List.setIfInBounds_toArray, List.set_cons_zero, List.set_cons_succ])
                    refine wpAnyH_take (i := 25) (oi := ⟨some 96, _, _, _, _, _⟩) (v := .int .i64 fy) rfl (by kernel_rfl) (by kernel_rfl) (by kernel_rfl) (fun _ _ _ h => h) (Or.inl ⟨by kernel_rfl, fun w hSw => by ((try dsimp only at hSw); go_simp; done)⟩) (by assumption) ?_
                    (try simp only [Act.put, List.setIfInBounds_toArray, List.set_cons_zero, List.set_cons_succ])
                    refine wpAnyH_take (i := 26) (oi := ⟨some 97, _, _, _, _, _⟩) (v := .bool nf) rfl (by kernel_rfl) (by kernel_rfl) (by kernel_rfl) (fun _ _ _ h => h) (Or.inl ⟨by kernel_rfl, fun w hSw => by ((try dsimp only at hSw); go_simp; done)⟩) (by assumption) ?_
                    (try simp only [Act.put, List.setIfInBounds_toArray, List.set_cons_zero, List.set_cons_succ])
                    refine wpAnyH_take (i := 27) (oi := ⟨some 98, _, _, _, _, _⟩) (v := .bool nf) rfl (by kernel_rfl) (by kernel_rfl) (by kernel_rfl) (fun _ _ _ h => h) (Or.inl ⟨by kernel_rfl, fun w hSw => by ((try dsimp only at hSw); go_simp; done)⟩) (by assumption) ?_
                    (try simp only [Act.put, List.setIfInBounds_toArray, List.set_cons_zero, List.set_cons_succ])
                    refine wpAnyH_take (i := 28) (oi := ⟨some 8, _, _, _, _, _⟩) (v := .bool nf) rfl (by kernel_rfl) (by kernel_rfl) (by kernel_rfl) (fun _ _ _ h => h) (Or.inl ⟨by kernel_rfl, fun w hSw => by ((try dsimp only at hSw); go_simp; done)⟩) (by assumption) ?_
                    (try simp only [Act.put, List.setIfInBounds_toArray, List.set_cons_zero, List.set_cons_succ])
                    refine wpAnyH_done (by kernel_rfl) ?_ _
                    go_wp2
                    go_ret
                    exact ⟨by rw [← HK.out]; cases nf <;> rfl, H6.out.v.below⟩
      · as_aux_lemma =>
          have HK : Hid (((X.kind == 4 || X.kind == 5) && (readsE Y && (atI c.fr y == (x : Int)))) = r) := Lib.hid (by
            obtain ⟨_, _, _, e1⟩ := LX.out
            obtain ⟨_, _, _, e2⟩ := LY.out
            rw [← HR.out]
            unfold holdsR
            rw [hah.out]
            (try rw [e1])
            (try rw [e2])
            rfl)
          obtain ⟨k4, hk4⟩ : ∃ z, Hid ((X.kind == 4) = z) := ⟨_, Lib.hid rfl⟩
          rw [hk4.out] at HK
          have bk4 := hk4.out
          obtain ⟨k5, hk5⟩ : ∃ z, Hid ((X.kind == 5) = z) := ⟨_, Lib.hid rfl⟩
          rw [hk5.out] at HK
          have bk5 := hk5.out
          obtain ⟨ry, hry⟩ : ∃ z, Hid (readsE Y = z) := ⟨_, Lib.hid rfl⟩
          rw [hry.out] at HK
          obtain ⟨fx, hfx⟩ : ∃ z, Hid ((atI c.fr y == (x : Int)) = z) := ⟨_, Lib.hid rfl⟩
          rw [hfx.out] at HK
          have bfx := hfx.out
          obtain ⟨bR, oR, hqR, hfc⟩ := from_cells H3.out.v.vh.cand HM.out (by omega)
          have HFC := Lib.hid hfc
          have hfl : c.fr.length = c.N := (may_found HM.out).1
          have HQR := Lib.hid hqR
          have HFL := Lib.hid hfl
          clear hfc hqR hfl
          have KW := Lib.hid (fun w0 => rReads_b Y ry hry.out w0)
          have cly := run_LoadE H3.out.y
          have HFY := Lib.hid (fun W hW => HFC.out W hW y hyN)
          obtain ⟨f, hf⟩ : ∃ f, Hid (atI c.fr y = f) := ⟨_, Lib.hid rfl⟩
          rw [hf.out] at bfx HFY
          obtain ⟨_, px0, px1, px2, _⟩ := H3.out.x.facts
          cases k4 <;> cases k5 <;> cases ry <;> cases fx
          all_goals
            go_wp2_with (go_at_call 28; (with_reducible refine (KW.out _).mono ?_); rintro e' w2 ⟨rfl, hb⟩; have H4 := Lib.hid (H3.out.on hb); clear hb cly px0 px1 px2; obtain ⟨y0, y1, y2, y3, y4⟩ := H4.out.v.facts; rw [HQR.out, HFL.out] at y2; have fc := HFY.out _ H4.out.v.vh.cand)
            go_ret
            first | exact ⟨by rw [← HK.out]; rfl, H4.out.v.below⟩ | exact ⟨by rw [← HK.out]; rfl, H3.out.v.below⟩
      · as_aux_lemma =>
          have hx1 : wrap64 ((x : Int) + 1) = (x : Int) + 1 := IntWalk.wrap64_in _ (by omega)
          go_wp2
          go_loopw [12] (fun vm wr => ∃ m : Nat, x < m ∧ m ≤ y ∧ vm = .int .i64 m ∧ Hid (∀ m', x < m' → m' < m → f4 c x y m' = false) ∧ Hid (Hz c q es (some ⟨g, 0, none⟩) cA base w.heap.size X Y gX gY w wr)) (fun vm _ => y - (intOf vm).toNat)
          case atStart => exact ⟨x + 1, by omega, by omega, by go_num, Lib.hid (fun m' h1 h2 => absurd h1 (by omega)), H3⟩
          case round =>
            clear H3
            obtain ⟨m, hm1, hm2, rfl, HN, H3⟩ := hrel
            by_cases hml : m < y
            · have hmi : (m : Int) < (y : Int) := by omega
              have hm0 : (0 : Int) ≤ (m : Int) := by omega
              have hmN : (m : Int) < (c.N : Int) := by omega
              have hmN2 : m < c.N := by omega
              have hra := HA0.out _ H3.out.v
              obtain ⟨E, hE⟩ : ∃ E, Hid (evAtN es m = E) := ⟨_, Lib.hid rfl⟩
              have FE : Hid E.flat := Lib.hid (by rw [← hE.out]; exact hra.flat_ m hmN2)
              have LE : Hid (∃ a d z, E = (c.at m).1.lists a d z) := Lib.hid (by rw [← hE.out]; exact hra.like m hmN2)
              have KE := Lib.hid (fun w0 h0 => (show (LoadE (.pointer (some ⟨g, m * 14, none⟩))).run Tryz.prog w0 = .ok E.V w0 from by rw [← hE.out]; exact load0 (HA0.out w0 h0) m hmN2))
              have RDE : Hid (∀ W, Vr c q es (some ⟨g, 0, none⟩) cA base w.heap.size w W → EReads W E (c.at m).2) := Lib.hid (fun W hW => by rw [← hE.out]; exact ra_reads hW.vh.ra m hmN2)
              have SME := Lib.hid (small_at HL.out m hmN2).n
              have HKP := Lib.hid (may_num HM.out m hmN2)
              clear hra
              have HF : Hid (((E.kind == 6) && (meetS E.pred (sideE X) && meetS E.succ (sideE Y))) = f4 c x y m) := Lib.hid (by
                obtain ⟨_, _, _, e1⟩ := LX.out
                obtain ⟨_, _, _, e2⟩ := LY.out
                obtain ⟨_, _, _, e3⟩ := LE.out
                (try rw [e1])
                (try rw [e2])
                (try rw [e3])
                rfl)
              obtain ⟨k6, hk6⟩ : ∃ z, Hid ((E.kind == 6) = z) := ⟨_, Lib.hid rfl⟩
              rw [hk6.out] at HF
              have bk6 := hk6.out
              obtain ⟨s1, hs1⟩ : ∃ z, Hid (meetS E.pred (sideE X) = z) := ⟨_, Lib.hid rfl⟩
              rw [hs1.out] at HF
              obtain ⟨s2, hs2⟩ : ∃ z, Hid (meetS E.succ (sideE Y) = z) := ⟨_, Lib.hid rfl⟩
              rw [hs2.out] at HF
              have HYES : f4 c x y m = true → Hid (r = true) := fun hf => Lib.hid (by
                rw [← HR.out]
                unfold holdsR
                rw [hah.out]
                exact r4_some HM.out hyN hm1 hml hf)
              have HY2 := Lib.hid HYES
              clear HYES
              have HPS : Hid ((0 ≤ E.pred ∧ E.pred < 16) ∧ (0 ≤ E.succ ∧ E.succ < 16)) := Lib.hid (by
                obtain ⟨_, _, _, e3⟩ := LE.out
                obtain ⟨_, _, _, _, _, _, _, _, hk⟩ := HKP.out
                rw [e3]
                exact chk_parts hk)
              have KS1 := Lib.hid (fun w0 => side_any E.pred HPS.out.1 X w0 s1 hs1.out)
              have KS2 := Lib.hid (fun w0 => side_any E.succ HPS.out.2 Y w0 s2 hs2.out)
              obtain ⟨y0, y1, y2, y3, y4⟩ := H3.out.v.facts
              have cle := KE.out _ H3.out.v
              go_upto_region 21 with (refine store_ev (EvAt.new zeroEv _) E FE.out rfl (.tmp 13) (.tmp 136) rfl rfl rfl ?_; intro w4 hE4 ho4 hb4 hz4; have BB := Lib.hid ((box_below wr _).trans hb4); have E4 := Lib.hid hE4; clear hE4 ho4 hb4 hz4)
              have H4 := Lib.hid (H3.out.on BB.out)
              obtain ⟨gE, hgE⟩ : ∃ z, wr.heap.size = z := ⟨_, rfl⟩
              rw [hgE] at E4 ⊢
              clear hgE BB y0 y1 y2 y3 y4 cle
              have clx := run_LoadE H4.out.x
              obtain ⟨_, pe0, pe1, pe2, pe3, pe4, pe5, pe6, pe7, pe8, pe9, _⟩ := E4.out.facts
              cases k6 <;> cases s1 <;> cases s2
              all_goals
                go_wp2_with (first
                  | (go_at_call 88; (with_reducible refine (KS1.out _).mono ?_); rintro e' w5 ⟨rfl, hb⟩; have H5 := Lib.hid (H4.out.on hb); have cly := run_LoadE H5.out.y; have qe9 := (E4.out.on hb).facts.2.2.2.2.2.2.2.2.2.2.1; clear hb clx pe0 pe1 pe2 pe3 pe4 pe5 pe6 pe7 pe8 pe9)
                  | (go_at_call 88; (with_reducible refine (KS2.out _).mono ?_); rintro e' w6 ⟨rfl, hb⟩; have H6 := Lib.hid (H5.out.on hb); clear hb cly))
                first
                  | (go_roundw
                     case rel => exact ⟨m + 1, by omega, by omega, by go_num, Lib.hid (fun m' h1 h2 => by
                       by_cases e : m' = m
                       · subst e; rw [← HF.out]; rfl
                       · exact HN.out m' h1 (by omega)), H6⟩
                     case measure => simp [intOf]; omega)
                  | (go_roundw
                     case rel => exact ⟨m + 1, by omega, by omega, by go_num, Lib.hid (fun m' h1 h2 => by
                       by_cases e : m' = m
                       · subst e; rw [← HF.out]; rfl
                       · exact HN.out m' h1 (by omega)), H5⟩
                     case measure => simp [intOf]; omega)
                  | (go_roundw
                     case rel => exact ⟨m + 1, by omega, by omega, by go_num, Lib.hid (fun m' h1 h2 => by
                       by_cases e : m' = m
                       · subst e; rw [← HF.out]; rfl
                       · exact HN.out m' h1 (by omega)), H4⟩
                     case measure => simp [intOf]; omega)
                  | (go_ret
                     exact ⟨by rw [(HY2.out (by rw [← HF.out]; rfl)).out]; rfl, H6.out.v.below⟩)
            · obtain rfl : m = y := by omega
              have HZZ : Hid (r = false) := Lib.hid (by
                rw [← HR.out]
                unfold holdsR
                rw [hah.out]
                exact r4_none HM.out hyN HN.out)
              go_wp2
              go_ret
              exact ⟨by rw [HZZ.out]; rfl, H3.out.v.below⟩
      · as_aux_lemma =>
          have HK : Hid (X.aq = r) := Lib.hid (by
            obtain ⟨_, _, _, e1⟩ := LX.out
            obtain ⟨_, _, _, e2⟩ := LY.out
            rw [← HR.out]
            unfold holdsR
            rw [hah.out]
            (try rw [e1])
            (try rw [e2])
            rfl)
          obtain ⟨xa, hxa⟩ : ∃ z, Hid (X.aq = z) := ⟨_, Lib.hid rfl⟩
          rw [hxa.out] at HK
          obtain ⟨_, px0, px1, px2, px3, px4, px5, px6, _⟩ := H3.out.x.facts
          rw [hxa.out] at px6
          go_wp2
          go_ret
          exact ⟨by rw [← HK.out]; rfl, H3.out.v.below⟩
      · as_aux_lemma =>
          have HK : Hid (Y.rl = r) := Lib.hid (by
            obtain ⟨_, _, _, e1⟩ := LX.out
            obtain ⟨_, _, _, e2⟩ := LY.out
            rw [← HR.out]
            unfold holdsR
            rw [hah.out]
            (try rw [e1])
            (try rw [e2])
            rfl)
          obtain ⟨yr, hyr⟩ : ∃ z, Hid (Y.rl = z) := ⟨_, Lib.hid rfl⟩
          rw [hyr.out] at HK
          obtain ⟨_, py0, py1, py2, py3, py4, py5, py6, py7, _⟩ := H3.out.y.facts
          rw [hyr.out] at py7
          go_wp2
          go_ret
          exact ⟨by rw [← HK.out]; rfl, H3.out.v.below⟩
      · as_aux_lemma =>
          have HK : Hid (((X.aq || X.rl) && (Y.aq || Y.rl)) = r) := Lib.hid (by
            obtain ⟨_, _, _, e1⟩ := LX.out
            obtain ⟨_, _, _, e2⟩ := LY.out
            rw [← HR.out]
            unfold holdsR
            rw [hah.out]
            (try rw [e1])
            (try rw [e2])
            rfl)
          obtain ⟨xa, hxa⟩ : ∃ z, Hid (X.aq = z) := ⟨_, Lib.hid rfl⟩
          rw [hxa.out] at HK
          obtain ⟨xr, hxr⟩ : ∃ z, Hid (X.rl = z) := ⟨_, Lib.hid rfl⟩
          rw [hxr.out] at HK
          obtain ⟨ya, hya⟩ : ∃ z, Hid (Y.aq = z) := ⟨_, Lib.hid rfl⟩
          rw [hya.out] at HK
          obtain ⟨yr, hyr⟩ : ∃ z, Hid (Y.rl = z) := ⟨_, Lib.hid rfl⟩
          rw [hyr.out] at HK
          obtain ⟨_, px0, px1, px2, px3, px4, px5, px6, px7, _⟩ := H3.out.x.facts
          obtain ⟨_, py0, py1, py2, py3, py4, py5, py6, py7, _⟩ := H3.out.y.facts
          rw [hxa.out] at px6
          rw [hxr.out] at px7
          rw [hya.out] at py6
          rw [hyr.out] at py7
          cases xa <;> cases xr <;> cases ya <;> cases yr
          all_goals
            go_wp2
            go_ret
            exact ⟨by rw [← HK.out]; rfl, H3.out.v.below⟩
      · as_aux_lemma =>
          have HK : Hid (((Y.kind == 4) && (Y.pair == X.pos)) = r) := Lib.hid (by
            obtain ⟨_, _, _, e1⟩ := LX.out
            obtain ⟨_, _, _, e2⟩ := LY.out
            rw [← HR.out]
            unfold holdsR
            rw [hah.out]
            (try rw [e1])
            (try rw [e2])
            rfl)
          obtain ⟨k4, hk4⟩ : ∃ z, Hid ((Y.kind == 4) = z) := ⟨_, Lib.hid rfl⟩
          rw [hk4.out] at HK
          have bk4 := hk4.out
          obtain ⟨pp, hpp⟩ : ∃ z, Hid ((Y.pair == X.pos) = z) := ⟨_, Lib.hid rfl⟩
          rw [hpp.out] at HK
          have bpp := hpp.out
          obtain ⟨_, px0, px1, _⟩ := H3.out.x.facts
          obtain ⟨_, py0, py1, py2, py3, py4, py5, py6, py7, py8, py9, py10, _⟩ := H3.out.y.facts
          cases k4 <;> cases pp
          all_goals
            go_wp2
            go_ret
            exact ⟨by rw [← HK.out]; rfl, H3.out.v.below⟩
      · as_aux_lemma =>
          have HK : Hid (decide (X.pos ∈ (c.at y).2.a) = r) := Lib.hid (by
            obtain ⟨_, _, _, e1⟩ := LX.out
            obtain ⟨_, _, _, e2⟩ := LY.out
            rw [← HR.out]
            unfold holdsR
            rw [hah.out]
            (try rw [e1])
            (try rw [e2])
            rfl)
          obtain ⟨i1, hi1⟩ : ∃ z, Hid (decide (X.pos ∈ (c.at y).2.a) = z) := ⟨_, Lib.hid rfl⟩
          rw [hi1.out] at HK
          have KI := Lib.hid (in_any Y.a (c.at y).2.a X.pos wc (RDY.out _ H3.out.v).1 SMY.out.1 i1 hi1.out)
          obtain ⟨_, px0, px1, px2, px3, px4, px5, px6, px7, px8, px9, px10, px11, px12, px13⟩ := H3.out.x.facts
          obtain ⟨_, py0, py1, py2, py3, py4, py5, py6, py7, py8, py9, py10, py11, py12, py13⟩ := H3.out.y.facts
          cases i1
          all_goals
            go_wp2_with (go_at_call 89; (with_reducible refine (KI.out).mono ?_); rintro e' w2 ⟨rfl, hb⟩; have H4 := Lib.hid (H3.out.on hb); clear hb)
            go_ret
            exact ⟨by rw [← HK.out]; rfl, H4.out.v.below⟩
      · as_aux_lemma =>
          have HK : Hid (decide (X.pos ∈ (c.at y).2.d) = r) := Lib.hid (by
            obtain ⟨_, _, _, e1⟩ := LX.out
            obtain ⟨_, _, _, e2⟩ := LY.out
            rw [← HR.out]
            unfold holdsR
            rw [hah.out]
            (try rw [e1])
            (try rw [e2])
            rfl)
          obtain ⟨i1, hi1⟩ : ∃ z, Hid (decide (X.pos ∈ (c.at y).2.d) = z) := ⟨_, Lib.hid rfl⟩
          rw [hi1.out] at HK
          have KI := Lib.hid (in_any Y.d (c.at y).2.d X.pos wc (RDY.out _ H3.out.v).2.1 SMY.out.2.1 i1 hi1.out)
          obtain ⟨_, px0, px1, px2, px3, px4, px5, px6, px7, px8, px9, px10, px11, px12, px13⟩ := H3.out.x.facts
          obtain ⟨_, py0, py1, py2, py3, py4, py5, py6, py7, py8, py9, py10, py11, py12, py13⟩ := H3.out.y.facts
          cases i1
          all_goals
            go_wp2_with (go_at_call 89; (with_reducible refine (KI.out).mono ?_); rintro e' w2 ⟨rfl, hb⟩; have H4 := Lib.hid (H3.out.on hb); clear hb)
            go_ret
            exact ⟨by rw [← HK.out]; rfl, H4.out.v.below⟩
      · as_aux_lemma =>
          have HK : Hid ((writesE Y && decide (X.pos ∈ (c.at y).2.y)) = r) := Lib.hid (by
            obtain ⟨_, _, _, e1⟩ := LX.out
            obtain ⟨_, _, _, e2⟩ := LY.out
            rw [← HR.out]
            unfold holdsR
            rw [hah.out]
            (try rw [e1])
            (try rw [e2])
            rfl)
          obtain ⟨wy, hwy⟩ : ∃ z, Hid (writesE Y = z) := ⟨_, Lib.hid rfl⟩
          rw [hwy.out] at HK
          obtain ⟨i1, hi1⟩ : ∃ z, Hid (decide (X.pos ∈ (c.at y).2.y) = z) := ⟨_, Lib.hid rfl⟩
          rw [hi1.out] at HK
          have KW := Lib.hid (fun w0 => rWrites_b Y wy hwy.out w0)
          have SMY2 : Hid ((c.at y).2.y.length ≤ 100000) := Lib.hid SMY.out.2.2
          have RY2 : Hid (∀ W, Vr c q es (some ⟨g, 0, none⟩) cA base w.heap.size w W → ReadsI W Y.y (c.at y).2.y) := Lib.hid (fun W hW => (RDY.out W hW).2.2)
          have KI := Lib.hid (fun w0 h0 => in_any Y.y (c.at y).2.y X.pos w0 (RY2.out w0 h0) SMY2.out i1 hi1.out)
          have cly := run_LoadE H3.out.y
          cases wy <;> cases i1
          all_goals
            go_wp2_with (first
              | (go_at_call 29; (with_reducible refine (KW.out _).mono ?_); rintro e' w2 ⟨rfl, hb⟩; have H4 := Lib.hid (H3.out.on hb); clear hb cly; obtain ⟨_, px0, px1, _⟩ := H4.out.x.facts; obtain ⟨_, py0, py1, py2, py3, py4, py5, py6, py7, py8, py9, py10, py11, py12, py13⟩ := H4.out.y.facts)
              | (go_at_call 89; (with_reducible refine (KI.out _ H4.out.v).mono ?_); rintro e' w3 ⟨rfl, hb⟩; have H5 := Lib.hid (H4.out.on hb); clear hb))
            go_ret
            first | exact ⟨by rw [← HK.out]; rfl, H5.out.v.below⟩ | exact ⟨by rw [← HK.out]; rfl, H4.out.v.below⟩
      · as_aux_lemma =>
          obtain ⟨bR, oR, hqR, hfc⟩ := from_cells H3.out.v.vh.cand HM.out (by omega)
          have HFC := Lib.hid hfc
          have hfl : c.fr.length = c.N := (may_found HM.out).1
          have HQR := Lib.hid hqR
          have HFL := Lib.hid hfl
          clear hfc hqR hfl
          have hx1 : wrap64 ((x : Int) + 1) = (x : Int) + 1 := IntWalk.wrap64_in _ (by omega)
          go_wp2
          go_loopw [14] (fun vm wr => ∃ m : Nat, x < m ∧ m ≤ y ∧ vm = .int .i64 m ∧ Hid (∀ m', x < m' → m' < m → f12 c x y m' = false) ∧ Hid (Hz c q es (some ⟨g, 0, none⟩) cA base w.heap.size X Y gX gY w wr)) (fun vm _ => y - (intOf vm).toNat)
          case atStart => exact ⟨x + 1, by omega, by omega, by go_num, Lib.hid (fun m' h1 h2 => absurd h1 (by omega)), H3⟩
          case round =>
            clear H3
            obtain ⟨m, hm1, hm2, rfl, HN, H3⟩ := hrel
            by_cases hml : m < y
            · have hmi : (m : Int) < (y : Int) := by omega
              have hm0 : (0 : Int) ≤ (m : Int) := by omega
              have hmN : (m : Int) < (c.N : Int) := by omega
              have hmN2 : m < c.N := by omega
              have hra := HA0.out _ H3.out.v
              obtain ⟨E, hE⟩ : ∃ E, Hid (evAtN es m = E) := ⟨_, Lib.hid rfl⟩
              have FE : Hid E.flat := Lib.hid (by rw [← hE.out]; exact hra.flat_ m hmN2)
              have LE : Hid (∃ a d z, E = (c.at m).1.lists a d z) := Lib.hid (by rw [← hE.out]; exact hra.like m hmN2)
              have KE := Lib.hid (fun w0 h0 => (show (LoadE (.pointer (some ⟨g, m * 14, none⟩))).run Tryz.prog w0 = .ok E.V w0 from by rw [← hE.out]; exact load0 (HA0.out w0 h0) m hmN2))
              have RDE : Hid (∀ W, Vr c q es (some ⟨g, 0, none⟩) cA base w.heap.size w W → EReads W E (c.at m).2) := Lib.hid (fun W hW => by rw [← hE.out]; exact ra_reads hW.vh.ra m hmN2)
              have SME := Lib.hid (small_at HL.out m hmN2).n
              have HKP := Lib.hid (may_num HM.out m hmN2)
              clear hra
              have HF : Hid ((readsE Y && ((atI c.fr y == (m : Int)) && (writesE E && (decide (X.pos ∈ (c.at m).2.a) || decide (X.pos ∈ (c.at m).2.d))))) = f12 c x y m) := Lib.hid (by
                obtain ⟨_, _, _, e1⟩ := LX.out
                obtain ⟨_, _, _, e2⟩ := LY.out
                obtain ⟨_, _, _, e3⟩ := LE.out
                (try rw [e1])
                (try rw [e2])
                (try rw [e3])
                rfl)
              obtain ⟨ry, hry⟩ : ∃ z, Hid (readsE Y = z) := ⟨_, Lib.hid rfl⟩
              rw [hry.out] at HF
              obtain ⟨fm, hfm⟩ : ∃ z, Hid ((atI c.fr y == (m : Int)) = z) := ⟨_, Lib.hid rfl⟩
              rw [hfm.out] at HF
              have bfm := hfm.out
              obtain ⟨we, hwe⟩ : ∃ z, Hid (writesE E = z) := ⟨_, Lib.hid rfl⟩
              rw [hwe.out] at HF
              obtain ⟨i1, hi1⟩ : ∃ z, Hid (decide (X.pos ∈ (c.at m).2.a) = z) := ⟨_, Lib.hid rfl⟩
              rw [hi1.out] at HF
              obtain ⟨i2, hi2⟩ : ∃ z, Hid (decide (X.pos ∈ (c.at m).2.d) = z) := ⟨_, Lib.hid rfl⟩
              rw [hi2.out] at HF
              have HYES : f12 c x y m = true → Hid (r = true) := fun hf => Lib.hid (by
                rw [← HR.out]
                unfold holdsR
                rw [hah.out]
                exact r12_some hm1 hml hf)
              have HY2 := Lib.hid HYES
              clear HYES
              have KR := Lib.hid (fun w0 => rReads_b Y ry hry.out w0)
              have KW := Lib.hid (fun w0 => rWrites_b E we hwe.out w0)
              have S1 : Hid ((c.at m).2.a.length ≤ 100000) := Lib.hid SME.out.1
              have S2 : Hid ((c.at m).2.d.length ≤ 100000) := Lib.hid SME.out.2.1
              have Q1 : Hid (∀ W, Vr c q es (some ⟨g, 0, none⟩) cA base w.heap.size w W → ReadsI W E.a (c.at m).2.a) := Lib.hid (fun W hW => (RDE.out W hW).1)
              have Q2 : Hid (∀ W, Vr c q es (some ⟨g, 0, none⟩) cA base w.heap.size w W → ReadsI W E.d (c.at m).2.d) := Lib.hid (fun W hW => (RDE.out W hW).2.1)
              have KI1 := Lib.hid (fun w0 h0 => in_any E.a (c.at m).2.a X.pos w0 (Q1.out w0 h0) S1.out i1 hi1.out)
              have KI2 := Lib.hid (fun w0 h0 => in_any E.d (c.at m).2.d X.pos w0 (Q2.out w0 h0) S2.out i2 hi2.out)
              have HFY := Lib.hid (fun W hW => HFC.out W hW y hyN)
              obtain ⟨f, hf⟩ : ∃ f, Hid (atI c.fr y = f) := ⟨_, Lib.hid rfl⟩
              rw [hf.out] at bfm HFY
              obtain ⟨y0, y1, y2, y3, y4⟩ := H3.out.v.facts
              have cle := KE.out _ H3.out.v
              go_upto_region 42 with (refine store_ev (EvAt.new zeroEv _) E FE.out rfl (.tmp 15) (.tmp 229) rfl rfl rfl ?_; intro w4 hE4 ho4 hb4 hz4; have BB := Lib.hid ((box_below wr _).trans hb4); have E4 := Lib.hid hE4; clear hE4 ho4 hb4 hz4)
              have H4 := Lib.hid (H3.out.on BB.out)
              obtain ⟨gE, hgE⟩ : ∃ z, wr.heap.size = z := ⟨_, rfl⟩
              rw [hgE] at E4 ⊢
              clear hgE BB y0 y1 y2 y3 y4 cle
              have cly := run_LoadE H4.out.y
              cases ry <;> cases fm <;> cases we <;> cases i1 <;> cases i2
              all_goals
                go_wp2_with (first
                  | (go_at_call 28; (with_reducible refine (KR.out _).mono ?_); rintro e' w5 ⟨rfl, hb⟩; have H5 := Lib.hid (H4.out.on hb); have E5 := Lib.hid (E4.out.on hb); clear hb cly; obtain ⟨y0, y1, y2, y3, y4⟩ := H5.out.v.facts; rw [HQR.out, HFL.out] at y2; have fc := HFY.out _ H5.out.v.vh.cand; have cle := run_LoadE E5.out)
                  | (go_at_call 29; (with_reducible refine (KW.out _).mono ?_); rintro e' w6 ⟨rfl, hb⟩; have H6 := Lib.hid (H5.out.on hb); have E6 := Lib.hid (E5.out.on hb); clear hb cle fc y0 y1 y2 y3 y4; obtain ⟨_, px0, px1, _⟩ := H6.out.x.facts; obtain ⟨_, pe0, pe1, pe2, pe3, pe4, pe5, pe6, pe7, pe8, pe9, pe10, pe11, pe12, pe13⟩ := E6.out.facts)
                  | (go_at_call 89; (with_reducible refine (KI1.out _ H6.out.v).mono ?_); rintro e' w7 ⟨rfl, hb⟩; have H7 := Lib.hid (H6.out.on hb); have E7 := Lib.hid (E6.out.on hb); clear hb px0 px1 pe0 pe1 pe2 pe3 pe4 pe5 pe6 pe7 pe8 pe9 pe10 pe11 pe12 pe13; obtain ⟨_, px0, px1, _⟩ := H7.out.x.facts; obtain ⟨_, pe0, pe1, pe2, pe3, pe4, pe5, pe6, pe7, pe8, pe9, pe10, pe11, pe12, pe13⟩ := E7.out.facts)
                  | (go_at_call 89; (with_reducible refine (KI2.out _ H7.out.v).mono ?_); rintro e' w8 ⟨rfl, hb⟩; have H8 := Lib.hid (H7.out.on hb); clear hb px0 px1 pe0 pe1 pe2 pe3 pe4 pe5 pe6 pe7 pe8 pe9 pe10 pe11 pe12 pe13))
                first
                  | (go_roundw
                     case rel => exact ⟨m + 1, by omega, by omega, by go_num, Lib.hid (fun m' h1 h2 => by
                       by_cases e : m' = m
                       · subst e; rw [← HF.out]; rfl
                       · exact HN.out m' h1 (by omega)), H8⟩
                     case measure => simp [intOf]; omega)
                  | (go_roundw
                     case rel => exact ⟨m + 1, by omega, by omega, by go_num, Lib.hid (fun m' h1 h2 => by
                       by_cases e : m' = m
                       · subst e; rw [← HF.out]; rfl
                       · exact HN.out m' h1 (by omega)), H7⟩
                     case measure => simp [intOf]; omega)
                  | (go_roundw
                     case rel => exact ⟨m + 1, by omega, by omega, by go_num, Lib.hid (fun m' h1 h2 => by
                       by_cases e : m' = m
                       · subst e; rw [← HF.out]; rfl
                       · exact HN.out m' h1 (by omega)), H6⟩
                     case measure => simp [intOf]; omega)
                  | (go_roundw
                     case rel => exact ⟨m + 1, by omega, by omega, by go_num, Lib.hid (fun m' h1 h2 => by
                       by_cases e : m' = m
                       · subst e; rw [← HF.out]; rfl
                       · exact HN.out m' h1 (by omega)), H5⟩
                     case measure => simp [intOf]; omega)
                  | (go_ret
                     exact ⟨by rw [(HY2.out (by rw [← HF.out]; rfl)).out]; rfl, H8.out.v.below⟩)
                  | (go_ret
                     exact ⟨by rw [(HY2.out (by rw [← HF.out]; rfl)).out]; rfl, H7.out.v.below⟩)
            · obtain rfl : m = y := by omega
              have HZZ : Hid (r = false) := Lib.hid (by
                rw [← HR.out]
                unfold holdsR
                rw [hah.out]
                exact r12_none HM.out hyN HN.out)
              go_wp2
              go_ret
              exact ⟨by rw [HZZ.out]; rfl, H3.out.v.below⟩
      · as_aux_lemma =>
          have hx1 : wrap64 ((x : Int) + 1) = (x : Int) + 1 := IntWalk.wrap64_in _ (by omega)
          go_wp2
          go_loopw [16] (fun vm wr => ∃ m : Nat, x < m ∧ m ≤ y ∧ vm = .int .i64 m ∧ Hid (∀ m', x < m' → m' < m → f13 c x y m' = false) ∧ Hid (Hz c q es (some ⟨g, 0, none⟩) cA base w.heap.size X Y gX gY w wr)) (fun vm _ => y - (intOf vm).toNat)
          case atStart => exact ⟨x + 1, by omega, by omega, by go_num, Lib.hid (fun m' h1 h2 => absurd h1 (by omega)), H3⟩
          case round =>
            clear H3
            obtain ⟨m, hm1, hm2, rfl, HN, H3⟩ := hrel
            by_cases hml : m < y
            · have hmi : (m : Int) < (y : Int) := by omega
              have hm0 : (0 : Int) ≤ (m : Int) := by omega
              have hmN : (m : Int) < (c.N : Int) := by omega
              have hmN2 : m < c.N := by omega
              have hra := HA0.out _ H3.out.v
              obtain ⟨E, hE⟩ : ∃ E, Hid (evAtN es m = E) := ⟨_, Lib.hid rfl⟩
              have FE : Hid E.flat := Lib.hid (by rw [← hE.out]; exact hra.flat_ m hmN2)
              have LE : Hid (∃ a d z, E = (c.at m).1.lists a d z) := Lib.hid (by rw [← hE.out]; exact hra.like m hmN2)
              have KE := Lib.hid (fun w0 h0 => (show (LoadE (.pointer (some ⟨g, m * 14, none⟩))).run Tryz.prog w0 = .ok E.V w0 from by rw [← hE.out]; exact load0 (HA0.out w0 h0) m hmN2))
              have RDE : Hid (∀ W, Vr c q es (some ⟨g, 0, none⟩) cA base w.heap.size w W → EReads W E (c.at m).2) := Lib.hid (fun W hW => by rw [← hE.out]; exact ra_reads hW.vh.ra m hmN2)
              have SME := Lib.hid (small_at HL.out m hmN2).n
              have HKP := Lib.hid (may_num HM.out m hmN2)
              clear hra
              have HF : Hid ((writesE Y && (memE E && decide (X.pos ∈ (c.at m).2.a))) = f13 c x y m) := Lib.hid (by
                obtain ⟨_, _, _, e1⟩ := LX.out
                obtain ⟨_, _, _, e2⟩ := LY.out
                obtain ⟨_, _, _, e3⟩ := LE.out
                (try rw [e1])
                (try rw [e2])
                (try rw [e3])
                rfl)
              obtain ⟨wy, hwy⟩ : ∃ z, Hid (writesE Y = z) := ⟨_, Lib.hid rfl⟩
              rw [hwy.out] at HF
              obtain ⟨me, hme⟩ : ∃ z, Hid (memE E = z) := ⟨_, Lib.hid rfl⟩
              rw [hme.out] at HF
              obtain ⟨i1, hi1⟩ : ∃ z, Hid (decide (X.pos ∈ (c.at m).2.a) = z) := ⟨_, Lib.hid rfl⟩
              rw [hi1.out] at HF
              have HYES : f13 c x y m = true → Hid (r = true) := fun hf => Lib.hid (by
                rw [← HR.out]
                unfold holdsR
                rw [hah.out]
                exact r13_some HM.out hyN HAH.out.1 hm1 hml hf)
              have HY2 := Lib.hid HYES
              clear HYES
              have KR := Lib.hid (fun w0 => rWrites_b Y wy hwy.out w0)
              have KW := Lib.hid (fun w0 => rMemory_b E me hme.out w0)
              have S1 : Hid ((c.at m).2.a.length ≤ 100000) := Lib.hid SME.out.1
              have Q1 : Hid (∀ W, Vr c q es (some ⟨g, 0, none⟩) cA base w.heap.size w W → ReadsI W E.a (c.at m).2.a) := Lib.hid (fun W hW => (RDE.out W hW).1)
              have KI1 := Lib.hid (fun w0 h0 => in_any E.a (c.at m).2.a X.pos w0 (Q1.out w0 h0) S1.out i1 hi1.out)
              obtain ⟨y0, y1, y2, y3, y4⟩ := H3.out.v.facts
              have cle := KE.out _ H3.out.v
              go_upto_region 49 with (refine store_ev (EvAt.new zeroEv _) E FE.out rfl (.tmp 17) (.tmp 275) rfl rfl rfl ?_; intro w4 hE4 ho4 hb4 hz4; have BB := Lib.hid ((box_below wr _).trans hb4); have E4 := Lib.hid hE4; clear hE4 ho4 hb4 hz4)
              have H4 := Lib.hid (H3.out.on BB.out)
              obtain ⟨gE, hgE⟩ : ∃ z, wr.heap.size = z := ⟨_, rfl⟩
              rw [hgE] at E4 ⊢
              clear hgE BB y0 y1 y2 y3 y4 cle
              have cly := run_LoadE H4.out.y
              cases wy <;> cases me <;> cases i1
              all_goals
                go_wp2_with (first
                  | (go_at_call 29; (with_reducible refine (KR.out _).mono ?_); rintro e' w5 ⟨rfl, hb⟩; have H5 := Lib.hid (H4.out.on hb); have E5 := Lib.hid (E4.out.on hb); clear hb cly; have cle := run_LoadE E5.out)
                  | (go_at_call 27; (with_reducible refine (KW.out _).mono ?_); rintro e' w6 ⟨rfl, hb⟩; have H6 := Lib.hid (H5.out.on hb); have E6 := Lib.hid (E5.out.on hb); clear hb cle; obtain ⟨_, px0, px1, _⟩ := H6.out.x.facts; obtain ⟨_, pe0, pe1, pe2, pe3, pe4, pe5, pe6, pe7, pe8, pe9, pe10, pe11, pe12, pe13⟩ := E6.out.facts)
                  | (go_at_call 89; (with_reducible refine (KI1.out _ H6.out.v).mono ?_); rintro e' w7 ⟨rfl, hb⟩; have H7 := Lib.hid (H6.out.on hb); clear hb px0 px1 pe0 pe1 pe2 pe3 pe4 pe5 pe6 pe7 pe8 pe9 pe10 pe11 pe12 pe13))
                first
                  | (go_roundw
                     case rel => exact ⟨m + 1, by omega, by omega, by go_num, Lib.hid (fun m' h1 h2 => by
                       by_cases e : m' = m
                       · subst e; rw [← HF.out]; rfl
                       · exact HN.out m' h1 (by omega)), H7⟩
                     case measure => simp [intOf]; omega)
                  | (go_roundw
                     case rel => exact ⟨m + 1, by omega, by omega, by go_num, Lib.hid (fun m' h1 h2 => by
                       by_cases e : m' = m
                       · subst e; rw [← HF.out]; rfl
                       · exact HN.out m' h1 (by omega)), H6⟩
                     case measure => simp [intOf]; omega)
                  | (go_roundw
                     case rel => exact ⟨m + 1, by omega, by omega, by go_num, Lib.hid (fun m' h1 h2 => by
                       by_cases e : m' = m
                       · subst e; rw [← HF.out]; rfl
                       · exact HN.out m' h1 (by omega)), H5⟩
                     case measure => simp [intOf]; omega)
                  | (go_ret
                     exact ⟨by rw [(HY2.out (by rw [← HF.out]; rfl)).out]; rfl, H7.out.v.below⟩)
            · obtain rfl : m = y := by omega
              have HZZ : Hid (r = false) := Lib.hid (by
                rw [← HR.out]
                unfold holdsR
                rw [hah.out]
                exact r13_none HM.out HL.out hyN HAH.out.1 HN.out)
              go_wp2
              go_ret
              exact ⟨by rw [HZZ.out]; rfl, H3.out.v.below⟩
      · as_aux_lemma =>
          have HO := Lib.hid (holdsR_out (c := c) (a := (x : Int)) (b := (y : Int)) hout)
          have n1 : (rule == 1) = false := by simp; omega
          have n2 : (rule == 2) = false := by simp; omega
          have n3 : (rule == 3) = false := by simp; omega
          have n4 : (rule == 4) = false := by simp; omega
          have n5 : (rule == 5) = false := by simp; omega
          have n6 : (rule == 6) = false := by simp; omega
          have n7 : (rule == 7) = false := by simp; omega
          have n8 : (rule == 8) = false := by simp; omega
          have n9 : (rule == 9) = false := by simp; omega
          have n10 : (rule == 10) = false := by simp; omega
          have n11 : (rule == 11) = false := by simp; omega
          have n12 : (rule == 12) = false := by simp; omega
          have n13 : (rule == 13) = false := by simp; omega
          clear hout
          go_wp2
          go_ret
          exact ⟨by rw [← HR.out, HO.out]; rfl, H3.out.v.below⟩
end Go.Proofs.YtcbfokbdiefdeaaGreatDoor
