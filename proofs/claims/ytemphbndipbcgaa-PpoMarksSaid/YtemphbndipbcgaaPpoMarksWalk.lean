/-
  Proved here: the law PpoMarks answers true of every candidate; nothing that was there is changed. Condition: numbers of 64 bits.
-/
import Derived.Test.YtemphbndipbcgaaRf09All
import Derived.Test.YtemphbndipbcgaaPpLives
import Derived.Test.YtemphbndipbcgaaCdLight30
import Derived.Test.YtemphbndipbcgaaCdArg
namespace Go.Proofs.Ytemphbndipbcgaa
set_option linter.unusedVariables false
set_option linter.unusedSimpArgs false
open Go.RowKit
attribute [local go_sem ↓] fold_E fold_SE

theorem store_made2 {e0 e : Ev} {n : Nat} {w : World} (H : EvAt e0 n w) (hf : e.flat) : ∃ W3, (StoreE (.pointer (some ⟨n, 0, none⟩)) e.V).run Try.prog w = .ok () W3 ∧ EvAt e n W3 ∧ Below n w W3 ∧ (∀ k f, k ≠ n → EvAt f k w → EvAt f k W3) :=
  ⟨_, run_StoreE H hf, setRow_heap w n _ _ _ _ H, (Below.refl _ _).trans ⟨rfl, rfl, rfl, by simp, fun j hj => setRow_other _ _ _ _ (by omega)⟩, fun k f hk h => (setRow_other _ _ _ _ hk).trans h⟩
/-- two events' boxes behind all that there is -/
structure Pw (c : Cd) (q : Cv) (es : List Ev) (v : Value) (base : Nat) (X Y : Ev) (g6 g7 : Nat) (w W : World) : Prop where
  rg : Rg c q es v base w W
  x : EvAt X g6 W
  y : EvAt Y g7 W
theorem Pw.on {c : Cd} {q : Cv} {es : List Ev} {v : Value} {base : Nat} {X Y : Ev} {g6 g7 : Nat} {w W W2 : World} (h : Pw c q es v base X Y g6 g7 w W) (hb : Below W.heap.size W W2) : Pw c q es v base X Y g6 g7 w W2 := ⟨h.rg.on hb, h.x.on hb, h.y.on hb⟩
theorem must_like {c : Cd} {es : List Ev} {g off : Nat} {w : World} (h : RAll c (evAtN es) g off w) (a b : Nat) (ha : a < c.N) (hb : b < c.N) : mustB (evAtN es a) (evAtN es b) = mustB (c.at a).1 (c.at b).1 := by
  obtain ⟨x1, x2, x3, e1⟩ := h.like a ha
  obtain ⟨y1, y2, y3, e2⟩ := h.like b hb
  rw [e1, e2]; rfl
theorem hart_like {c : Cd} {es : List Ev} {g off : Nat} {w : World} (h : RAll c (evAtN es) g off w) (k : Nat) (hk : k < c.N) : (evAtN es k).hart = (c.at k).1.hart := by
  obtain ⟨a, d, y, e⟩ := h.like k hk
  rw [e]
theorem ahead_mk {c : Cd} {a b : Nat} (h1 : a < b) (h2 : b < c.N) (h3 : (c.at a).1.hart = (c.at b).1.hart) (h4 : memE (c.at a).1 = true) (h5 : memE (c.at b).1 = true) : aheadP c a b = true := by
  unfold aheadP
  simp only [Int.toNat_natCast]
  rw [decide_eq_true h3, h4, h5, decide_eq_true (show (0 : Int) ≤ a by omega), decide_eq_true (show (a : Int) < b by omega), decide_eq_true (show (b : Int) < c.N by omega)]
  rfl
theorem boolV {a b : Bool} (h : a = b) : Value.bool a = .bool b := by rw [h]
theorem must_is (x y : Ev) : mustB x y = (x.aq || (y.rl || ((x.rl && y.aq) || ((writesE y && (x.addr == y.addr)) || ((y.kind == 4) && (y.pair == x.pos)))))) := rfl
set_option maxRecDepth 100000 in
set_option maxHeartbeats 32000000 in
theorem ppoMarks_any (c : Cd) (q : Cv) (w : World) (h : CAt c q w) (hx : ∀ h, h < c.nh → ∀ k, k < c.len h → WordX (c.ev h k)) (hf : ∀ j, j < c.fs.length → (0 ≤ fA c.fs j ∧ fA c.fs j < 18446744073709551616) ∧ (0 ≤ fV c.fs j ∧ fV c.fs j < 18446744073709551616)) :
    Calls Try.prog 6 #[cdV c q] w fun e w' => SameOk w true e w' := by
  have S0 := Lib.hid (Lk.start h)
  have HE := Lib.hid (fun h hh k hk => (hx h hh k hk).1)
  have HP := Lib.hid (fun h hh k hk => (hx h hh k hk).2)
  have HFW := Lib.hid hf
  clear h hx hf
  go_enter Try.func6, Try.ntmps6
  go_upto_region 3 with (go_at_call 25; (with_reducible refine (plives_any _).mono ?_); rintro e' w1 ⟨rfl, hb⟩; have S1 := Lib.hid (S0.out.on hb); clear hb)
  obtain ⟨x0, x1, x2, x3⟩ := S1.out.box.facts
  obtain ⟨m, hm⟩ : ∃ m, Hid (c.may = m) := ⟨_, Lib.hid rfl⟩
  cases m with
  | false =>
    go_wp2_with (first | (go_at_call 17; (with_reducible refine (lightCand_any30 c q w1 S1.out.at_).mono ?_); rintro e' w2 ⟨r, rfl, hr, hb⟩; have S2 := Lib.hid (S1.out.on hb); have R2 := Lib.hid (fun (e : r = true) => (hr e).lt HE.out HFW.out); clear hb hr x0 x1 x2 x3; obtain ⟨x0, x1, x2, x3⟩ := S2.out.box.facts; cases r) | (go_at_call 26; (with_reducible refine (rcheck9_is c q w2 (R2.out (by first | rfl | trivial)) HP.out S2.out.at_ false hm.out).mono ?_); rintro e' w3 ⟨rfl, hb⟩; have S3 := Lib.hid (S2.out.on hb); clear hb x0 x1 x2 x3))
    · go_ret
      exact ⟨rfl, S2.out.below⟩
    · go_ret
      exact ⟨rfl, S3.out.below⟩
  | true =>
    go_upto_region 5 with (first | (go_at_call 17; (with_reducible refine (lightCand_any30 c q w1 S1.out.at_).mono ?_); rintro e' w2 ⟨r, rfl, hr, hb⟩; have S2 := Lib.hid (S1.out.on hb); have R2 := Lib.hid (fun (e : r = true) => (hr e).lt HE.out HFW.out); clear hb hr x0 x1 x2 x3; obtain ⟨x0, x1, x2, x3⟩ := S2.out.box.facts; cases r) | (go_at_call 26; (with_reducible refine (rcheck9_is c q w2 (R2.out (by first | rfl | trivial)) HP.out S2.out.at_ true hm.out).mono ?_); rintro e' w3 ⟨rfl, hb⟩; have S3 := Lib.hid (S2.out.on hb); have LT := Lib.hid (R2.out (by first | rfl | trivial)); clear hb x0 x1 x2 x3; obtain ⟨x0, x1, x2, x3⟩ := S3.out.box.facts))
    · go_ret
      exact ⟨rfl, S2.out.below⟩
    have KA := Lib.hid (fun w0 h0 => rall9_yes c q w0 LT.out HP.out h0 hm.out)
    have KR := Lib.hid (fun w0 h0 a b ha hb hah => Rule_ahead c q w0 LT.out h0 hm.out a b ha hb hah)
    have hN60 := LT.out.n
    go_upto_region 6 with (go_at_call 27; (with_reducible refine (KA.out _ S3.out.at_).mono ?_); rintro e' w4 ⟨v, es, base, rfl, hbase, hra, hb⟩; obtain ⟨a4, c4, rfl⟩ := own_form hra.own; have G4 : Hid (Rg c q es (.slice a4 c.N c4) base w w4) := Lib.hid ⟨S3.out.on hb, hra⟩; clear hb hra hbase x0 x1 x2 x3 S1 S2 S3 R2)
    go_wp2
    go_loopw [4] (fun va wr => ∃ (a : Nat), a ≤ c.N ∧ va = .int .i64 a ∧ Hid (Rg c q es (.slice a4 c.N c4) base w wr)) (fun va _ => c.N - (intOf va).toNat)
    case atStart => exact ⟨0, Nat.zero_le _, rfl, G4⟩
    case round =>
      obtain ⟨a, ha, rfl, hG⟩ := hrel
      by_cases halt : a < c.N
      · have hai : (a : Int) < (c.N : Int) := by omega
        go_wp2
        go_loopw [5] (fun vb wr => ∃ (b : Nat), a < b ∧ b ≤ c.N ∧ vb = .int .i64 b ∧ Hid (Rg c q es (.slice a4 c.N c4) base w wr)) (fun vb _ => c.N - (intOf vb).toNat)
        case atStart => exact ⟨a + 1, by omega, by omega, by go_num, hG⟩
        case round =>
          clear hG
          obtain ⟨b, hab, hb, rfl, hG⟩ := hrel
          by_cases hbl : b < c.N
          · obtain ⟨g, cap, ev, _, hra⟩ := hG.out.ra.rall (by omega)
            injection ev with ev1 ev2 ev3
            subst ev1 ev3
            clear ev2
            have HA := Lib.hid hra
            obtain ⟨X, hX⟩ : ∃ X, Hid (evAtN es a = X) := ⟨_, Lib.hid rfl⟩
            obtain ⟨Y, hY⟩ : ∃ Y, Hid (evAtN es b = Y) := ⟨_, Lib.hid rfl⟩
            have LX : Hid (∀ w0, RAll c (evAtN es) g 0 w0 → (LoadE (.pointer (some ⟨g, a * 14, none⟩))).run Try.prog w0 = .ok X.V w0) := Lib.hid (fun w0 h0 => by rw [← hX.out]; exact load0 h0 a halt)
            have LY : Hid (∀ w0, RAll c (evAtN es) g 0 w0 → (LoadE (.pointer (some ⟨g, b * 14, none⟩))).run Try.prog w0 = .ok Y.V w0) := Lib.hid (fun w0 h0 => by rw [← hY.out]; exact load0 h0 b hbl)
            have FX : Hid X.flat := Lib.hid (by rw [← hX.out]; exact hra.flat_ a halt)
            have FY : Hid Y.flat := Lib.hid (by rw [← hY.out]; exact hra.flat_ b hbl)
            have MU : Hid (mustB X Y = mustB (c.at a).1 (c.at b).1) := Lib.hid (by rw [← hX.out, ← hY.out]; exact must_like hra a b halt hbl)
            have HX1 : Hid (X.hart = (c.at a).1.hart) := Lib.hid (by rw [← hX.out]; exact hart_like hra a halt)
            have HY1 : Hid (Y.hart = (c.at b).1.hart) := Lib.hid (by rw [← hY.out]; exact hart_like hra b hbl)
            have MX : Hid (memE X = memE (c.at a).1) := Lib.hid (by rw [← hX.out]; exact mem_like hra a halt)
            have MY : Hid (memE Y = memE (c.at b).1) := Lib.hid (by rw [← hY.out]; exact mem_like hra b hbl)
            have ha0 : (0 : Int) ≤ (a : Int) := by omega
            have hb0 : (0 : Int) ≤ (b : Int) := by omega
            have hbi : (b : Int) < (c.N : Int) := by omega
            clear hra hX hY
            go_upto_region 12 with fail
            go_cut [6, 7] (fun t6 t7 wx => ∃ g6 g7, t6 = .pointer (some ⟨g6, 0, none⟩) ∧ t7 = .pointer (some ⟨g7, 0, none⟩) ∧ Hid (Pw c q es (.slice (some ⟨g, 0, none⟩) c.N c4) base X Y g6 g7 w wx))
            case first => as_aux_lemma =>
              have K0 := Lib.hid (fun w0 (hb : Below wr.heap.size wr w0) => (show _ ∧ _ from ⟨LX.out _ (HA.out.on hb), LY.out _ (HA.out.on hb)⟩))
              have bT := Lib.hid (blw_drew (blw_alloc (.cells #[.int .i64 0, .int .i64 0, .int .i64 0, .int .u64 0, .int .u64 0, .int .u64 0, .bool false, .bool false, .int .i64 0, .int .i64 0, .int .i64 0, .slice none 0 0, .slice none 0 0, .slice none 0 0] 50) (box_below wr (.cells #[.int .i64 0, .int .i64 0, .int .i64 0, .int .u64 0, .int .u64 0, .int .u64 0, .bool false, .bool false, .int .i64 0, .int .i64 0, .int .i64 0, .slice none 0 0, .slice none 0 0, .slice none 0 0] 50))))
              have D0 : EvAt zeroEv wr.heap.size ((wr.alloc (.cells #[.int .i64 0, .int .i64 0, .int .i64 0, .int .u64 0, .int .u64 0, .int .u64 0, .bool false, .bool false, .int .i64 0, .int .i64 0, .int .i64 0, .slice none 0 0, .slice none 0 0, .slice none 0 0] 50)).alloc (.cells #[.int .i64 0, .int .i64 0, .int .i64 0, .int .u64 0, .int .u64 0, .int .u64 0, .bool false, .bool false, .int .i64 0, .int .i64 0, .int .i64 0, .slice none 0 0, .slice none 0 0, .slice none 0 0] 50)).drew := ((EvAt.new zeroEv wr).alloc _).on (Below.refl _ _).drew
              have D1 : EvAt zeroEv (wr.heap.size + 1) ((wr.alloc (.cells #[.int .i64 0, .int .i64 0, .int .i64 0, .int .u64 0, .int .u64 0, .int .u64 0, .bool false, .bool false, .int .i64 0, .int .i64 0, .int .i64 0, .slice none 0 0, .slice none 0 0, .slice none 0 0] 50)).alloc (.cells #[.int .i64 0, .int .i64 0, .int .i64 0, .int .u64 0, .int .u64 0, .int .u64 0, .bool false, .bool false, .int .i64 0, .int .i64 0, .int .i64 0, .slice none 0 0, .slice none 0 0, .slice none 0 0] 50)).drew := (EvAt.new_at zeroEv (wr.alloc (.cells #[.int .i64 0, .int .i64 0, .int .i64 0, .int .u64 0, .int .u64 0, .int .u64 0, .bool false, .bool false, .int .i64 0, .int .i64 0, .int .i64 0, .slice none 0 0, .slice none 0 0, .slice none 0 0] 50)) (wr.heap.size + 1) (by simp)).on (Below.refl _ _).drew
              obtain ⟨Wa, sa, ea, ba, fa⟩ := store_made2 D0 FX.out
              obtain ⟨Wb, sb, eb, bb, fb⟩ := store_made2 D1 FX.out
              obtain ⟨Wc, sc, ec, bc, fc⟩ := store_made2 D0 FY.out
              obtain ⟨Wd, sd, ed, bd, fd⟩ := store_made2 D1 FY.out
              obtain ⟨Wad, sad, ead, bad, fad⟩ := store_made2 (fa (wr.heap.size + 1) zeroEv (by omega) D1) FY.out
              obtain ⟨Wbc, sbc, ebc, bbc, fbc⟩ := store_made2 (fb wr.heap.size zeroEv (by omega) D0) FY.out
              obtain ⟨Wcb, scb, ecb, bcb, fcb⟩ := store_made2 (fc (wr.heap.size + 1) zeroEv (by omega) D1) FX.out
              obtain ⟨Wda, sda, eda, bda, fda⟩ := store_made2 (fd wr.heap.size zeroEv (by omega) D0) FX.out
              have La := Lib.hid (bT.out.trans ba)
              have Lb := Lib.hid (bT.out.trans (bb.mono (show wr.heap.size ≤ wr.heap.size + 1 by omega)))
              have Lc := Lib.hid (bT.out.trans bc)
              have Ld := Lib.hid (bT.out.trans (bd.mono (show wr.heap.size ≤ wr.heap.size + 1 by omega)))
              have Lad := Lib.hid (La.out.trans (bad.mono (show wr.heap.size ≤ wr.heap.size + 1 by omega)))
              have Lbc := Lib.hid (Lb.out.trans bbc)
              have Lcb := Lib.hid (Lc.out.trans (bcb.mono (show wr.heap.size ≤ wr.heap.size + 1 by omega)))
              have Lda := Lib.hid (Ld.out.trans bda)
              have Qad := Lib.hid (show EvAt X wr.heap.size Wad ∧ EvAt Y (wr.heap.size + 1) Wad from ⟨fad _ _ (by omega) ea, ead⟩)
              have Qbc := Lib.hid (show EvAt X (wr.heap.size + 1) Wbc ∧ EvAt Y wr.heap.size Wbc from ⟨fbc _ _ (by omega) eb, ebc⟩)
              have Qcb := Lib.hid (show EvAt X (wr.heap.size + 1) Wcb ∧ EvAt Y wr.heap.size Wcb from ⟨ecb, fcb _ _ (by omega) ec⟩)
              have Qda := Lib.hid (show EvAt X wr.heap.size Wda ∧ EvAt Y (wr.heap.size + 1) Wda from ⟨eda, fda _ _ (by omega) ed⟩)
              clear ba bb bc bd bad bbc bcb bda fa fb fc fd fad fbc fcb fda ea eb ec ed ead ebc ecb eda D0 D1
              have l01 := K0.out _ (Below.refl _ _).drew
              obtain ⟨l0, l1⟩ := l01
              go_region_held3 (fun w' => (LoadE (.pointer (some ⟨g, a * 14, none⟩))).run Try.prog w' = .ok X.V w' ∧ (LoadE (.pointer (some ⟨g, b * 14, none⟩))).run Try.prog w' = .ok Y.V w')
                (first | exact ⟨l0, l1⟩ | exact K0.out _ (blw_drew (box_below wr (.cells #[.int .i64 0, .int .i64 0, .int .i64 0, .int .u64 0, .int .u64 0, .int .u64 0, .bool false, .bool false, .int .i64 0, .int .i64 0, .int .i64 0, .slice none 0 0, .slice none 0 0, .slice none 0 0] 50))) | exact K0.out _ bT.out | exact K0.out _ La.out | exact K0.out _ Lb.out | exact K0.out _ Lc.out | exact K0.out _ Ld.out | exact K0.out _ Lad.out | exact K0.out _ Lbc.out | exact K0.out _ Lcb.out | exact K0.out _ Lda.out)
                (fail)
              all_goals
                go_wp2_with fail
                go_meet
                first
                  | exact ⟨_, _, rfl, rfl, Lib.hid ⟨hG.out.on Lad.out, Qad.out.1, Qad.out.2⟩⟩
                  | exact ⟨_, _, rfl, rfl, Lib.hid ⟨hG.out.on Lbc.out, Qbc.out.1, Qbc.out.2⟩⟩
                  | exact ⟨_, _, rfl, rfl, Lib.hid ⟨hG.out.on Lcb.out, Qcb.out.1, Qcb.out.2⟩⟩
                  | exact ⟨_, _, rfl, rfl, Lib.hid ⟨hG.out.on Lda.out, Qda.out.1, Qda.out.2⟩⟩
            case rest =>
              obtain ⟨g6, g7, rfl, rfl, HZ⟩ := hcut
              have px0 := HZ.out.x.facts.2.1
              have py0 := HZ.out.y.facts.2.1
              have cl6 := run_LoadE HZ.out.x
              have cl7 := run_LoadE HZ.out.y
              obtain ⟨mx, hmx⟩ : ∃ mx, Hid (memE X = mx) := ⟨_, Lib.hid rfl⟩
              obtain ⟨my, hmy⟩ : ∃ my, Hid (memE Y = my) := ⟨_, Lib.hid rfl⟩
              have KMX := Lib.hid (fun w0 => rMemory_b X mx hmx.out w0)
              have KMY := Lib.hid (fun w0 => rMemory_b Y my hmy.out w0)
              by_cases hh : X.hart = Y.hart
              rotate_left
              · have d1 : (X.hart != Y.hart) = true := by simpa using hh
                clear hh
                go_wp2
                go_roundw
                case rel => exact ⟨b + 1, by omega, by omega, by go_num, Lib.hid HZ.out.rg⟩
                case measure => simp [intOf]; omega
              have d1 : (X.hart != Y.hart) = false := by simpa using hh
              have HH := Lib.hid hh
              clear hh
              cases mx with
              | false =>
                go_wp2_with (go_at_call 28; (with_reducible refine (KMX.out _).mono ?_); rintro e' w5 ⟨rfl, hb⟩; have P5 := Lib.hid (HZ.out.on hb); clear hb cl6 cl7 px0 py0; have cl7 := run_LoadE P5.out.y)
                go_roundw
                case rel => exact ⟨b + 1, by omega, by omega, by go_num, Lib.hid P5.out.rg⟩
                case measure => simp [intOf]; omega
              | true =>
              cases my with
              | false =>
                go_wp2_with (first | (go_at_call 28; (with_reducible refine (KMX.out _).mono ?_); rintro e' w5 ⟨rfl, hb⟩; have P5 := Lib.hid (HZ.out.on hb); clear hb cl6 cl7 px0 py0; have cl7 := run_LoadE P5.out.y) | (go_at_call 28; (with_reducible refine (KMY.out _).mono ?_); rintro e' w6 ⟨rfl, hb⟩; have P6 := Lib.hid (P5.out.on hb); clear hb cl7))
                go_roundw
                case rel => exact ⟨b + 1, by omega, by omega, by go_num, Lib.hid P6.out.rg⟩
                case measure => simp [intOf]; omega
              | true =>
              have HAH := Lib.hid (ahead_mk hab hbl (by rw [← HX1.out, ← HY1.out]; exact HH.out) (by rw [← MX.out]; exact hmx.out) (by rw [← MY.out]; exact hmy.out))
              go_upto_region 14 with (first | (go_at_call 28; (with_reducible refine (KMX.out _).mono ?_); rintro e' w5 ⟨rfl, hb⟩; have P5 := Lib.hid (HZ.out.on hb); clear hb cl6 cl7 px0 py0; have cl7 := run_LoadE P5.out.y) | (go_at_call 28; (with_reducible refine (KMY.out _).mono ?_); rintro e' w6 ⟨rfl, hb⟩; have P6 := Lib.hid (P5.out.on hb); clear hb cl7))
              clear d1 KMX KMY hmx hmy HH HZ P5
              go_cut [8] (fun t8 wx => t8 = .bool (mustB X Y) ∧ Hid (Pw c q es (.slice (some ⟨g, 0, none⟩) c.N c4) base X Y g6 g7 w wx))
              case first => as_aux_lemma =>
                obtain ⟨_, px0, px1, px2, px3, px4, px5, px6, px7, px8, px9, px10, px11, px12, px13⟩ := P6.out.x.facts
                obtain ⟨_, py0, py1, py2, py3, py4, py5, py6, py7, py8, py9, py10, py11, py12, py13⟩ := P6.out.y.facts
                have cl7 := run_LoadE P6.out.y
                obtain ⟨xa, hxa⟩ : ∃ z, Hid (X.aq = z) := ⟨_, Lib.hid rfl⟩
                rw [hxa.out] at px6
                obtain ⟨yr, hyr⟩ : ∃ z, Hid (Y.rl = z) := ⟨_, Lib.hid rfl⟩
                rw [hyr.out] at py7
                obtain ⟨xr, hxr⟩ : ∃ z, Hid (X.rl = z) := ⟨_, Lib.hid rfl⟩
                rw [hxr.out] at px7
                obtain ⟨ya, hya⟩ : ∃ z, Hid (Y.aq = z) := ⟨_, Lib.hid rfl⟩
                rw [hya.out] at py6
                obtain ⟨wy, hwy⟩ : ∃ z, Hid (writesE Y = z) := ⟨_, Lib.hid rfl⟩
                obtain ⟨ea, hea⟩ : ∃ z, Hid ((X.addr == Y.addr) = z) := ⟨_, Lib.hid rfl⟩
                obtain ⟨k4, hk4⟩ : ∃ z, Hid ((Y.kind == 4) = z) := ⟨_, Lib.hid rfl⟩
                obtain ⟨pp, hpp⟩ : ∃ z, Hid ((Y.pair == X.pos) = z) := ⟨_, Lib.hid rfl⟩
                have KW := Lib.hid (fun w0 => rWrites_b Y wy hwy.out w0)
                have HMU : Hid (mustB X Y = (xa || (yr || ((xr && ya) || ((wy && ea) || (k4 && pp)))))) := Lib.hid (by rw [must_is, hxa.out, hyr.out, hxr.out, hya.out, hwy.out, hea.out, hk4.out, hpp.out])
                have be := hea.out
                have bk := hk4.out
                have bp := hpp.out
                cases xa with
                | true =>
                  go_wp2_with fail
                  go_meet
                  exact ⟨boolV (by rw [HMU.out]; rfl), P6⟩
                | false =>
                  cases yr with
                  | true =>
                    go_wp2_with fail
                    go_meet
                    exact ⟨boolV (by rw [HMU.out]; rfl), P6⟩
                  | false =>
                    cases xr with
                    | true =>
                      cases ya with
                      | true =>
                        go_wp2_with fail
                        go_meet
                        exact ⟨boolV (by rw [HMU.out]; rfl), P6⟩
                      | false =>
                        cases wy with
                        | true =>
                          cases ea with
                          | true =>
                            go_wp2_with (go_at_call 21; (with_reducible refine (KW.out _).mono ?_); rintro e' w7 ⟨rfl, hb⟩; have P7 := Lib.hid (P6.out.on hb); clear hb cl7 px0 px1 px2 px3 px4 px5 px6 px7 px8 px9 px10 px11 px12 px13 py0 py1 py2 py3 py4 py5 py6 py7 py8 py9 py10 py11 py12 py13; obtain ⟨_, px0, px1, px2, px3, px4, px5, px6, px7, px8, px9, px10, px11, px12, px13⟩ := P7.out.x.facts; obtain ⟨_, py0, py1, py2, py3, py4, py5, py6, py7, py8, py9, py10, py11, py12, py13⟩ := P7.out.y.facts)
                            go_meet
                            exact ⟨boolV (by rw [HMU.out]; rfl), P7⟩
                          | false =>
                            cases k4 with
                            | true =>
                              cases pp with
                              | true =>
                                go_wp2_with (go_at_call 21; (with_reducible refine (KW.out _).mono ?_); rintro e' w7 ⟨rfl, hb⟩; have P7 := Lib.hid (P6.out.on hb); clear hb cl7 px0 px1 px2 px3 px4 px5 px6 px7 px8 px9 px10 px11 px12 px13 py0 py1 py2 py3 py4 py5 py6 py7 py8 py9 py10 py11 py12 py13; obtain ⟨_, px0, px1, px2, px3, px4, px5, px6, px7, px8, px9, px10, px11, px12, px13⟩ := P7.out.x.facts; obtain ⟨_, py0, py1, py2, py3, py4, py5, py6, py7, py8, py9, py10, py11, py12, py13⟩ := P7.out.y.facts)
                                go_meet
                                exact ⟨boolV (by rw [HMU.out]; rfl), P7⟩
                              | false =>
                                go_wp2_with (go_at_call 21; (with_reducible refine (KW.out _).mono ?_); rintro e' w7 ⟨rfl, hb⟩; have P7 := Lib.hid (P6.out.on hb); clear hb cl7 px0 px1 px2 px3 px4 px5 px6 px7 px8 px9 px10 px11 px12 px13 py0 py1 py2 py3 py4 py5 py6 py7 py8 py9 py10 py11 py12 py13; obtain ⟨_, px0, px1, px2, px3, px4, px5, px6, px7, px8, px9, px10, px11, px12, px13⟩ := P7.out.x.facts; obtain ⟨_, py0, py1, py2, py3, py4, py5, py6, py7, py8, py9, py10, py11, py12, py13⟩ := P7.out.y.facts)
                                go_meet
                                exact ⟨boolV (by rw [HMU.out]; rfl), P7⟩
                            | false =>
                              go_wp2_with (go_at_call 21; (with_reducible refine (KW.out _).mono ?_); rintro e' w7 ⟨rfl, hb⟩; have P7 := Lib.hid (P6.out.on hb); clear hb cl7 px0 px1 px2 px3 px4 px5 px6 px7 px8 px9 px10 px11 px12 px13 py0 py1 py2 py3 py4 py5 py6 py7 py8 py9 py10 py11 py12 py13; obtain ⟨_, px0, px1, px2, px3, px4, px5, px6, px7, px8, px9, px10, px11, px12, px13⟩ := P7.out.x.facts; obtain ⟨_, py0, py1, py2, py3, py4, py5, py6, py7, py8, py9, py10, py11, py12, py13⟩ := P7.out.y.facts)
                              go_meet
                              exact ⟨boolV (by rw [HMU.out]; rfl), P7⟩
                        | false =>
                          cases k4 with
                          | true =>
                            cases pp with
                            | true =>
                              go_wp2_with (go_at_call 21; (with_reducible refine (KW.out _).mono ?_); rintro e' w7 ⟨rfl, hb⟩; have P7 := Lib.hid (P6.out.on hb); clear hb cl7 px0 px1 px2 px3 px4 px5 px6 px7 px8 px9 px10 px11 px12 px13 py0 py1 py2 py3 py4 py5 py6 py7 py8 py9 py10 py11 py12 py13; obtain ⟨_, px0, px1, px2, px3, px4, px5, px6, px7, px8, px9, px10, px11, px12, px13⟩ := P7.out.x.facts; obtain ⟨_, py0, py1, py2, py3, py4, py5, py6, py7, py8, py9, py10, py11, py12, py13⟩ := P7.out.y.facts)
                              go_meet
                              exact ⟨boolV (by rw [HMU.out]; rfl), P7⟩
                            | false =>
                              go_wp2_with (go_at_call 21; (with_reducible refine (KW.out _).mono ?_); rintro e' w7 ⟨rfl, hb⟩; have P7 := Lib.hid (P6.out.on hb); clear hb cl7 px0 px1 px2 px3 px4 px5 px6 px7 px8 px9 px10 px11 px12 px13 py0 py1 py2 py3 py4 py5 py6 py7 py8 py9 py10 py11 py12 py13; obtain ⟨_, px0, px1, px2, px3, px4, px5, px6, px7, px8, px9, px10, px11, px12, px13⟩ := P7.out.x.facts; obtain ⟨_, py0, py1, py2, py3, py4, py5, py6, py7, py8, py9, py10, py11, py12, py13⟩ := P7.out.y.facts)
                              go_meet
                              exact ⟨boolV (by rw [HMU.out]; rfl), P7⟩
                          | false =>
                            go_wp2_with (go_at_call 21; (with_reducible refine (KW.out _).mono ?_); rintro e' w7 ⟨rfl, hb⟩; have P7 := Lib.hid (P6.out.on hb); clear hb cl7 px0 px1 px2 px3 px4 px5 px6 px7 px8 px9 px10 px11 px12 px13 py0 py1 py2 py3 py4 py5 py6 py7 py8 py9 py10 py11 py12 py13; obtain ⟨_, px0, px1, px2, px3, px4, px5, px6, px7, px8, px9, px10, px11, px12, px13⟩ := P7.out.x.facts; obtain ⟨_, py0, py1, py2, py3, py4, py5, py6, py7, py8, py9, py10, py11, py12, py13⟩ := P7.out.y.facts)
                            go_meet
                            exact ⟨boolV (by rw [HMU.out]; rfl), P7⟩
                    | false =>
                      cases wy with
                      | true =>
                        cases ea with
                        | true =>
                          go_wp2_with (go_at_call 21; (with_reducible refine (KW.out _).mono ?_); rintro e' w7 ⟨rfl, hb⟩; have P7 := Lib.hid (P6.out.on hb); clear hb cl7 px0 px1 px2 px3 px4 px5 px6 px7 px8 px9 px10 px11 px12 px13 py0 py1 py2 py3 py4 py5 py6 py7 py8 py9 py10 py11 py12 py13; obtain ⟨_, px0, px1, px2, px3, px4, px5, px6, px7, px8, px9, px10, px11, px12, px13⟩ := P7.out.x.facts; obtain ⟨_, py0, py1, py2, py3, py4, py5, py6, py7, py8, py9, py10, py11, py12, py13⟩ := P7.out.y.facts)
                          go_meet
                          exact ⟨boolV (by rw [HMU.out]; rfl), P7⟩
                        | false =>
                          cases k4 with
                          | true =>
                            cases pp with
                            | true =>
                              go_wp2_with (go_at_call 21; (with_reducible refine (KW.out _).mono ?_); rintro e' w7 ⟨rfl, hb⟩; have P7 := Lib.hid (P6.out.on hb); clear hb cl7 px0 px1 px2 px3 px4 px5 px6 px7 px8 px9 px10 px11 px12 px13 py0 py1 py2 py3 py4 py5 py6 py7 py8 py9 py10 py11 py12 py13; obtain ⟨_, px0, px1, px2, px3, px4, px5, px6, px7, px8, px9, px10, px11, px12, px13⟩ := P7.out.x.facts; obtain ⟨_, py0, py1, py2, py3, py4, py5, py6, py7, py8, py9, py10, py11, py12, py13⟩ := P7.out.y.facts)
                              go_meet
                              exact ⟨boolV (by rw [HMU.out]; rfl), P7⟩
                            | false =>
                              go_wp2_with (go_at_call 21; (with_reducible refine (KW.out _).mono ?_); rintro e' w7 ⟨rfl, hb⟩; have P7 := Lib.hid (P6.out.on hb); clear hb cl7 px0 px1 px2 px3 px4 px5 px6 px7 px8 px9 px10 px11 px12 px13 py0 py1 py2 py3 py4 py5 py6 py7 py8 py9 py10 py11 py12 py13; obtain ⟨_, px0, px1, px2, px3, px4, px5, px6, px7, px8, px9, px10, px11, px12, px13⟩ := P7.out.x.facts; obtain ⟨_, py0, py1, py2, py3, py4, py5, py6, py7, py8, py9, py10, py11, py12, py13⟩ := P7.out.y.facts)
                              go_meet
                              exact ⟨boolV (by rw [HMU.out]; rfl), P7⟩
                          | false =>
                            go_wp2_with (go_at_call 21; (with_reducible refine (KW.out _).mono ?_); rintro e' w7 ⟨rfl, hb⟩; have P7 := Lib.hid (P6.out.on hb); clear hb cl7 px0 px1 px2 px3 px4 px5 px6 px7 px8 px9 px10 px11 px12 px13 py0 py1 py2 py3 py4 py5 py6 py7 py8 py9 py10 py11 py12 py13; obtain ⟨_, px0, px1, px2, px3, px4, px5, px6, px7, px8, px9, px10, px11, px12, px13⟩ := P7.out.x.facts; obtain ⟨_, py0, py1, py2, py3, py4, py5, py6, py7, py8, py9, py10, py11, py12, py13⟩ := P7.out.y.facts)
                            go_meet
                            exact ⟨boolV (by rw [HMU.out]; rfl), P7⟩
                      | false =>
                        cases k4 with
                        | true =>
                          cases pp with
                          | true =>
                            go_wp2_with (go_at_call 21; (with_reducible refine (KW.out _).mono ?_); rintro e' w7 ⟨rfl, hb⟩; have P7 := Lib.hid (P6.out.on hb); clear hb cl7 px0 px1 px2 px3 px4 px5 px6 px7 px8 px9 px10 px11 px12 px13 py0 py1 py2 py3 py4 py5 py6 py7 py8 py9 py10 py11 py12 py13; obtain ⟨_, px0, px1, px2, px3, px4, px5, px6, px7, px8, px9, px10, px11, px12, px13⟩ := P7.out.x.facts; obtain ⟨_, py0, py1, py2, py3, py4, py5, py6, py7, py8, py9, py10, py11, py12, py13⟩ := P7.out.y.facts)
                            go_meet
                            exact ⟨boolV (by rw [HMU.out]; rfl), P7⟩
                          | false =>
                            go_wp2_with (go_at_call 21; (with_reducible refine (KW.out _).mono ?_); rintro e' w7 ⟨rfl, hb⟩; have P7 := Lib.hid (P6.out.on hb); clear hb cl7 px0 px1 px2 px3 px4 px5 px6 px7 px8 px9 px10 px11 px12 px13 py0 py1 py2 py3 py4 py5 py6 py7 py8 py9 py10 py11 py12 py13; obtain ⟨_, px0, px1, px2, px3, px4, px5, px6, px7, px8, px9, px10, px11, px12, px13⟩ := P7.out.x.facts; obtain ⟨_, py0, py1, py2, py3, py4, py5, py6, py7, py8, py9, py10, py11, py12, py13⟩ := P7.out.y.facts)
                            go_meet
                            exact ⟨boolV (by rw [HMU.out]; rfl), P7⟩
                        | false =>
                          go_wp2_with (go_at_call 21; (with_reducible refine (KW.out _).mono ?_); rintro e' w7 ⟨rfl, hb⟩; have P7 := Lib.hid (P6.out.on hb); clear hb cl7 px0 px1 px2 px3 px4 px5 px6 px7 px8 px9 px10 px11 px12 px13 py0 py1 py2 py3 py4 py5 py6 py7 py8 py9 py10 py11 py12 py13; obtain ⟨_, px0, px1, px2, px3, px4, px5, px6, px7, px8, px9, px10, px11, px12, px13⟩ := P7.out.x.facts; obtain ⟨_, py0, py1, py2, py3, py4, py5, py6, py7, py8, py9, py10, py11, py12, py13⟩ := P7.out.y.facts)
                          go_meet
                          exact ⟨boolV (by rw [HMU.out]; rfl), P7⟩
              case rest =>
                obtain ⟨rfl, HZ2⟩ := hcut
                clear P6
                obtain ⟨x0, x1, x2, x3⟩ := HZ2.out.rg.lk.box.facts
                obtain ⟨mu, hmu⟩ : ∃ z, Hid (mustB X Y = z) := ⟨_, Lib.hid rfl⟩
                rw [hmu.out]
                cases mu with
                | false =>
                  go_wp2
                  go_roundw
                  case rel => exact ⟨b + 1, by omega, by omega, by go_num, Lib.hid HZ2.out.rg⟩
                  case measure => simp [intOf]; omega
                | true =>
                  obtain ⟨n, hn⟩ : ∃ n, Hid (firstL c a b = n) := ⟨_, Lib.hid rfl⟩
                  have nz : (((n : Nat) : Int) == 0) = false := by
                    have := must_rule (c := c) (a := a) (b := b) (by rw [← MU.out]; exact hmu.out)
                    rw [hn.out] at this
                    simp; omega
                  have KR2 := Lib.hid (fun w0 h0 => (show Calls Try.prog 29 #[cdV c q, .int .i64 (a : Int), .int .i64 (b : Int)] w0 fun e w' => FirstIs w0 n e w' from by rw [← hn.out]; exact KR.out w0 h0 a b halt hbl HAH.out))
                  go_wp2_with (go_at_call 29; (with_reducible refine (KR2.out _ HZ2.out.rg.lk.at_).mono ?_); rintro e' w8 ⟨rfl, hb⟩; have P8 := Lib.hid (HZ2.out.on hb); clear hb x0 x1 x2 x3)
                  go_roundw
                  case rel => exact ⟨b + 1, by omega, by omega, by go_num, Lib.hid P8.out.rg⟩
                  case measure => simp [intOf]; omega
          · obtain rfl : b = c.N := by omega
            go_wp2
            go_roundw
            case rel => exact ⟨a + 1, by omega, by go_num, hG⟩
            case measure => simp [intOf]; omega
      · obtain rfl : a = c.N := by omega
        go_wp2
        go_ret
        exact ⟨rfl, hG.out.lk.below⟩
end Go.Proofs.Ytemphbndipbcgaa
