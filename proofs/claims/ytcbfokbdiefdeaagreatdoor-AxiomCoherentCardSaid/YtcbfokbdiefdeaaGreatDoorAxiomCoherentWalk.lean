/-
  Proved here: the law AxiomCoherent answers true of every candidate; nothing that was there is changed. Condition: numbers of 64 bits; the table of powers of ten as the library lays it.
-/
import Derived.Test.YtcbfokbdiefdeaaGreatDoorAxLives
import Derived.Test.YtcbfokbdiefdeaaGreatDoorAxLaws
import Derived.Test.YtcbfokbdiefdeaaGreatDoorRf09All
import Derived.Test.YtcbfokbdiefdeaaGreatDoorCdLight30
import Derived.Test.YtcbfokbdiefdeaaGreatDoorRf09Places
namespace Go.Proofs.YtcbfokbdiefdeaaGreatDoor
set_option linter.unusedVariables false
set_option linter.unusedSimpArgs false
open Go.RowKit Go.Maps
attribute [local go_sem ↓] fold_E fold_SE
attribute [local irreducible] wpStill

attribute [local go_sem ↓] fold_SE
/-- the law's candidate in its box, all events, their places -/
structure Co (c : Cd) (q : Cv) (es : List Ev) (v : Value) (base gP : Nat) (w W : World) : Prop where
  lk : Lk c q w W
  ra : Ra c es v base W
  pl : IntsAt (plcL c c.od.length) c.N gP W
theorem Co.on {c : Cd} {q : Cv} {es : List Ev} {v : Value} {base gP : Nat} {w W W2 : World} (h : Co c q es v base gP w W) (hb : Below W.heap.size W W2) : Co c q es v base gP w W2 := ⟨h.lk.on hb, h.ra.on hb, h.pl.on hb⟩
theorem from_in {c : Cd} {q : Cv} {w : World} (h : CAt c q w) (h0 : c.fr.length ≠ 0) : ∃ b off, q.aR = some ⟨b, off, none⟩ ∧ b < w.heap.size ∧ ∀ j, j < c.fr.length → w.cell? ⟨b, off + j, none⟩ = some (.int .i64 (atI c.fr j)) := by
  rcases h.from_ with ⟨_, h1⟩ | ⟨b, off, c2, e, _, _, h3, h4⟩
  · rw [h1] at h0; exact absurd rfl h0
  · injection e with e1 e2 e3
    exact ⟨b, off, e1, h3, h4⟩
theorem order_in {c : Cd} {q : Cv} {w : World} (h : CAt c q w) (h0 : c.od.length ≠ 0) : ∃ b off, q.aO = some ⟨b, off, none⟩ ∧ b < w.heap.size ∧ ∀ j, j < c.od.length → w.cell? ⟨b, off + j, none⟩ = some (.int .i64 (atI c.od j)) := by
  rcases h.order with ⟨_, h1⟩ | ⟨b, off, c2, e, _, _, h3, h4⟩
  · rw [h1] at h0; exact absurd rfl h0
  · injection e with e1 e2 e3
    exact ⟨b, off, e1, h3, h4⟩
set_option maxRecDepth 100000 in
theorem age_any (c : Cd) (gP : Nat) (w : World) (h : IntsAt (plcL c c.od.length) c.N gP w) (n : Int) (hn : InN c n) (v : Int) (hv : plN c n = v) : Calls Tryz.prog 30 #[.slice (some ⟨gP, 0, none⟩) c.N c.N, .int .i64 n] w fun e w' => e = .returned (.int .i64 v) ∧ w = w' := by
  rcases hn with rfl | ⟨h0, h1⟩
  · have hv1 : v = -1 := by rw [← hv]; rfl
    subst hv1
    clear h hv
    go_enter Tryz.func30, Tryz.ntmps30
    go_wp2
    go_ret
    exact ⟨rfl, rfl⟩
  · obtain ⟨k, rfl⟩ : ∃ k : Nat, n = k := ⟨n.toNat, by omega⟩
    have hc := h.cell k (by omega)
    rw [plN_nat] at hv
    rw [hv] at hc
    have d0 : decide ((k : Int) < 0) = false := by simp
    have hk0 : (0 : Int) ≤ (k : Int) := by omega
    clear h hv
    go_enter Tryz.func30, Tryz.ntmps30
    go_wp2
    go_ret
    exact ⟨rfl, rfl⟩
theorem mem_rw {e : Ev} (h : memE e = true) (hw : writesE e = false) : readsE e = true := by
  unfold memE at h
  unfold writesE at hw
  unfold readsE
  revert h hw
  generalize e.kind = k
  by_cases h1 : k = 1
  · subst h1; decide
  by_cases h2 : k = 2
  · subst h2; decide
  by_cases h3 : k = 3
  · subst h3; decide
  by_cases h4 : k = 4
  · subst h4; decide
  by_cases h5 : k = 5
  · subst h5; decide
  by_cases h6 : k = 6
  · subst h6; decide
  unfold fieldsOf
  rw [if_neg h1, if_neg h2, if_neg h3, if_neg h4, if_neg h5, if_neg h6]; decide
set_option maxRecDepth 100000 in
set_option maxHeartbeats 32000000 in
theorem axiomCoherent_any (c : Cd) (q : Cv) (w : World) (h : CAt c q w) (hx : ∀ h, h < c.nh → ∀ k, k < c.len h → WordX (c.ev h k)) (hf : ∀ j, j < c.fs.length → (0 ≤ fA c.fs j ∧ fA c.fs j < 18446744073709551616) ∧ (0 ≤ fV c.fs j ∧ fV c.fs j < 18446744073709551616)) (hT : TabP w) :
    Calls Tryz.prog 7 #[cdV c q] w fun e w' => SameOk w true e w' := by
  have S0 := Lib.hid (Lk.start h)
  have HP := Lib.hid (fun h hh k hk => (hx h hh k hk).2)
  have HE := Lib.hid (fun h hh k hk => (hx h hh k hk).1)
  have HLOW := Lib.hid (low_addr h)
  have HFW := Lib.hid hf
  have HT := Lib.hid hT
  clear h hx hf hT
  go_enter Tryz.func7, Tryz.ntmps7
  go_upto_region 3 with (go_at_call 10; (with_reducible refine (alives_any _ (HT.out.on S0.out.below)).mono ?_); rintro e' w1 ⟨rfl, hb⟩; have S1 := Lib.hid (S0.out.on hb); clear hb)
  obtain ⟨u0, u1, u2, u3⟩ := S1.out.box.facts
  obtain ⟨o, ho⟩ : ∃ o, Hid ((judgeW c).ok = o) := ⟨_, Lib.hid rfl⟩
  have KO := Lib.hid (fun w0 (hL : Lt c) h0 => Ok_any c q w0 hL h0 o ho.out)
  cases o with
  | false =>
    go_wp2_with (first
      | (go_at_call 15; (with_reducible refine (lightCand_any30 c q w1 S1.out.at_).mono ?_); rintro e' w2 ⟨r, rfl, hr, hb⟩; have S2 := Lib.hid (S1.out.on hb); have R2 := Lib.hid (fun (e : r = true) => (hr e).lt HE.out HFW.out); clear hb hr u0 u1 u2 u3; obtain ⟨u0, u1, u2, u3⟩ := S2.out.box.facts; cases r)
      | (go_at_call 12; (with_reducible refine (KO.out _ (R2.out (by first | rfl | trivial)) S2.out.at_).mono ?_); rintro e' w3 ⟨rfl, hb⟩; have S3 := Lib.hid (S2.out.on hb); clear hb u0 u1 u2 u3; obtain ⟨u0, u1, u2, u3⟩ := S3.out.box.facts))
    · go_ret
      exact ⟨rfl, S2.out.below⟩
    · go_ret
      exact ⟨rfl, S3.out.below⟩
  | true =>
    have HK := Lib.hid (judge_ok.1 ho.out)
    go_upto_region 5 with (first
      | (go_at_call 15; (with_reducible refine (lightCand_any30 c q w1 S1.out.at_).mono ?_); rintro e' w2 ⟨r, rfl, hr, hb⟩; have S2 := Lib.hid (S1.out.on hb); have R2 := Lib.hid (fun (e : r = true) => (hr e).lt HE.out HFW.out); clear hb hr u0 u1 u2 u3; obtain ⟨u0, u1, u2, u3⟩ := S2.out.box.facts; cases r)
      | (go_at_call 12; (with_reducible refine (KO.out _ (R2.out (by first | rfl | trivial)) S2.out.at_).mono ?_); rintro e' w3 ⟨rfl, hb⟩; have S3 := Lib.hid (S2.out.on hb); clear hb u0 u1 u2 u3; obtain ⟨u0, u1, u2, u3⟩ := S3.out.box.facts))
    · go_ret
      exact ⟨rfl, S2.out.below⟩
    have LT := Lib.hid (R2.out (by first | rfl | trivial))
    clear S0 S1 S2 R2 HE HFW KO ho
    have HM := Lib.hid HK.out.may
    have HFR := Lib.hid (may_fr HK.out.may)
    have hN60 := LT.out.n
    have hfr120 := LT.out.fr
    have hod120 := LT.out.od
    have KA := Lib.hid (fun w0 h0 => rall9_yes c q w0 LT.out HP.out h0 HM.out)
    have KL := Lib.hid (fun w0 h0 => rplaces_yes c q w0 LT.out HP.out h0 HM.out)
    have SD := Lib.hid (S3.out.on (Below.refl _ _).drew)
    go_cut [3, 4] (fun t3 t4 wx => ∃ aV cV base gP es, t3 = .slice aV c.N cV ∧ t4 = .slice (some ⟨gP, 0, none⟩) c.N c.N ∧ Hid (Co c q es (.slice aV c.N cV) base gP w wx))
    case first => as_aux_lemma =>
      go_region_held3 (fun w' => w'.cell? ⟨w.heap.size, 0, none⟩ = some (.slice q.aF c.fs.length q.cF) ∧ w'.cell? ⟨w.heap.size, 1, none⟩ = some (.slice q.aH c.nh q.cH) ∧ w'.cell? ⟨w.heap.size, 2, none⟩ = some (.slice q.aR c.fr.length q.cR) ∧ w'.cell? ⟨w.heap.size, 3, none⟩ = some (.slice q.aO c.od.length q.cO)) (first | exact SD.out.box.facts | exact SE.out.box.facts | exact SF.out.lk.box.facts)
        ((first
          | (go_at_call 22; (with_reducible refine (KA.out _ SD.out.at_).mono ?_); rintro e' w4 ⟨v, es, base, rfl, hbase, hra, hb⟩; obtain ⟨aV, cV, rfl⟩ := own_form hra.own; have SE := Lib.hid (SD.out.on hb); have RE := Lib.hid hra; clear hbase hra hb)
          | (go_at_call 24; (with_reducible refine (KL.out _ SE.out.at_).mono ?_); rintro e' w5 ⟨gP, rfl, hg, hI, hb⟩; have SF : Hid (Co c q es (.slice aV c.N cV) base gP w w5) := Lib.hid ⟨SE.out.on hb, RE.out.on hb, hI⟩; clear hg hI hb)))
      all_goals
        go_wp2_with fail
        go_meet
        exact ⟨_, _, _, _, _, rfl, rfl, SF⟩
    obtain ⟨aV, cV, base, gP, es, rfl, rfl, H0⟩ := hcut
    clear SD KA KL S3 u0 u1 u2 u3
    go_wp2
    go_loopw [5] (fun vi wr => ∃ a : Nat, a ≤ c.N ∧ vi = .int .i64 a ∧ Hid (Co c q es (.slice aV c.N cV) base gP w wr)) (fun vi _ => c.N - (intOf vi).toNat)
    case atStart => exact ⟨0, Nat.zero_le _, rfl, H0⟩
    case round =>
      obtain ⟨a, ha, rfl, H1⟩ := hrel
      clear H0
      by_cases hlt : a < c.N
      · have hfr0 : c.fr.length ≠ 0 := by rw [HFR.out]; omega
        obtain ⟨gE, cap, ev, _, hra⟩ := H1.out.ra.rall (by omega)
        injection ev with ev1 ev2 ev3
        subst ev1 ev3
        clear ev2
        have HA := Lib.hid hra
        clear hra
        obtain ⟨X, hX⟩ : ∃ X, Hid (evAtN es a = X) := ⟨_, Lib.hid rfl⟩
        have XF : Hid X.flat := Lib.hid (by rw [← hX.out]; exact HA.out.flat_ a hlt)
        have XL : Hid (∃ x y z, X = (c.at a).1.lists x y z) := Lib.hid (by rw [← hX.out]; exact HA.out.like a hlt)
        have clx : (LoadE (.pointer (some ⟨gE, a * 14, none⟩))).run Tryz.prog wr = .ok X.V wr := by rw [← hX.out]; exact load0 HA.out a hlt
        have z0 : EvAt zeroEv wr.heap.size (wr.alloc (.cells #[.int .i64 0, .int .i64 0, .int .i64 0, .int .u64 0, .int .u64 0, .int .u64 0, .bool false, .bool false, .int .i64 0, .int .i64 0, .int .i64 0, .slice none 0 0, .slice none 0 0, .slice none 0 0] 32)) := EvAt.new zeroEv wr
        obtain ⟨W1, cs, d1, hb3⟩ := store_made z0 XF.out
        have H2 := Lib.hid (H1.out.on ((box_below wr _).trans hb3))
        have E2 := Lib.hid d1
        have hai : (a : Int) < (c.N : Int) := by omega
        have ha0 : (0 : Int) ≤ (a : Int) := by omega
        clear z0 d1 hb3
        go_upto_region 10 with fail
        obtain ⟨gX, hgX⟩ : ∃ g, wr.heap.size = g := ⟨_, rfl⟩
        rw [hgX] at E2 ⊢
        clear hgX clx H1
        have e1 : IntKind.i64.wrap ((a : Int) + 1) = ((a + 1 : Nat) : Int) := by rw [IntWalk.i64_in _ (by omega)]; omega
        obtain ⟨bR, oR, hq, hbl, hcell⟩ := from_in H2.out.lk.here hfr0
        have HC := Lib.hid (fun (W : World) (hS : Lk c q w W) (j : Nat) (hj : j < c.N) => (hS.below.cell (p := ⟨bR, oR + j, none⟩) hbl).trans (hcell j (by rw [HFR.out]; exact hj)))
        have HBR : Hid (∀ W, Lk c q w W → W.cell? ⟨w.heap.size, 2, none⟩ = some (.slice (some ⟨bR, oR, none⟩) c.fr.length q.cR)) := Lib.hid (fun W hS => by
          have := hS.box.facts.2.2.1
          rw [hq] at this
          exact this)
        clear hcell hbl hq
        obtain ⟨rX, hrX⟩ : ∃ r, Hid (readsE X = r) := ⟨_, Lib.hid rfl⟩
        obtain ⟨wX, hwX⟩ : ∃ r, Hid (writesE X = r) := ⟨_, Lib.hid rfl⟩
        obtain ⟨mX, hmX⟩ : ∃ r, Hid (memE X = r) := ⟨_, Lib.hid rfl⟩
        have KMX := Lib.hid (fun w0 => rMemory_b X mX hmX.out w0)
        have KRX := Lib.hid (fun w0 => rReads_b X rX hrX.out w0)
        have KWX := Lib.hid (fun w0 => rWrites_b X wX hwX.out w0)
        go_wp2
        go_loopw [7] (fun vi wq => ∃ b : Nat, a < b ∧ b ≤ c.N ∧ vi = .int .i64 b ∧ Hid (Co c q es (.slice (some ⟨gE, 0, none⟩) c.N cV) base gP w wq) ∧ Hid (EvAt X gX wq)) (fun vi _ => c.N - (intOf vi).toNat)
        case atStart => exact ⟨a + 1, by omega, by omega, by first | rfl | simp, H2, E2⟩
        case round =>
          obtain ⟨b, hab, hb, rfl, H3, E3⟩ := hrel
          clear H2 E2
          by_cases hblt : b < c.N
          · obtain ⟨gE2, cap2, ev2, _, hra2⟩ := H3.out.ra.rall (by omega)
            injection ev2 with ev1 ev2 ev3
            injection ev1 with ev1
            injection ev1 with ev1
            subst ev1
            clear ev2 ev3
            have HA3 := Lib.hid hra2
            clear hra2
            obtain ⟨Y, hY⟩ : ∃ Y, Hid (evAtN es b = Y) := ⟨_, Lib.hid rfl⟩
            have YF : Hid Y.flat := Lib.hid (by rw [← hY.out]; exact HA3.out.flat_ b hblt)
            have YL : Hid (∃ x y z, Y = (c.at b).1.lists x y z) := Lib.hid (by rw [← hY.out]; exact HA3.out.like b hblt)
            have cly : (LoadE (.pointer (some ⟨gE, b * 14, none⟩))).run Tryz.prog wr = .ok Y.V wr := by rw [← hY.out]; exact load0 HA3.out b hblt
            have z0 : EvAt zeroEv wr.heap.size (wr.alloc (.cells #[.int .i64 0, .int .i64 0, .int .i64 0, .int .u64 0, .int .u64 0, .int .u64 0, .bool false, .bool false, .int .i64 0, .int .i64 0, .int .i64 0, .slice none 0 0, .slice none 0 0, .slice none 0 0] 32)) := EvAt.new zeroEv wr
            obtain ⟨W2, cs2, d2, hb4⟩ := store_made z0 YF.out
            have H4 := Lib.hid (H3.out.on ((box_below wr _).trans hb4))
            have EX4 := Lib.hid (E3.out.on ((box_below wr _).trans hb4))
            have EY4 := Lib.hid d2
            have hbi : (b : Int) < (c.N : Int) := by omega
            have hb0 : (0 : Int) ≤ (b : Int) := by omega
            clear z0 d2 hb4
            go_upto_region 14 with fail
            obtain ⟨gY, hgY⟩ : ∃ g, wr.heap.size = g := ⟨_, rfl⟩
            rw [hgY] at EY4 ⊢
            clear cly H3 E3 hgY
            have clx := run_LoadE EX4.out
            have cly := run_LoadE EY4.out
            obtain ⟨_, x0, _, _, x3, _⟩ := EX4.out.facts
            obtain ⟨_, y0, _, _, y3, _⟩ := EY4.out.facts
            have e2 : IntKind.i64.wrap ((b : Int) + 1) = ((b + 1 : Nat) : Int) := by rw [IntWalk.i64_in _ (by omega)]; omega
            obtain ⟨rY, hrY⟩ : ∃ r, Hid (readsE Y = r) := ⟨_, Lib.hid rfl⟩
            have KRY := Lib.hid (fun w0 => rReads_b Y rY hrY.out w0)
            obtain ⟨n1, h1⟩ : ∃ r, (X.hart != Y.hart) = r := ⟨_, rfl⟩
            have H1h := Lib.hid h1
            cases n1 with
            | true =>
              go_wp2
              go_roundw
              case rel => exact ⟨b + 1, by omega, by omega, by go_num, H4, EX4⟩
              case measure => simp [intOf]; omega
            | false =>
              obtain ⟨n2, h2⟩ : ∃ r, (X.addr != Y.addr) = r := ⟨_, rfl⟩
              have H2h := Lib.hid h2
              cases n2 with
              | true =>
                go_wp2
                go_roundw
                case rel => exact ⟨b + 1, by omega, by omega, by go_num, H4, EX4⟩
                case measure => simp [intOf]; omega
              | false =>
                cases mX with
                | false =>
                  go_wp2_with (go_at_call 27; (with_reducible refine (KMX.out _).mono ?_); rintro e' w7 ⟨rfl, hb⟩; replace H4 := Lib.hid (H4.out.on hb); replace EX4 := Lib.hid (EX4.out.on hb); replace EY4 := Lib.hid (EY4.out.on hb); clear hb clx cly x0 x3 y0 y3; have clx := run_LoadE EX4.out; have cly := run_LoadE EY4.out; obtain ⟨_, x0, _, _, x3, _⟩ := EX4.out.facts; obtain ⟨_, y0, _, _, y3, _⟩ := EY4.out.facts)
                  go_roundw
                  case rel => exact ⟨b + 1, by omega, by omega, by go_num, H4, EX4⟩
                  case measure => simp [intOf]; omega
                | true =>
                  cases rY with
                  | false =>
                    go_wp2_with (first | (go_at_call 27; (with_reducible refine (KMX.out _).mono ?_); rintro e' w7 ⟨rfl, hb⟩; replace H4 := Lib.hid (H4.out.on hb); replace EX4 := Lib.hid (EX4.out.on hb); replace EY4 := Lib.hid (EY4.out.on hb); clear hb clx cly x0 x3 y0 y3; have clx := run_LoadE EX4.out; have cly := run_LoadE EY4.out; obtain ⟨_, x0, _, _, x3, _⟩ := EX4.out.facts; obtain ⟨_, y0, _, _, y3, _⟩ := EY4.out.facts) | (go_at_call 28; (with_reducible refine (KRY.out _).mono ?_); rintro e' w8 ⟨rfl, hb⟩; replace H4 := Lib.hid (H4.out.on hb); replace EX4 := Lib.hid (EX4.out.on hb); replace EY4 := Lib.hid (EY4.out.on hb); clear hb clx cly x0 x3 y0 y3; have clx := run_LoadE EX4.out; have cly := run_LoadE EY4.out; obtain ⟨_, x0, _, _, x3, _⟩ := EX4.out.facts; obtain ⟨_, y0, _, _, y3, _⟩ := EY4.out.facts))
                    go_roundw
                    case rel => exact ⟨b + 1, by omega, by omega, by go_num, H4, EX4⟩
                    case measure => simp [intOf]; omega
                  | true =>
                    go_upto_region 15 with (first | (go_at_call 27; (with_reducible refine (KMX.out _).mono ?_); rintro e' w7 ⟨rfl, hb⟩; replace H4 := Lib.hid (H4.out.on hb); replace EX4 := Lib.hid (EX4.out.on hb); replace EY4 := Lib.hid (EY4.out.on hb); clear hb clx cly x0 x3 y0 y3; have clx := run_LoadE EX4.out; have cly := run_LoadE EY4.out; obtain ⟨_, x0, _, _, x3, _⟩ := EX4.out.facts; obtain ⟨_, y0, _, _, y3, _⟩ := EY4.out.facts) | (go_at_call 28; (with_reducible refine (KRY.out _).mono ?_); rintro e' w8 ⟨rfl, hb⟩; replace H4 := Lib.hid (H4.out.on hb); replace EX4 := Lib.hid (EX4.out.on hb); replace EY4 := Lib.hid (EY4.out.on hb); clear hb clx cly x0 x3 y0 y3; have clx := run_LoadE EX4.out; have cly := run_LoadE EY4.out; obtain ⟨_, x0, _, _, x3, _⟩ := EX4.out.facts; obtain ⟨_, y0, _, _, y3, _⟩ := EY4.out.facts))
                    clear clx cly x0 x3 y0 y3 KMX KRY
                    obtain ⟨fb, hfb⟩ : ∃ v, Hid (atI c.fr b = v) := ⟨_, Lib.hid rfl⟩
                    obtain ⟨fa, hfa⟩ : ∃ v, Hid (atI c.fr a = v) := ⟨_, Lib.hid rfl⟩
                    obtain ⟨pb, hpb⟩ : ∃ v, Hid (plN c fb = v) := ⟨_, Lib.hid rfl⟩
                    obtain ⟨pfa, hpfa⟩ : ∃ v, Hid (plN c fa = v) := ⟨_, Lib.hid rfl⟩
                    obtain ⟨pa, hpa⟩ : ∃ v, Hid (plN c (a : Int) = v) := ⟨_, Lib.hid rfl⟩
                    have KG1 := Lib.hid (fun w0 h0 => age_any c gP w0 h0 fb (by have := fr_in HM.out b hblt; rw [hfb.out] at this; exact this) pb hpb.out)
                    have KG2 := Lib.hid (fun w0 h0 => age_any c gP w0 h0 (a : Int) (InN.at hlt) pa hpa.out)
                    have KG3 := Lib.hid (fun w0 h0 => age_any c gP w0 h0 fa (by have := fr_in HM.out a hlt; rw [hfa.out] at this; exact this) pfa hpfa.out)
                    have FX := Lib.hid (fun W (hc : Co c q es (.slice (some ⟨gE, 0, none⟩) c.N cV) base gP w W) (he : EvAt X gX W) => (show (LoadE (.pointer (some ⟨gX, 0, none⟩))).run Tryz.prog W = .ok X.V W ∧ W.cell? ⟨w.heap.size, 2, none⟩ = some (.slice (some ⟨bR, oR, none⟩) c.fr.length q.cR) ∧ W.cell? ⟨bR, oR + b, none⟩ = some (.int .i64 fb) ∧ W.cell? ⟨bR, oR + a, none⟩ = some (.int .i64 fa) from ⟨run_LoadE he, HBR.out W hc.lk, by have := HC.out W hc.lk b hblt; rw [hfb.out] at this; exact this, by have := HC.out W hc.lk a hlt; rw [hfa.out] at this; exact this⟩))
                    have HHX : Hid ((c.at a).1.hart = (c.at b).1.hart ∧ (c.at a).1.addr = (c.at b).1.addr ∧ readsE (c.at b).1 = true) := Lib.hid (by
                      obtain ⟨_, _, _, ex⟩ := XL.out
                      obtain ⟨_, _, _, ey⟩ := YL.out
                      have t1 := H1h.out
                      have t2 := H2h.out
                      have t3 := hrY.out
                      rw [ex, ey] at t1 t2
                      rw [ey] at t3
                      simp only [bne_eq_false_iff_eq] at t1 t2
                      exact ⟨t1, t2, t3⟩)
                    have DW : Hid (wX = true → decide (pb < pa) = false) := Lib.hid (fun hw => by
                      obtain ⟨_, _, _, ex⟩ := XL.out
                      have t := hwX.out
                      rw [ex, hw] at t
                      have := coherent_w HK.out a b hab hblt HHX.out.1 HHX.out.2.1 HHX.out.2.2 t
                      rw [hfb.out, hpb.out, hpa.out] at this
                      simpa using this)
                    have DR : Hid (rX = true → decide (pb < pfa) = false) := Lib.hid (fun hw => by
                      obtain ⟨_, _, _, ex⟩ := XL.out
                      have t := hrX.out
                      rw [ex, hw] at t
                      have := coherent_r HK.out a b hab hblt HHX.out.1 HHX.out.2.1 HHX.out.2.2 t
                      rw [hfa.out, hfb.out, hpb.out, hpfa.out] at this
                      simpa using this)
                    have HD := Lib.hid (H4.out.on (Below.refl _ _).drew)
                    have ED := Lib.hid (EX4.out.on (Below.refl _ _).drew)
                    have hbf : (b : Int) < (c.fr.length : Int) := by rw [HFR.out]; exact hbi
                    have haf : (a : Int) < (c.fr.length : Int) := by rw [HFR.out]; exact hai
                    go_cut [106] (fun t106 wx => t106 = .bool false ∧ Hid (Co c q es (.slice (some ⟨gE, 0, none⟩) c.N cV) base gP w wx) ∧ Hid (EvAt X gX wx))
                    case first => as_aux_lemma =>
                      clear H4 EX4 EY4 h1 h2
                      cases wX with
                      | true =>
                        have dw := DW.out rfl
                        cases rX with
                        | true =>
                          have dr := DR.out rfl
                          refine wp_region_held_drew (S := (fun w' => (LoadE (.pointer (some ⟨gX, 0, none⟩))).run Tryz.prog w' = .ok X.V w' ∧ w'.cell? ⟨w.heap.size, 2, none⟩ = some (.slice (some ⟨bR, oR, none⟩) c.fr.length q.cR) ∧ w'.cell? ⟨bR, oR + b, none⟩ = some (.int .i64 fb) ∧ w'.cell? ⟨bR, oR + a, none⟩ = some (.int .i64 fa))) (by kernel_rfl) ?_ (fun hHeld => ?_)
                          · exact FX.out _ HD.out ED.out
                          refine wpAnyH_take (i := 0) (oi := ⟨some 71, _, _, _, _, _⟩) (v := X.V) rfl (by kernel_rfl) (by kernel_rfl) (by kernel_rfl) (fun _ _ _ h => h) (Or.inl ⟨by kernel_rfl, fun w hSw => by ((try dsimp only at hSw); go_simp; done)⟩) (by assumption) ?_
                          (try simp only [Act.put, List.setIfInBounds_toArray, List.set_cons_zero, List.set_cons_succ])
                          refine wpAnyH_ready (rs := [1]) (by kernel_rfl) (by simp) ?_
                          refine AllReadyH.cons (o := ⟨some 72, _, _, _, _, _⟩) rfl (fun K hK => ?_) AllReadyH.nil
                          go_simp
                          ((go_at_call 29; (with_reducible refine (KWX.out _).mono ?_); rintro e' w9 ⟨rfl, hb⟩; replace HD := Lib.hid (HD.out.on hb); replace ED := Lib.hid (ED.out.on hb); clear hb))
                          (try go_wp2_with fail)
                          refine hK.out _ _ ?_ (fun hHeld => ?_)
                          · exact FX.out _ HD.out ED.out
                          clear hK K
                          (try simp only [Act.put, List.setIfInBounds_toArray, List.set_cons_zero, List.set_cons_succ])
                          refine wpAnyH_take (i := 2) (oi := ⟨some 73, _, _, _, _, _⟩) (v := .bool true) rfl (by kernel_rfl) (by kernel_rfl) (by kernel_rfl) (fun _ _ _ h => h) (Or.inl ⟨by kernel_rfl, fun w hSw => by ((try dsimp only at hSw); go_simp; done)⟩) (by assumption) ?_
                          (try simp only [Act.put, List.setIfInBounds_toArray, List.set_cons_zero, List.set_cons_succ])
                          refine wpAnyH_take (i := 3) (oi := ⟨some 74, _, _, _, _, _⟩) (v := .slice (some ⟨gP, 0, none⟩) c.N c.N) rfl (by kernel_rfl) (by kernel_rfl) (by kernel_rfl) (fun _ _ _ h => h) (Or.inl ⟨by kernel_rfl, fun w hSw => by ((try dsimp only at hSw); go_simp; done)⟩) (by assumption) ?_
                          (try simp only [Act.put, List.setIfInBounds_toArray, List.set_cons_zero, List.set_cons_succ])
                          refine wpAnyH_take (i := 4) (oi := ⟨some 75, _, _, _, _, _⟩) (v := .pointer (some ⟨w.heap.size, 2, none⟩)) rfl (by kernel_rfl) (by kernel_rfl) (by kernel_rfl) (fun _ _ _ h => h) (Or.inl ⟨by kernel_rfl, fun w hSw => by ((try dsimp only at hSw); go_simp; done)⟩) (by assumption) ?_
                          (try simp only [Act.put, List.setIfInBounds_toArray, List.set_cons_zero, List.set_cons_succ])
                          refine wpAnyH_take (i := 5) (oi := ⟨some 76, _, _, _, _, _⟩) (v := .slice (some ⟨bR, oR, none⟩) c.fr.length q.cR) rfl (by kernel_rfl) (by kernel_rfl) (by kernel_rfl) (fun _ _ _ h => h) (Or.inl ⟨by kernel_rfl, fun w hSw => by ((try dsimp only at hSw); go_simp; done)⟩) (by assumption) ?_
                          (try simp only [Act.put, List.setIfInBounds_toArray, List.set_cons_zero, List.set_cons_succ])
                          refine wpAnyH_take (i := 6) (oi := ⟨some 77, _, _, _, _, _⟩) (v := .int .i64 (b : Int)) rfl (by kernel_rfl) (by kernel_rfl) (by kernel_rfl) (fun _ _ _ h => h) (Or.inl ⟨by kernel_rfl, fun w hSw => by ((try dsimp only at hSw); go_simp; done)⟩) (by assumption) ?_
                          (try simp only [Act.put, List.setIfInBounds_toArray, List.set_cons_zero, List.set_cons_succ])
                          refine wpAnyH_take (i := 7) (oi := ⟨some 78, _, _, _, _, _⟩) (v := .pointer (some ⟨bR, oR + b, none⟩)) rfl (by kernel_rfl) (by kernel_rfl) (by kernel_rfl) (fun _ _ _ h => h) (Or.inl ⟨by kernel_rfl, fun w hSw => by ((try dsimp only at hSw); go_simp; done)⟩) (by assumption) ?_
                          (try simp only [Act.put, List.setIfInBounds_toArray, List.set_cons_zero, List.set_cons_succ])
                          refine wpAnyH_take (i := 8) (oi := ⟨some 79, _, _, _, _, _⟩) (v := .int .i64 fb) rfl (by kernel_rfl) (by kernel_rfl) (by kernel_rfl) (fun _ _ _ h => h) (Or.inl ⟨by kernel_rfl, fun w hSw => by ((try dsimp only at hSw); go_simp; done)⟩) (by assumption) ?_
                          (try simp only [Act.put, List.setIfInBounds_toArray, List.set_cons_zero, List.set_cons_succ])
                          refine wpAnyH_take (i := 10) (oi := ⟨some 81, _, _, _, _, _⟩) (v := .slice (some ⟨gP, 0, none⟩) c.N c.N) rfl (by kernel_rfl) (by kernel_rfl) (by kernel_rfl) (fun _ _ _ h => h) (Or.inl ⟨by kernel_rfl, fun w hSw => by ((try dsimp only at hSw); go_simp; done)⟩) (by assumption) ?_
                          (try simp only [Act.put, List.setIfInBounds_toArray, List.set_cons_zero, List.set_cons_succ])
                          refine wpAnyH_take (i := 11) (oi := ⟨some 82, _, _, _, _, _⟩) (v := .int .i64 (a : Int)) rfl (by kernel_rfl) (by kernel_rfl) (by kernel_rfl) (fun _ _ _ h => h) (Or.inl ⟨by kernel_rfl, fun w hSw => by ((try dsimp only at hSw); go_simp; done)⟩) (by assumption) ?_
                          (try simp only [Act.put, List.setIfInBounds_toArray, List.set_cons_zero, List.set_cons_succ])
                          refine wpAnyH_ready (rs := [9]) (by kernel_rfl) (by simp) ?_
                          refine AllReadyH.cons (o := ⟨some 80, _, _, _, _, _⟩) rfl (fun K hK => ?_) AllReadyH.nil
                          go_simp
                          ((go_at_call 30; (with_reducible refine (KG1.out _ HD.out.pl).mono ?_); rintro e' w10 ⟨rfl, rfl⟩))
                          (try go_wp2_with fail)
                          refine hK.out _ _ ?_ (fun hHeld => ?_)
                          · exact FX.out _ HD.out ED.out
                          clear hK K
                          (try simp only [Act.put, List.setIfInBounds_toArray, List.set_cons_zero, List.set_cons_succ])
                          refine wpAnyH_ready (rs := [12]) (by kernel_rfl) (by simp) ?_
                          refine AllReadyH.cons (o := ⟨some 83, _, _, _, _, _⟩) rfl (fun K hK => ?_) AllReadyH.nil
                          go_simp
                          ((go_at_call 30; (with_reducible refine (KG2.out _ HD.out.pl).mono ?_); rintro e' w10 ⟨rfl, rfl⟩))
                          (try go_wp2_with fail)
                          refine hK.out _ _ ?_ (fun hHeld => ?_)
                          · exact FX.out _ HD.out ED.out
                          clear hK K
                          (try simp only [Act.put, List.setIfInBounds_toArray, List.set_cons_zero, List.set_cons_succ])
                          refine wpAnyH_take (i := 13) (oi := ⟨some 84, _, _, _, _, _⟩) (v := .bool false) rfl (by kernel_rfl) (by kernel_rfl) (by kernel_rfl) (fun _ _ _ h => h) (Or.inl ⟨by kernel_rfl, fun w hSw => by ((try dsimp only at hSw); go_simp; done)⟩) (by assumption) ?_
                          (try simp only [Act.put, List.setIfInBounds_toArray, List.set_cons_zero, List.set_cons_succ])
                          refine wpAnyH_take (i := 14) (oi := ⟨some 85, _, _, _, _, _⟩) (v := .bool false) rfl (by kernel_rfl) (by kernel_rfl) (by kernel_rfl) (fun _ _ _ h => h) (Or.inl ⟨by kernel_rfl, fun w hSw => by ((try dsimp only at hSw); go_simp; done)⟩) (by assumption) ?_
                          (try simp only [Act.put, List.setIfInBounds_toArray, List.set_cons_zero, List.set_cons_succ])
                          refine wpAnyH_take (i := 15) (oi := ⟨some 86, _, _, _, _, _⟩) (v := .bool false) rfl (by kernel_rfl) (by kernel_rfl) (by kernel_rfl) (fun _ _ _ h => h) (Or.inl ⟨by kernel_rfl, fun w hSw => by ((try dsimp only at hSw); go_simp; done)⟩) (by assumption) ?_
                          (try simp only [Act.put, List.setIfInBounds_toArray, List.set_cons_zero, List.set_cons_succ])
                          refine wpAnyH_take (i := 16) (oi := ⟨some 87, _, _, _, _, _⟩) (v := X.V) rfl (by kernel_rfl) (by kernel_rfl) (by kernel_rfl) (fun _ _ _ h => h) (Or.inl ⟨by kernel_rfl, fun w hSw => by ((try dsimp only at hSw); go_simp; done)⟩) (by assumption) ?_
                          (try simp only [Act.put, List.setIfInBounds_toArray, List.set_cons_zero, List.set_cons_succ])
                          refine wpAnyH_ready (rs := [17]) (by kernel_rfl) (by simp) ?_
                          refine AllReadyH.cons (o := ⟨some 88, _, _, _, _, _⟩) rfl (fun K hK => ?_) AllReadyH.nil
                          go_simp
                          ((go_at_call 28; (with_reducible refine (KRX.out _).mono ?_); rintro e' w11 ⟨rfl, hb⟩; replace HD := Lib.hid (HD.out.on hb); replace ED := Lib.hid (ED.out.on hb); clear hb))
                          (try go_wp2_with fail)
                          refine hK.out _ _ ?_ (fun hHeld => ?_)
                          · exact FX.out _ HD.out ED.out
                          clear hK K
                          (try simp only [Act.put, List.setIfInBounds_toArray, List.set_cons_zero, List.set_cons_succ])
                          refine wpAnyH_take (i := 18) (oi := ⟨some 89, _, _, _, _, _⟩) (v := .bool true) rfl (by kernel_rfl) (by kernel_rfl) (by kernel_rfl) (fun _ _ _ h => h) (Or.inl ⟨by kernel_rfl, fun w hSw => by ((try dsimp only at hSw); go_simp; done)⟩) (by assumption) ?_
                          (try simp only [Act.put, List.setIfInBounds_toArray, List.set_cons_zero, List.set_cons_succ])
                          refine wpAnyH_take (i := 19) (oi := ⟨some 90, _, _, _, _, _⟩) (v := .slice (some ⟨gP, 0, none⟩) c.N c.N) rfl (by kernel_rfl) (by kernel_rfl) (by kernel_rfl) (fun _ _ _ h => h) (Or.inl ⟨by kernel_rfl, fun w hSw => by ((try dsimp only at hSw); go_simp; done)⟩) (by assumption) ?_
                          (try simp only [Act.put, List.setIfInBounds_toArray, List.set_cons_zero, List.set_cons_succ])
                          refine wpAnyH_take (i := 20) (oi := ⟨some 91, _, _, _, _, _⟩) (v := .pointer (some ⟨w.heap.size, 2, none⟩)) rfl (by kernel_rfl) (by kernel_rfl) (by kernel_rfl) (fun _ _ _ h => h) (Or.inl ⟨by kernel_rfl, fun w hSw => by ((try dsimp only at hSw); go_simp; done)⟩) (by assumption) ?_
                          (try simp only [Act.put, List.setIfInBounds_toArray, List.set_cons_zero, List.set_cons_succ])
                          refine wpAnyH_take (i := 21) (oi := ⟨some 92, _, _, _, _, _⟩) (v := .slice (some ⟨bR, oR, none⟩) c.fr.length q.cR) rfl (by kernel_rfl) (by kernel_rfl) (by kernel_rfl) (fun _ _ _ h => h) (Or.inl ⟨by kernel_rfl, fun w hSw => by ((try dsimp only at hSw); go_simp; done)⟩) (by assumption) ?_
                          (try simp only [Act.put, List.setIfInBounds_toArray, List.set_cons_zero, List.set_cons_succ])
                          refine wpAnyH_take (i := 22) (oi := ⟨some 93, _, _, _, _, _⟩) (v := .int .i64 (b : Int)) rfl (by kernel_rfl) (by kernel_rfl) (by kernel_rfl) (fun _ _ _ h => h) (Or.inl ⟨by kernel_rfl, fun w hSw => by ((try dsimp only at hSw); go_simp; done)⟩) (by assumption) ?_
                          (try simp only [Act.put, List.setIfInBounds_toArray, List.set_cons_zero, List.set_cons_succ])
                          refine wpAnyH_take (i := 23) (oi := ⟨some 94, _, _, _, _, _⟩) (v := .pointer (some ⟨bR, oR + b, none⟩)) rfl (by kernel_rfl) (by kernel_rfl) (by kernel_rfl) (fun _ _ _ h => h) (Or.inl ⟨by kernel_rfl, fun w hSw => by ((try dsimp only at hSw); go_simp; done)⟩) (by assumption) ?_
                          (try simp only [Act.put, List.setIfInBounds_toArray, List.set_cons_zero, List.set_cons_succ])
                          refine wpAnyH_take (i := 24) (oi := ⟨some 95, _, _, _, _, _⟩) (v := .int .i64 fb) rfl (by kernel_rfl) (by kernel_rfl) (by kernel_rfl) (fun _ _ _ h => h) (Or.inl ⟨by kernel_rfl, fun w hSw => by ((try dsimp only at hSw); go_simp; done)⟩) (by assumption) ?_
                          (try simp only [Act.put, List.setIfInBounds_toArray, List.set_cons_zero, List.set_cons_succ])
                          refine wpAnyH_take (i := 26) (oi := ⟨some 97, _, _, _, _, _⟩) (v := .slice (some ⟨gP, 0, none⟩) c.N c.N) rfl (by kernel_rfl) (by kernel_rfl) (by kernel_rfl) (fun _ _ _ h => h) (Or.inl ⟨by kernel_rfl, fun w hSw => by ((try dsimp only at hSw); go_simp; done)⟩) (by assumption) ?_
                          (try simp only [Act.put, List.setIfInBounds_toArray, List.set_cons_zero, List.set_cons_succ])
                          refine wpAnyH_take (i := 27) (oi := ⟨some 98, _, _, _, _, _⟩) (v := .pointer (some ⟨w.heap.size, 2, none⟩)) rfl (by kernel_rfl) (by kernel_rfl) (by kernel_rfl) (fun _ _ _ h => h) (Or.inl ⟨by kernel_rfl, fun w hSw => by ((try dsimp only at hSw); go_simp; done)⟩) (by assumption) ?_
                          (try simp only [Act.put, List.setIfInBounds_toArray, List.set_cons_zero, List.set_cons_succ])
                          refine wpAnyH_take (i := 28) (oi := ⟨some 99, _, _, _, _, _⟩) (v := .slice (some ⟨bR, oR, none⟩) c.fr.length q.cR) rfl (by kernel_rfl) (by kernel_rfl) (by kernel_rfl) (fun _ _ _ h => h) (Or.inl ⟨by kernel_rfl, fun w hSw => by ((try dsimp only at hSw); go_simp; done)⟩) (by assumption) ?_
                          (try simp only [Act.put, List.setIfInBounds_toArray, List.set_cons_zero, List.set_cons_succ])
                          refine wpAnyH_take (i := 29) (oi := ⟨some 100, _, _, _, _, _⟩) (v := .int .i64 (a : Int)) rfl (by kernel_rfl) (by kernel_rfl) (by kernel_rfl) (fun _ _ _ h => h) (Or.inl ⟨by kernel_rfl, fun w hSw => by ((try dsimp only at hSw); go_simp; done)⟩) (by assumption) ?_
                          (try simp only [Act.put, List.setIfInBounds_toArray, List.set_cons_zero, List.set_cons_succ])
                          refine wpAnyH_take (i := 30) (oi := ⟨some 101, _, _, _, _, _⟩) (v := .pointer (some ⟨bR, oR + a, none⟩)) rfl (by kernel_rfl) (by kernel_rfl) (by kernel_rfl) (fun _ _ _ h => h) (Or.inl ⟨by kernel_rfl, fun w hSw => by ((try dsimp only at hSw); go_simp; done)⟩) (by assumption) ?_
                          (try simp only [Act.put, List.setIfInBounds_toArray, List.set_cons_zero, List.set_cons_succ])
                          refine wpAnyH_take (i := 31) (oi := ⟨some 102, _, _, _, _, _⟩) (v := .int .i64 fa) rfl (by kernel_rfl) (by kernel_rfl) (by kernel_rfl) (fun _ _ _ h => h) (Or.inl ⟨by kernel_rfl, fun w hSw => by ((try dsimp only at hSw); go_simp; done)⟩) (by assumption) ?_
                          (try simp only [Act.put, List.setIfInBounds_toArray, List.set_cons_zero, List.set_cons_succ])
                          refine wpAnyH_ready (rs := [25]) (by kernel_rfl) (by simp) ?_
                          refine AllReadyH.cons (o := ⟨some 96, _, _, _, _, _⟩) rfl (fun K hK => ?_) AllReadyH.nil
                          go_simp
                          ((go_at_call 30; (with_reducible refine (KG1.out _ HD.out.pl).mono ?_); rintro e' w10 ⟨rfl, rfl⟩))
                          (try go_wp2_with fail)
                          refine hK.out _ _ ?_ (fun hHeld => ?_)
                          · exact FX.out _ HD.out ED.out
                          clear hK K
                          (try simp only [Act.put, List.setIfInBounds_toArray, List.set_cons_zero, List.set_cons_succ])
                          refine wpAnyH_ready (rs := [32]) (by kernel_rfl) (by simp) ?_
                          refine AllReadyH.cons (o := ⟨some 103, _, _, _, _, _⟩) rfl (fun K hK => ?_) AllReadyH.nil
                          go_simp
                          ((go_at_call 30; (with_reducible refine (KG3.out _ HD.out.pl).mono ?_); rintro e' w10 ⟨rfl, rfl⟩))
                          (try go_wp2_with fail)
                          refine hK.out _ _ ?_ (fun hHeld => ?_)
                          · exact FX.out _ HD.out ED.out
                          clear hK K
                          (try simp only [Act.put, List.setIfInBounds_toArray, List.set_cons_zero, List.set_cons_succ])
                          refine wpAnyH_take (i := 33) (oi := ⟨some 104, _, _, _, _, _⟩) (v := .bool false) rfl (by kernel_rfl) (by kernel_rfl) (by kernel_rfl) (fun _ _ _ h => h) (Or.inl ⟨by kernel_rfl, fun w hSw => by ((try dsimp only at hSw); go_simp; done)⟩) (by assumption) ?_
                          (try simp only [Act.put, List.setIfInBounds_toArray, List.set_cons_zero, List.set_cons_succ])
                          refine wpAnyH_take (i := 34) (oi := ⟨some 105, _, _, _, _, _⟩) (v := .bool false) rfl (by kernel_rfl) (by kernel_rfl) (by kernel_rfl) (fun _ _ _ h => h) (Or.inl ⟨by kernel_rfl, fun w hSw => by ((try dsimp only at hSw); go_simp; done)⟩) (by assumption) ?_
                          (try simp only [Act.put, List.setIfInBounds_toArray, List.set_cons_zero, List.set_cons_succ])
                          refine wpAnyH_take (i := 35) (oi := ⟨some 106, _, _, _, _, _⟩) (v := .bool false) rfl (by kernel_rfl) (by kernel_rfl) (by kernel_rfl) (fun _ _ _ h => h) (Or.inl ⟨by kernel_rfl, fun w hSw => by ((try dsimp only at hSw); go_simp; done)⟩) (by assumption) ?_
                          (try simp only [Act.put, List.setIfInBounds_toArray, List.set_cons_zero, List.set_cons_succ])
                          refine wpAnyH_done (by kernel_rfl) ?_ _
                          go_wp2_with fail
                          go_meet
                          exact ⟨rfl, HD, ED⟩
                        | false =>
                          refine wp_region_held_drew (S := (fun w' => (LoadE (.pointer (some ⟨gX, 0, none⟩))).run Tryz.prog w' = .ok X.V w' ∧ w'.cell? ⟨w.heap.size, 2, none⟩ = some (.slice (some ⟨bR, oR, none⟩) c.fr.length q.cR) ∧ w'.cell? ⟨bR, oR + b, none⟩ = some (.int .i64 fb) ∧ w'.cell? ⟨bR, oR + a, none⟩ = some (.int .i64 fa))) (by kernel_rfl) ?_ (fun hHeld => ?_)
                          · exact FX.out _ HD.out ED.out
                          refine wpAnyH_take (i := 0) (oi := ⟨some 71, _, _, _, _, _⟩) (v := X.V) rfl (by kernel_rfl) (by kernel_rfl) (by kernel_rfl) (fun _ _ _ h => h) (Or.inl ⟨by kernel_rfl, fun w hSw => by ((try dsimp only at hSw); go_simp; done)⟩) (by assumption) ?_
                          (try simp only [Act.put, List.setIfInBounds_toArray, List.set_cons_zero, List.set_cons_succ])
                          refine wpAnyH_ready (rs := [1]) (by kernel_rfl) (by simp) ?_
                          refine AllReadyH.cons (o := ⟨some 72, _, _, _, _, _⟩) rfl (fun K hK => ?_) AllReadyH.nil
                          go_simp
                          ((go_at_call 29; (with_reducible refine (KWX.out _).mono ?_); rintro e' w9 ⟨rfl, hb⟩; replace HD := Lib.hid (HD.out.on hb); replace ED := Lib.hid (ED.out.on hb); clear hb))
                          (try go_wp2_with fail)
                          refine hK.out _ _ ?_ (fun hHeld => ?_)
                          · exact FX.out _ HD.out ED.out
                          clear hK K
                          (try simp only [Act.put, List.setIfInBounds_toArray, List.set_cons_zero, List.set_cons_succ])
                          refine wpAnyH_take (i := 2) (oi := ⟨some 73, _, _, _, _, _⟩) (v := .bool true) rfl (by kernel_rfl) (by kernel_rfl) (by kernel_rfl) (fun _ _ _ h => h) (Or.inl ⟨by kernel_rfl, fun w hSw => by ((try dsimp only at hSw); go_simp; done)⟩) (by assumption) ?_
                          (try simp only [Act.put, List.setIfInBounds_toArray, List.set_cons_zero, List.set_cons_succ])
                          refine wpAnyH_take (i := 3) (oi := ⟨some 74, _, _, _, _, _⟩) (v := .slice (some ⟨gP, 0, none⟩) c.N c.N) rfl (by kernel_rfl) (by kernel_rfl) (by kernel_rfl) (fun _ _ _ h => h) (Or.inl ⟨by kernel_rfl, fun w hSw => by ((try dsimp only at hSw); go_simp; done)⟩) (by assumption) ?_
                          (try simp only [Act.put, List.setIfInBounds_toArray, List.set_cons_zero, List.set_cons_succ])
                          refine wpAnyH_take (i := 4) (oi := ⟨some 75, _, _, _, _, _⟩) (v := .pointer (some ⟨w.heap.size, 2, none⟩)) rfl (by kernel_rfl) (by kernel_rfl) (by kernel_rfl) (fun _ _ _ h => h) (Or.inl ⟨by kernel_rfl, fun w hSw => by ((try dsimp only at hSw); go_simp; done)⟩) (by assumption) ?_
                          (try simp only [Act.put, List.setIfInBounds_toArray, List.set_cons_zero, List.set_cons_succ])
                          refine wpAnyH_take (i := 5) (oi := ⟨some 76, _, _, _, _, _⟩) (v := .slice (some ⟨bR, oR, none⟩) c.fr.length q.cR) rfl (by kernel_rfl) (by kernel_rfl) (by kernel_rfl) (fun _ _ _ h => h) (Or.inl ⟨by kernel_rfl, fun w hSw => by ((try dsimp only at hSw); go_simp; done)⟩) (by assumption) ?_
                          (try simp only [Act.put, List.setIfInBounds_toArray, List.set_cons_zero, List.set_cons_succ])
                          refine wpAnyH_take (i := 6) (oi := ⟨some 77, _, _, _, _, _⟩) (v := .int .i64 (b : Int)) rfl (by kernel_rfl) (by kernel_rfl) (by kernel_rfl) (fun _ _ _ h => h) (Or.inl ⟨by kernel_rfl, fun w hSw => by ((try dsimp only at hSw); go_simp; done)⟩) (by assumption) ?_
                          (try simp only [Act.put, List.setIfInBounds_toArray, List.set_cons_zero, List.set_cons_succ])
                          refine wpAnyH_take (i := 7) (oi := ⟨some 78, _, _, _, _, _⟩) (v := .pointer (some ⟨bR, oR + b, none⟩)) rfl (by kernel_rfl) (by kernel_rfl) (by kernel_rfl) (fun _ _ _ h => h) (Or.inl ⟨by kernel_rfl, fun w hSw => by ((try dsimp only at hSw); go_simp; done)⟩) (by assumption) ?_
                          (try simp only [Act.put, List.setIfInBounds_toArray, List.set_cons_zero, List.set_cons_succ])
                          refine wpAnyH_take (i := 8) (oi := ⟨some 79, _, _, _, _, _⟩) (v := .int .i64 fb) rfl (by kernel_rfl) (by kernel_rfl) (by kernel_rfl) (fun _ _ _ h => h) (Or.inl ⟨by kernel_rfl, fun w hSw => by ((try dsimp only at hSw); go_simp; done)⟩) (by assumption) ?_
                          (try simp only [Act.put, List.setIfInBounds_toArray, List.set_cons_zero, List.set_cons_succ])
                          refine wpAnyH_take (i := 10) (oi := ⟨some 81, _, _, _, _, _⟩) (v := .slice (some ⟨gP, 0, none⟩) c.N c.N) rfl (by kernel_rfl) (by kernel_rfl) (by kernel_rfl) (fun _ _ _ h => h) (Or.inl ⟨by kernel_rfl, fun w hSw => by ((try dsimp only at hSw); go_simp; done)⟩) (by assumption) ?_
                          (try simp only [Act.put, List.setIfInBounds_toArray, List.set_cons_zero, List.set_cons_succ])
                          refine wpAnyH_take (i := 11) (oi := ⟨some 82, _, _, _, _, _⟩) (v := .int .i64 (a : Int)) rfl (by kernel_rfl) (by kernel_rfl) (by kernel_rfl) (fun _ _ _ h => h) (Or.inl ⟨by kernel_rfl, fun w hSw => by ((try dsimp only at hSw); go_simp; done)⟩) (by assumption) ?_
                          (try simp only [Act.put, List.setIfInBounds_toArray, List.set_cons_zero, List.set_cons_succ])
                          refine wpAnyH_ready (rs := [9]) (by kernel_rfl) (by simp) ?_
                          refine AllReadyH.cons (o := ⟨some 80, _, _, _, _, _⟩) rfl (fun K hK => ?_) AllReadyH.nil
                          go_simp
                          ((go_at_call 30; (with_reducible refine (KG1.out _ HD.out.pl).mono ?_); rintro e' w10 ⟨rfl, rfl⟩))
                          (try go_wp2_with fail)
                          refine hK.out _ _ ?_ (fun hHeld => ?_)
                          · exact FX.out _ HD.out ED.out
                          clear hK K
                          (try simp only [Act.put, List.setIfInBounds_toArray, List.set_cons_zero, List.set_cons_succ])
                          refine wpAnyH_ready (rs := [12]) (by kernel_rfl) (by simp) ?_
                          refine AllReadyH.cons (o := ⟨some 83, _, _, _, _, _⟩) rfl (fun K hK => ?_) AllReadyH.nil
                          go_simp
                          ((go_at_call 30; (with_reducible refine (KG2.out _ HD.out.pl).mono ?_); rintro e' w10 ⟨rfl, rfl⟩))
                          (try go_wp2_with fail)
                          refine hK.out _ _ ?_ (fun hHeld => ?_)
                          · exact FX.out _ HD.out ED.out
                          clear hK K
                          (try simp only [Act.put, List.setIfInBounds_toArray, List.set_cons_zero, List.set_cons_succ])
                          refine wpAnyH_take (i := 13) (oi := ⟨some 84, _, _, _, _, _⟩) (v := .bool false) rfl (by kernel_rfl) (by kernel_rfl) (by kernel_rfl) (fun _ _ _ h => h) (Or.inl ⟨by kernel_rfl, fun w hSw => by ((try dsimp only at hSw); go_simp; done)⟩) (by assumption) ?_
                          (try simp only [Act.put, List.setIfInBounds_toArray, List.set_cons_zero, List.set_cons_succ])
                          refine wpAnyH_take (i := 14) (oi := ⟨some 85, _, _, _, _, _⟩) (v := .bool false) rfl (by kernel_rfl) (by kernel_rfl) (by kernel_rfl) (fun _ _ _ h => h) (Or.inl ⟨by kernel_rfl, fun w hSw => by ((try dsimp only at hSw); go_simp; done)⟩) (by assumption) ?_
                          (try simp only [Act.put, List.setIfInBounds_toArray, List.set_cons_zero, List.set_cons_succ])
                          refine wpAnyH_take (i := 15) (oi := ⟨some 86, _, _, _, _, _⟩) (v := .bool false) rfl (by kernel_rfl) (by kernel_rfl) (by kernel_rfl) (fun _ _ _ h => h) (Or.inl ⟨by kernel_rfl, fun w hSw => by ((try dsimp only at hSw); go_simp; done)⟩) (by assumption) ?_
                          (try simp only [Act.put, List.setIfInBounds_toArray, List.set_cons_zero, List.set_cons_succ])
                          refine wpAnyH_take (i := 16) (oi := ⟨some 87, _, _, _, _, _⟩) (v := X.V) rfl (by kernel_rfl) (by kernel_rfl) (by kernel_rfl) (fun _ _ _ h => h) (Or.inl ⟨by kernel_rfl, fun w hSw => by ((try dsimp only at hSw); go_simp; done)⟩) (by assumption) ?_
                          (try simp only [Act.put, List.setIfInBounds_toArray, List.set_cons_zero, List.set_cons_succ])
                          refine wpAnyH_ready (rs := [17]) (by kernel_rfl) (by simp) ?_
                          refine AllReadyH.cons (o := ⟨some 88, _, _, _, _, _⟩) rfl (fun K hK => ?_) AllReadyH.nil
                          go_simp
                          ((go_at_call 28; (with_reducible refine (KRX.out _).mono ?_); rintro e' w11 ⟨rfl, hb⟩; replace HD := Lib.hid (HD.out.on hb); replace ED := Lib.hid (ED.out.on hb); clear hb))
                          (try go_wp2_with fail)
                          refine hK.out _ _ ?_ (fun hHeld => ?_)
                          · exact FX.out _ HD.out ED.out
                          clear hK K
                          (try simp only [Act.put, List.setIfInBounds_toArray, List.set_cons_zero, List.set_cons_succ])
                          refine wpAnyH_take (i := 18) (oi := ⟨some 89, _, _, _, _, _⟩) (v := .bool false) rfl (by kernel_rfl) (by kernel_rfl) (by kernel_rfl) (fun _ _ _ h => h) (Or.inl ⟨by kernel_rfl, fun w hSw => by ((try dsimp only at hSw); go_simp; done)⟩) (by assumption) ?_
                          (try simp only [Act.put, List.setIfInBounds_toArray, List.set_cons_zero, List.set_cons_succ])
                          refine wpAnyH_take (i := 19) (oi := ⟨some 90, _, _, _, _, _⟩) (v := undef) rfl (by kernel_rfl) (by kernel_rfl) (by kernel_rfl) (fun _ _ _ h => h) (Or.inr ⟨by kernel_rfl, rfl⟩) (by assumption) ?_
                          (try simp only [Act.put, List.setIfInBounds_toArray, List.set_cons_zero, List.set_cons_succ])
                          refine wpAnyH_take (i := 20) (oi := ⟨some 91, _, _, _, _, _⟩) (v := undef) rfl (by kernel_rfl) (by kernel_rfl) (by kernel_rfl) (fun _ _ _ h => h) (Or.inr ⟨by kernel_rfl, rfl⟩) (by assumption) ?_
                          (try simp only [Act.put, List.setIfInBounds_toArray, List.set_cons_zero, List.set_cons_succ])
                          refine wpAnyH_take (i := 21) (oi := ⟨some 92, _, _, _, _, _⟩) (v := undef) rfl (by kernel_rfl) (by kernel_rfl) (by kernel_rfl) (fun _ _ _ h => h) (Or.inr ⟨by kernel_rfl, rfl⟩) (by assumption) ?_
                          (try simp only [Act.put, List.setIfInBounds_toArray, List.set_cons_zero, List.set_cons_succ])
                          refine wpAnyH_take (i := 22) (oi := ⟨some 93, _, _, _, _, _⟩) (v := undef) rfl (by kernel_rfl) (by kernel_rfl) (by kernel_rfl) (fun _ _ _ h => h) (Or.inr ⟨by kernel_rfl, rfl⟩) (by assumption) ?_
                          (try simp only [Act.put, List.setIfInBounds_toArray, List.set_cons_zero, List.set_cons_succ])
                          refine wpAnyH_take (i := 23) (oi := ⟨some 94, _, _, _, _, _⟩) (v := undef) rfl (by kernel_rfl) (by kernel_rfl) (by kernel_rfl) (fun _ _ _ h => h) (Or.inr ⟨by kernel_rfl, rfl⟩) (by assumption) ?_
                          (try simp only [Act.put, List.setIfInBounds_toArray, List.set_cons_zero, List.set_cons_succ])
                          refine wpAnyH_take (i := 24) (oi := ⟨some 95, _, _, _, _, _⟩) (v := undef) rfl (by kernel_rfl) (by kernel_rfl) (by kernel_rfl) (fun _ _ _ h => h) (Or.inr ⟨by kernel_rfl, rfl⟩) (by assumption) ?_
                          (try simp only [Act.put, List.setIfInBounds_toArray, List.set_cons_zero, List.set_cons_succ])
                          refine wpAnyH_take (i := 25) (oi := ⟨some 96, _, _, _, _, _⟩) (v := undef) rfl (by kernel_rfl) (by kernel_rfl) (by kernel_rfl) (fun _ _ _ h => h) (Or.inr ⟨by kernel_rfl, rfl⟩) (by assumption) ?_
                          (try simp only [Act.put, List.setIfInBounds_toArray, List.set_cons_zero, List.set_cons_succ])
                          refine wpAnyH_take (i := 26) (oi := ⟨some 97, _, _, _, _, _⟩) (v := undef) rfl (by kernel_rfl) (by kernel_rfl) (by kernel_rfl) (fun _ _ _ h => h) (Or.inr ⟨by kernel_rfl, rfl⟩) (by assumption) ?_
                          (try simp only [Act.put, List.setIfInBounds_toArray, List.set_cons_zero, List.set_cons_succ])
                          refine wpAnyH_take (i := 27) (oi := ⟨some 98, _, _, _, _, _⟩) (v := undef) rfl (by kernel_rfl) (by kernel_rfl) (by kernel_rfl) (fun _ _ _ h => h) (Or.inr ⟨by kernel_rfl, rfl⟩) (by assumption) ?_
                          (try simp only [Act.put, List.setIfInBounds_toArray, List.set_cons_zero, List.set_cons_succ])
                          refine wpAnyH_take (i := 28) (oi := ⟨some 99, _, _, _, _, _⟩) (v := undef) rfl (by kernel_rfl) (by kernel_rfl) (by kernel_rfl) (fun _ _ _ h => h) (Or.inr ⟨by kernel_rfl, rfl⟩) (by assumption) ?_
                          (try simp only [Act.put, List.setIfInBounds_toArray, List.set_cons_zero, List.set_cons_succ])
                          refine wpAnyH_take (i := 29) (oi := ⟨some 100, _, _, _, _, _⟩) (v := undef) rfl (by kernel_rfl) (by kernel_rfl) (by kernel_rfl) (fun _ _ _ h => h) (Or.inr ⟨by kernel_rfl, rfl⟩) (by assumption) ?_
                          (try simp only [Act.put, List.setIfInBounds_toArray, List.set_cons_zero, List.set_cons_succ])
                          refine wpAnyH_take (i := 30) (oi := ⟨some 101, _, _, _, _, _⟩) (v := undef) rfl (by kernel_rfl) (by kernel_rfl) (by kernel_rfl) (fun _ _ _ h => h) (Or.inr ⟨by kernel_rfl, rfl⟩) (by assumption) ?_
                          (try simp only [Act.put, List.setIfInBounds_toArray, List.set_cons_zero, List.set_cons_succ])
                          refine wpAnyH_take (i := 31) (oi := ⟨some 102, _, _, _, _, _⟩) (v := undef) rfl (by kernel_rfl) (by kernel_rfl) (by kernel_rfl) (fun _ _ _ h => h) (Or.inr ⟨by kernel_rfl, rfl⟩) (by assumption) ?_
                          (try simp only [Act.put, List.setIfInBounds_toArray, List.set_cons_zero, List.set_cons_succ])
                          refine wpAnyH_take (i := 32) (oi := ⟨some 103, _, _, _, _, _⟩) (v := undef) rfl (by kernel_rfl) (by kernel_rfl) (by kernel_rfl) (fun _ _ _ h => h) (Or.inr ⟨by kernel_rfl, rfl⟩) (by assumption) ?_
                          (try simp only [Act.put, List.setIfInBounds_toArray, List.set_cons_zero, List.set_cons_succ])
                          refine wpAnyH_take (i := 33) (oi := ⟨some 104, _, _, _, _, _⟩) (v := undef) rfl (by kernel_rfl) (by kernel_rfl) (by kernel_rfl) (fun _ _ _ h => h) (Or.inr ⟨by kernel_rfl, rfl⟩) (by assumption) ?_
                          (try simp only [Act.put, List.setIfInBounds_toArray, List.set_cons_zero, List.set_cons_succ])
                          refine wpAnyH_take (i := 34) (oi := ⟨some 105, _, _, _, _, _⟩) (v := .bool false) rfl (by kernel_rfl) (by kernel_rfl) (by kernel_rfl) (fun _ _ _ h => h) (Or.inl ⟨by kernel_rfl, fun w hSw => by ((try dsimp only at hSw); go_simp; done)⟩) (by assumption) ?_
                          (try simp only [Act.put, List.setIfInBounds_toArray, List.set_cons_zero, List.set_cons_succ])
                          refine wpAnyH_take (i := 35) (oi := ⟨some 106, _, _, _, _, _⟩) (v := .bool false) rfl (by kernel_rfl) (by kernel_rfl) (by kernel_rfl) (fun _ _ _ h => h) (Or.inl ⟨by kernel_rfl, fun w hSw => by ((try dsimp only at hSw); go_simp; done)⟩) (by assumption) ?_
                          (try simp only [Act.put, List.setIfInBounds_toArray, List.set_cons_zero, List.set_cons_succ])
                          refine wpAnyH_done (by kernel_rfl) ?_ _
                          go_wp2_with fail
                          go_meet
                          exact ⟨rfl, HD, ED⟩
                      | false =>
                        have hr1 : rX = true := by rw [← hrX.out]; exact mem_rw hmX.out hwX.out
                        subst hr1
                        have dr := DR.out rfl
                        refine wp_region_held_drew (S := (fun w' => (LoadE (.pointer (some ⟨gX, 0, none⟩))).run Tryz.prog w' = .ok X.V w' ∧ w'.cell? ⟨w.heap.size, 2, none⟩ = some (.slice (some ⟨bR, oR, none⟩) c.fr.length q.cR) ∧ w'.cell? ⟨bR, oR + b, none⟩ = some (.int .i64 fb) ∧ w'.cell? ⟨bR, oR + a, none⟩ = some (.int .i64 fa))) (by kernel_rfl) ?_ (fun hHeld => ?_)
                        · exact FX.out _ HD.out ED.out
                        refine wpAnyH_take (i := 0) (oi := ⟨some 71, _, _, _, _, _⟩) (v := X.V) rfl (by kernel_rfl) (by kernel_rfl) (by kernel_rfl) (fun _ _ _ h => h) (Or.inl ⟨by kernel_rfl, fun w hSw => by ((try dsimp only at hSw); go_simp; done)⟩) (by assumption) ?_
                        (try simp only [Act.put, List.setIfInBounds_toArray, List.set_cons_zero, List.set_cons_succ])
                        refine wpAnyH_ready (rs := [1]) (by kernel_rfl) (by simp) ?_
                        refine AllReadyH.cons (o := ⟨some 72, _, _, _, _, _⟩) rfl (fun K hK => ?_) AllReadyH.nil
                        go_simp
                        ((go_at_call 29; (with_reducible refine (KWX.out _).mono ?_); rintro e' w9 ⟨rfl, hb⟩; replace HD := Lib.hid (HD.out.on hb); replace ED := Lib.hid (ED.out.on hb); clear hb))
                        (try go_wp2_with fail)
                        refine hK.out _ _ ?_ (fun hHeld => ?_)
                        · exact FX.out _ HD.out ED.out
                        clear hK K
                        (try simp only [Act.put, List.setIfInBounds_toArray, List.set_cons_zero, List.set_cons_succ])
                        refine wpAnyH_take (i := 2) (oi := ⟨some 73, _, _, _, _, _⟩) (v := .bool false) rfl (by kernel_rfl) (by kernel_rfl) (by kernel_rfl) (fun _ _ _ h => h) (Or.inl ⟨by kernel_rfl, fun w hSw => by ((try dsimp only at hSw); go_simp; done)⟩) (by assumption) ?_
                        (try simp only [Act.put, List.setIfInBounds_toArray, List.set_cons_zero, List.set_cons_succ])
                        refine wpAnyH_take (i := 3) (oi := ⟨some 74, _, _, _, _, _⟩) (v := undef) rfl (by kernel_rfl) (by kernel_rfl) (by kernel_rfl) (fun _ _ _ h => h) (Or.inr ⟨by kernel_rfl, rfl⟩) (by assumption) ?_
                        (try simp only [Act.put, List.setIfInBounds_toArray, List.set_cons_zero, List.set_cons_succ])
                        refine wpAnyH_take (i := 4) (oi := ⟨some 75, _, _, _, _, _⟩) (v := undef) rfl (by kernel_rfl) (by kernel_rfl) (by kernel_rfl) (fun _ _ _ h => h) (Or.inr ⟨by kernel_rfl, rfl⟩) (by assumption) ?_
                        (try simp only [Act.put, List.setIfInBounds_toArray, List.set_cons_zero, List.set_cons_succ])
                        refine wpAnyH_take (i := 5) (oi := ⟨some 76, _, _, _, _, _⟩) (v := undef) rfl (by kernel_rfl) (by kernel_rfl) (by kernel_rfl) (fun _ _ _ h => h) (Or.inr ⟨by kernel_rfl, rfl⟩) (by assumption) ?_
                        (try simp only [Act.put, List.setIfInBounds_toArray, List.set_cons_zero, List.set_cons_succ])
                        refine wpAnyH_take (i := 6) (oi := ⟨some 77, _, _, _, _, _⟩) (v := undef) rfl (by kernel_rfl) (by kernel_rfl) (by kernel_rfl) (fun _ _ _ h => h) (Or.inr ⟨by kernel_rfl, rfl⟩) (by assumption) ?_
                        (try simp only [Act.put, List.setIfInBounds_toArray, List.set_cons_zero, List.set_cons_succ])
                        refine wpAnyH_take (i := 7) (oi := ⟨some 78, _, _, _, _, _⟩) (v := undef) rfl (by kernel_rfl) (by kernel_rfl) (by kernel_rfl) (fun _ _ _ h => h) (Or.inr ⟨by kernel_rfl, rfl⟩) (by assumption) ?_
                        (try simp only [Act.put, List.setIfInBounds_toArray, List.set_cons_zero, List.set_cons_succ])
                        refine wpAnyH_take (i := 8) (oi := ⟨some 79, _, _, _, _, _⟩) (v := undef) rfl (by kernel_rfl) (by kernel_rfl) (by kernel_rfl) (fun _ _ _ h => h) (Or.inr ⟨by kernel_rfl, rfl⟩) (by assumption) ?_
                        (try simp only [Act.put, List.setIfInBounds_toArray, List.set_cons_zero, List.set_cons_succ])
                        refine wpAnyH_take (i := 9) (oi := ⟨some 80, _, _, _, _, _⟩) (v := undef) rfl (by kernel_rfl) (by kernel_rfl) (by kernel_rfl) (fun _ _ _ h => h) (Or.inr ⟨by kernel_rfl, rfl⟩) (by assumption) ?_
                        (try simp only [Act.put, List.setIfInBounds_toArray, List.set_cons_zero, List.set_cons_succ])
                        refine wpAnyH_take (i := 10) (oi := ⟨some 81, _, _, _, _, _⟩) (v := undef) rfl (by kernel_rfl) (by kernel_rfl) (by kernel_rfl) (fun _ _ _ h => h) (Or.inr ⟨by kernel_rfl, rfl⟩) (by assumption) ?_
                        (try simp only [Act.put, List.setIfInBounds_toArray, List.set_cons_zero, List.set_cons_succ])
                        refine wpAnyH_take (i := 11) (oi := ⟨some 82, _, _, _, _, _⟩) (v := undef) rfl (by kernel_rfl) (by kernel_rfl) (by kernel_rfl) (fun _ _ _ h => h) (Or.inr ⟨by kernel_rfl, rfl⟩) (by assumption) ?_
                        (try simp only [Act.put, List.setIfInBounds_toArray, List.set_cons_zero, List.set_cons_succ])
                        refine wpAnyH_take (i := 12) (oi := ⟨some 83, _, _, _, _, _⟩) (v := undef) rfl (by kernel_rfl) (by kernel_rfl) (by kernel_rfl) (fun _ _ _ h => h) (Or.inr ⟨by kernel_rfl, rfl⟩) (by assumption) ?_
                        (try simp only [Act.put, List.setIfInBounds_toArray, List.set_cons_zero, List.set_cons_succ])
                        refine wpAnyH_take (i := 13) (oi := ⟨some 84, _, _, _, _, _⟩) (v := undef) rfl (by kernel_rfl) (by kernel_rfl) (by kernel_rfl) (fun _ _ _ h => h) (Or.inr ⟨by kernel_rfl, rfl⟩) (by assumption) ?_
                        (try simp only [Act.put, List.setIfInBounds_toArray, List.set_cons_zero, List.set_cons_succ])
                        refine wpAnyH_take (i := 14) (oi := ⟨some 85, _, _, _, _, _⟩) (v := .bool false) rfl (by kernel_rfl) (by kernel_rfl) (by kernel_rfl) (fun _ _ _ h => h) (Or.inl ⟨by kernel_rfl, fun w hSw => by ((try dsimp only at hSw); go_simp; done)⟩) (by assumption) ?_
                        (try simp only [Act.put, List.setIfInBounds_toArray, List.set_cons_zero, List.set_cons_succ])
                        refine wpAnyH_take (i := 15) (oi := ⟨some 86, _, _, _, _, _⟩) (v := .bool false) rfl (by kernel_rfl) (by kernel_rfl) (by kernel_rfl) (fun _ _ _ h => h) (Or.inl ⟨by kernel_rfl, fun w hSw => by ((try dsimp only at hSw); go_simp; done)⟩) (by assumption) ?_
                        (try simp only [Act.put, List.setIfInBounds_toArray, List.set_cons_zero, List.set_cons_succ])
                        refine wpAnyH_take (i := 16) (oi := ⟨some 87, _, _, _, _, _⟩) (v := X.V) rfl (by kernel_rfl) (by kernel_rfl) (by kernel_rfl) (fun _ _ _ h => h) (Or.inl ⟨by kernel_rfl, fun w hSw => by ((try dsimp only at hSw); go_simp; done)⟩) (by assumption) ?_
                        (try simp only [Act.put, List.setIfInBounds_toArray, List.set_cons_zero, List.set_cons_succ])
                        refine wpAnyH_ready (rs := [17]) (by kernel_rfl) (by simp) ?_
                        refine AllReadyH.cons (o := ⟨some 88, _, _, _, _, _⟩) rfl (fun K hK => ?_) AllReadyH.nil
                        go_simp
                        ((go_at_call 28; (with_reducible refine (KRX.out _).mono ?_); rintro e' w11 ⟨rfl, hb⟩; replace HD := Lib.hid (HD.out.on hb); replace ED := Lib.hid (ED.out.on hb); clear hb))
                        (try go_wp2_with fail)
                        refine hK.out _ _ ?_ (fun hHeld => ?_)
                        · exact FX.out _ HD.out ED.out
                        clear hK K
                        (try simp only [Act.put, List.setIfInBounds_toArray, List.set_cons_zero, List.set_cons_succ])
                        refine wpAnyH_take (i := 18) (oi := ⟨some 89, _, _, _, _, _⟩) (v := .bool true) rfl (by kernel_rfl) (by kernel_rfl) (by kernel_rfl) (fun _ _ _ h => h) (Or.inl ⟨by kernel_rfl, fun w hSw => by ((try dsimp only at hSw); go_simp; done)⟩) (by assumption) ?_
                        (try simp only [Act.put, List.setIfInBounds_toArray, List.set_cons_zero, List.set_cons_succ])
                        refine wpAnyH_take (i := 19) (oi := ⟨some 90, _, _, _, _, _⟩) (v := .slice (some ⟨gP, 0, none⟩) c.N c.N) rfl (by kernel_rfl) (by kernel_rfl) (by kernel_rfl) (fun _ _ _ h => h) (Or.inl ⟨by kernel_rfl, fun w hSw => by ((try dsimp only at hSw); go_simp; done)⟩) (by assumption) ?_
                        (try simp only [Act.put, List.setIfInBounds_toArray, List.set_cons_zero, List.set_cons_succ])
                        refine wpAnyH_take (i := 20) (oi := ⟨some 91, _, _, _, _, _⟩) (v := .pointer (some ⟨w.heap.size, 2, none⟩)) rfl (by kernel_rfl) (by kernel_rfl) (by kernel_rfl) (fun _ _ _ h => h) (Or.inl ⟨by kernel_rfl, fun w hSw => by ((try dsimp only at hSw); go_simp; done)⟩) (by assumption) ?_
                        (try simp only [Act.put, List.setIfInBounds_toArray, List.set_cons_zero, List.set_cons_succ])
                        refine wpAnyH_take (i := 21) (oi := ⟨some 92, _, _, _, _, _⟩) (v := .slice (some ⟨bR, oR, none⟩) c.fr.length q.cR) rfl (by kernel_rfl) (by kernel_rfl) (by kernel_rfl) (fun _ _ _ h => h) (Or.inl ⟨by kernel_rfl, fun w hSw => by ((try dsimp only at hSw); go_simp; done)⟩) (by assumption) ?_
                        (try simp only [Act.put, List.setIfInBounds_toArray, List.set_cons_zero, List.set_cons_succ])
                        refine wpAnyH_take (i := 22) (oi := ⟨some 93, _, _, _, _, _⟩) (v := .int .i64 (b : Int)) rfl (by kernel_rfl) (by kernel_rfl) (by kernel_rfl) (fun _ _ _ h => h) (Or.inl ⟨by kernel_rfl, fun w hSw => by ((try dsimp only at hSw); go_simp; done)⟩) (by assumption) ?_
                        (try simp only [Act.put, List.setIfInBounds_toArray, List.set_cons_zero, List.set_cons_succ])
                        refine wpAnyH_take (i := 23) (oi := ⟨some 94, _, _, _, _, _⟩) (v := .pointer (some ⟨bR, oR + b, none⟩)) rfl (by kernel_rfl) (by kernel_rfl) (by kernel_rfl) (fun _ _ _ h => h) (Or.inl ⟨by kernel_rfl, fun w hSw => by ((try dsimp only at hSw); go_simp; done)⟩) (by assumption) ?_
                        (try simp only [Act.put, List.setIfInBounds_toArray, List.set_cons_zero, List.set_cons_succ])
                        refine wpAnyH_take (i := 24) (oi := ⟨some 95, _, _, _, _, _⟩) (v := .int .i64 fb) rfl (by kernel_rfl) (by kernel_rfl) (by kernel_rfl) (fun _ _ _ h => h) (Or.inl ⟨by kernel_rfl, fun w hSw => by ((try dsimp only at hSw); go_simp; done)⟩) (by assumption) ?_
                        (try simp only [Act.put, List.setIfInBounds_toArray, List.set_cons_zero, List.set_cons_succ])
                        refine wpAnyH_take (i := 26) (oi := ⟨some 97, _, _, _, _, _⟩) (v := .slice (some ⟨gP, 0, none⟩) c.N c.N) rfl (by kernel_rfl) (by kernel_rfl) (by kernel_rfl) (fun _ _ _ h => h) (Or.inl ⟨by kernel_rfl, fun w hSw => by ((try dsimp only at hSw); go_simp; done)⟩) (by assumption) ?_
                        (try simp only [Act.put, List.setIfInBounds_toArray, List.set_cons_zero, List.set_cons_succ])
                        refine wpAnyH_take (i := 27) (oi := ⟨some 98, _, _, _, _, _⟩) (v := .pointer (some ⟨w.heap.size, 2, none⟩)) rfl (by kernel_rfl) (by kernel_rfl) (by kernel_rfl) (fun _ _ _ h => h) (Or.inl ⟨by kernel_rfl, fun w hSw => by ((try dsimp only at hSw); go_simp; done)⟩) (by assumption) ?_
                        (try simp only [Act.put, List.setIfInBounds_toArray, List.set_cons_zero, List.set_cons_succ])
                        refine wpAnyH_take (i := 28) (oi := ⟨some 99, _, _, _, _, _⟩) (v := .slice (some ⟨bR, oR, none⟩) c.fr.length q.cR) rfl (by kernel_rfl) (by kernel_rfl) (by kernel_rfl) (fun _ _ _ h => h) (Or.inl ⟨by kernel_rfl, fun w hSw => by ((try dsimp only at hSw); go_simp; done)⟩) (by assumption) ?_
                        (try simp only [Act.put, List.setIfInBounds_toArray, List.set_cons_zero, List.set_cons_succ])
                        refine wpAnyH_take (i := 29) (oi := ⟨some 100, _, _, _, _, _⟩) (v := .int .i64 (a : Int)) rfl (by kernel_rfl) (by kernel_rfl) (by kernel_rfl) (fun _ _ _ h => h) (Or.inl ⟨by kernel_rfl, fun w hSw => by ((try dsimp only at hSw); go_simp; done)⟩) (by assumption) ?_
                        (try simp only [Act.put, List.setIfInBounds_toArray, List.set_cons_zero, List.set_cons_succ])
                        refine wpAnyH_take (i := 30) (oi := ⟨some 101, _, _, _, _, _⟩) (v := .pointer (some ⟨bR, oR + a, none⟩)) rfl (by kernel_rfl) (by kernel_rfl) (by kernel_rfl) (fun _ _ _ h => h) (Or.inl ⟨by kernel_rfl, fun w hSw => by ((try dsimp only at hSw); go_simp; done)⟩) (by assumption) ?_
                        (try simp only [Act.put, List.setIfInBounds_toArray, List.set_cons_zero, List.set_cons_succ])
                        refine wpAnyH_take (i := 31) (oi := ⟨some 102, _, _, _, _, _⟩) (v := .int .i64 fa) rfl (by kernel_rfl) (by kernel_rfl) (by kernel_rfl) (fun _ _ _ h => h) (Or.inl ⟨by kernel_rfl, fun w hSw => by ((try dsimp only at hSw); go_simp; done)⟩) (by assumption) ?_
                        (try simp only [Act.put, List.setIfInBounds_toArray, List.set_cons_zero, List.set_cons_succ])
                        refine wpAnyH_ready (rs := [25]) (by kernel_rfl) (by simp) ?_
                        refine AllReadyH.cons (o := ⟨some 96, _, _, _, _, _⟩) rfl (fun K hK => ?_) AllReadyH.nil
                        go_simp
                        ((go_at_call 30; (with_reducible refine (KG1.out _ HD.out.pl).mono ?_); rintro e' w10 ⟨rfl, rfl⟩))
                        (try go_wp2_with fail)
                        refine hK.out _ _ ?_ (fun hHeld => ?_)
                        · exact FX.out _ HD.out ED.out
                        clear hK K
                        (try simp only [Act.put, List.setIfInBounds_toArray, List.set_cons_zero, List.set_cons_succ])
                        refine wpAnyH_ready (rs := [32]) (by kernel_rfl) (by simp) ?_
                        refine AllReadyH.cons (o := ⟨some 103, _, _, _, _, _⟩) rfl (fun K hK => ?_) AllReadyH.nil
                        go_simp
                        ((go_at_call 30; (with_reducible refine (KG3.out _ HD.out.pl).mono ?_); rintro e' w10 ⟨rfl, rfl⟩))
                        (try go_wp2_with fail)
                        refine hK.out _ _ ?_ (fun hHeld => ?_)
                        · exact FX.out _ HD.out ED.out
                        clear hK K
                        (try simp only [Act.put, List.setIfInBounds_toArray, List.set_cons_zero, List.set_cons_succ])
                        refine wpAnyH_take (i := 33) (oi := ⟨some 104, _, _, _, _, _⟩) (v := .bool false) rfl (by kernel_rfl) (by kernel_rfl) (by kernel_rfl) (fun _ _ _ h => h) (Or.inl ⟨by kernel_rfl, fun w hSw => by ((try dsimp only at hSw); go_simp; done)⟩) (by assumption) ?_
                        (try simp only [Act.put, List.setIfInBounds_toArray, List.set_cons_zero, List.set_cons_succ])
                        refine wpAnyH_take (i := 34) (oi := ⟨some 105, _, _, _, _, _⟩) (v := .bool false) rfl (by kernel_rfl) (by kernel_rfl) (by kernel_rfl) (fun _ _ _ h => h) (Or.inl ⟨by kernel_rfl, fun w hSw => by ((try dsimp only at hSw); go_simp; done)⟩) (by assumption) ?_
                        (try simp only [Act.put, List.setIfInBounds_toArray, List.set_cons_zero, List.set_cons_succ])
                        refine wpAnyH_take (i := 35) (oi := ⟨some 106, _, _, _, _, _⟩) (v := .bool false) rfl (by kernel_rfl) (by kernel_rfl) (by kernel_rfl) (fun _ _ _ h => h) (Or.inl ⟨by kernel_rfl, fun w hSw => by ((try dsimp only at hSw); go_simp; done)⟩) (by assumption) ?_
                        (try simp only [Act.put, List.setIfInBounds_toArray, List.set_cons_zero, List.set_cons_succ])
                        refine wpAnyH_done (by kernel_rfl) ?_ _
                        go_wp2_with fail
                        go_meet
                        exact ⟨rfl, HD, ED⟩

                    obtain ⟨rfl, H5, E5⟩ := hcut
                    clear H4 EX4 EY4
                    go_wp2
                    go_roundw
                    case rel => exact ⟨b + 1, by omega, by omega, by go_num, H5, E5⟩
                    case measure => simp [intOf]; omega
          · obtain rfl : b = c.N := by omega
            obtain ⟨_, x0, x1, x2, x3, _, _, _, _, _, _, x10, _⟩ := E3.out.facts
            clear e1 KMX KRX KWX
            have e1 : IntKind.i64.wrap ((a : Int) + 1) = ((a + 1 : Nat) : Int) := by rw [IntWalk.i64_in _ (by omega)]; omega
            by_cases k5 : X.kind = 5
            · have n5 : (X.kind != 5) = false := by simp [k5]
              have n4 : (X.kind != 4) = true := by simp [k5]
              have q4 : (X.kind == 4) = false := by simp [k5]
              have HXX : Hid (X.hart = (c.at a).1.hart ∧ X.kind = (c.at a).1.kind ∧ X.pos = (c.at a).1.pos ∧ X.pair = (c.at a).1.pair) := Lib.hid (by
                obtain ⟨_, _, _, ex⟩ := XL.out
                rw [ex]; exact ⟨rfl, rfl, rfl, rfl⟩)
              have HK5 : Hid ((c.at a).1.kind = 5) := Lib.hid (by rw [← HXX.out.2.1]; exact k5)
              have HMA : Hid (memE (c.at a).1 = true) := Lib.hid (by unfold memE; rw [HK5.out]; decide)
              obtain ⟨s, hs⟩ : ∃ v, Hid (atI c.fr a = v) := ⟨_, Lib.hid rfl⟩
              have HIN : Hid (InN c s) := Lib.hid (by have := fr_in HM.out a hlt; rw [hs.out] at this; exact this)
              have HNO : Hid (∀ i n : Nat, i < c.od.length → atI c.od i = (n : Int) → plN c s < (i : Int) → (i : Int) < plN c (a : Int) → ¬ (writesE (c.at n).1 = true ∧ (c.at n).1.addr = (c.at a).1.addr)) := Lib.hid (fun i n hi hn h1 h2 => atomic_amo HK.out a hlt (by unfold readsE; rw [HK5.out]; decide) i n hi hn (by rw [hs.out]; exact h1) h2)
              have haf : (a : Int) < (c.fr.length : Int) := by rw [HFR.out]; exact hai
              have FX2 := Lib.hid (fun W (hc : Co c q es (.slice (some ⟨gE, 0, none⟩) c.N cV) base gP w W) (he : EvAt X gX W) => (show W.cell? ⟨w.heap.size, 2, none⟩ = some (.slice (some ⟨bR, oR, none⟩) c.fr.length q.cR) ∧ W.cell? ⟨bR, oR + a, none⟩ = some (.int .i64 s) ∧ W.cell? ⟨gX, 2, none⟩ = some (.int .i64 X.kind) from ⟨HBR.out W hc.lk, by have := HC.out W hc.lk a hlt; rw [hs.out] at this; exact this, he.facts.2.2.2.1⟩))
              have HD := Lib.hid (H3.out.on (Below.refl _ _).drew)
              have ED := Lib.hid (E3.out.on (Below.refl _ _).drew)
              clear k5
              go_upto_region 18 with fail
              go_cut [9, 10] (fun t9 t10 wx => t9 = .int .i64 s ∧ t10 = .bool false ∧ Hid (Co c q es (.slice (some ⟨gE, 0, none⟩) c.N cV) base gP w wx) ∧ Hid (EvAt X gX wx))
              case first => as_aux_lemma =>
                go_region_held3 (fun w' => w'.cell? ⟨w.heap.size, 2, none⟩ = some (.slice (some ⟨bR, oR, none⟩) c.fr.length q.cR) ∧ w'.cell? ⟨bR, oR + a, none⟩ = some (.int .i64 s) ∧ w'.cell? ⟨gX, 2, none⟩ = some (.int .i64 X.kind)) (exact FX2.out _ HD.out ED.out) (fail)
                all_goals
                  go_wp2_with fail
                  go_meet
                  exact ⟨rfl, rfl, HD, ED⟩
              obtain ⟨rfl, rfl, H5, E5⟩ := hcut
              clear H3 E3 x0 x1 x2 x3 x10 n5 n4 q4
              obtain ⟨ps, hps⟩ : ∃ v, Hid (plN c s = v) := ⟨_, Lib.hid rfl⟩
              have KGS := Lib.hid (fun w0 h0 => age_any c gP w0 h0 s HIN.out ps hps.out)
              have hlow : -1 ≤ ps := by
                rw [← hps.out]
                rcases HIN.out with h | ⟨h1, h2⟩
                · rw [h]; exact Int.le_refl _
                · obtain ⟨n, hn⟩ : ∃ n : Nat, s = n := ⟨s.toNat, by omega⟩
                  rw [hn]; exact plN_low HM.out n (by omega)
              have hhigh : ps < 1000 := by
                rw [← hps.out]
                rcases HIN.out with h | ⟨h1, h2⟩
                · rw [h]; show (-1 : Int) < 1000; decide
                · obtain ⟨n, hn⟩ : ∃ n : Nat, s = n := ⟨s.toNat, by omega⟩
                  rw [hn]
                  cases hm : memE (c.at n).1 with
                  | true => obtain ⟨p, hp1, hp2, _⟩ := place_of HM.out n (by omega) hm; omega
                  | false => rw [plN_nat, place_not HM.out n hm]; decide
              obtain ⟨k0, hk0⟩ : ∃ k0 : Nat, ps + 1 = k0 := ⟨(ps + 1).toNat, by omega⟩
              have e3 : IntKind.i64.wrap (ps + 1) = (k0 : Int) := by rw [IntWalk.i64_in _ (by omega)]; exact hk0
              obtain ⟨p, hpl, hpa, _⟩ := place_of HM.out a hlt HMA.out
              have HPA := Lib.hid hpa
              have hod0 : c.od.length ≠ 0 := by omega
              obtain ⟨bO, oO, hqo, hblo, hcello⟩ := order_in H5.out.lk.here hod0
              have HCO := Lib.hid (fun (W : World) (hS : Lk c q w W) (j : Nat) (hj : j < c.od.length) => (hS.below.cell (p := ⟨bO, oO + j, none⟩) hblo).trans (hcello j hj))
              have HBO : Hid (∀ W, Lk c q w W → W.cell? ⟨w.heap.size, 3, none⟩ = some (.slice (some ⟨bO, oO, none⟩) c.od.length q.cO)) := Lib.hid (fun W hS => by
                have := hS.box.facts.2.2.2
                rw [hqo] at this
                exact this)
              clear hqo hblo hcello hpa
              go_wp2_with (go_at_call 30; (with_reducible refine (KGS.out _ H5.out.pl).mono ?_); rintro e' w10 ⟨rfl, rfl⟩)
              go_loopw [11] (fun vi wr => ∃ k : Nat, ps < (k : Int) ∧ vi = .int .i64 k ∧ Hid (Co c q es (.slice (some ⟨gE, 0, none⟩) c.N cV) base gP w wr) ∧ Hid (EvAt X gX wr)) (fun vi _ => p - (intOf vi).toNat)
              case atStart => exact ⟨k0, by omega, by first | rfl | simp, H5, E5⟩
              case round =>
                clear H5 E5
                obtain ⟨k, hk, rfl, H5, E5⟩ := hrel
                have cpa := H5.out.pl.cell a hlt
                rw [← plN_nat, HPA.out] at cpa
                by_cases hkp : k < p
                · obtain ⟨n, hn, hod, hmem, hpn⟩ := place_at HM.out k (by omega)
                  have HOD := Lib.hid hod
                  obtain ⟨gE2, cap2, ev2, _, hra2⟩ := H5.out.ra.rall (by omega)
                  injection ev2 with ev1 ev2 ev3
                  injection ev1 with ev1
                  injection ev1 with ev1
                  subst ev1
                  clear ev2 ev3
                  have HA5 := Lib.hid hra2
                  clear hra2
                  obtain ⟨Y, hY⟩ : ∃ Y, Hid (evAtN es n = Y) := ⟨_, Lib.hid rfl⟩
                  have YF : Hid Y.flat := Lib.hid (by rw [← hY.out]; exact HA5.out.flat_ n hn)
                  have YL : Hid (∃ x y z, Y = (c.at n).1.lists x y z) := Lib.hid (by rw [← hY.out]; exact HA5.out.like n hn)
                  have cly : (LoadE (.pointer (some ⟨gE, n * 14, none⟩))).run Tryz.prog wr = .ok Y.V wr := by rw [← hY.out]; exact load0 HA5.out n hn
                  have z0 : EvAt zeroEv wr.heap.size (wr.alloc (.cells #[.int .i64 0, .int .i64 0, .int .i64 0, .int .u64 0, .int .u64 0, .int .u64 0, .bool false, .bool false, .int .i64 0, .int .i64 0, .int .i64 0, .slice none 0 0, .slice none 0 0, .slice none 0 0] 32)) := EvAt.new zeroEv wr
                  obtain ⟨W2, cs2, d2, hb4⟩ := store_made z0 YF.out
                  have H6 := Lib.hid (H5.out.on ((box_below wr _).trans hb4))
                  have EX6 := Lib.hid (E5.out.on ((box_below wr _).trans hb4))
                  have EW6 := Lib.hid d2
                  have co := HCO.out _ H5.out.lk k (by omega)
                  rw [hod] at co
                  have cw := HBO.out _ H5.out.lk
                  have hki : (k : Int) < (c.od.length : Int) := by omega
                  have hki0 : (0 : Int) ≤ (k : Int) := by omega
                  have hni : (n : Int) < (c.N : Int) := by omega
                  have hni0 : (0 : Int) ≤ (n : Int) := by omega
                  have e4 : IntKind.i64.wrap ((k : Int) + 1) = ((k + 1 : Nat) : Int) := by rw [IntWalk.i64_in _ (by omega)]; omega
                  clear z0 d2 hb4 hod
                  go_upto_region 25 with fail
                  obtain ⟨gY, hgY⟩ : ∃ g, wr.heap.size = g := ⟨_, rfl⟩
                  rw [hgY] at EW6 ⊢
                  clear cly cs2 co cw H5 E5 hgY cpa
                  have clw := run_LoadE EW6.out
                  obtain ⟨_, x0, _, _, x3, _⟩ := EX6.out.facts
                  obtain ⟨_, y0, _, _, y3, _⟩ := EW6.out.facts
                  obtain ⟨wY, hwY⟩ : ∃ r, Hid (writesE Y = r) := ⟨_, Lib.hid rfl⟩
                  have KWW := Lib.hid (fun w0 => rWrites_b Y wY hwY.out w0)
                  cases wY with
                  | false =>
                    go_wp2_with (go_at_call 29; (with_reducible refine (KWW.out _).mono ?_); rintro e' w9 ⟨rfl, hb⟩; replace H6 := Lib.hid (H6.out.on hb); replace EX6 := Lib.hid (EX6.out.on hb); replace EW6 := Lib.hid (EW6.out.on hb); clear hb clw x0 x3 y0 y3; have clw := run_LoadE EW6.out; obtain ⟨_, x0, _, _, x3, _⟩ := EX6.out.facts; obtain ⟨_, y0, _, _, y3, _⟩ := EW6.out.facts)
                    go_roundw
                    case rel => exact ⟨k + 1, by omega, by go_num, H6, EX6⟩
                    case measure => simp [intOf]; omega
                  | true =>
                    obtain ⟨n2, h2⟩ : ∃ r, (Y.addr == X.addr) = r := ⟨_, rfl⟩
                    have H2h := Lib.hid h2
                    cases n2 with
                    | false =>
                      go_wp2_with (go_at_call 29; (with_reducible refine (KWW.out _).mono ?_); rintro e' w9 ⟨rfl, hb⟩; replace H6 := Lib.hid (H6.out.on hb); replace EX6 := Lib.hid (EX6.out.on hb); replace EW6 := Lib.hid (EW6.out.on hb); clear hb clw x0 x3 y0 y3; have clw := run_LoadE EW6.out; obtain ⟨_, x0, _, _, x3, _⟩ := EX6.out.facts; obtain ⟨_, y0, _, _, y3, _⟩ := EW6.out.facts)
                      go_roundw
                      case rel => exact ⟨k + 1, by omega, by go_num, H6, EX6⟩
                      case measure => simp [intOf]; omega
                    | true =>
                      have HXY : Hid (writesE (c.at n).1 = true ∧ (c.at n).1.addr = (c.at a).1.addr ∧ Y.hart = (c.at n).1.hart ∧ X.hart = (c.at a).1.hart) := Lib.hid (by
                        obtain ⟨_, _, _, ex⟩ := XL.out
                        obtain ⟨_, _, _, ey⟩ := YL.out
                        have t1 := hwY.out
                        have t2 := H2h.out
                        rw [ey] at t1
                        rw [ex, ey] at t2
                        rw [ex, ey]
                        simp only [beq_iff_eq] at t2
                        exact ⟨t1, t2, rfl, rfl⟩)
                      exfalso
                      exact HNO.out k n (by omega) HOD.out (by rw [hps.out]; exact hk) (by rw [HPA.out]; omega) ⟨HXY.out.1, HXY.out.2.1⟩
                · have d9 : decide ((k : Int) < (p : Int)) = false := by simp; omega
                  go_wp2
                  go_roundw
                  case rel => exact ⟨a + 1, by omega, by go_num, H5⟩
                  case measure => simp [intOf]; omega
            · by_cases k4 : X.kind = 4
              · have n5 : (X.kind != 5) = true := by simp [k4]
                have n4 : (X.kind != 4) = false := by simp [k4]
                have q4 : (X.kind == 4) = true := by simp [k4]
                have HXX : Hid (X.hart = (c.at a).1.hart ∧ X.kind = (c.at a).1.kind ∧ X.pos = (c.at a).1.pos ∧ X.pair = (c.at a).1.pair) := Lib.hid (by
                  obtain ⟨_, _, _, ex⟩ := XL.out
                  rw [ex]; exact ⟨rfl, rfl, rfl, rfl⟩)
                have HK5 : Hid ((c.at a).1.kind = 4) := Lib.hid (by rw [← HXX.out.2.1]; exact k4)
                have HMA : Hid (memE (c.at a).1 = true) := Lib.hid (by unfold memE; rw [HK5.out]; decide)
                obtain ⟨l, j, m, hla, hlr, hj, hmm, hmj, hja, hl⟩ := sc_pair HM.out a hlt HK5.out
                have HLR := Lib.hid hlr
                rw [← HXX.out.2.2.1] at hj
                rw [← HXX.out.2.2.2] at hmm
                rw [hj] at x1
                rw [hmm] at x10
                have FJ := Lib.hid hj
                have FM := Lib.hid hmm
                clear hj hmm hlr
                have hlN : l < c.N := by omega
                have e5 : IntKind.i64.wrap ((j : Int) - (m : Int)) = ((j - m : Nat) : Int) := by rw [IntWalk.i64_in _ (by omega)]; omega
                have e6 : IntKind.i64.wrap ((a : Int) - ((j - m : Nat) : Int)) = (l : Int) := by rw [IntWalk.i64_in _ (by omega)]; omega
                obtain ⟨s0, hs0⟩ : ∃ v, Hid (atI c.fr a = v) := ⟨_, Lib.hid rfl⟩
                obtain ⟨s, hs⟩ : ∃ v, Hid (atI c.fr l = v) := ⟨_, Lib.hid rfl⟩
                have HIN : Hid (InN c s) := Lib.hid (by have := fr_in HM.out l hlN; rw [hs.out] at this; exact this)
                have HNO : Hid (∀ i n : Nat, i < c.od.length → atI c.od i = (n : Int) → plN c s < (i : Int) → (i : Int) < plN c (a : Int) → ¬ (writesE (c.at n).1 = true ∧ (c.at n).1.addr = (c.at a).1.addr ∧ (c.at n).1.hart ≠ (c.at a).1.hart)) := Lib.hid (fun i n hi hn h1 h2 => by
                  refine atomic_pair HK.out a hlt HK5.out HMA.out i n hi hn ?_ h2 ?_
                  · rw [HLR.out, Int.toNat_natCast, hs.out]; exact h1
                  · rw [HLR.out, Int.toNat_natCast, hs.out]
                    rcases HIN.out with h | ⟨h3, h4⟩
                    · rw [h]; exact Int.le_refl _
                    · obtain ⟨z, hz⟩ : ∃ z : Nat, s = z := ⟨s.toNat, by omega⟩
                      rw [hz]; exact plN_low HM.out z (by omega))
                have hli : (l : Int) < (c.fr.length : Int) := by rw [HFR.out]; omega
                have hli0 : (0 : Int) ≤ (l : Int) := by omega
                have haf : (a : Int) < (c.fr.length : Int) := by rw [HFR.out]; exact hai
                have FX2 := Lib.hid (fun W (hc : Co c q es (.slice (some ⟨gE, 0, none⟩) c.N cV) base gP w W) (he : EvAt X gX W) => (show W.cell? ⟨w.heap.size, 2, none⟩ = some (.slice (some ⟨bR, oR, none⟩) c.fr.length q.cR) ∧ W.cell? ⟨bR, oR + a, none⟩ = some (.int .i64 s0) ∧ W.cell? ⟨gX, 2, none⟩ = some (.int .i64 X.kind) from ⟨HBR.out W hc.lk, by have := HC.out W hc.lk a hlt; rw [hs0.out] at this; exact this, he.facts.2.2.2.1⟩))
                have HD := Lib.hid (H3.out.on (Below.refl _ _).drew)
                have ED := Lib.hid (E3.out.on (Below.refl _ _).drew)
                clear k4
                go_upto_region 18 with fail
                go_cut [9, 10] (fun t9 t10 wx => t9 = .int .i64 s0 ∧ t10 = .bool true ∧ Hid (Co c q es (.slice (some ⟨gE, 0, none⟩) c.N cV) base gP w wx) ∧ Hid (EvAt X gX wx))
                case first => as_aux_lemma =>
                  go_region_held3 (fun w' => w'.cell? ⟨w.heap.size, 2, none⟩ = some (.slice (some ⟨bR, oR, none⟩) c.fr.length q.cR) ∧ w'.cell? ⟨bR, oR + a, none⟩ = some (.int .i64 s0) ∧ w'.cell? ⟨gX, 2, none⟩ = some (.int .i64 X.kind)) (exact FX2.out _ HD.out ED.out) (fail)
                  all_goals
                    go_wp2_with fail
                    go_meet
                    exact ⟨rfl, rfl, HD, ED⟩
                obtain ⟨rfl, rfl, H5, E5⟩ := hcut
                clear H3 E3 x0 x1 x2 x3 x10 n5 n4 q4
                obtain ⟨_, _, x1, _, _, _, _, _, _, _, _, x10, _⟩ := E5.out.facts
                rw [FJ.out] at x1
                rw [FM.out] at x10
                have cs := HC.out _ H5.out.lk l hlN
                rw [hs.out] at cs
                have csl := HBR.out _ H5.out.lk
                go_upto_region 21 with fail
                clear cs csl x1 x10 e5 e6
                obtain ⟨ps, hps⟩ : ∃ v, Hid (plN c s = v) := ⟨_, Lib.hid rfl⟩
                have KGS := Lib.hid (fun w0 h0 => age_any c gP w0 h0 s HIN.out ps hps.out)
                have hlow : -1 ≤ ps := by
                  rw [← hps.out]
                  rcases HIN.out with h | ⟨h1, h2⟩
                  · rw [h]; exact Int.le_refl _
                  · obtain ⟨n, hn⟩ : ∃ n : Nat, s = n := ⟨s.toNat, by omega⟩
                    rw [hn]; exact plN_low HM.out n (by omega)
                have hhigh : ps < 1000 := by
                  rw [← hps.out]
                  rcases HIN.out with h | ⟨h1, h2⟩
                  · rw [h]; show (-1 : Int) < 1000; decide
                  · obtain ⟨n, hn⟩ : ∃ n : Nat, s = n := ⟨s.toNat, by omega⟩
                    rw [hn]
                    cases hm : memE (c.at n).1 with
                    | true => obtain ⟨p, hp1, hp2, _⟩ := place_of HM.out n (by omega) hm; omega
                    | false => rw [plN_nat, place_not HM.out n hm]; decide
                obtain ⟨k0, hk0⟩ : ∃ k0 : Nat, ps + 1 = k0 := ⟨(ps + 1).toNat, by omega⟩
                have e3 : IntKind.i64.wrap (ps + 1) = (k0 : Int) := by rw [IntWalk.i64_in _ (by omega)]; exact hk0
                obtain ⟨p, hpl, hpa, _⟩ := place_of HM.out a hlt HMA.out
                have HPA := Lib.hid hpa
                have hod0 : c.od.length ≠ 0 := by omega
                obtain ⟨bO, oO, hqo, hblo, hcello⟩ := order_in H5.out.lk.here hod0
                have HCO := Lib.hid (fun (W : World) (hS : Lk c q w W) (j : Nat) (hj : j < c.od.length) => (hS.below.cell (p := ⟨bO, oO + j, none⟩) hblo).trans (hcello j hj))
                have HBO : Hid (∀ W, Lk c q w W → W.cell? ⟨w.heap.size, 3, none⟩ = some (.slice (some ⟨bO, oO, none⟩) c.od.length q.cO)) := Lib.hid (fun W hS => by
                  have := hS.box.facts.2.2.2
                  rw [hqo] at this
                  exact this)
                clear hqo hblo hcello hpa
                go_wp2_with (go_at_call 30; (with_reducible refine (KGS.out _ H5.out.pl).mono ?_); rintro e' w10 ⟨rfl, rfl⟩)
                go_loopw [11] (fun vi wr => ∃ k : Nat, ps < (k : Int) ∧ vi = .int .i64 k ∧ Hid (Co c q es (.slice (some ⟨gE, 0, none⟩) c.N cV) base gP w wr) ∧ Hid (EvAt X gX wr)) (fun vi _ => p - (intOf vi).toNat)
                case atStart => exact ⟨k0, by omega, by first | rfl | simp, H5, E5⟩
                case round =>
                  clear H5 E5
                  obtain ⟨k, hk, rfl, H5, E5⟩ := hrel
                  have cpa := H5.out.pl.cell a hlt
                  rw [← plN_nat, HPA.out] at cpa
                  by_cases hkp : k < p
                  · obtain ⟨n, hn, hod, hmem, hpn⟩ := place_at HM.out k (by omega)
                    have HOD := Lib.hid hod
                    obtain ⟨gE2, cap2, ev2, _, hra2⟩ := H5.out.ra.rall (by omega)
                    injection ev2 with ev1 ev2 ev3
                    injection ev1 with ev1
                    injection ev1 with ev1
                    subst ev1
                    clear ev2 ev3
                    have HA5 := Lib.hid hra2
                    clear hra2
                    obtain ⟨Y, hY⟩ : ∃ Y, Hid (evAtN es n = Y) := ⟨_, Lib.hid rfl⟩
                    have YF : Hid Y.flat := Lib.hid (by rw [← hY.out]; exact HA5.out.flat_ n hn)
                    have YL : Hid (∃ x y z, Y = (c.at n).1.lists x y z) := Lib.hid (by rw [← hY.out]; exact HA5.out.like n hn)
                    have cly : (LoadE (.pointer (some ⟨gE, n * 14, none⟩))).run Tryz.prog wr = .ok Y.V wr := by rw [← hY.out]; exact load0 HA5.out n hn
                    have z0 : EvAt zeroEv wr.heap.size (wr.alloc (.cells #[.int .i64 0, .int .i64 0, .int .i64 0, .int .u64 0, .int .u64 0, .int .u64 0, .bool false, .bool false, .int .i64 0, .int .i64 0, .int .i64 0, .slice none 0 0, .slice none 0 0, .slice none 0 0] 32)) := EvAt.new zeroEv wr
                    obtain ⟨W2, cs2, d2, hb4⟩ := store_made z0 YF.out
                    have H6 := Lib.hid (H5.out.on ((box_below wr _).trans hb4))
                    have EX6 := Lib.hid (E5.out.on ((box_below wr _).trans hb4))
                    have EW6 := Lib.hid d2
                    have co := HCO.out _ H5.out.lk k (by omega)
                    rw [hod] at co
                    have cw := HBO.out _ H5.out.lk
                    have hki : (k : Int) < (c.od.length : Int) := by omega
                    have hki0 : (0 : Int) ≤ (k : Int) := by omega
                    have hni : (n : Int) < (c.N : Int) := by omega
                    have hni0 : (0 : Int) ≤ (n : Int) := by omega
                    have e4 : IntKind.i64.wrap ((k : Int) + 1) = ((k + 1 : Nat) : Int) := by rw [IntWalk.i64_in _ (by omega)]; omega
                    clear z0 d2 hb4 hod
                    go_upto_region 25 with fail
                    obtain ⟨gY, hgY⟩ : ∃ g, wr.heap.size = g := ⟨_, rfl⟩
                    rw [hgY] at EW6 ⊢
                    clear cly cs2 co cw H5 E5 hgY cpa
                    have clw := run_LoadE EW6.out
                    obtain ⟨_, x0, _, _, x3, _⟩ := EX6.out.facts
                    obtain ⟨_, y0, _, _, y3, _⟩ := EW6.out.facts
                    obtain ⟨wY, hwY⟩ : ∃ r, Hid (writesE Y = r) := ⟨_, Lib.hid rfl⟩
                    have KWW := Lib.hid (fun w0 => rWrites_b Y wY hwY.out w0)
                    cases wY with
                    | false =>
                      go_wp2_with (go_at_call 29; (with_reducible refine (KWW.out _).mono ?_); rintro e' w9 ⟨rfl, hb⟩; replace H6 := Lib.hid (H6.out.on hb); replace EX6 := Lib.hid (EX6.out.on hb); replace EW6 := Lib.hid (EW6.out.on hb); clear hb clw x0 x3 y0 y3; have clw := run_LoadE EW6.out; obtain ⟨_, x0, _, _, x3, _⟩ := EX6.out.facts; obtain ⟨_, y0, _, _, y3, _⟩ := EW6.out.facts)
                      go_roundw
                      case rel => exact ⟨k + 1, by omega, by go_num, H6, EX6⟩
                      case measure => simp [intOf]; omega
                    | true =>
                      obtain ⟨n2, h2⟩ : ∃ r, (Y.addr == X.addr) = r := ⟨_, rfl⟩
                      have H2h := Lib.hid h2
                      cases n2 with
                      | false =>
                        go_wp2_with (go_at_call 29; (with_reducible refine (KWW.out _).mono ?_); rintro e' w9 ⟨rfl, hb⟩; replace H6 := Lib.hid (H6.out.on hb); replace EX6 := Lib.hid (EX6.out.on hb); replace EW6 := Lib.hid (EW6.out.on hb); clear hb clw x0 x3 y0 y3; have clw := run_LoadE EW6.out; obtain ⟨_, x0, _, _, x3, _⟩ := EX6.out.facts; obtain ⟨_, y0, _, _, y3, _⟩ := EW6.out.facts)
                        go_roundw
                        case rel => exact ⟨k + 1, by omega, by go_num, H6, EX6⟩
                        case measure => simp [intOf]; omega
                      | true =>
                        have HXY : Hid (writesE (c.at n).1 = true ∧ (c.at n).1.addr = (c.at a).1.addr ∧ Y.hart = (c.at n).1.hart ∧ X.hart = (c.at a).1.hart) := Lib.hid (by
                          obtain ⟨_, _, _, ex⟩ := XL.out
                          obtain ⟨_, _, _, ey⟩ := YL.out
                          have t1 := hwY.out
                          have t2 := H2h.out
                          rw [ey] at t1
                          rw [ex, ey] at t2
                          rw [ex, ey]
                          simp only [beq_iff_eq] at t2
                          exact ⟨t1, t2, rfl, rfl⟩)
                        obtain ⟨n3, h3⟩ : ∃ r, (Y.hart != X.hart) = r := ⟨_, rfl⟩
                        cases n3 with
                        | true =>
                          exfalso
                          have := HNO.out k n (by omega) HOD.out (by rw [hps.out]; exact hk) (by rw [HPA.out]; omega)
                          refine this ⟨HXY.out.1, HXY.out.2.1, ?_⟩
                          rw [← HXY.out.2.2.1, ← HXY.out.2.2.2]
                          simpa using h3
                        | false =>
                          go_wp2_with (go_at_call 29; (with_reducible refine (KWW.out _).mono ?_); rintro e' w9 ⟨rfl, hb⟩; replace H6 := Lib.hid (H6.out.on hb); replace EX6 := Lib.hid (EX6.out.on hb); replace EW6 := Lib.hid (EW6.out.on hb); clear hb clw x0 x3 y0 y3; have clw := run_LoadE EW6.out; obtain ⟨_, x0, _, _, x3, _⟩ := EX6.out.facts; obtain ⟨_, y0, _, _, y3, _⟩ := EW6.out.facts)
                          go_roundw
                          case rel => exact ⟨k + 1, by omega, by go_num, H6, EX6⟩
                          case measure => simp [intOf]; omega
                  · have d9 : decide ((k : Int) < (p : Int)) = false := by simp; omega
                    go_wp2
                    go_roundw
                    case rel => exact ⟨a + 1, by omega, by go_num, H5⟩
                    case measure => simp [intOf]; omega
              · have n5 : (X.kind != 5) = true := by simpa using k5
                have n4 : (X.kind != 4) = true := by simpa using k4
                clear k5 k4
                go_wp2
                go_roundw
                case rel => exact ⟨a + 1, by omega, by go_num, H3⟩
                case measure => simp [intOf]; omega
      · obtain rfl : a = c.N := by omega
        go_wp2
        go_ret
        exact ⟨rfl, H1.out.lk.below⟩
end Go.Proofs.YtcbfokbdiefdeaaGreatDoor
