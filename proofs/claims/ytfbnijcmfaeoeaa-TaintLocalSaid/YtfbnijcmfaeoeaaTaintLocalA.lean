/-
  Proved here: the law TaintLocal answers true of a taint that it looks at; nothing that was there is changed. Conditions: as said.
-/
import Derived.Test.YtfbnijcmfaeoeaaTaintLocalHelp
import Derived.Test.YtfbnijcmfaeoeaaTaintLocalBase
import Derived.Test.YtfbnijcmfaeoeaaInsnPick
import Derived.Deep.RegionHeld3
import Derived.Deep.CutBlock
import Derived.Deep.DeepCutAuto
namespace Go.Proofs.Ytfbnijcmfaeoeaa
set_option linter.unusedVariables false
set_option linter.unusedSimpArgs false
open Go.RowKit
attribute [local go_sem ↓] fold_T fold_I fold_ST fold_SD

set_option maxRecDepth 100000 in
set_option maxHeartbeats 8000000 in
theorem local_A (t : Ta) (l l2 : Tl) (i : Ins) (event r err : Int) (al dl yl : List Int) (ol : List Int) (a : Option Addr) (c : Nat) (w : World) (h : TReads w t l) (hl : lightB l = true) (ho : ReadsI w (.slice a ol.length c) ol) (hn : ol.length ≤ 60) (hi : -9223372036854775808 ≤ i.imm ∧ i.imm ≤ 9223372036854775807) (hr : -9223372036854775808 ≤ r ∧ r ≤ 9223372036854775807)
    (hK : i.rd = 0) (hc : err = 2 ∨ (err = 0 ∧ stepOkB l i event = true ∧ l2 = behindL l i event ∧ al = addrL l i ∧ dl = dataL l i ∧ yl = l.way))
    (hstep : ∀ w0 t2, TReads w0 t2 l → Calls Try.prog 9 #[t2.V, i.V, .int .i64 event] w0 fun e w' => StepOk w0 l2 al dl yl err e w') :
    Calls Try.prog 4 #[t.V, i.V, .int .i64 event, .int .i64 r, .slice a ol.length c] w fun e w' => SameOk w true e w' := by
  have S0 := Lib.hid (Both.start t l i w h)
  have KL := Lib.hid (fun w0 => light_is t l true hl w w0 h)
  have HS := Lib.hid (light_short hl)
  have KS := Lib.hid hstep
  have d1 : decide ((60 : Int) < (ol.length : Int)) = false := by simp; omega
  have HO := Lib.hid ho
  have HN := Lib.hid hn
  have HI := Lib.hid hi
  have HC := Lib.hid hc
  have HK := Lib.hid hK
  have HLT := Lib.hid hl
  have KP := Lib.hid (fun w0 => Pick_any r 31 hr.1 hr.2 (by omega) w0)
  have hp0 : 0 ≤ pickI r 31 ∧ pickI r 31 < 31 := by unfold pickI; rw [if_neg (by omega)]; omega
  clear hl h hn hstep ho hi hc hr hK
  go_enter Try.func4, Try.ntmps4
  go_upto_region 3 with (go_at_call 5; (with_reducible refine (lives_any _).mono ?_); rintro e w1 ⟨rfl, hb⟩; have S1 := Lib.hid (S0.out.on hb); clear hb)
  have cl := S1.out.load
  go_upto_region 5 with (go_at_call 14; (with_reducible refine (KL.out _).mono ?_); rintro e w2 ⟨rfl, hb⟩; have S2 := Lib.hid (S1.out.on hb); clear hb)
  clear cl S0 S1 KL d1
  have KO : Hid (∀ W, Both t l i w W → Calls Try.prog 15 #[t.V] W fun e w' => TaintOk W l e w') := Lib.hid (fun W hB => ownTaint_any t l W hB.reads HS.out)
  have z2 := S2.out.lt
  go_cut [11, 12, 13] (fun u v e W => ∃ p q tx ta td ty, u = .pointer (some ⟨p, 0, none⟩) ∧ v = .pointer (some ⟨q, 0, none⟩) ∧ e = .int .i64 err ∧ Hid (L5 t l i l2 al dl yl p q tx ta td ty w W))
  case first =>
    go_region_held3 (fun w' => (LoadT (.pointer (some ⟨w.heap.size, 0, none⟩))).run Try.prog w' = .ok t.V w' ∧ (LoadI (.pointer (some ⟨w.heap.size + 1, 0, none⟩))).run Try.prog w' = .ok i.V w')
      ((refine Both.two (l := l) ?_; (repeat first | exact S4.out | exact S3.out | exact S2.out | with_reducible refine Both.alloc' ?_ _ | with_reducible refine Both.drew ?_ | with_reducible refine Both.row ?_ (by first | omega | (simp; omega) | simp))))
      ((first
        | (go_at_call 15; (with_reducible refine (KO.out _ ?_).mono ?_); (repeat first | exact S4.out | exact S3.out | exact S2.out | with_reducible refine Both.alloc' ?_ _ | with_reducible refine Both.drew ?_ | with_reducible refine Both.row ?_ (by first | omega | (simp; omega) | simp)); rintro e w3 ⟨tz, rfl, ht, hb⟩; have S3 := Lib.hid (Both.on (t := t) (l := l) (i := i) (w := w) (by (repeat first | exact S4.out | exact S3.out | exact S2.out | with_reducible refine Both.alloc' ?_ _ | with_reducible refine Both.drew ?_ | with_reducible refine Both.row ?_ (by first | omega | (simp; omega) | simp))) hb); have T3 := Lib.hid ht.reads; have B3 := Lib.hid hb; have z3 := hb.size; (try simp at z3); clear ht hb)
        | (go_at_call 9; (with_reducible refine (KS.out _ tz ?_).mono ?_); (repeat first | exact T3.out | with_reducible refine TReads.alloc ?_ _); rintro e w4 ⟨tx, ta, td, ty, rfl, ht, hd, hb⟩; have S4 := Lib.hid (Both.on (t := t) (l := l) (i := i) (w := w) (by (repeat first | exact S4.out | exact S3.out | exact S2.out | with_reducible refine Both.alloc' ?_ _ | with_reducible refine Both.drew ?_ | with_reducible refine Both.row ?_ (by first | omega | (simp; omega) | simp))) hb); have T4 := Lib.hid ht; have D4 := Lib.hid hd; have B4 := Lib.hid hb; have z4 := hb.size; (try simp at z4); clear ht hd hb)
        | (rw [run_StoreT (t0 := zeroTa) (t := tx) ?hX T4.out.reads.flat]; case hX => (repeat first | exact TAt.z _ _ (by simp) | with_reducible refine TAt.alloc ?_ _ | with_reducible refine TAt.dr ?_ | with_reducible refine TAt.row ?_ (by first | omega | (simp; omega) | simp) | refine TAt.below ?_ B4.out (by first | omega | (simp; omega) | simp) | refine TAt.below ?_ B3.out (by first | omega | (simp; omega) | simp)))
        | (rw [run_StoreD (x0 := .slice none 0 0) (x1 := .slice none 0 0) (x2 := .slice none 0 0) (y0 := ta) (y1 := td) (y2 := ty) ?hX D4.out.1.one D4.out.2.1.one D4.out.2.2.one]; case hX => (repeat first | exact DAt.z _ _ (by simp) | with_reducible refine DAt.alloc ?_ _ | with_reducible refine DAt.dr ?_ | with_reducible refine DAt.row ?_ (by first | omega | (simp; omega) | simp) | refine DAt.below ?_ B4.out (by first | omega | (simp; omega) | simp) | refine DAt.below ?_ B3.out (by first | omega | (simp; omega) | simp)))))
    all_goals
      go_wp2_with fail
      go_meet
      refine ⟨_, _, _, _, _, _, rfl, rfl, rfl, Lib.hid (L5.of (w4 := w4) (by (repeat first | exact S4.out | exact S3.out | exact S2.out | with_reducible refine Both.alloc' ?_ _ | with_reducible refine Both.drew ?_ | with_reducible refine Both.row ?_ (by first | omega | (simp; omega) | simp))) (by (repeat first | (with_reducible refine TAt.rowIn (t0 := zeroTa) ?_; (repeat first | exact TAt.z _ _ (by simp) | with_reducible refine TAt.alloc ?_ _ | with_reducible refine TAt.dr ?_ | with_reducible refine TAt.row ?_ (by first | omega | (simp; omega) | simp) | refine TAt.below ?_ B4.out (by first | omega | (simp; omega) | simp) | refine TAt.below ?_ B3.out (by first | omega | (simp; omega) | simp)); done) | with_reducible refine TAt.row ?_ (by first | omega | (simp; omega) | simp))) (by (repeat first | (with_reducible refine DAt.rowIn (a0 := .slice none 0 0) (d0 := .slice none 0 0) (y0 := .slice none 0 0) ?_; (repeat first | exact DAt.z _ _ (by simp) | with_reducible refine DAt.alloc ?_ _ | with_reducible refine DAt.dr ?_ | with_reducible refine DAt.row ?_ (by first | omega | (simp; omega) | simp) | refine DAt.below ?_ B4.out (by first | omega | (simp; omega) | simp) | refine DAt.below ?_ B3.out (by first | omega | (simp; omega) | simp)); done) | with_reducible refine DAt.row ?_ (by first | omega | (simp; omega) | simp))) T4.out D4.out (by first | omega | (simp; omega) | simp) (by (intro j hj1 hj2; (try simp at hj1); (repeat first | rfl | rw [setRow_other _ _ _ _ (by first | omega | (simp; omega) | simp)] | rw [Below.heap_alloc _ _ _ (by first | omega | (simp; omega) | simp)]))) (by first | omega | (simp; omega) | simp) (by first | omega | (simp; omega) | simp))⟩
  case rest =>
    obtain ⟨p, q, tx, ta, td, ty, rfl, rfl, rfl, G0⟩ := hcut
    obtain rfl | ⟨rfl, hok, hl2, hal, hdl, hyl⟩ := HC.out
    · clear KO z2 KP
      go_wp2
      go_ret
      exact ⟨rfl, G0.out.both.below⟩
    · clear HC
      obtain ⟨hm1, hm2, hm3⟩ := step_may hok
      have hrd : 0 ≤ i.rd ∧ i.rd < 32 := by have := (may_of i hm2).rd; omega
      obtain ⟨dm, hwr⟩ : ∃ dm : Nat, i.rd = (dm : Int) := ⟨i.rd.toNat, by omega⟩
      have hwi : writesI i = (dm : Int) := by unfold writesI; rw [hm2, if_pos rfl, hwr]
      have hw32 : dm < 32 := by omega
      have KW : Hid (∀ w0, Calls Try.prog 16 #[i.V] w0 fun e w' => e = .returned (.int .i64 (dm : Int)) ∧ Below w0.heap.size w0 w') := Lib.hid (fun w0 => by rw [← hwi]; exact rWrites_any i HI w0)
      have HST : Hid (∀ k : Nat, k ≠ dm → l2.x k = l.x k) := Lib.hid (fun k hk => by rw [hl2]; exact step_stays l i event hrd k (by rw [hwr]; omega))
      have HSM := Lib.hid (behind_small l i event hrd HLT.out)
      have HSH := Lib.hid (behind_short l i event hrd HLT.out)
      have HBO := Lib.hid (behind_ok l i event hm3 hrd hm1)
      rw [← hl2] at HSM HSH HBO
      have HJ : Hid (joinL l2.way l.way = l2.way) := Lib.hid (by rw [hl2]; exact way_join l i hm1)
      have HY : Hid (yl = l.way) := Lib.hid hyl
      have HAD := Lib.hid (And.intro hal hdl)
      have HDN0 : Hid (al.length ≤ 10000 ∧ dl.length ≤ 10000 ∧ yl.length ≤ 10000) := Lib.hid (by have h1 := deps_small l i HLT.out; have h2 := HS.out.2; rw [hal, hdl, hyl]; omega)
      have HL2 := Lib.hid hl2
      have HOK := Lib.hid hok
      have HRD := Lib.hid (And.intro hrd hwr)
      have HM2 := Lib.hid hm2
      clear hok hl2 hal hdl hyl hm1 hm2 hm3 hrd hwr hwi KO
      have ci := G0.out.both.loadI
      go_wp2_with (go_at_call 16; (with_reducible refine (KW.out _).mono ?_); rintro e v1 ⟨rfl, hb⟩; have G1 := Lib.hid (G0.out.on hb); clear hb ci)
      go_loopw [15] (fun x W => ∃ k : Nat, k ≤ 32 ∧ x = .int .i64 k ∧ Hid (L5 t l i l2 al dl yl p q tx ta td ty w W)) (fun x _ => 32 - (intOf x).toNat)
      case atStart => exact ⟨0, by omega, rfl, G1⟩
      case round =>
        obtain ⟨k, hk, rfl, G2⟩ := hrel
        clear G0 G1
        by_cases hk32 : k < 32
        · have ck := G2.out.x.cx k hk32
          have dk := G2.out.both.at0.cx k hk32
          have ix := fun W => index_xa p k hk32 W
          have iy := fun W => index_xa w.heap.size k hk32 W
          have zp := G2.out.x.lt
          by_cases hkw : k = dm
          · have e1 : ((k : Int) != (dm : Int)) = false := by simp [hkw]
            clear hkw
            go_wp2
            go_quiet (fail)
            go_wp2
            go_roundw
            case rel => exact ⟨k + 1, by omega, by go_num, Lib.hid (G2.out.drewN _)⟩
            case measure => simp [intOf]; omega
          · have e1 : ((k : Int) != (dm : Int)) = true := by simp; omega
            have HE := Lib.hid (HST.out k hkw)
            have HEL : Hid ((l2.x k).length ≤ 10000) := Lib.hid (Nat.le_trans (HSM.out.1 k) (by omega))
            clear hkw
            go_wp2
            go_region_held3 (fun w' => w'.cell? ⟨p, k, none⟩ = some (tx.v k) ∧ w'.cell? ⟨w.heap.size, k, none⟩ = some (t.v k))
              (first | exact ⟨ck, dk⟩ | exact ⟨G3.out.x.cx k hk32, G3.out.both.at0.cx k hk32⟩)
              ((go_at_call 17; (with_reducible refine (same_e _ _ _ _ _ HE (G2.out.drew.rx.x k hk32) (G2.out.drew.both.reads.x k hk32) HEL).mono ?_); rintro e v3 ⟨rfl, hb⟩; have G3 := Lib.hid (G2.out.drew.on hb); clear hb))
            go_wp2
            go_roundw
            case rel => exact ⟨k + 1, by omega, by go_num, G3⟩
            case measure => simp [intOf]; omega
        · obtain rfl : k = 32 := by omega
          clear hk hk32
          go_upto_region 14 with fail
          have KCH : Hid (∀ W, TReads W tx l2 → Calls Try.prog 13 #[tx.V] W fun e w' => e = .returned (.int .i64 0) ∧ Below W.heap.size W w') := Lib.hid (fun W h => tCheck_b tx l2 true HBO.out W h HSH.out)
          have HWL : Hid (l2.way.length ≤ 10000) := Lib.hid (Nat.le_trans HSM.out.2 (by omega))
          have HLW : Hid (l.way.length ≤ 10000) := Lib.hid HS.out.2
          have HYL : Hid (yl.length ≤ 10000) := Lib.hid (by rw [HY.out]; exact HLW.out)
          have KJ : Hid (∀ W va vb, ReadsI W va l2.way → ReadsI W vb l.way → Calls Try.prog 18 #[va, vb] W fun e w' => Merged W l2.way e w') := Lib.hid (fun W va vb ha hb => by
            have := Join_any va vb l2.way l.way W ha hb (by have := HWL.out; have := HLW.out; omega)
            rw [HJ.out] at this; exact this)
          have zp := G2.out.x.lt
          have zq := G2.out.d.lt
          go_region_held3 (fun w' => (LoadT (.pointer (some ⟨p, 0, none⟩))).run Try.prog w' = .ok tx.V w' ∧ w'.cell? ⟨p, 32, none⟩ = some tx.way ∧ w'.cell? ⟨w.heap.size, 32, none⟩ = some t.way ∧ w'.cell? ⟨q, 2, none⟩ = some ty)
            (first | exact G6.out.four | exact G5.out.four | exact G4.out.four | exact G3.out.four | exact G2.out.drew.four)
            ((first
              | (go_at_call 13; (with_reducible refine (KCH.out _ G2.out.drew.rx).mono ?_); rintro e v3 ⟨rfl, hb⟩; have G3 := Lib.hid (G2.out.drew.on hb); clear hb)
              | (go_at_call 18; (with_reducible refine (KJ.out _ _ _ G3.out.rx.w G3.out.both.reads.w).mono ?_); rintro e v4 ⟨vj, rfl, hv, hb⟩; have G4 := Lib.hid (G3.out.on hb); have J4 := Lib.hid hv.1; clear hb hv)
              | (go_at_call 17; (with_reducible refine (same_r _ _ _ _ J4.out G4.out.rx.w HWL).mono ?_); rintro e v5 ⟨rfl, hb⟩; have G5 := Lib.hid (G4.out.on hb); clear hb)
              | (go_at_call 17; (with_reducible refine (same_e _ _ _ _ _ HY G5.out.ry G5.out.both.reads.w HYL).mono ?_); rintro e v6 ⟨rfl, hb⟩; have G6 := Lib.hid (G5.out.on hb); clear hb)))
          clear KCH KJ G2 G3 G4 G5 J4 zp zq
          obtain ⟨rn, hrn⟩ : ∃ rn : Nat, pickI r 31 = (rn : Int) := ⟨(pickI r 31).toNat, by omega⟩
          rw [hrn] at KP hp0
          have HRN := Lib.hid hrn
          clear hrn
          have hrn31 : rn < 31 := by omega
          clear hp0
          obtain ⟨rl, hrl⟩ : ∃ rl, readsL i = rl := ⟨_, rfl⟩
          have HRL := Lib.hid hrl
          have KR : Hid (∀ W, Calls Try.prog 20 #[i.V] W fun e w' => Merged W rl e w') := Lib.hid (fun W => by
            have := rReads_any i HI W
            unfold readsT at this
            rw [HM2.out, if_pos rfl, hrl] at this; exact this)
          clear hrl
          have hrl2 : rl.length ≤ 2 := by rw [← HRL.out]; exact reads_small i
          have ci := G6.out.both.loadI
          go_upto_block 2 with (first
            | (go_at_call 19; (with_reducible refine (KP.out _).mono ?_); rintro e v7 ⟨rfl, rfl⟩)
            | (go_at_call 20; (with_reducible refine (KR.out _).mono ?_); rintro e v8 ⟨vr, rfl, hv, hb⟩; have G8 := Lib.hid (G6.out.on hb); have J8 := Lib.hid hv.1; clear hb hv ci))
          clear KP KR G6
          obtain ⟨r1, hr1⟩ : ∃ r1 : Nat, (1 + (rn : Int)) = (r1 : Int) := ⟨rn + 1, by omega⟩
          rw [hr1]
          have hr32 : 1 ≤ r1 ∧ r1 < 32 := by omega
          have HR1 := Lib.hid hr1
          clear hr1 hrn31
          go_cut [17] (fun x W => Hid (L5 t l i l2 al dl yl p q tx ta td ty w W) ∧ Hid (∀ z ∈ rl, z.toNat ≠ r1))
          case first =>
            rcases J8.out with ⟨⟨a1, c1, rfl, -⟩, hnil⟩ | ⟨b, off, c1, rfl, g1, g2, g3, g4⟩
            · have hl0 : rl.length = 0 := by rw [hnil]; rfl
              have HNIL := Lib.hid hnil
              clear hnil
              go_wp2
              go_loopw [17] (fun x W => x = .int .i64 0 ∧ Hid (L5 t l i l2 al dl yl p q tx ta td ty w W)) (fun _ _ => 0)
              case atStart => exact ⟨rfl, G8⟩
              case round =>
                obtain ⟨rfl, G9⟩ := hrel
                go_wp2
                go_meet
                exact ⟨G9, Lib.hid (by rw [HNIL.out]; simp)⟩
            · go_wp2
              go_loopw [17] (fun x W => ∃ k : Nat, k ≤ rl.length ∧ x = .int .i64 k ∧ v8 = W ∧ Hid (∀ j, j < k → (atI rl j).toNat ≠ r1)) (fun x _ => rl.length - (intOf x).toNat)
              case atStart => exact ⟨0, by omega, rfl, (by first | trivial | rfl), Lib.hid (fun j hj => absurd hj (by omega))⟩
              case round =>
                obtain ⟨k, hk, rfl, rfl, HQ⟩ := hrel
                by_cases hlt : k < rl.length
                · have ck := g4 k hlt
                  by_cases he : atI rl k = (r1 : Int)
                  · have e1 : (atI rl k == (r1 : Int)) = true := by simp [he]
                    clear he
                    go_wp2
                    go_ret
                    exact ⟨rfl, G8.out.both.below⟩
                  · have e1 : (atI rl k == (r1 : Int)) = false := by simpa using he
                    have HE := Lib.hid he
                    clear he
                    go_wp2
                    go_roundw
                    case rel =>
                      refine ⟨k + 1, by omega, by go_num, (by first | trivial | rfl), Lib.hid (fun j hj => ?_)⟩
                      by_cases hjk : j = k
                      · subst hjk; have := HE.out; omega
                      · exact HQ.out j (by omega)
                    case measure => simp [intOf]; omega
                · go_wp2
                  go_meet
                  refine ⟨G8, Lib.hid (fun z hz => ?_)⟩
                  obtain ⟨j, hj, rfl⟩ := List.getElem_of_mem hz
                  have := HQ.out j (by omega)
                  unfold atI at this
                  rw [List.getD_eq_getElem?_getD, List.getElem?_eq_getElem hj] at this
                  exact this
          case rest =>
            obtain ⟨G9, HQ⟩ := hcut
            clear G8 J8
            have HO9 := Lib.hid (HO.out.below G9.out.both.below)
            have hol : ol.length ≤ 100000 := by have := HN.out; omega
            cases hro : rises ol
            · have KRS := rising_any _ ol _ HO9.out hol
              rw [hro] at KRS
              have KRS2 := Lib.hid KRS
              clear KRS hro
              go_wp2_with (go_at_call 21; (with_reducible refine KRS2.out.mono ?_); rintro e u0 ⟨rfl, rfl⟩)
              go_ret
              exact ⟨rfl, G9.out.both.below⟩
            · have KRS := rising_any _ ol _ HO9.out hol
              rw [hro] at KRS
              have KRS2 := Lib.hid KRS
              have HRO := Lib.hid hro
              clear KRS hro
              have cl := G9.out.both.load
              go_upto_region 26 with (first
                | (go_at_call 21; (with_reducible refine KRS2.out.mono ?_); rintro e u0 ⟨rfl, rfl⟩)
                | (go_at_call 15; (with_reducible refine (ownTaint_any t l _ G9.out.both.reads HS.out).mono ?_); rintro e u1 ⟨tv, rfl, ht, hb⟩; have G10 := Lib.hid (G9.out.on hb); have T10 := Lib.hid ht.reads; clear ht hb cl)
                | (refine store_ta (zero_at u1) _ (T10.out.flat) rfl (.tmp 18) (.tmp 106) rfl rfl rfl ?_; intro u2 D2 ho2 hb2 hz2; have D10 := Lib.hid D2; have B10 := Lib.hid ((box_below u1 _).trans hb2); clear D2 ho2 hb2 hz2))
              have zg : w.heap.size + 1 < u1.heap.size := G10.out.both.lt
              have ZG := Lib.hid (show u1.heap.size < u2.heap.size from D10.out.lt)
              have hix := fun W => index_xa u1.heap.size r1 hr32.2 W
              have HO2 := Lib.hid (HO.out.below (G10.out.both.below.trans (B10.out.mono G10.out.both.below.size)))
              have KOW : Hid (∀ W, ReadsI W (.slice a ol.length c) ol → Calls Try.prog 22 #[.slice a ol.length c] W fun e w' => Merged W ol e w') := Lib.hid (fun W h => own_any _ ol W h hol)
              go_upto_region 27 with (go_at_call 22; (with_reducible refine (KOW.out _ HO2.out).mono ?_); rintro e u3 ⟨vo, rfl, hv, hb⟩; obtain ⟨va, vc, rfl⟩ := hv.1.len; have J12 := Lib.hid hv; have B12 := Lib.hid hb; have D12 := Lib.hid (D10.out.below hb ZG.out); have c12 := D12.out.cx r1 hr32.2; have f12 := D12.out.frozen r1; have z12 := D12.out.lt; clear hv hb)
              have B13 := Lib.hid ((B10.out.trans (B12.out.mono (Nat.le_of_lt ZG.out))).setCell (p := ⟨u1.heap.size, r1, none⟩) (Nat.le_refl _) (.slice va ol.length vc))
              have D13 := Lib.hid (D12.out.setX r1 hr32.2 (.slice va ol.length vc))
              have J13 := Lib.hid (J12.out.set (k := r1) (.slice va ol.length vc) ZG.out)
              obtain ⟨W, hW⟩ : ∃ W, Hid (u3.setCell ⟨u1.heap.size, r1, none⟩ (.slice va ol.length vc) = W) := ⟨_, Lib.hid rfl⟩
              rw [hW.out] at B13 D13 J13 ⊢
              have G13 := Lib.hid (G10.out.on B13.out)
              have T13 := Lib.hid (put_reads hr32.2 (T10.out.below B13.out) J13.out.1)
              have HO13 := Lib.hid (HO.out.below G13.out.both.below)
              clear hW B13 J13 D10 B10 B12 D12 J12 c12 f12 z12 HO2 KOW hix ZG T10 HO9 G10 G9
              obtain ⟨tu, htu⟩ : ∃ tu, Hid (tv.put r1 (.slice va ol.length vc) = tu) := ⟨_, Lib.hid rfl⟩
              rw [htu.out] at D13 T13
              obtain ⟨g, hg⟩ : ∃ g, Hid (u1.heap.size = g) := ⟨_, Lib.hid rfl⟩
              rw [hg.out] at D13 zg ⊢
              clear htu hg
              have hst := step_local l i event r1 hr32 ol HRD.out.1 (by rw [HRL.out]; exact HQ.out)
              obtain ⟨l3, hl3⟩ : ∃ l3, behindL (l.put r1 ol) i event = l3 := ⟨_, rfl⟩
              have hst2 := step_stays (l.put r1 ol) i event HRD.out.1
              rw [hl3, ← HL2.out] at hst
              rw [← HAD.out.1, ← HAD.out.2] at hst
              have KS2 : Hid (∀ W0 t2, TReads W0 t2 (l.put r1 ol) → Calls Try.prog 9 #[t2.V, i.V, .int .i64 event] W0 fun e w' => StepOk W0 l3 al dl l.way 0 e w') := Lib.hid (fun W0 t2 h2 => by
                have hok2 : stepOkB (l.put r1 ol) i event = true := by
                  obtain ⟨m1, m2, m3⟩ := step_may HOK.out
                  unfold stepOkB
                  rw [put_ok l r1 hr32 ol m1 HRO.out, m2, decide_eq_true m3]; rfl
                have := step_good t2 (l.put r1 ol) i event W0 h2 (put_short hr32.2 HS.out (by have := HN.out; omega)) (Lib.hid hok2)
                rw [hl3, hst.1, hst.2.1] at this
                exact this)
              have HWY : Hid (l3.way = l2.way) := Lib.hid hst.2.2.1
              have HXW : Hid (dm ≠ 0 → l3.x dm = l2.x dm) := Lib.hid (fun h => by have := hst.2.2.2.1 (by rw [HRD.out.2]; omega); rwa [HRD.out.2] at this)
              have HXR : Hid (r1 ≠ dm → l3.x r1 = ol) := Lib.hid (fun h => hst.2.2.2.2 (by rw [HRD.out.2]; omega))
              clear hst hst2 hl3
              have cl := run_LoadT D13.out
              have ci := G13.out.both.loadI
              go_upto_region 28 with (first
                | (go_at_call 9; (with_reducible refine (KS2.out _ tu T13.out).mono ?_); rintro e x1 ⟨ty2, fa, fd, fy, rfl, ht, hd, hb⟩; have G14 := Lib.hid (G13.out.on hb); have T14 := Lib.hid ht; have E14 := Lib.hid hd; clear ht hd hb cl ci)
                | (refine store_ta ((zero_at x1).alloc _) _ (T14.out.reads.flat) rfl (.tmp 19) (.tmp 117) rfl rfl rfl ?_; intro x2 D3 ho3 hb3 hz3; clear hz3; have P3 := Lib.hid D3; have Q3 := Lib.hid hb3; have R3 := Lib.hid ((ho3 _ (by omega)).trans (d_new x1 _)); clear D3 ho3 hb3)
                | (refine store_d R3.out rfl (.tmp 20) (.tmp 118) rfl _ _ _ E14.out.1.one E14.out.2.1.one E14.out.2.2.one rfl rfl ?_; intro x3 D4 ho4 hb4 hz4; clear ho4 hz4; have hgo := got_of (B := 0) T14.out E14.out (Nat.zero_le _) P3.out Q3.out D4 hb4; have H15 := Lib.hid hgo.1; have G15 := Lib.hid (G14.out.on hgo.2); clear hgo D4 hb4))
              clear KS KW KS2 KRS2 HST HJ HBO HSH T13 D13 G13 T14 E14 P3 Q3 R3 G14 HO13 HAD HOK HI HQ HRL
              obtain ⟨h, hh⟩ : ∃ h, Hid (x1.heap.size = h) := ⟨_, Lib.hid rfl⟩
              rw [hh.out] at H15 ⊢
              clear hh
              have hdl := deps_small l i HLT.out
              have HDN : Hid (al.length ≤ 10000 ∧ dl.length ≤ 10000 ∧ yl.length ≤ 10000) := HDN0
              have HW3 : Hid (l3.way.length ≤ 10000) := Lib.hid (by rw [HWY.out]; exact HWL.out)
              have ix1 := fun W => index_xa h dm hw32 W
              have ix2 := fun W => index_xa p dm hw32 W
              have ix3 := fun W => index_xa h r1 hr32.2 W
              have zh := H15.out.box.lt
              have zh2 := H15.out.deps.lt
              have zp := G15.out.x.lt
              have zq := G15.out.d.lt
              have hd0 : dm = 0 := by have := HK.out; have := HRD.out.2; omega
              have e1 : ((dm : Int) == 0) = true := by simp [hd0]
              have e2 : ((r1 : Int) == (dm : Int)) = false := by simp; omega
              have HXR2 : Hid (l3.x r1 = ol) := Lib.hid (HXR.out (by omega))
              have HXRL : Hid ((l3.x r1).length ≤ 10000) := Lib.hid (by rw [HXR2.out]; have := HN.out; omega)
              clear hd0 hdl HK HRD HRN HR1
              refine wp_region_held_drew (S := (fun w' => w'.cell? ⟨q, 0, none⟩ = some ta ∧ w'.cell? ⟨q, 1, none⟩ = some td ∧ w'.cell? ⟨q, 2, none⟩ = some ty ∧ w'.cell? ⟨h + 1, 0, none⟩ = some fa ∧ w'.cell? ⟨h + 1, 1, none⟩ = some fd ∧ w'.cell? ⟨h + 1, 2, none⟩ = some fy ∧ w'.cell? ⟨h, 32, none⟩ = some ty2.way ∧ w'.cell? ⟨p, 32, none⟩ = some tx.way ∧ w'.cell? ⟨h, dm, none⟩ = some (ty2.v dm) ∧ w'.cell? ⟨p, dm, none⟩ = some (tx.v dm) ∧ w'.cell? ⟨h, r1, none⟩ = some (ty2.v r1))) (by kernel_rfl) ?_ (fun hHeld => ?_)
              · exact ten G15.out.drew H15.out.drew hw32 hr32.2
              refine wpAnyH_take (i := 0) (v := ?v0) rfl (by kernel_rfl) (by kernel_rfl) (by kernel_rfl) (fun _ _ _ h => h) (Or.inl ⟨by kernel_rfl, ?h0⟩) (by assumption) ?_
              case h0 => ((intro w hSw; (try dsimp only at hSw); go_simp) <;> (try with_reducible rfl))
              (try simp only [Act.put, List.setIfInBounds_toArray, List.set_cons_zero, List.set_cons_succ])
              refine wpAnyH_take (i := 1) (v := ?v1) rfl (by kernel_rfl) (by kernel_rfl) (by kernel_rfl) (fun _ _ _ h => h) (Or.inl ⟨by kernel_rfl, ?h1⟩) (by assumption) ?_
              case h1 => ((intro w hSw; (try dsimp only at hSw); go_simp) <;> (try with_reducible rfl))
              (try simp only [Act.put, List.setIfInBounds_toArray, List.set_cons_zero, List.set_cons_succ])
              refine wpAnyH_take (i := 2) (v := ?v2) rfl (by kernel_rfl) (by kernel_rfl) (by kernel_rfl) (fun _ _ _ h => h) (Or.inl ⟨by kernel_rfl, ?h2⟩) (by assumption) ?_
              case h2 => ((intro w hSw; (try dsimp only at hSw); go_simp) <;> (try with_reducible rfl))
              (try simp only [Act.put, List.setIfInBounds_toArray, List.set_cons_zero, List.set_cons_succ])
              refine wpAnyH_take (i := 3) (v := ?v3) rfl (by kernel_rfl) (by kernel_rfl) (by kernel_rfl) (fun _ _ _ h => h) (Or.inl ⟨by kernel_rfl, ?h3⟩) (by assumption) ?_
              case h3 => ((intro w hSw; (try dsimp only at hSw); go_simp) <;> (try with_reducible rfl))
              (try simp only [Act.put, List.setIfInBounds_toArray, List.set_cons_zero, List.set_cons_succ])
              refine wpAnyH_take (i := 4) (v := ?v4) rfl (by kernel_rfl) (by kernel_rfl) (by kernel_rfl) (fun _ _ _ h => h) (Or.inl ⟨by kernel_rfl, ?h4⟩) (by assumption) ?_
              case h4 => ((intro w hSw; (try dsimp only at hSw); go_simp) <;> (try with_reducible rfl))
              (try simp only [Act.put, List.setIfInBounds_toArray, List.set_cons_zero, List.set_cons_succ])
              refine wpAnyH_ready (rs := [5]) (by kernel_rfl) (by simp) ?_
              refine AllReadyH.cons rfl (fun K hK => ?_) AllReadyH.nil
              go_simp
              (go_at_call 12; (with_reducible refine (deps_e _ _ _ _ _ _ al dl yl l.way _ HY G15.out.drew.ra G15.out.drew.rd G15.out.drew.ry H15.out.drew.ra H15.out.drew.rd H15.out.drew.ry HDN).mono ?_); rintro e y1 ⟨rfl, hb⟩; have G16 := Lib.hid (G15.out.drew.on hb); have H16 := Lib.hid (H15.out.drew.on hb); clear hb)
              (try go_wp2_with fail)
              refine hK.out _ _ ?_ (fun hHeld => ?_)
              · exact ten G16.out H16.out hw32 hr32.2
              clear hK K
              (try simp only [Act.put, List.setIfInBounds_toArray, List.set_cons_zero, List.set_cons_succ])
              refine wpAnyH_take (i := 6) (v := ?v6) rfl (by kernel_rfl) (by kernel_rfl) (by kernel_rfl) (fun _ _ _ h => h) (Or.inl ⟨by kernel_rfl, ?h6⟩) (by assumption) ?_
              case h6 => ((intro w hSw; (try dsimp only at hSw); go_simp) <;> (try with_reducible rfl))
              (try simp only [Act.put, List.setIfInBounds_toArray, List.set_cons_zero, List.set_cons_succ])
              refine wpAnyH_take (i := 7) (v := ?v7) rfl (by kernel_rfl) (by kernel_rfl) (by kernel_rfl) (fun _ _ _ h => h) (Or.inl ⟨by kernel_rfl, ?h7⟩) (by assumption) ?_
              case h7 => ((intro w hSw; (try dsimp only at hSw); go_simp) <;> (try with_reducible rfl))
              (try simp only [Act.put, List.setIfInBounds_toArray, List.set_cons_zero, List.set_cons_succ])
              refine wpAnyH_take (i := 8) (v := ?v8) rfl (by kernel_rfl) (by kernel_rfl) (by kernel_rfl) (fun _ _ _ h => h) (Or.inl ⟨by kernel_rfl, ?h8⟩) (by assumption) ?_
              case h8 => ((intro w hSw; (try dsimp only at hSw); go_simp) <;> (try with_reducible rfl))
              (try simp only [Act.put, List.setIfInBounds_toArray, List.set_cons_zero, List.set_cons_succ])
              refine wpAnyH_take (i := 9) (v := ?v9) rfl (by kernel_rfl) (by kernel_rfl) (by kernel_rfl) (fun _ _ _ h => h) (Or.inl ⟨by kernel_rfl, ?h9⟩) (by assumption) ?_
              case h9 => ((intro w hSw; (try dsimp only at hSw); go_simp) <;> (try with_reducible rfl))
              (try simp only [Act.put, List.setIfInBounds_toArray, List.set_cons_zero, List.set_cons_succ])
              refine wpAnyH_take (i := 10) (v := ?v10) rfl (by kernel_rfl) (by kernel_rfl) (by kernel_rfl) (fun _ _ _ h => h) (Or.inl ⟨by kernel_rfl, ?h10⟩) (by assumption) ?_
              case h10 => ((intro w hSw; (try dsimp only at hSw); go_simp) <;> (try with_reducible rfl))
              (try simp only [Act.put, List.setIfInBounds_toArray, List.set_cons_zero, List.set_cons_succ])
              refine wpAnyH_take (i := 11) (v := ?v11) rfl (by kernel_rfl) (by kernel_rfl) (by kernel_rfl) (fun _ _ _ h => h) (Or.inl ⟨by kernel_rfl, ?h11⟩) (by assumption) ?_
              case h11 => ((intro w hSw; (try dsimp only at hSw); go_simp) <;> (try with_reducible rfl))
              (try simp only [Act.put, List.setIfInBounds_toArray, List.set_cons_zero, List.set_cons_succ])
              refine wpAnyH_ready (rs := [12]) (by kernel_rfl) (by simp) ?_
              refine AllReadyH.cons rfl (fun K hK => ?_) AllReadyH.nil
              go_simp
              (go_at_call 17; (with_reducible refine (same_e _ _ _ _ _ HWY H16.out.reads.w G16.out.rx.w HW3).mono ?_); rintro e y2 ⟨rfl, hb⟩; have G17 := Lib.hid (G16.out.on hb); have H17 := Lib.hid (H16.out.on hb); clear hb)
              (try go_wp2_with fail)
              refine hK.out _ _ ?_ (fun hHeld => ?_)
              · exact ten G17.out H17.out hw32 hr32.2
              clear hK K
              (try simp only [Act.put, List.setIfInBounds_toArray, List.set_cons_zero, List.set_cons_succ])
              refine wpAnyH_take (i := 13) (v := ?v13) rfl (by kernel_rfl) (by kernel_rfl) (by kernel_rfl) (fun _ _ _ h => h) (Or.inl ⟨by kernel_rfl, ?h13⟩) (by assumption) ?_
              case h13 => ((intro w hSw; (try dsimp only at hSw); go_simp) <;> (try with_reducible rfl))
              (try simp only [Act.put, List.setIfInBounds_toArray, List.set_cons_zero, List.set_cons_succ])
              refine wpAnyH_take (i := 14) (v := ?v14) rfl (by kernel_rfl) (by kernel_rfl) (by kernel_rfl) (fun _ _ _ h => h) (Or.inl ⟨by kernel_rfl, ?h14⟩) (by assumption) ?_
              case h14 => ((intro w hSw; (try dsimp only at hSw); go_simp) <;> (try with_reducible rfl))
              (try simp only [Act.put, List.setIfInBounds_toArray, List.set_cons_zero, List.set_cons_succ])
              refine wpAnyH_take (i := 15) (v := ?v15) rfl (by kernel_rfl) (by kernel_rfl) (by kernel_rfl) (fun _ _ _ h => h) (Or.inl ⟨by kernel_rfl, ?h15⟩) (by assumption) ?_
              case h15 => ((intro w hSw; (try dsimp only at hSw); go_simp) <;> (try with_reducible rfl))
              (try simp only [Act.put, List.setIfInBounds_toArray, List.set_cons_zero, List.set_cons_succ])
              refine wpAnyH_take (i := 16) (v := ?v16) rfl (by kernel_rfl) (by kernel_rfl) (by kernel_rfl) (fun _ _ _ h => h) (Or.inl ⟨by kernel_rfl, ?h16⟩) (by assumption) ?_
              case h16 => ((intro w hSw; (try dsimp only at hSw); go_simp) <;> (try with_reducible rfl))
              (try simp only [Act.put, List.setIfInBounds_toArray, List.set_cons_zero, List.set_cons_succ])
              refine wpAnyH_take (i := 17) (v := ?v17) rfl (by kernel_rfl) (by kernel_rfl) (by kernel_rfl) (fun _ _ _ h => h) (Or.inl ⟨by kernel_rfl, ?h17⟩) (by assumption) ?_
              case h17 => ((intro w hSw; (try dsimp only at hSw); go_simp) <;> (try with_reducible rfl))
              (try simp only [Act.put, List.setIfInBounds_toArray, List.set_cons_zero, List.set_cons_succ])
              refine wpAnyH_take (i := 18) (v := undef) rfl (by kernel_rfl) (by kernel_rfl) (by kernel_rfl) (fun _ _ _ h => h) (Or.inr ⟨by kernel_rfl, rfl⟩) (by assumption) ?_
              (try simp only [Act.put, List.setIfInBounds_toArray, List.set_cons_zero, List.set_cons_succ])
              refine wpAnyH_take (i := 19) (v := undef) rfl (by kernel_rfl) (by kernel_rfl) (by kernel_rfl) (fun _ _ _ h => h) (Or.inr ⟨by kernel_rfl, rfl⟩) (by assumption) ?_
              (try simp only [Act.put, List.setIfInBounds_toArray, List.set_cons_zero, List.set_cons_succ])
              refine wpAnyH_take (i := 20) (v := undef) rfl (by kernel_rfl) (by kernel_rfl) (by kernel_rfl) (fun _ _ _ h => h) (Or.inr ⟨by kernel_rfl, rfl⟩) (by assumption) ?_
              (try simp only [Act.put, List.setIfInBounds_toArray, List.set_cons_zero, List.set_cons_succ])
              refine wpAnyH_take (i := 21) (v := undef) rfl (by kernel_rfl) (by kernel_rfl) (by kernel_rfl) (fun _ _ _ h => h) (Or.inr ⟨by kernel_rfl, rfl⟩) (by assumption) ?_
              (try simp only [Act.put, List.setIfInBounds_toArray, List.set_cons_zero, List.set_cons_succ])
              refine wpAnyH_take (i := 22) (v := undef) rfl (by kernel_rfl) (by kernel_rfl) (by kernel_rfl) (fun _ _ _ h => h) (Or.inr ⟨by kernel_rfl, rfl⟩) (by assumption) ?_
              (try simp only [Act.put, List.setIfInBounds_toArray, List.set_cons_zero, List.set_cons_succ])
              refine wpAnyH_take (i := 23) (v := undef) rfl (by kernel_rfl) (by kernel_rfl) (by kernel_rfl) (fun _ _ _ h => h) (Or.inr ⟨by kernel_rfl, rfl⟩) (by assumption) ?_
              (try simp only [Act.put, List.setIfInBounds_toArray, List.set_cons_zero, List.set_cons_succ])
              refine wpAnyH_take (i := 24) (v := undef) rfl (by kernel_rfl) (by kernel_rfl) (by kernel_rfl) (fun _ _ _ h => h) (Or.inr ⟨by kernel_rfl, rfl⟩) (by assumption) ?_
              (try simp only [Act.put, List.setIfInBounds_toArray, List.set_cons_zero, List.set_cons_succ])
              refine wpAnyH_take (i := 25) (v := undef) rfl (by kernel_rfl) (by kernel_rfl) (by kernel_rfl) (fun _ _ _ h => h) (Or.inr ⟨by kernel_rfl, rfl⟩) (by assumption) ?_
              (try simp only [Act.put, List.setIfInBounds_toArray, List.set_cons_zero, List.set_cons_succ])
              refine wpAnyH_take (i := 26) (v := undef) rfl (by kernel_rfl) (by kernel_rfl) (by kernel_rfl) (fun _ _ _ h => h) (Or.inr ⟨by kernel_rfl, rfl⟩) (by assumption) ?_
              (try simp only [Act.put, List.setIfInBounds_toArray, List.set_cons_zero, List.set_cons_succ])
              refine wpAnyH_take (i := 27) (v := ?v27) rfl (by kernel_rfl) (by kernel_rfl) (by kernel_rfl) (fun _ _ _ h => h) (Or.inl ⟨by kernel_rfl, ?h27⟩) (by assumption) ?_
              case h27 => ((intro w hSw; (try dsimp only at hSw); go_simp) <;> (try with_reducible rfl))
              (try simp only [Act.put, List.setIfInBounds_toArray, List.set_cons_zero, List.set_cons_succ])
              refine wpAnyH_take (i := 28) (v := ?v28) rfl (by kernel_rfl) (by kernel_rfl) (by kernel_rfl) (fun _ _ _ h => h) (Or.inl ⟨by kernel_rfl, ?h28⟩) (by assumption) ?_
              case h28 => ((intro w hSw; (try dsimp only at hSw); go_simp) <;> (try with_reducible rfl))
              (try simp only [Act.put, List.setIfInBounds_toArray, List.set_cons_zero, List.set_cons_succ])
              refine wpAnyH_take (i := 29) (v := ?v29) rfl (by kernel_rfl) (by kernel_rfl) (by kernel_rfl) (fun _ _ _ h => h) (Or.inl ⟨by kernel_rfl, ?h29⟩) (by assumption) ?_
              case h29 => ((intro w hSw; (try dsimp only at hSw); go_simp) <;> (try with_reducible rfl))
              (try simp only [Act.put, List.setIfInBounds_toArray, List.set_cons_zero, List.set_cons_succ])
              refine wpAnyH_take (i := 30) (v := ?v30) rfl (by kernel_rfl) (by kernel_rfl) (by kernel_rfl) (fun _ _ _ h => h) (Or.inl ⟨by kernel_rfl, ?h30⟩) (by assumption) ?_
              case h30 => ((intro w hSw; (try dsimp only at hSw); go_simp) <;> (try with_reducible rfl))
              (try simp only [Act.put, List.setIfInBounds_toArray, List.set_cons_zero, List.set_cons_succ])
              refine wpAnyH_take (i := 31) (v := ?v31) rfl (by kernel_rfl) (by kernel_rfl) (by kernel_rfl) (fun _ _ _ h => h) (Or.inl ⟨by kernel_rfl, ?h31⟩) (by assumption) ?_
              case h31 => ((intro w hSw; (try dsimp only at hSw); go_simp) <;> (try with_reducible rfl))
              (try simp only [Act.put, List.setIfInBounds_toArray, List.set_cons_zero, List.set_cons_succ])
              refine wpAnyH_take (i := 32) (v := ?v32) rfl (by kernel_rfl) (by kernel_rfl) (by kernel_rfl) (fun _ _ _ h => h) (Or.inl ⟨by kernel_rfl, ?h32⟩) (by assumption) ?_
              case h32 => ((intro w hSw; (try dsimp only at hSw); go_simp) <;> (try with_reducible rfl))
              (try simp only [Act.put, List.setIfInBounds_toArray, List.set_cons_zero, List.set_cons_succ])
              refine wpAnyH_take (i := 33) (v := ?v33) rfl (by kernel_rfl) (by kernel_rfl) (by kernel_rfl) (fun _ _ _ h => h) (Or.inl ⟨by kernel_rfl, ?h33⟩) (by assumption) ?_
              case h33 => ((intro w hSw; (try dsimp only at hSw); go_simp) <;> (try with_reducible rfl))
              (try simp only [Act.put, List.setIfInBounds_toArray, List.set_cons_zero, List.set_cons_succ])
              refine wpAnyH_take (i := 34) (v := ?v34) rfl (by kernel_rfl) (by kernel_rfl) (by kernel_rfl) (fun _ _ _ h => h) (Or.inl ⟨by kernel_rfl, ?h34⟩) (by assumption) ?_
              case h34 => ((intro w hSw; (try dsimp only at hSw); go_simp) <;> (try with_reducible rfl))
              (try simp only [Act.put, List.setIfInBounds_toArray, List.set_cons_zero, List.set_cons_succ])
              refine wpAnyH_take (i := 35) (v := ?v35) rfl (by kernel_rfl) (by kernel_rfl) (by kernel_rfl) (fun _ _ _ h => h) (Or.inl ⟨by kernel_rfl, ?h35⟩) (by assumption) ?_
              case h35 => ((intro w hSw; (try dsimp only at hSw); go_simp) <;> (try with_reducible rfl))
              (try simp only [Act.put, List.setIfInBounds_toArray, List.set_cons_zero, List.set_cons_succ])
              refine wpAnyH_take (i := 36) (v := ?v36) rfl (by kernel_rfl) (by kernel_rfl) (by kernel_rfl) (fun _ _ _ h => h) (Or.inl ⟨by kernel_rfl, ?h36⟩) (by assumption) ?_
              case h36 => ((intro w hSw; (try dsimp only at hSw); go_simp) <;> (try with_reducible rfl))
              (try simp only [Act.put, List.setIfInBounds_toArray, List.set_cons_zero, List.set_cons_succ])
              refine wpAnyH_take (i := 37) (v := ?v37) rfl (by kernel_rfl) (by kernel_rfl) (by kernel_rfl) (fun _ _ _ h => h) (Or.inl ⟨by kernel_rfl, ?h37⟩) (by assumption) ?_
              case h37 => ((intro w hSw; (try dsimp only at hSw); go_simp) <;> (try with_reducible rfl))
              (try simp only [Act.put, List.setIfInBounds_toArray, List.set_cons_zero, List.set_cons_succ])
              refine wpAnyH_take (i := 38) (v := ?v38) rfl (by kernel_rfl) (by kernel_rfl) (by kernel_rfl) (fun _ _ _ h => h) (Or.inl ⟨by kernel_rfl, ?h38⟩) (by assumption) ?_
              case h38 => ((intro w hSw; (try dsimp only at hSw); go_simp) <;> (try with_reducible rfl))
              (try simp only [Act.put, List.setIfInBounds_toArray, List.set_cons_zero, List.set_cons_succ])
              refine wpAnyH_ready (rs := [39]) (by kernel_rfl) (by simp) ?_
              refine AllReadyH.cons rfl (fun K hK => ?_) AllReadyH.nil
              go_simp
              (go_at_call 17; (with_reducible refine (same_e _ _ _ _ _ HXR2 (H17.out.reads.x r1 hr32.2) (HO.out.below G17.out.both.below) HXRL).mono ?_); rintro e y4 ⟨rfl, hb⟩; have G19 := Lib.hid (G17.out.on hb); have H19 := Lib.hid (H17.out.on hb); clear hb)
              (try go_wp2_with fail)
              refine hK.out _ _ ?_ (fun hHeld => ?_)
              · exact ten G19.out H19.out hw32 hr32.2
              clear hK K
              (try simp only [Act.put, List.setIfInBounds_toArray, List.set_cons_zero, List.set_cons_succ])
              refine wpAnyH_ready (rs := [40]) (by kernel_rfl) (by simp) ?_
              refine AllReadyH.cons rfl (fun K hK => ?_) AllReadyH.nil
              go_simp
              refine hK.out _ _ ?_ (fun hHeld => ?_)
              · exact ten G19.out H19.out hw32 hr32.2
              clear hK K
              (try simp only [Act.put, List.setIfInBounds_toArray, List.set_cons_zero, List.set_cons_succ])
              refine wpAnyH_ready (rs := [41]) (by kernel_rfl) (by simp) ?_
              refine AllReadyH.cons rfl (fun K hK => ?_) AllReadyH.nil
              go_simp
              refine hK.out _ _ ?_ (fun hHeld => ?_)
              · exact ten G19.out H19.out hw32 hr32.2
              clear hK K
              (try simp only [Act.put, List.setIfInBounds_toArray, List.set_cons_zero, List.set_cons_succ])
              refine wpAnyH_ready (rs := [42]) (by kernel_rfl) (by simp) ?_
              refine AllReadyH.cons rfl (fun K hK => ?_) AllReadyH.nil
              go_simp
              refine hK.out _ _ ?_ (fun hHeld => ?_)
              · exact ten G19.out H19.out hw32 hr32.2
              clear hK K
              (try simp only [Act.put, List.setIfInBounds_toArray, List.set_cons_zero, List.set_cons_succ])
              refine wpAnyH_done (by kernel_rfl) ?_ _
              all_goals
                go_wp2_with fail
                go_ret
                first | exact ⟨rfl, G19.out.both.below⟩ | exact ⟨rfl, G18.out.both.below⟩ | exact ⟨rfl, G17.out.both.below⟩
end Go.Proofs.Ytfbnijcmfaeoeaa
