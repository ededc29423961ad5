/-
  Proved here: the law TaintScript answers true of any instructions and bools; nothing that was there is changed. No condition.
-/
import Derived.Test.YtfbnijcmfaeoeaaTaintScriptBase
import Derived.Deep.RegionHeld3
import Derived.Deep.CutBlock
import Derived.Deep.DeepCutAuto
namespace Go.Proofs.Ytfbnijcmfaeoeaa
set_option linter.unusedVariables false
open Go.RowKit
attribute [local go_sem ↓] fold_T fold_I fold_ST fold_SD fold_LD

theorem zero_next (W : World) (o : Obj) : TAt 28 zeroTa (W.heap.size + 1) ((W.alloc o).alloc ZT) := by
  have := zero_at (W.alloc o)
  simp only [World.size_alloc] at this
  exact this
theorem zero_ok : zeroTl.ok = true := by decide +kernel
theorem scr_start {w w3 w4 w5 : World} {o1 o2 : Obj} (h3 : Below w.heap.size w w3) (E : TAt 28 zeroTa w3.heap.size w4) (hb4 : Below w3.heap.size ((w3.alloc o1).alloc o2) w4) (D : TAt 28 zeroTa (w3.heap.size + 1) w5) (ho : ∀ j, j ≠ w3.heap.size + 1 → w5.heap[j]? = w4.heap[j]?) (hb5 : Below (w3.heap.size + 1) w4 w5) :
    Scr w w3.heap.size zeroTa zeroTa zeroTl 0 w5 :=
  ⟨(ho _ (by omega)).trans E, D, zeroTa_reads _, zeroTa_reads _, zero_ok, under_zero _, Below.tr h3 (((Below.al (Below.al (Below.refl _ _) o1) o2).trans hb4).trans (hb5.mono (by omega))), h3.size⟩
set_option maxRecDepth 100000 in
set_option maxHeartbeats 4000000 in
theorem script_long1 (a0 a1 : Option Addr) (n0 n1 c0 c1 : Nat) (w : World) (hn0 : 60 < n0) : Calls Try.prog 3 #[.slice a0 n0 c0, .slice a1 n1 c1] w fun e w' => SameOk w true e w' := by
  have d1 : decide (60 < n0) = true := by simpa using hn0
  have d2 : decide ((60 : Int) < (n0 : Int)) = true := by simp; omega
  go_enter Try.func3, Try.ntmps3
  go_wp2_with (go_at_call 5; (with_reducible refine (lives_any _).mono ?_); rintro e w1 ⟨rfl, h⟩; have M1 := Lib.hid h; clear h)
  go_ret
  exact ⟨rfl, M1.out⟩
set_option maxRecDepth 100000 in
set_option maxHeartbeats 4000000 in
theorem script_long2 (a0 a1 : Option Addr) (n0 n1 c0 c1 : Nat) (w : World) (hn0 : n0 ≤ 60) (hn1 : 60 < n1) : Calls Try.prog 3 #[.slice a0 n0 c0, .slice a1 n1 c1] w fun e w' => SameOk w true e w' := by
  have d1 : decide (60 < n0) = false := by simpa using hn0
  have d2 : decide ((60 : Int) < (n0 : Int)) = false := by simp; omega
  have d3 : decide (60 < n1) = true := by simpa using hn1
  have d4 : decide ((60 : Int) < (n1 : Int)) = true := by simp; omega
  go_enter Try.func3, Try.ntmps3
  go_wp2_with (go_at_call 5; (with_reducible refine (lives_any _).mono ?_); rintro e w1 ⟨rfl, h⟩; have M1 := Lib.hid h; clear h)
  go_ret
  exact ⟨rfl, M1.out⟩
set_option maxRecDepth 100000 in
set_option maxHeartbeats 16000000 in
theorem script_go (a0 a1 : Option Addr) (n0 n1 c0 c1 : Nat) (is : Nat → Ins) (bs : Nat → Bool) (w : World) (hz : InsRow w a0 n0 is) (hy : BoolRow w a1 n1 bs) (hn0 : n0 ≤ 60) (hn1 : n1 ≤ 60) : Calls Try.prog 3 #[.slice a0 n0 c0, .slice a1 n1 c1] w fun e w' => SameOk w true e w' := by
  have HZ := Lib.hid hz
  have HY := Lib.hid hy
  clear hz hy
  have d1 : decide (60 < n0) = false := by simpa using hn0
  have d2 : decide ((60 : Int) < (n0 : Int)) = false := by simp; omega
  have d3 : decide (60 < n1) = false := by simpa using hn1
  have d4 : decide ((60 : Int) < (n1 : Int)) = false := by simp; omega
  go_enter Try.func3, Try.ntmps3
  go_upto_region 6 with (first
    | (go_at_call 5; (with_reducible refine (lives_any _).mono ?_); rintro e w1 ⟨rfl, h⟩; have M1 := Lib.hid h; clear h)
    | (go_at_call 6; (with_reducible refine (New_any _).mono ?_); rintro e w2 ⟨rfl, h⟩; have M2 := Lib.hid (Below.tr M1.out h); clear h)
    | (go_at_call 7; (with_reducible refine (rNew_any _).mono ?_); rintro e w3 ⟨rfl, h⟩; have M3 := Lib.hid (Below.tr M2.out h); clear h)
    | (refine store_ta ((zero_at w3).alloc _) zeroTa zeroFlat rfl (.tmp 5) (.tmp 29) rfl rfl rfl ?_; intro w4 D4 ho4 hb4 hz4; have E4 := Lib.hid D4; have F4 := Lib.hid ((ho4 _ (by omega)).trans (zero_next w3 _)); have M4 := Lib.hid hb4; clear D4 ho4 hb4 hz4)
    | (refine store_ta F4.out zeroTa zeroFlat rfl (.tmp 6) (.tmp 30) rfl rfl rfl ?_; intro w5 D5 ho5 hb5 hz5; have S5 := Lib.hid (scr_start M3.out E4.out M4.out D5 ho5 hb5); clear D5 ho5 hb5 hz5))
  clear M1 M2 M3 M4 E4 F4
  obtain ⟨p, hp⟩ : ∃ p, Hid (w3.heap.size = p) := ⟨_, Lib.hid rfl⟩
  rw [hp.out] at S5 ⊢
  clear hp
  go_wp2
  go_loopw [7, 8] (fun vn vi W => ∃ (k m : Nat) (t o : Ta) (l : Tl), k ≤ n0 ∧ m ≤ k ∧ vn = .int .i64 m ∧ vi = .int .i64 k ∧ Hid (Scr w p t o l m W)) (fun _ vi _ => n0 - (intOf vi).toNat)
  case atStart => exact ⟨0, 0, zeroTa, zeroTa, zeroTl, Nat.zero_le _, Nat.le_refl _, rfl, rfl, S5⟩
  case round =>
    obtain ⟨k, m, t, o, l, hk, hm, rfl, rfl, G0⟩ := hrel
    clear S5
    by_cases hlt : k < n0
    · obtain ⟨b, off, rfl, l0, HI0, hf⟩ := HZ.out k hlt
      obtain ⟨i, hi⟩ : ∃ i, is k = i := ⟨_, rfl⟩
      rw [hi] at HI0 hf
      clear hi
      have HL := Lib.hid l0
      have HF := Lib.hid hf
      have HI := Lib.hid (HI0.below G0.out.low l0)
      clear HI0 hf l0
      have c0 := HI.out.op
      obtain ⟨sz, hsz⟩ : ∃ sz, sizeOf' i.op = sz := ⟨_, rfl⟩
      have KM : Hid (∀ w0, Calls Try.prog 8 #[.int .i64 i.op] w0 fun e w' => e = .returned (.tuple #[.bool (loadsB i.op), .bool (storesB i.op), .int .i64 sz]) ∧ Below w0.heap.size w0 w') := Lib.hid (fun w0 => by
        have := rMem_any i.op w0
        rw [hsz] at this; exact this)
      clear hsz
      have hbW := Nat.lt_of_lt_of_le HL.out G0.out.low.size
      go_upto_region 11 with (go_at_call 8; (with_reducible refine (KM.out _).mono ?_); rintro e w6 ⟨rfl, hb⟩; have G1 := Lib.hid (G0.out.on hb); have HI1 := Lib.hid (HI.out.below hb hbW); clear hb c0)
      clear KM G0 HI hbW
      go_cut [12] (fun u W => u = .int .i64 (-1) ∧ Hid (Scr w p t o l m W) ∧ Hid (InsIn i b (off + k * 9) W))
      case first =>
        go_wp2
        go_meet
        exact ⟨rfl, G1, HI1⟩
      case rest =>
      obtain ⟨rfl, G2, HI2⟩ := hcut
      clear G1 HI1
      apply_assumption
      refine wp_seq_k fun K12 hK12 => ?_
      go_cut [7, 12] (fun u v W => ∃ (m2 : Nat) (ev : Int), u = .int .i64 m2 ∧ v = .int .i64 ev ∧ m ≤ m2 ∧ m2 ≤ m + 1 ∧ ev < (m2 : Int) ∧ Hid (Scr w p t o l m W) ∧ Hid (InsIn i b (off + k * 9) W))
      case first =>
        by_cases hs : 0 < sz
        · have e1 : decide (0 < sz) = true := by simp [hs]
          clear hs
          by_cases hm1 : k < n1
          · have e2 : decide (n1 ≤ k) = false := by simp; omega
            have e3 : decide ((n1 : Int) ≤ (k : Int)) = false := by simp; omega
            obtain ⟨b2, off2, rfl, l3, hc⟩ := (HY.out.on G2.out.low) k hm1
            cases hb : bs k
            · rw [hb] at hc
              clear hb
              go_wp2
              go_meet
              exact ⟨m, -1, rfl, rfl, Nat.le_refl _, by omega, by omega, G2, HI2⟩
            · rw [hb] at hc
              clear hb
              go_wp2
              go_meet
              exact ⟨m + 1, m, by go_num, rfl, by omega, Nat.le_refl _, by omega, G2, HI2⟩
          · have e2 : decide (n1 ≤ k) = true := by simp; omega
            have e3 : decide ((n1 : Int) ≤ (k : Int)) = true := by simp; omega
            clear hm1
            go_wp2
            go_meet
            exact ⟨m + 1, m, by go_num, rfl, by omega, Nat.le_refl _, by omega, G2, HI2⟩
        · have e1 : decide (0 < sz) = false := by simp; omega
          clear hs
          go_wp2
          go_meet
          exact ⟨m, -1, rfl, rfl, Nat.le_refl _, by omega, by omega, G2, HI2⟩
      case rest =>
      obtain ⟨m2, ev, rfl, rfl, hm2, hm3, hev, G3, HI3⟩ := hcut
      obtain ⟨l2, AL, DL, YL, err, hSI⟩ := step_is l i ev m m2 G3.out.ok G3.out.un (by omega) hm2 (by omega) hev HF.out
      have SI := Lib.hid hSI
      clear hSI hev G2 HI2
      obtain ⟨V0, rfl⟩ : ∃ V0, V0 = wc := ⟨_, rfl⟩
      have V0l := Nat.lt_of_lt_of_le HL.out G3.out.low.size
      have V0p := G3.out.b1.lt
      refine hK12 _ _ ?_
      go_upto_region 15 with fail
      have KS : Hid (∀ W, Below V0.heap.size V0 W → Calls Try.prog 9 #[t.V, i.V, .int .i64 ev] W fun e w' => StepOk W l2 AL DL YL err e w') := Lib.hid (fun W hB => SI.out.prog t W (G3.out.r0.below hB))
      go_cut [13, 14, 15] (fun u v e W => ∃ p1 q1 tx ta td ty, u = .pointer (some ⟨p1, 0, none⟩) ∧ v = .pointer (some ⟨q1, 0, none⟩) ∧ e = .int .i64 err ∧ Hid (Bx V0 l2 AL DL YL p1 q1 tx ta td ty W))
      case first =>
        go_region_held3 (fun w' => (LoadT (.pointer (some ⟨p, 0, none⟩))).run Try.prog w' = .ok t.V w' ∧ (LoadI (.pointer (some ⟨b, off + k * 9, none⟩))).run Try.prog w' = .ok i.V w')
          ((refine two15 (W0 := V0) ?_ G3.out.b0 HI3.out V0l; (repeat first | exact B4.out | exact Below.refl _ _ | with_reducible refine Below.al ?_ _ | with_reducible refine Below.dr ?_ | with_reducible refine Below.ro ?_ (by first | omega | (simp; omega) | simp))))
          ((first
            | (go_at_call 9; (with_reducible refine (KS.out _ ?_).mono ?_); (repeat first | exact B4.out | exact Below.refl _ _ | with_reducible refine Below.al ?_ _ | with_reducible refine Below.dr ?_ | with_reducible refine Below.ro ?_ (by first | omega | (simp; omega) | simp)); rintro e w4 ⟨tx, ta, td, ty, rfl, ht, hd, hb⟩; have B4 := Lib.hid (Below.tr (w := V0) (by (repeat first | exact B4.out | exact Below.refl _ _ | with_reducible refine Below.al ?_ _ | with_reducible refine Below.dr ?_ | with_reducible refine Below.ro ?_ (by first | omega | (simp; omega) | simp))) hb); have T4 := Lib.hid ht; have D4 := Lib.hid hd; have C4 := Lib.hid hb; have z4 := hb.size; have z5 := B4.out.size; (try simp at z4); clear ht hd hb)
            | (rw [run_StoreT (t0 := zeroTa) (t := tx) ?hX13 T4.out.reads.flat]; case hX13 => (repeat first | exact TAt.z _ _ (by simp) | with_reducible refine TAt.alloc ?_ _ | with_reducible refine TAt.dr ?_ | with_reducible refine TAt.row ?_ (by first | omega | (simp; omega) | simp) | refine TAt.below ?_ C4.out (by first | omega | (simp; omega) | simp)))
            | (rw [run_StoreD (x0 := .slice none 0 0) (x1 := .slice none 0 0) (x2 := .slice none 0 0) (y0 := ta) (y1 := td) (y2 := ty) ?hY13 D4.out.1.one D4.out.2.1.one D4.out.2.2.one]; case hY13 => (repeat first | exact DAt.z _ _ (by simp) | with_reducible refine DAt.alloc ?_ _ | with_reducible refine DAt.dr ?_ | with_reducible refine DAt.row ?_ (by first | omega | (simp; omega) | simp) | refine DAt.below ?_ C4.out (by first | omega | (simp; omega) | simp)))))
        all_goals
          go_wp2_with fail
          go_meet
          refine ⟨_, _, _, _, _, _, rfl, rfl, rfl, Lib.hid (Bx.of (w4 := w4) (by (repeat first | exact B4.out | exact Below.refl _ _ | with_reducible refine Below.al ?_ _ | with_reducible refine Below.dr ?_ | with_reducible refine Below.ro ?_ (by first | omega | (simp; omega) | simp))) (by (repeat first | (with_reducible refine TAt.rowIn (t0 := zeroTa) ?_; (repeat first | exact TAt.z _ _ (by simp) | with_reducible refine TAt.alloc ?_ _ | with_reducible refine TAt.dr ?_ | with_reducible refine TAt.row ?_ (by first | omega | (simp; omega) | simp) | refine TAt.below ?_ C4.out (by first | omega | (simp; omega) | simp)); done) | with_reducible refine TAt.row ?_ (by first | omega | (simp; omega) | simp))) (by (repeat first | (with_reducible refine DAt.rowIn (a0 := .slice none 0 0) (d0 := .slice none 0 0) (y0 := .slice none 0 0) ?_; (repeat first | exact DAt.z _ _ (by simp) | with_reducible refine DAt.alloc ?_ _ | with_reducible refine DAt.dr ?_ | with_reducible refine DAt.row ?_ (by first | omega | (simp; omega) | simp) | refine DAt.below ?_ C4.out (by first | omega | (simp; omega) | simp)); done) | with_reducible refine DAt.row ?_ (by first | omega | (simp; omega) | simp))) T4.out D4.out (by first | omega | (simp; omega) | simp) (by (intro j hj1 hj2; (try simp at hj1); (repeat first | rfl | rw [setRow_other _ _ _ _ (by first | omega | (simp; omega) | simp)] | rw [Below.heap_alloc _ _ _ (by first | omega | (simp; omega) | simp)]))) (by first | omega | (simp; omega) | simp) (by first | omega | (simp; omega) | simp))⟩
      case rest =>
      obtain ⟨g, h, tx, ta, td, ty, rfl, rfl, rfl, X1⟩ := hcut
      clear KS
      have G4 := Lib.hid (G3.out.on X1.out.bel)
      have HI4 := Lib.hid (HI3.out.below X1.out.bel V0l)
      have hgp : g ≠ p ∧ g ≠ p + 1 := by have := X1.out.low.1; omega
      obtain ⟨V1, rfl⟩ : ∃ V1, V1 = wc := ⟨_, rfl⟩
      have V1l := Nat.lt_of_lt_of_le HL.out G4.out.low.size
      have V1p := G4.out.b1.lt
      clear G3 HI3 V0l V0p
      go_upto_region 16 with fail
      have KS : Hid (∀ W, Below V1.heap.size V1 W → Calls Try.prog 10 #[o.V, i.V, .int .i64 ev] W fun e w' => StepOk W l2 AL DL YL err e w') := Lib.hid (fun W hB => SI.out.doc o W (G4.out.r1.below hB))
      go_cut [16, 17, 18] (fun u v e W => ∃ p1 q1 tx ta td ty, u = .pointer (some ⟨p1, 0, none⟩) ∧ v = .pointer (some ⟨q1, 0, none⟩) ∧ e = .int .i64 err ∧ Hid (Bx V1 l2 AL DL YL p1 q1 tx ta td ty W))
      case first =>
        go_region_held3 (fun w' => (LoadT (.pointer (some ⟨p + 1, 0, none⟩))).run Try.prog w' = .ok o.V w' ∧ (LoadI (.pointer (some ⟨b, off + k * 9, none⟩))).run Try.prog w' = .ok i.V w')
          ((refine two15 (W0 := V1) ?_ G4.out.b1 HI4.out V1l; (repeat first | exact B4.out | exact Below.refl _ _ | with_reducible refine Below.al ?_ _ | with_reducible refine Below.dr ?_ | with_reducible refine Below.ro ?_ (by first | omega | (simp; omega) | simp))))
          ((first
            | (go_at_call 10; (with_reducible refine (KS.out _ ?_).mono ?_); (repeat first | exact B4.out | exact Below.refl _ _ | with_reducible refine Below.al ?_ _ | with_reducible refine Below.dr ?_ | with_reducible refine Below.ro ?_ (by first | omega | (simp; omega) | simp)); rintro e w4 ⟨tx, ta, td, ty, rfl, ht, hd, hb⟩; have B4 := Lib.hid (Below.tr (w := V1) (by (repeat first | exact B4.out | exact Below.refl _ _ | with_reducible refine Below.al ?_ _ | with_reducible refine Below.dr ?_ | with_reducible refine Below.ro ?_ (by first | omega | (simp; omega) | simp))) hb); have T4 := Lib.hid ht; have D4 := Lib.hid hd; have C4 := Lib.hid hb; have z4 := hb.size; have z5 := B4.out.size; (try simp at z4); clear ht hd hb)
            | (rw [run_StoreT (t0 := zeroTa) (t := tx) ?hX16 T4.out.reads.flat]; case hX16 => (repeat first | exact TAt.z _ _ (by simp) | with_reducible refine TAt.alloc ?_ _ | with_reducible refine TAt.dr ?_ | with_reducible refine TAt.row ?_ (by first | omega | (simp; omega) | simp) | refine TAt.below ?_ C4.out (by first | omega | (simp; omega) | simp)))
            | (rw [run_StoreD (x0 := .slice none 0 0) (x1 := .slice none 0 0) (x2 := .slice none 0 0) (y0 := ta) (y1 := td) (y2 := ty) ?hY16 D4.out.1.one D4.out.2.1.one D4.out.2.2.one]; case hY16 => (repeat first | exact DAt.z _ _ (by simp) | with_reducible refine DAt.alloc ?_ _ | with_reducible refine DAt.dr ?_ | with_reducible refine DAt.row ?_ (by first | omega | (simp; omega) | simp) | refine DAt.below ?_ C4.out (by first | omega | (simp; omega) | simp)))))
        all_goals
          go_wp2_with fail
          go_meet
          refine ⟨_, _, _, _, _, _, rfl, rfl, rfl, Lib.hid (Bx.of (w4 := w4) (by (repeat first | exact B4.out | exact Below.refl _ _ | with_reducible refine Below.al ?_ _ | with_reducible refine Below.dr ?_ | with_reducible refine Below.ro ?_ (by first | omega | (simp; omega) | simp))) (by (repeat first | (with_reducible refine TAt.rowIn (t0 := zeroTa) ?_; (repeat first | exact TAt.z _ _ (by simp) | with_reducible refine TAt.alloc ?_ _ | with_reducible refine TAt.dr ?_ | with_reducible refine TAt.row ?_ (by first | omega | (simp; omega) | simp) | refine TAt.below ?_ C4.out (by first | omega | (simp; omega) | simp)); done) | with_reducible refine TAt.row ?_ (by first | omega | (simp; omega) | simp))) (by (repeat first | (with_reducible refine DAt.rowIn (a0 := .slice none 0 0) (d0 := .slice none 0 0) (y0 := .slice none 0 0) ?_; (repeat first | exact DAt.z _ _ (by simp) | with_reducible refine DAt.alloc ?_ _ | with_reducible refine DAt.dr ?_ | with_reducible refine DAt.row ?_ (by first | omega | (simp; omega) | simp) | refine DAt.below ?_ C4.out (by first | omega | (simp; omega) | simp)); done) | with_reducible refine DAt.row ?_ (by first | omega | (simp; omega) | simp))) T4.out D4.out (by first | omega | (simp; omega) | simp) (by (intro j hj1 hj2; (try simp at hj1); (repeat first | rfl | rw [setRow_other _ _ _ _ (by first | omega | (simp; omega) | simp)] | rw [Below.heap_alloc _ _ _ (by first | omega | (simp; omega) | simp)]))) (by first | omega | (simp; omega) | simp) (by first | omega | (simp; omega) | simp))⟩
      case rest =>
      obtain ⟨g2, h2, ox, oa, od, oy, rfl, rfl, rfl, X2⟩ := hcut
      clear KS
      have G5 := Lib.hid (G4.out.on X2.out.bel)
      have X3 := Lib.hid (X1.out.on X2.out.bel)
      have hgp2 : g2 ≠ p ∧ g2 ≠ p + 1 := by have := X2.out.low.1; omega
      clear G4 HI4 X1 V1l V1p
      have cl := run_LoadT X3.out.x
      have cl2 := run_LoadT X2.out.x
      have HSH := Lib.hid SI.out.short
      have HLE := Lib.hid SI.out.lens
      go_upto_region 19 with (first
        | (go_at_call 11; (with_reducible refine (kTaint_yes _ _ l2 l2 _ (Lib.hid rfl) X3.out.rx X2.out.rx HSH.out).mono ?_); rintro e w7 ⟨rfl, hb⟩; have G6 := Lib.hid (G5.out.on hb); have X4 := Lib.hid (X3.out.on hb); have X5 := Lib.hid (X2.out.on hb); clear hb cl cl2; have cd := run_LoadD X4.out.d; have cd2 := run_LoadD X5.out.d)
        | (go_at_call 12; (with_reducible refine (deps_yes _ _ _ _ _ _ AL DL YL AL DL YL _ (Lib.hid rfl) (Lib.hid rfl) (Lib.hid rfl) X4.out.ra X4.out.rd X4.out.ry X5.out.ra X5.out.rd X5.out.ry (by have := HLE.out; omega) (by have := HLE.out; omega) (by have := HLE.out; omega)).mono ?_); rintro e w8 ⟨rfl, hb⟩; have G7 := Lib.hid (G6.out.on hb); have X6 := Lib.hid (X4.out.on hb); have X7 := Lib.hid (X5.out.on hb); clear hb cd cd2))
      clear G5 G6 X2 X3 X4 X5 HLE HSH
      rcases SI.out.errs with ⟨rfl, hok, hun⟩ | rfl
      · have HOK := Lib.hid hok
        have HUN := Lib.hid hun
        clear hok hun SI
        go_upto_region 20 with fail
        have G8 := Lib.hid (G7.out.on (Below.refl _ _).drew)
        have X8 := Lib.hid (X6.out.on (Below.refl _ _).drew)
        have X9 := Lib.hid (X7.out.on (Below.refl _ _).drew)
        obtain ⟨run1, run2⟩ := G8.out.runs X8.out.rx X9.out.rx
        have HN := Lib.hid (G8.out.next X8.out.rx X9.out.rx HOK.out HUN.out)
        have KA0 := And.intro (run_LoadT X8.out.x) (run_LoadT X9.out.x)
        have KA1 := Lib.hid (fun (cs : Array Value) => two20 (q := 0) (cs := cs) (ds := #[]) X8.out.x X9.out.x hgp.1 hgp2.1)
        have KA2 := Lib.hid (fun (cs ds : Array Value) => two20b (cs := cs) (ds := ds) X8.out.x X9.out.x hgp hgp2)
        go_region_held3 (fun w' => (LoadT (.pointer (some ⟨g, 0, none⟩))).run Try.prog w' = .ok tx.V w' ∧ (LoadT (.pointer (some ⟨g2, 0, none⟩))).run Try.prog w' = .ok ox.V w')
          (first | with_reducible exact KA0 | with_reducible exact KA1.out _ | with_reducible exact KA2.out _ _)
          (fail)
        go_wp2
        go_roundw
        case rel => exact ⟨k + 1, m2, tx, ox, l2, by omega, by omega, rfl, by go_num, HN⟩
        case measure => simp [intOf]; omega
      · clear SI
        have G8 := Lib.hid (G7.out.more hm2)
        go_wp2
        go_roundw
        case rel => exact ⟨k + 1, m2, t, o, l, by omega, by omega, rfl, by go_num, G8⟩
        case measure => simp [intOf]; omega
    · obtain rfl : k = n0 := by omega
      have KCH : Hid (∀ W, TReads W t l → Calls Try.prog 13 #[t.V] W fun e w' => e = .returned (.int .i64 0) ∧ Below W.heap.size W w') := Lib.hid (fun W h => tCheck_b t l true G0.out.ok W h (under_short G0.out.un G0.out.ok (by omega)))
      have cl := run_LoadT G0.out.b0
      clear hk hm
      go_wp2_with (go_at_call 13; (with_reducible refine (KCH.out _ G0.out.r0).mono ?_); rintro e w9 ⟨rfl, hb⟩; have M9 := Lib.hid (Below.tr G0.out.low hb); clear hb)
      go_ret
      exact ⟨rfl, M9.out⟩
theorem script_any (a0 a1 : Option Addr) (n0 n1 c0 c1 : Nat) (is : Nat → Ins) (bs : Nat → Bool) (w : World) (hz : InsRow w a0 n0 is) (hy : BoolRow w a1 n1 bs) : Calls Try.prog 3 #[.slice a0 n0 c0, .slice a1 n1 c1] w fun e w' => SameOk w true e w' := by
  by_cases h0 : 60 < n0
  · exact script_long1 a0 a1 n0 n1 c0 c1 w h0
  · by_cases h1 : 60 < n1
    · exact script_long2 a0 a1 n0 n1 c0 c1 w (by omega) h1
    · exact script_go a0 a1 n0 n1 c0 c1 is bs w hz hy (by omega) (by omega)
end Go.Proofs.Ytfbnijcmfaeoeaa
