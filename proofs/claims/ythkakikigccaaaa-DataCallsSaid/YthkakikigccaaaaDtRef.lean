/-
  Proved here: the document's Check, Size and Part of layer 14 answer as the words of lists tell; nothing that was there is changed. Condition: numbers of 64 bits.
-/
import Derived.Test.YthkakikigccaaaaDtPart
import Derived.Deep.QuietTactic
namespace Go.Proofs.Ythkakikigccaaaa
open Go.RowKit
set_option linter.unusedVariables false
set_option linter.unusedSimpArgs false

theorem below_drewW {B : Nat} {a w : World} (h : Below B a w) (n : Nat) : Below B a (w.drewN n) := ⟨h.os, h.tape, h.output, h.size, h.block⟩
theorem has_take_like {l : List Pc} {k j : Nat} (hk : k < l.length) (hjk : j < k) (h : likeB (l[j]'(by omega)) l[k] = true) : hasB (l.take k) l[k] = true := by
  unfold hasB
  rw [List.any_eq_true]
  refine ⟨l[j]'(by omega), ?_, h⟩
  rw [List.mem_take_iff_getElem]
  exact ⟨j, by omega, rfl⟩
def NoLike (l : List Pc) (k i : Nat) (p : Pc) : Prop := hasB (l.take i) p = false
set_option maxHeartbeats 2000000 in
set_option maxRecDepth 100000 in
theorem rCheck_any (a : Option Addr) (c : Nat) (l : List Pc) (w : World) (hn : l.length ≤ maxLen) (hl : Sl w a l) (hw : ∀ p ∈ l, PcW p) :
    Calls Try.prog 22 #[.slice a l.length c] w fun e w' => e = .returned (.int .i64 (ckE l)) ∧ Below w.heap.size w w' := by
  have HL := Lib.hid hl
  have HW := Lib.hid hw
  unfold maxLen at hn
  have mixed : Try.prog.follows .mixedOrders = true := by kernel_rfl
  clear hl hw
  go_enter Try.func22, Try.ntmps22
  go_wp2
  go_loopw [3, 4] (fun vd vi wr => ∃ k : Nat, k ≤ l.length ∧ vi = .int .i64 k ∧ ∃ dd : Int, vd = .int .i64 dd ∧ Hid (OkUp l k ∧ dd = sumS (l.take k)) ∧ Hid (Below w.heap.size w wr)) (fun _ vi _ => l.length - (intOf vi).toNat)
  case atStart => exact ⟨0, Nat.zero_le _, rfl, 0, rfl, Lib.hid ⟨OkUp.zero l, rfl⟩, Lib.hid (Below.refl _ _)⟩
  case round =>
    obtain ⟨k, hk, rfl, dd, rfl, HK, HB⟩ := hrel
    have kfew : k ≤ 1024 := few HK.out.1 hk
    have d1 : 0 ≤ dd := by rw [HK.out.2]; exact sum_nonneg HK.out.1 k (Nat.le_refl _) hk
    have d2 : dd ≤ 65536 := by rw [HK.out.2]; exact sum_le HK.out.1 hk
    by_cases hlt : k < l.length
    · obtain ⟨b, off, ha, hbl, hP⟩ := Sl.at_ (HL.out.below HB.out) hlt
      subst ha
      have HPS : Hid (Ps wr b off l) := Lib.hid (by
        rcases HL.out.below HB.out with h | ⟨b', off', h1, h2⟩
        · subst h; simp at hlt
        · simp only [Option.some.injEq, Addr.mk.injEq] at h1; obtain ⟨rfl, rfl, _⟩ := h1; exact h2)
      obtain ⟨p, hp⟩ : ∃ p, p = l[k] := ⟨_, rfl⟩
      rw [← hp] at hP
      have HP := Lib.hid hp
      clear hp
      obtain ⟨q, hq⟩ : ∃ q, mayB p = q := ⟨_, rfl⟩
      have HQ := Lib.hid hq
      have KM := Lib.hid (fun W => rmay_any p W)
      rw [hq] at KM
      clear hq
      have HE : Hid (errAt l k = errP l k p) := Lib.hid (by rw [errAt_lt hlt, ← HP.out])
      obtain ⟨n1, n2, n3⟩ := hP
      cases q with
      | false =>
        have HV : Hid (ckE l = 2) := Lib.hid (by
          have he : errAt l k = 2 := by rw [HE.out]; unfold errP; rw [if_pos HQ.out]
          exact ck_bad HK.out.1 hlt he (by omega))
        go_wp2_with (go_at_call 33; (with_reducible refine (KM.out _).mono ?_); rintro e w1 ⟨rfl, hb⟩; have HB1 := Lib.hid hb; clear hb)
        go_ret
        exact ⟨by rw [HV.out]; rfl, HB.out.trans (HB1.out.mono HB.out.size)⟩
      | true =>
        go_wp2_with (go_at_call 33; (with_reducible refine (KM.out _).mono ?_); rintro e w1 ⟨rfl, hb⟩; have HB1 := Lib.hid hb; clear hb n1 n2 n3)
        have HB2 := Lib.hid (HB.out.trans (HB1.out.mono HB.out.size))
        have HP1 := Lib.hid (HPS.out.below HB1.out)
        go_loopw [5] (fun vj w2 => ∃ j : Nat, j ≤ k ∧ vj = .int .i64 j ∧ Hid (hasB (l.take j) p = false) ∧ Hid (Below w1.heap.size w1 w2)) (fun vj _ => k - (intOf vj).toNat)
        case atStart => exact ⟨0, Nat.zero_le _, rfl, Lib.hid rfl, Lib.hid (Below.refl _ _)⟩
        case round =>
          obtain ⟨j, hj, rfl, HJ, HBJ⟩ := hrel
          by_cases hjk : j < k
          · have hjz : (j : Int) < (k : Int) := by omega
            have hjl : j < l.length := by omega
            have hjlz : (j : Int) < (l.length : Int) := by omega
            have hklz : (k : Int) < (l.length : Int) := by omega
            obtain ⟨m1, m2, m3⟩ := (HP1.out.below HBJ.out).at_ j hjl
            obtain ⟨n1, n2, n3⟩ := (HP1.out.below HBJ.out).at_ k hlt
            rw [← HP.out] at n1 n2 n3
            obtain ⟨o, ho⟩ : ∃ o, o = l[j] := ⟨_, rfl⟩
            rw [← ho] at m1 m2 m3
            have HO := Lib.hid ho
            clear ho
            obtain ⟨s, hs⟩ : ∃ s, (o.name.toList == p.name.toList) = s := ⟨_, rfl⟩
            obtain ⟨t, ht⟩ : ∃ t, (o.hart == p.hart) = t := ⟨_, rfl⟩
            have HLK : Hid (likeB o p = (s && t)) := Lib.hid (by unfold likeB; rw [hs, ht])
            have HST := Lib.hid (And.intro hs ht)
            cases s with
            | false =>
              have HJ2 : Hid (hasB (l.take (j + 1)) p = false) := Lib.hid (by rw [hasB_take hjl, HJ.out, ← HO.out, HLK.out]; rfl)
              go_wp2_with fail
              go_quiet (fail)
              go_wp2
              go_roundw
              case rel => exact ⟨j + 1, by omega, by go_num, HJ2, Lib.hid (below_drewW HBJ.out nq)⟩
              case measure => simp [intOf]; omega
            | true =>
              cases t with
              | false =>
                have HJ2 : Hid (hasB (l.take (j + 1)) p = false) := Lib.hid (by rw [hasB_take hjl, HJ.out, ← HO.out, HLK.out]; rfl)
                go_wp2_with fail
                go_quiet (fail)
                go_wp2
                go_roundw
                case rel => exact ⟨j + 1, by omega, by go_num, HJ2, Lib.hid (below_drewW HBJ.out nq)⟩
                case measure => simp [intOf]; omega
              | true =>
                have HV : Hid (ckE l = 8) := Lib.hid (by
                  have hh : hasB (l.take k) p = true := by rw [HP.out]; exact has_take_like hlt hjk (by rw [← HP.out, ← HO.out, HLK.out]; rfl)
                  have he : errAt l k = 8 := by rw [HE.out]; unfold errP; rw [if_neg (by rw [HQ.out]; simp), if_pos hh]
                  exact ck_bad HK.out.1 hlt he (by omega))
                go_wp2_with fail
                go_quiet (fail)
                go_wp2
                go_ret
                exact ⟨by rw [HV.out]; rfl, HB2.out.trans ((below_drewW HBJ.out nq).mono HB2.out.size)⟩
          · obtain rfl : j = k := by omega
            have hklz : (j : Int) < (l.length : Int) := by omega
            obtain ⟨n1, n2, n3⟩ := (HP1.out.below HBJ.out).at_ j hlt
            rw [← HP.out] at n1 n2 n3
            have s1 := (mayB_facts HQ.out).2.2.1
            have s2 := (mayB_facts HQ.out).2.2.2.1
            have HS : Hid (sumS (l.take (j + 1)) = dd + p.size) := Lib.hid (by rw [sumS_take hlt, ← HK.out.2, ← HP.out])
            have HB3 := Lib.hid (HB2.out.trans (HBJ.out.mono HB2.out.size))
            by_cases hfull : 1024 ≤ j ∨ 65536 < dd + p.size
            · have HV : Hid (ckE l = 7) := Lib.hid (by
                have he : errAt l j = 7 := by rw [HE.out]; unfold errP; rw [if_neg (by rw [HQ.out]; simp), if_neg (by rw [HJ.out]; simp), if_pos (by rw [HS.out]; exact hfull)]
                exact ck_bad HK.out.1 hlt he (by omega))
              by_cases hf1 : 1024 ≤ j
              · have z1 : (1024 : Int) ≤ (j : Int) := by omega
                clear hfull
                go_wp2
                go_ret
                exact ⟨by rw [HV.out]; rfl, HB3.out⟩
              · have z1 : ¬ (1024 : Int) ≤ (j : Int) := by omega
                have z2 : (65536 : Int) < dd + p.size := by omega
                clear hfull
                go_wp2
                go_ret
                exact ⟨by rw [HV.out]; rfl, HB3.out⟩
            · have z1 : ¬ (1024 : Int) ≤ (j : Int) := by omega
              have z2 : ¬ (65536 : Int) < dd + p.size := by omega
              have HE0 : Hid (errAt l j = 0) := Lib.hid (by rw [HE.out]; unfold errP; rw [if_neg (by rw [HQ.out]; simp), if_neg (by rw [HJ.out]; simp), if_neg (by rw [HS.out]; exact hfull)])
              clear hfull
              go_wp2
              go_roundw
              case rel => exact ⟨j + 1, by omega, by go_num, dd + p.size, rfl, Lib.hid ⟨HK.out.1.succ HE0.out, HS.out.symm⟩, HB3⟩
              case measure => simp [intOf]; omega
    · obtain rfl : k = l.length := by omega
      have HV : Hid (ckE l = 0) := Lib.hid (ck_good HK.out.1)
      go_wp2
      go_ret
      exact ⟨by rw [HV.out]; rfl, HB.out⟩
set_option maxHeartbeats 1000000 in
set_option maxRecDepth 100000 in
theorem rSize_any (a : Option Addr) (c : Nat) (l : List Pc) (w : World) (hn : l.length ≤ maxLen) (hl : Sl w a l) (hw : ∀ p ∈ l, PcW p) :
    Calls Try.prog 23 #[.slice a l.length c] w fun e w' => e = .returned (.int .i64 (sizeS l)) ∧ Below w.heap.size w w' := by
  have HL := Lib.hid hl
  have KC := Lib.hid (fun W (hb : Below w.heap.size w W) => rCheck_any a c l W hn (hl.below hb) hw)
  unfold maxLen at hn
  obtain ⟨ce, hce⟩ : ∃ e, ckE l = e := ⟨_, rfl⟩
  rw [hce] at KC
  have HCE := Lib.hid hce
  clear hl hw hce
  go_enter Try.func23, Try.ntmps23
  go_wp2
  by_cases h0 : ce = 0
  · subst h0
    have HU := Lib.hid (ck_up HCE.out)
    go_loopw [3, 4] (fun vd vi wr => ∃ k : Nat, k ≤ l.length ∧ vi = .int .i64 k ∧ ∃ dd : Int, vd = .int .i64 dd ∧ Hid (dd = sumS (l.take k)) ∧ Hid (Below w.heap.size w wr)) (fun _ vi _ => l.length - (intOf vi).toNat)
    case atStart => exact ⟨0, Nat.zero_le _, rfl, 0, rfl, Lib.hid rfl, Lib.hid (Below.refl _ _)⟩
    case round =>
      obtain ⟨k, hk, rfl, dd, rfl, HD, HB⟩ := hrel
      have d1 : 0 ≤ dd := by rw [HD.out]; exact sum_nonneg HU.out k hk hk
      have d2 : dd ≤ 65536 := by rw [HD.out]; exact sum_le (HU.out.less hk) hk
      by_cases hlt : k < l.length
      · obtain ⟨b, off, ha, hbl, hP⟩ := Sl.at_ (HL.out.below HB.out) hlt
        subst ha
        obtain ⟨p, hp⟩ : ∃ p, p = l[k] := ⟨_, rfl⟩
        rw [← hp] at hP
        obtain ⟨_, _, s1, s2, _, _⟩ := mayB_facts (up_all HU.out p (by rw [hp]; exact List.getElem_mem hlt))
        have HS : Hid (sumS (l.take (k + 1)) = dd + p.size) := Lib.hid (by rw [sumS_take hlt, ← HD.out, ← hp])
        clear hp
        have HP := Lib.hid hP
        clear hP
        have K2 := KC.out wr HB.out
        go_wp2_with (go_at_call 22; (with_reducible refine K2.mono ?_); rintro e w2 ⟨rfl, hb⟩; have HB2 := Lib.hid (HB.out.trans (hb.mono HB.out.size)); have HP2 := Lib.hid (HP.out.below hbl hb); clear hb; obtain ⟨n1, n2, n3⟩ := HP2.out)
        go_roundw
        case rel => exact ⟨k + 1, by omega, by go_num, dd + p.size, rfl, Lib.hid HS.out.symm, HB2⟩
        case measure => simp [intOf]; omega
      · obtain rfl : k = l.length := by omega
        have HV : Hid (sizeS l = dd) := Lib.hid (by rw [sizeS_good HCE.out, HD.out, List.take_length])
        go_wp2
        go_ret
        exact ⟨by rw [HV.out]; rfl, HB.out⟩
  · have HV : Hid (sizeS l = 0) := Lib.hid (sizeS_bad (by rw [HCE.out]; exact h0))
    have z1 : (ce == 0) = false := by simpa using h0
    have K2 := KC.out w (Below.refl _ _)
    clear h0
    refine wp_loop_rounds 1 ?_
    rw [rounds_succ]
    by_cases hlt : 0 < l.length
    · have hz : (0 : Int) < (l.length : Int) := by omega
      go_wp2_with (go_at_call 22; (with_reducible refine K2.mono ?_); rintro e w2 ⟨rfl, hb⟩; have HB2 := Lib.hid hb; clear hb)
      go_ret
      exact ⟨by rw [HV.out]; rfl, HB2.out⟩
    · have hz : ¬ (0 : Int) < (l.length : Int) := by omega
      go_wp2
      go_ret
      exact ⟨by rw [HV.out]; rfl, Below.refl _ _⟩
set_option maxHeartbeats 1000000 in
set_option maxRecDepth 100000 in
theorem rPart_any (a : Option Addr) (c : Nat) (l : List Pc) (h : Int) (w : World) (hn : l.length ≤ maxLen) (hl : Sl w a l) (hw : ∀ p ∈ l, PcW p) (h1 : -9223372036854775808 ≤ h) (h2 : h ≤ 9223372036854775807) :
    Calls Try.prog 18 #[.slice a l.length c, .int .i64 h] w (PartOut l h w) := by
  have H := rCheck_any a c l w hn hl hw
  have HL := Lib.hid hl
  unfold maxLen at hn
  obtain ⟨ce, hce⟩ : ∃ e, ckE l = e := ⟨_, rfl⟩
  rw [hce] at H
  have HCE := Lib.hid hce
  clear hce hl
  by_cases h0 : ce = 0
  · subst h0
    have HU := Lib.hid (ck_up HCE.out)
    rcases own_cases h with ⟨hq, g1, g2⟩ | ⟨hq, g1⟩
    · have HE : Hid (partE l h = 0) := Lib.hid (by unfold partE; rw [if_pos HCE.out, hq]; rfl)
      have z1 : ¬ h < -1 := by omega
      have z2 : ¬ 8 ≤ h := by omega
      clear hq
      go_enter Try.func18, Try.ntmps18
      go_wp2_with (go_at_call 22; (with_reducible refine H.mono ?_); rintro e w1 ⟨rfl, hb⟩; have HB := Lib.hid hb; clear hb)
      go_loopw [8, 9, 10] (fun va vo vi wr => ∃ k : Nat, k ≤ l.length ∧ vi = .int .i64 k ∧ ∃ x y : Int, va = .int .u64 (1048576 + 8 * x) ∧ vo = .int .u64 (8 * y) ∧ Hid (x = sumF (ltH h) (l.take k) ∧ y = sumF (eqH h) (l.take k)) ∧ Hid (Below w.heap.size w wr)) (fun _ _ vi _ => l.length - (intOf vi).toNat)
      case atStart => exact ⟨0, Nat.zero_le _, rfl, 0, 0, rfl, rfl, Lib.hid ⟨by simp [sumF, sumS], by simp [sumF, sumS]⟩, HB⟩
      case round =>
        obtain ⟨k, hk, rfl, x, y, rfl, rfl, HXY, HBW⟩ := hrel
        have hpb := pb HU.out h k hk
        have x0 : 0 ≤ x := by rw [HXY.out.1]; exact hpb.a
        have y0 : 0 ≤ y := by rw [HXY.out.2]; exact hpb.o
        have xy : x + y ≤ 65536 := by rw [HXY.out.1, HXY.out.2]; exact hpb.s
        clear hpb
        by_cases hlt : k < l.length
        · obtain ⟨b, off, ha, hbl, hP⟩ := Sl.at_ (HL.out.below HBW.out) hlt
          subst ha
          obtain ⟨p, hp⟩ : ∃ p, p = l[k] := ⟨_, rfl⟩
          rw [← hp] at hP
          obtain ⟨_, _, s1, s2, _, _⟩ := mayB_facts (up_all HU.out p (by rw [hp]; exact List.getElem_mem hlt))
          have HN : Hid (sumF (ltH h) (l.take (k + 1)) = x + (if ltH h p = true then p.size else 0) ∧ sumF (eqH h) (l.take (k + 1)) = y + (if eqH h p = true then p.size else 0)) := Lib.hid ⟨by rw [sumF_take hlt, ← HXY.out.1, ← hp], by rw [sumF_take hlt, ← HXY.out.2, ← hp]⟩
          clear hp
          obtain ⟨n1, n2, n3⟩ := hP
          have r1 : IntKind.i64.wrap ((k : Int) + 1) = (k : Int) + 1 := by rw [IntKind.wrap_i64]; omega
          rcases Int.lt_trichotomy p.hart h with hh | hh | hh
          · have E : Hid (ltH h p = true ∧ eqH h p = false) := Lib.hid ⟨by simp [ltH, hh], by simp [eqH]; omega⟩
            have z3 : (p.hart == h) = false := by simp; omega
            go_wp2
            go_roundw
            case rel => exact ⟨k + 1, by omega, by go_num, x + p.size, y, by congr 1; omega, rfl, Lib.hid ⟨by rw [HN.out.1, E.out.1]; simp, by rw [HN.out.2, E.out.2]; simp⟩, HBW⟩
            case measure => simp [intOf]; omega
          · have E : Hid (ltH h p = false ∧ eqH h p = true) := Lib.hid ⟨by simp [ltH]; omega, by simp [eqH]; omega⟩
            have z3 : ¬ p.hart < h := by omega
            have z4 : (p.hart == h) = true := by simpa using hh
            have HH := Lib.hid hh
            clear hh
            go_wp2
            go_roundw
            case rel => exact ⟨k + 1, by omega, by go_num, x, y + p.size, rfl, by congr 1; omega, Lib.hid ⟨by rw [HN.out.1, E.out.1]; simp, by rw [HN.out.2, E.out.2]; simp⟩, HBW⟩
            case measure => simp [intOf]; omega
          · have E : Hid (ltH h p = false ∧ eqH h p = false) := Lib.hid ⟨by simp [ltH]; omega, by simp [eqH]; omega⟩
            have z3 : ¬ p.hart < h := by omega
            have z4 : (p.hart == h) = false := by simp; omega
            go_wp2
            go_roundw
            case rel => exact ⟨k + 1, by omega, by go_num, x, y, rfl, rfl, Lib.hid ⟨by rw [HN.out.1, E.out.1]; simp, by rw [HN.out.2, E.out.2]; simp⟩, HBW⟩
            case measure => simp [intOf]; omega
        · obtain rfl : k = l.length := by omega
          have HF : Hid (1048576 + 8 * x = partF l h ∧ 1048576 + 8 * x + 8 * y = partT l h) := Lib.hid (by unfold partF partT fromI toI plI; rw [HE.out, if_pos rfl, if_pos rfl, HXY.out.1, HXY.out.2, List.take_length]; exact ⟨rfl, by omega⟩)
          go_wp2
          go_ret3
          exact ⟨by rw [← HF.out.1, ← HF.out.2, HE.out]; rfl, HBW.out⟩
    · have HE : Hid (partE l h = 2) := Lib.hid (by unfold partE; rw [if_pos HCE.out, hq]; rfl)
      clear hq
      by_cases z1 : h < -1
      · clear g1
        go_enter Try.func18, Try.ntmps18
        go_wp2_with (go_at_call 22; (with_reducible refine H.mono ?_); rintro e w1 ⟨rfl, hb⟩; have HB := Lib.hid hb; clear hb)
        go_ret3
        exact part_bad HE.out (by omega) _ _ HB.out
      · have z2 : 8 ≤ h := by omega
        clear g1
        go_enter Try.func18, Try.ntmps18
        go_wp2_with (go_at_call 22; (with_reducible refine H.mono ?_); rintro e w1 ⟨rfl, hb⟩; have HB := Lib.hid hb; clear hb)
        go_ret3
        exact part_bad HE.out (by omega) _ _ HB.out
  · have HE : Hid (partE l h = ce) := Lib.hid (by unfold partE; rw [HCE.out, if_neg h0])
    have z1 : (ce == 0) = false := by simpa using h0
    have z2 : (ce != 0) = true := by simpa using h0
    have H0 := Lib.hid h0
    clear h0
    go_enter Try.func18, Try.ntmps18
    go_wp2_with (go_at_call 22; (with_reducible refine H.mono ?_); rintro e w1 ⟨rfl, hb⟩; have HB := Lib.hid hb; clear hb)
    go_ret3
    exact part_bad HE.out H0.out _ _ HB.out
end Go.Proofs.Ythkakikigccaaaa
