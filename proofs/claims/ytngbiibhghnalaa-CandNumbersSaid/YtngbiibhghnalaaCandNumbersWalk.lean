/-
  Proved here: the law CandNumbers answers true of every candidate; nothing that was there is changed. Condition: numbers of 64 bits.
-/
import Derived.Test.YtngbiibhghnalaaCdNumWords
namespace Go.Proofs.Ytngbiibhghnalaa
set_option linter.unusedVariables false
set_option linter.unusedSimpArgs false
open Go.RowKit
attribute [local go_sem ↓] fold_E fold_SE
attribute [local irreducible] wpStill

set_option maxRecDepth 100000 in
set_option maxHeartbeats 16000000 in
theorem candNumbers_any (c : Cd) (q : Cv) (w : World) (h : CAt c q w) (he : ∀ h, h < c.nh → ∀ k, k < c.len h → WordE (c.ev h k)) (hf : ∀ j, j < c.fs.length → (0 ≤ fA c.fs j ∧ fA c.fs j < 18446744073709551616) ∧ (0 ≤ fV c.fs j ∧ fV c.fs j < 18446744073709551616)) :
    Calls Try.prog 4 #[cdV c q] w fun e w' => SameOk w true e w' := by
  have S0 := Lib.hid (Lk.start h)
  have HE := Lib.hid he
  have HFW := Lib.hid hf
  clear h he hf
  go_enter Try.func4, Try.ntmps4
  go_upto_region 3 with (go_at_call 10; (with_reducible refine (lives_any _).mono ?_); rintro e' w1 ⟨rfl, hb⟩; have S1 := Lib.hid (S0.out.on hb); clear hb)
  obtain ⟨u0, u1, u2, u3⟩ := S1.out.box.facts
  obtain ⟨m, hm⟩ : ∃ m, Hid (c.may = m) := ⟨_, Lib.hid rfl⟩
  cases m with
  | false =>
    go_wp2_with (first | (go_at_call 18; (with_reducible refine (lightCand_any c q w1 S1.out.at_).mono ?_); rintro e' w2 ⟨r, rfl, hr, hb⟩; have S2 := Lib.hid (S1.out.on hb); have R2 := Lib.hid (fun (e : r = true) => (hr e).lt HE.out HFW.out); clear hb hr u0 u1 u2 u3; obtain ⟨u0, u1, u2, u3⟩ := S2.out.box.facts; cases r) | (go_at_call 13; (with_reducible refine (check_c c q w2 (R2.out (by first | rfl | trivial)) S2.out.at_ false hm.out).mono ?_); rintro e' w3 ⟨rfl, hb⟩; have S3 := Lib.hid (S2.out.on hb); have LT := Lib.hid (R2.out (by first | rfl | trivial)); clear hb u0 u1 u2 u3; obtain ⟨u0, u1, u2, u3⟩ := S3.out.box.facts))
    · go_ret
      exact ⟨rfl, S2.out.below⟩
    · go_ret
      exact ⟨rfl, S3.out.below⟩
  | true =>
    go_upto_region 5 with (first | (go_at_call 18; (with_reducible refine (lightCand_any c q w1 S1.out.at_).mono ?_); rintro e' w2 ⟨r, rfl, hr, hb⟩; have S2 := Lib.hid (S1.out.on hb); have R2 := Lib.hid (fun (e : r = true) => (hr e).lt HE.out HFW.out); clear hb hr u0 u1 u2 u3; obtain ⟨u0, u1, u2, u3⟩ := S2.out.box.facts; cases r) | (go_at_call 13; (with_reducible refine (check_c c q w2 (R2.out (by first | rfl | trivial)) S2.out.at_ true hm.out).mono ?_); rintro e' w3 ⟨rfl, hb⟩; have S3 := Lib.hid (S2.out.on hb); have LT := Lib.hid (R2.out (by first | rfl | trivial)); clear hb u0 u1 u2 u3; obtain ⟨u0, u1, u2, u3⟩ := S3.out.box.facts))
    · go_ret
      exact ⟨rfl, S2.out.below⟩
    have KA := Lib.hid (fun w0 h0 => All_yes c q w0 LT.out h0 hm.out)
    have KP := Lib.hid (fun w0 h0 => Places_yes c q w0 LT.out h0 hm.out)
    have S4 := Lib.hid (S3.out.on (Below.refl _ _).drew)
    go_region_held3 (fun w' => w'.cell? ⟨w.heap.size, 0, none⟩ = some (.slice q.aF c.fs.length q.cF) ∧ w'.cell? ⟨w.heap.size, 1, none⟩ = some (.slice q.aH c.nh q.cH) ∧ w'.cell? ⟨w.heap.size, 2, none⟩ = some (.slice q.aR c.fr.length q.cR) ∧ w'.cell? ⟨w.heap.size, 3, none⟩ = some (.slice q.aO c.od.length q.cO))
      (first | exact S3.out.box.facts | exact S4.out.box.facts | exact S5.out.box.facts | exact S6.out.box.facts)
      ((first
        | (go_at_call 14; (with_reducible refine (KA.out _ S4.out.at_).mono ?_); rintro e' w5 ⟨g1, es, rfl, hlen, hg, hblk, hcp, hb⟩; have S5 := Lib.hid (S4.out.on hb); have E5 := Lib.hid hlen; have B5 := Lib.hid hblk; have C5 := Lib.hid hcp; clear hlen hg hblk hcp hb)
        | (go_at_call 16; (with_reducible refine (KP.out _ S5.out.at_).mono ?_); rintro e' w6 ⟨g2, rfl, hg, hpl, hb⟩; have S6 := Lib.hid (S5.out.on hb); have N6 := Lib.hid (show Nu c q es g1 g2 w w6 from ⟨S5.out.on hb, E5.out, (hb.block g1 (Array.getElem?_eq_some_iff.1 B5.out).1).trans B5.out, C5.out.on hb, hpl⟩); clear hg hpl hb)))
    have hN60 := LT.out.n
    have hN9 := LT.out.nh
    have hO120 := LT.out.od
    have HF := Lib.hid (may_found hm.out).1
    have KNu := Lib.hid (fun w0 h0 hart at_ hh ha => Number_yes c q w0 LT.out h0 hm.out hart at_ hh ha)
    clear KA KP S4 S5 S3 S6 E5 B5 C5 u0 u1 u2 u3 S2 S1 S0
    go_wp2
    go_loopw [5, 6] (fun vk vh wr => ∃ (h : Nat), h ≤ c.nh ∧ vh = .int .i64 h ∧ vk = .int .i64 (baseL c.len h : Nat) ∧ Hid (Nu c q es g1 g2 w wr)) (fun _ vh _ => c.nh - (intOf vh).toNat)
    case atStart => exact ⟨0, Nat.zero_le _, rfl, rfl, N6⟩
    case round =>
      obtain ⟨h, hh, rfl, rfl, hNu⟩ := hrel
      obtain ⟨u0, u1, u2, u3⟩ := hNu.out.lk.box.facts
      by_cases hlt : h < c.nh
      · go_wp2
        go_loopw [5, 7] (fun vk vj wr2 => ∃ (j : Nat), j ≤ c.len h ∧ vj = .int .i64 j ∧ vk = .int .i64 (baseL c.len h + j : Nat) ∧ Hid (Nu c q es g1 g2 w wr2)) (fun _ vj _ => c.len h - (intOf vj).toNat)
        case atStart => exact ⟨0, Nat.zero_le _, rfl, by simp, hNu⟩
        case round =>
          obtain ⟨j, hj, rfl, rfl, hNi⟩ := hrel
          obtain ⟨b, off, a2, c2, hq, hc, _, hrow⟩ := hNi.out.lk.at_.harts.row h hlt
          obtain ⟨v0, v1, v2, v3⟩ := hNi.out.lk.box.facts
          rw [hq] at v1
          have hhi : (h : Int) < (c.nh : Int) := by omega
          have hh0 : (0 : Int) ≤ (h : Int) := by omega
          by_cases hjl : j < c.len h
          · have hm2 := baseL_lt c.len h c.nh hlt
            obtain ⟨a3, c3, e3, _, hrw⟩ := hrow
            injection e3 with e31 e32 e33
            subst e31
            subst e33
            rcases hrw with h0 | ⟨b2, off2, e4, hrw⟩
            · exact absurd h0 (by omega)
            subst e4
            have hatk := c.at_is h j hlt hjl
            have hKN : baseL c.len h + j < c.N := by show _ < baseL c.len c.nh; omega
            obtain ⟨va, vd, vy, hev, hrd⟩ := hNi.out.ev (baseL c.len h + j) hKN
            rw [hatk] at hev hrd
            have X0 := Lib.hid (show Sx c q es g1 g2 b off b2 off2 c2 h j (baseL c.len h + j) va vd vy w wr from ⟨hNi.out, hev, hrw.at_ j hjl, v1, hc, hrd, hrw.reads j hjl, hrw.lt (by omega)⟩)
            have HN := Lib.hid (KNu.out wr hNi.out.lk.at_ h j hlt hjl)
            have HELN := Lib.hid (((LT.out.small h hlt).2 j hjl).n)
            obtain ⟨K, hK⟩ : ∃ K, baseL c.len h + j = K := ⟨_, rfl⟩
            have hKN2 : K < c.N := by rw [← hK]; exact hKN
            have HNX : Hid (baseL c.len h + (j + 1) = K + 1) := Lib.hid (by omega)
            unfold cdV at HN
            rw [hK] at X0 HN ⊢
            rw [hq] at HN
            clear hev hrd hrw hatk hKN hm2 hq
            have hji : (j : Int) < (c.len h : Int) := by omega
            have hj0 : (0 : Int) ≤ (j : Int) := by omega
            have hKi : (K : Int) < (c.N : Int) := by omega
            have hK0 : (0 : Int) ≤ (K : Int) := by omega
            go_upto_region 14 with (go_at_call 9; (with_reducible refine (HN.out).mono ?_); rintro e' w7 ⟨rfl, hb⟩; have X1 := Lib.hid (X0.out.on hb); clear hb v0 v1 v2 v3 hc)
            have X2 := Lib.hid (X1.out.on (Below.refl _ _).drew)
            obtain ⟨t0, t1, t2, t3⟩ := X1.out.four
            have KE := Lib.hid (fun W (h1 : EReads W ((c.ev h j).lists va vd vy) (c.el h j)) (h2 : EReads W (c.ev h j) (c.el h j)) => event_yes (c.ev h j) va vd vy (c.el h j) W h1 h2 HELN.out)
            go_region_held3 (fun w' => (LoadE (.pointer (some ⟨g1, K * 14, none⟩))).run Try.prog w' = .ok ((c.ev h j).lists va vd vy).V w' ∧ w'.cell? ⟨w.heap.size, 1, none⟩ = some (.slice (some ⟨b, off, none⟩) c.nh q.cH) ∧ w'.cell? ⟨b, off + h, none⟩ = some (.slice (some ⟨b2, off2, none⟩) (c.len h) c2) ∧ (LoadE (.pointer (some ⟨b2, off2 + j * 14, none⟩))).run Try.prog w' = .ok (c.ev h j).V w')
              (first | exact X2.out.four | exact X1.out.four | exact X3.out.four)
              ((go_at_call 19; (with_reducible refine (KE.out _ X2.out.r1 X2.out.r2).mono ?_); rintro e' w8 ⟨rfl, hb⟩; have X3 := Lib.hid (X2.out.on hb); clear hb))
            go_wp2
            go_roundw
            case rel => exact ⟨j + 1, by omega, by go_num, by rw [HNX.out]; go_num, Lib.hid X3.out.nu⟩
            case measure => simp [intOf]; omega
          · obtain rfl : j = c.len h := by omega
            have HBS : Hid (baseL c.len h + c.len h = baseL c.len (h + 1)) := Lib.hid rfl
            rw [HBS.out]
            clear hq hrow
            go_wp2
            go_roundw
            case rel => exact ⟨h + 1, by omega, by go_num, rfl, hNi⟩
            case measure => simp [intOf]; omega
      · obtain rfl : h = c.nh := by omega
        have HBN : Hid (baseL c.len c.nh = c.N) := Lib.hid rfl
        rw [HBN.out]
        rw [HF.out] at u2
        go_wp2
        go_loopw [10, 11] (fun vm vn wr2 => ∃ (n : Nat), n ≤ c.N ∧ vn = .int .i64 n ∧ vm = .int .i64 (countW (fun n => memE (c.at n).1) n : Nat) ∧ Hid (Nu c q es g1 g2 w wr2)) (fun _ vn _ => c.N - (intOf vn).toNat)
        case atStart => exact ⟨0, Nat.zero_le _, rfl, rfl, hNu⟩
        case round =>
          obtain ⟨n, hn, rfl, rfl, hNj⟩ := hrel
          have hcw := countW_le (fun n => memE (c.at n).1) n
          by_cases hlt3 : n < c.N
          · obtain ⟨va, vd, vy, hev, hrd⟩ := hNj.out.ev n hlt3
            have hev2 := hev.load
            obtain ⟨r, hr⟩ : ∃ r, Hid (memE (c.at n).1 = r) := ⟨_, Lib.hid rfl⟩
            have HC : Hid (countW (fun n => memE (c.at n).1) (n + 1) = countW (fun n => memE (c.at n).1) n + oneN r) := Lib.hid (by rw [← hr.out]; rfl)
            have KM := Lib.hid (fun w0 => rMemory_b ((c.at n).1.lists va vd vy) r (by rw [lists_kind]; exact hr.out) w0)
            obtain ⟨L, hL⟩ : ∃ L, countW (fun n => memE (c.at n).1) n = L := ⟨_, rfl⟩
            rw [hL] at hcw HC ⊢
            have hni : (n : Int) < (c.N : Int) := by omega
            have hn0 : (0 : Int) ≤ (n : Int) := by omega
            clear hev hrd hL
            cases r with
            | false =>
              have hpl := Lib.hid (place_not hm.out n hr.out)
              go_wp2_with (go_at_call 20; (with_reducible refine (KM.out _).mono ?_); rintro e' w9 ⟨rfl, hb⟩; have N9 := Lib.hid (hNj.out.on hb); have c9 := N9.out.pl.cell n hlt3; rw [hpl.out] at c9; clear hb hev2)
              go_roundw
              case rel => exact ⟨n + 1, by omega, by go_num, by rw [HC.out]; rfl, N9⟩
              case measure => simp [intOf]; omega
            | true =>
              obtain ⟨p, hp1, hp2, hp3⟩ := place_mem hm.out n hlt3 hr.out
              have HP2 := Lib.hid hp2
              have HP3 := Lib.hid hp3
              clear hp2 hp3
              go_upto_region 27 with (go_at_call 20; (with_reducible refine (KM.out _).mono ?_); rintro e' w9 ⟨rfl, hb⟩; have N9 := Lib.hid (hNj.out.on hb); clear hb hev2)
              obtain ⟨b, off, cO, hq, ho⟩ : ∃ b off cO, Value.slice q.aO c.od.length q.cO = .slice (some ⟨b, off, none⟩) c.od.length cO ∧ ∀ j, j < c.od.length → w9.cell? ⟨b, off + j, none⟩ = some (.int .i64 (atI c.od j)) := by
                rcases N9.out.lk.at_.order with ⟨_, h0⟩ | ⟨b, off, c2, e, _, _, _, h4⟩
                · rw [h0] at hp1; simp at hp1
                · exact ⟨b, off, c2, e, h4⟩
              have o9 := ho p hp1
              rw [HP3.out] at o9
              have c9 := N9.out.pl.cell n hlt3
              rw [HP2.out] at c9
              obtain ⟨v0, v1, v2, v3⟩ := N9.out.lk.box.facts
              rw [hq] at v3
              clear hq ho
              have hp0 : (0 : Int) ≤ (p : Int) := by omega
              have hpi : (p : Int) < (c.od.length : Int) := by omega
              have d1 : decide ((p : Int) < 0) = false := by simp
              have d2 : decide ((c.od.length : Int) ≤ (p : Int)) = false := by simp; omega
              refine wp_region_still_tail 26 (by kernel_rfl) (by kernel_rfl) ?_
              simp only [List.take_succ_cons, List.take_zero, List.drop_succ_cons, List.drop_zero]
              iterate 26 still_step
              refine wpStill_nil ?_
              change wpList _ _ _ _ _ (World.drew _)
              go_wp2
              go_roundw
              case rel => exact ⟨n + 1, by omega, by go_num, by rw [HC.out]; simp [oneN], Lib.hid (N9.out.on (Below.refl _ _).drew)⟩
              case measure => simp [intOf]; omega
          · obtain rfl : n = c.N := by omega
            have HCM := Lib.hid (count_mem hm.out)
            rw [HCM.out] at hcw ⊢
            obtain ⟨v0, v1, v2, v3⟩ := hNj.out.lk.box.facts
            go_wp2
            go_ret
            exact ⟨by simp, hNj.out.lk.below⟩
end Go.Proofs.Ytngbiibhghnalaa
