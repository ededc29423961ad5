/-
  Proved here: the law CandFrom answers true of every candidate; nothing that was there is changed. Condition: numbers of 64 bits.
-/
import Derived.Test.YtcebcmmbokajcaaCdYz
import Derived.Test.YtcebcmmbokajcaaCdWant
namespace Go.Proofs.Ytcebcmmbokajcaa
set_option linter.unusedVariables false
set_option linter.unusedSimpArgs false
open Go.RowKit Go.Maps
attribute [local go_sem ↓] fold_E fold_SE fold_SC
attribute [local irreducible] wpStill

set_option maxRecDepth 100000 in
set_option maxHeartbeats 16000000 in
theorem candFrom_any (c : Cd) (q : Cv) (x1 x2 : Int) (w : World) (h : CAt c q w) (he : ∀ h, h < c.nh → ∀ k, k < c.len h → WordE (c.ev h k)) (hf : ∀ j, j < c.fs.length → (0 ≤ fA c.fs j ∧ fA c.fs j < 18446744073709551616) ∧ (0 ≤ fV c.fs j ∧ fV c.fs j < 18446744073709551616))
    (b1 : -9223372036854775808 ≤ x1 ∧ x1 ≤ 9223372036854775807) (b2 : -9223372036854775808 ≤ x2 ∧ x2 ≤ 9223372036854775807) :
    Calls Try.prog 4 #[cdV c q, .int .i64 x1, .int .i64 x2] w fun e w' => SameOk w true e w' := by
  have S0 := Lib.hid (Lk.start h)
  have HE := Lib.hid he
  have HFW := Lib.hid hf
  clear h he hf
  go_enter Try.func4, Try.ntmps4
  go_upto_region 3 with (go_at_call 9; (with_reducible refine (lives_any _).mono ?_); rintro e' w1 ⟨rfl, hb⟩; have S1 := Lib.hid (S0.out.on hb); clear hb)
  obtain ⟨u0, u1, u2, u3⟩ := S1.out.box.facts
  obtain ⟨m, hm⟩ : ∃ m, Hid (c.may = m) := ⟨_, Lib.hid rfl⟩
  cases m with
  | false =>
    go_wp2_with (first | (go_at_call 17; (with_reducible refine (lightCand_any c q w1 S1.out.at_).mono ?_); rintro e' w2 ⟨r, rfl, hr, hb⟩; have S2 := Lib.hid (S1.out.on hb); have R2 := Lib.hid (fun (e : r = true) => (hr e).lt HE.out HFW.out); clear hb hr u0 u1 u2 u3; obtain ⟨u0, u1, u2, u3⟩ := S2.out.box.facts; cases r) | (go_at_call 12; (with_reducible refine (check_c c q w2 (R2.out (by first | rfl | trivial)) S2.out.at_ false hm.out).mono ?_); rintro e' w3 ⟨rfl, hb⟩; have S3 := Lib.hid (S2.out.on hb); have LT := Lib.hid (R2.out (by first | rfl | trivial)); clear hb u0 u1 u2 u3; obtain ⟨u0, u1, u2, u3⟩ := S3.out.box.facts))
    · go_ret
      exact ⟨rfl, S2.out.below⟩
    · go_ret
      exact ⟨rfl, S3.out.below⟩
  | true =>
    have HN := Lib.hid (may_found hm.out).1
    by_cases hn0 : c.fr.length = 0
    · have hz : ((c.fr.length : Int) == 0) = true := by simp [hn0]
      clear hn0
      go_wp2_with (first | (go_at_call 17; (with_reducible refine (lightCand_any c q w1 S1.out.at_).mono ?_); rintro e' w2 ⟨r, rfl, hr, hb⟩; have S2 := Lib.hid (S1.out.on hb); have R2 := Lib.hid (fun (e : r = true) => (hr e).lt HE.out HFW.out); clear hb hr u0 u1 u2 u3; obtain ⟨u0, u1, u2, u3⟩ := S2.out.box.facts; cases r) | (go_at_call 12; (with_reducible refine (check_c c q w2 (R2.out (by first | rfl | trivial)) S2.out.at_ true hm.out).mono ?_); rintro e' w3 ⟨rfl, hb⟩; have S3 := Lib.hid (S2.out.on hb); have LT := Lib.hid (R2.out (by first | rfl | trivial)); clear hb u0 u1 u2 u3; obtain ⟨u0, u1, u2, u3⟩ := S3.out.box.facts))
      · go_ret
        exact ⟨rfl, S2.out.below⟩
      · go_ret
        exact ⟨rfl, S3.out.below⟩
    have hz : ((c.fr.length : Int) == 0) = false := by simpa using hn0
    go_upto_region 5 with (first | (go_at_call 17; (with_reducible refine (lightCand_any c q w1 S1.out.at_).mono ?_); rintro e' w2 ⟨r, rfl, hr, hb⟩; have S2 := Lib.hid (S1.out.on hb); have R2 := Lib.hid (fun (e : r = true) => (hr e).lt HE.out HFW.out); clear hb hr u0 u1 u2 u3; obtain ⟨u0, u1, u2, u3⟩ := S2.out.box.facts; cases r) | (go_at_call 12; (with_reducible refine (check_c c q w2 (R2.out (by first | rfl | trivial)) S2.out.at_ true hm.out).mono ?_); rintro e' w3 ⟨rfl, hb⟩; have S3 := Lib.hid (S2.out.on hb); have LT := Lib.hid (R2.out (by first | rfl | trivial)); clear hb u0 u1 u2 u3; obtain ⟨u0, u1, u2, u3⟩ := S3.out.box.facts))
    · go_ret
      exact ⟨rfl, S2.out.below⟩
    have KA := Lib.hid (fun w0 h0 => All_yes c q w0 LT.out h0 hm.out)
    have KF := Lib.hid (fun w0 h0 x => First_yes c q w0 LT.out h0 hm.out x)
    have KO := Lib.hid (fun w0 h0 => ownCand_any c q w0 LT.out h0)
    have hfr120 := LT.out.fr
    obtain ⟨n, hn, hnlt⟩ : ∃ n : Nat, Hid (pickI x1 (c.fr.length : Int) = n) ∧ n < c.fr.length := by
      have := pickI_lt x1 (c.fr.length : Int) (by omega)
      exact ⟨(pickI x1 (c.fr.length : Int)).toNat, Lib.hid (by omega), by omega⟩
    obtain ⟨f, hf, hflo, hfhi⟩ : ∃ f : Int, Hid (pickI x2 ((c.fr.length : Int) + 1) = f + 1) ∧ -1 ≤ f ∧ f < c.fr.length := by
      have := pickI_lt x2 ((c.fr.length : Int) + 1) (by omega)
      exact ⟨pickI x2 ((c.fr.length : Int) + 1) - 1, Lib.hid (by omega), by omega, by omega⟩
    have KP1 := Lib.hid (fun w0 => Pick_any x1 (c.fr.length : Int) b1.1 b1.2 (by omega) w0)
    have KP2 := Lib.hid (fun w0 => Pick_any x2 ((c.fr.length : Int) + 1) b2.1 b2.2 (by omega) w0)
    rw [hn.out] at KP1
    rw [hf.out] at KP2
    clear S0 S1 S2 R2 HE hz
    go_upto_region 6 with (go_at_call 18; (with_reducible refine (KP1.out _).mono ?_); rintro e' w4 ⟨rfl, rfl⟩)
    go_upto_region 7 with (go_at_call 18; (with_reducible refine (KP2.out _).mono ?_); rintro e' w5 ⟨rfl, rfl⟩)
    go_upto_region 8 with (go_at_call 13; (with_reducible refine (KA.out _ S3.out.at_).mono ?_); rintro e' w6 ⟨g1, es, rfl, hlen, hg, hblk, hcp, hb⟩; have ZE := Lib.hid (fun k (hk : k < c.N) => evE_at hblk (show k < es.length by omega)); have ZL := Lib.hid (fun k (hk : k < c.N) => evE_like hcp (show k < es.length by omega)); have hg1 := (Array.getElem?_eq_some_iff.1 hblk).1; have N6 : Hid (Wn c q es g1 w w6) := Lib.hid (Wn.of (S3.out.on hb) hlen hblk hcp); have hgw := hb.size; clear hlen hg hblk hcp hb u0 u1 u2 u3; obtain ⟨u0, u1, u2, u3⟩ := N6.out.lk.box.facts)
    go_upto_region 9 with (first
      | (go_at_call 19; (with_reducible refine (KO.out _ N6.out.lk.at_).mono ?_); rintro e' w7 ⟨gB, lo, vF, vR, vO, vH, ess, vals, rfl, hC⟩; obtain ⟨aF, cF, rfl⟩ := own_form hC.first; obtain ⟨aR, cR, rfl⟩ := own_form hC.from_; obtain ⟨aO, cO, rfl⟩ := own_form hC.order; obtain ⟨aH, cH, rfl⟩ := own_form hC.own; have N7 := Lib.hid (N6.out.on hC.below); have C7 := Lib.hid hC.p; have B7 := Lib.hid hC.below; have hs7 := hC.below.size; clear hC u0 u1 u2 u3; obtain ⟨u0, u1, u2, u3⟩ := N7.out.lk.box.facts)
      | (refine store_cand (CBox.new (.slice none 0 0) (.slice none 0 0) (.slice none 0 0) (.slice none 0 0) w7) rfl aF aH aR aO c.fs.length c.nh c.fr.length c.od.length cF cH cR cO rfl (.tmp 8) (.tmp 43) rfl rfl rfl ?_; intro w8 hX ho8 hb8 hz8; have X8 : Hid (CBox (.slice aF c.fs.length cF) (.slice aH c.nh cH) (.slice aR c.fr.length cR) (.slice aO c.od.length cO) w7.heap.size w8) := Lib.hid hX; have A8 := Lib.hid ((box_below w7 (.cells #[.slice none 0 0, .slice none 0 0, .slice none 0 0, .slice none 0 0] 26)).trans hb8); clear hX ho8 hb8 hz8))
    have N8 := Lib.hid (N7.out.on A8.out)
    have C8 := Lib.hid (C7.out.on A8.out)
    clear u0 u1 u2 u3
    obtain ⟨u0, u1, u2, u3⟩ := N8.out.lk.box.facts
    obtain ⟨v0, v1, v2, v3⟩ := X8.out.facts
    have HLO := Lib.hid N8.out.lk.here.low
    obtain ⟨gR, rfl, hgR1, hgR2⟩ := own_some C7.out.from_ hn0
    have hgR3 := (C8.out.ord.r gR (by simp [Value.ownBlock])).1
    obtain ⟨hP, hfz, uu, huu⟩ := C8.out.setFrom HLO.out n hnlt f
    have P9 := Lib.hid hP
    clear hP
    have hni : (n : Int) < (c.fr.length : Int) := by omega
    have hni0 : (0 : Int) ≤ (n : Int) := by omega
    go_upto_region 10 with fail
    go_name_world W9 hW9
    have B9 : Hid (Below w6.heap.size w6 W9) := Lib.hid (by rw [← hW9]; exact (B7.out.trans (A8.out.mono hs7)).setCell (by show w6.heap.size ≤ gR; omega) _)
    have X9 : Hid (CBox (.slice aF c.fs.length cF) (.slice aH c.nh cH) (.slice (some ⟨gR, 0, none⟩) c.fr.length cR) (.slice aO c.od.length cO) w7.heap.size W9) := Lib.hid (by rw [← hW9]; exact (Below.heap_setCell w8 ⟨gR, n, none⟩ _ _ (by show w7.heap.size ≠ gR; omega)).trans X8.out)
    rw [hW9] at P9
    clear hW9 hfz huu u0 u1 u2 u3 v0 v1 v2 v3
    have N9 := Lib.hid (N6.out.on B9.out)
    have HX := Lib.hid (may_set (copy_as C8.out.rows (c.fr.set n f) c.od) rfl hm.out n (by rw [← HN.out]; exact hnlt) f rfl)
    have LX := Lib.hid (copy_lt (fr := c.fr.set n f) (od := c.od) LT.out (copy_as C8.out.rows (c.fr.set n f) c.od) (by rw [List.length_set]; exact hfr120) LT.out.od)
    have Z9 : Hid (Zf c q es g1 (.slice aF c.fs.length cF) (.slice aH c.nh cH) (.slice (some ⟨gR, 0, none⟩) c.fr.length cR) (.slice aO c.od.length cO) w7.heap.size (c.copy ess (c.fr.set n f) c.od) ⟨aF, cF, aH, cH, some ⟨gR, 0, none⟩, cR, aO, cO⟩ w W9) := Lib.hid ⟨N9.out.lk, fun k hk => (ZE.out k hk).below B9.out hg1, Nat.lt_of_lt_of_le hg1 B9.out.size, X9.out, P9.out⟩
    have hnN : n < c.N := by rw [← HN.out]; exact hnlt
    have hnNi : (n : Int) < (c.N : Int) := by omega
    have hfN : f < (c.N : Int) := by rw [← HN.out]; exact hfhi
    clear N9 X9 P9 B9 N8 X8 A8 C8 N7
    go_cut [9] (fun t9 wx => t9 = .bool (if f = -1 then findX c n f else false) ∧ Hid (Zf c q es g1 (.slice aF c.fs.length cF) (.slice aH c.nh cH) (.slice (some ⟨gR, 0, none⟩) c.fr.length cR) (.slice aO c.od.length cO) w7.heap.size (c.copy ess (c.fr.set n f) c.od) ⟨aF, cF, aH, cH, some ⟨gR, 0, none⟩, cR, aO, cO⟩ w wx))
    case first => as_aux_lemma =>
      have ZD := Lib.hid (Z9.out.on (Below.refl _ _).drew)
      by_cases hf1 : f = -1
      · subst hf1
        have HFit := Lib.hid (fit_none (c := c) (ZL.out n hnN))
        obtain ⟨t0, t1, t2, t3, t4, t5, t6⟩ := Z9.out.seven hnN
        obtain ⟨r, hr⟩ : ∃ r, Hid (readsE (evE es n) = r) := ⟨_, Lib.hid rfl⟩
        have KR := Lib.hid (fun w0 => rReads_b (evE es n) r hr.out w0)
        have KF1 := Lib.hid (fun w0 h0 => KF.out w0 h0 (evE es n).addr)
        cases r with
        | false =>
          refine wp_region_held_drew (S := (fun w' => w'.cell? ⟨w.heap.size, 0, none⟩ = some (.slice q.aF c.fs.length q.cF) ∧ w'.cell? ⟨w.heap.size, 1, none⟩ = some (.slice q.aH c.nh q.cH) ∧ w'.cell? ⟨w.heap.size, 2, none⟩ = some (.slice q.aR c.fr.length q.cR) ∧ w'.cell? ⟨w.heap.size, 3, none⟩ = some (.slice q.aO c.od.length q.cO) ∧ (LoadE (.pointer (some ⟨g1, n * 14, none⟩))).run Try.prog w' = .ok (evE es n).V w' ∧ w'.cell? ⟨g1, n * 14 + 3, none⟩ = some (.int .u64 (evE es n).addr) ∧ w'.cell? ⟨g1, n * 14 + 4, none⟩ = some (.int .u64 (evE es n).load))) (by kernel_rfl) ?_ (fun hHeld => ?_)
          · exact ZD.out.seven hnN
          refine wpAnyH_take (i := 0) (oi := ⟨some 49, _, _, _, _, _⟩) (v := ?v0) rfl (by kernel_rfl) (by kernel_rfl) (by kernel_rfl) (fun _ _ _ h => h) (Or.inl ⟨by kernel_rfl, ?h0⟩) (by assumption) ?_
          case h0 => ((intro w hSw; (try dsimp only at hSw); go_simp) <;> (try with_reducible rfl))
          (try simp only [Act.put, List.setIfInBounds_toArray, List.set_cons_zero, List.set_cons_succ])
          refine wpAnyH_take (i := 1) (oi := ⟨some 50, _, _, _, _, _⟩) (v := ?v1) rfl (by kernel_rfl) (by kernel_rfl) (by kernel_rfl) (fun _ _ _ h => h) (Or.inl ⟨by kernel_rfl, ?h1⟩) (by assumption) ?_
          case h1 => ((intro w hSw; (try dsimp only at hSw); go_simp) <;> (try with_reducible rfl))
          (try simp only [Act.put, List.setIfInBounds_toArray, List.set_cons_zero, List.set_cons_succ])
          refine wpAnyH_take (i := 2) (oi := ⟨some 51, _, _, _, _, _⟩) (v := ?v2) rfl (by kernel_rfl) (by kernel_rfl) (by kernel_rfl) (fun _ _ _ h => h) (Or.inl ⟨by kernel_rfl, ?h2⟩) (by assumption) ?_
          case h2 => ((intro w hSw; (try dsimp only at hSw); go_simp) <;> (try with_reducible rfl))
          (try simp only [Act.put, List.setIfInBounds_toArray, List.set_cons_zero, List.set_cons_succ])
          refine wpAnyH_take (i := 3) (oi := ⟨some 52, _, _, _, _, _⟩) (v := ?v3) rfl (by kernel_rfl) (by kernel_rfl) (by kernel_rfl) (fun _ _ _ h => h) (Or.inl ⟨by kernel_rfl, ?h3⟩) (by assumption) ?_
          case h3 => ((intro w hSw; (try dsimp only at hSw); go_simp) <;> (try with_reducible rfl))
          (try simp only [Act.put, List.setIfInBounds_toArray, List.set_cons_zero, List.set_cons_succ])
          refine wpAnyH_take (i := 4) (oi := ⟨some 53, _, _, _, _, _⟩) (v := ?v4) rfl (by kernel_rfl) (by kernel_rfl) (by kernel_rfl) (fun _ _ _ h => h) (Or.inl ⟨by kernel_rfl, ?h4⟩) (by assumption) ?_
          case h4 => ((intro w hSw; (try dsimp only at hSw); go_simp) <;> (try with_reducible rfl))
          (try simp only [Act.put, List.setIfInBounds_toArray, List.set_cons_zero, List.set_cons_succ])
          refine wpAnyH_take (i := 5) (oi := ⟨some 54, _, _, _, _, _⟩) (v := ?v5) rfl (by kernel_rfl) (by kernel_rfl) (by kernel_rfl) (fun _ _ _ h => h) (Or.inl ⟨by kernel_rfl, ?h5⟩) (by assumption) ?_
          case h5 => ((intro w hSw; (try dsimp only at hSw); go_simp) <;> (try with_reducible rfl))
          (try simp only [Act.put, List.setIfInBounds_toArray, List.set_cons_zero, List.set_cons_succ])
          refine wpAnyH_take (i := 6) (oi := ⟨some 55, _, _, _, _, _⟩) (v := ?v6) rfl (by kernel_rfl) (by kernel_rfl) (by kernel_rfl) (fun _ _ _ h => h) (Or.inl ⟨by kernel_rfl, ?h6⟩) (by assumption) ?_
          case h6 => ((intro w hSw; (try dsimp only at hSw); go_simp) <;> (try with_reducible rfl))
          (try simp only [Act.put, List.setIfInBounds_toArray, List.set_cons_zero, List.set_cons_succ])
          refine wpAnyH_ready (rs := [7]) (by kernel_rfl) (by simp) ?_
          refine AllReadyH.cons (o := ⟨some 56, _, _, _, _, _⟩) rfl (fun K hK => ?_) AllReadyH.nil
          go_simp
          ((go_at_call 20; (with_reducible refine (KR.out _).mono ?_); rintro e' wa ⟨rfl, hb⟩; have ZA := Lib.hid (ZD.out.on hb); clear hb))
          (try go_wp2_with fail)
          refine hK.out _ _ ?_ (fun hHeld => ?_)
          · exact ZA.out.seven hnN
          clear hK K
          (try simp only [Act.put, List.setIfInBounds_toArray, List.set_cons_zero, List.set_cons_succ])
          refine wpAnyH_take (i := 8) (oi := ⟨some 57, _, _, _, _, _⟩) (v := ?v8) rfl (by kernel_rfl) (by kernel_rfl) (by kernel_rfl) (fun _ _ _ h => h) (Or.inl ⟨by kernel_rfl, ?h8⟩) (by assumption) ?_
          case h8 => ((intro w hSw; (try dsimp only at hSw); go_simp) <;> (try with_reducible rfl))
          (try simp only [Act.put, List.setIfInBounds_toArray, List.set_cons_zero, List.set_cons_succ])
          refine wpAnyH_take (i := 9) (oi := ⟨some 58, _, _, _, _, _⟩) (v := ?v9) rfl (by kernel_rfl) (by kernel_rfl) (by kernel_rfl) (fun _ _ _ h => h) (Or.inl ⟨by kernel_rfl, ?h9⟩) (by assumption) ?_
          case h9 => ((intro w hSw; (try dsimp only at hSw); go_simp) <;> (try with_reducible rfl))
          (try simp only [Act.put, List.setIfInBounds_toArray, List.set_cons_zero, List.set_cons_succ])
          refine wpAnyH_take (i := 10) (oi := ⟨some 59, _, _, _, _, _⟩) (v := undef) rfl (by kernel_rfl) (by kernel_rfl) (by kernel_rfl) (fun _ _ _ h => h) (Or.inr ⟨by kernel_rfl, rfl⟩) (by assumption) ?_
          (try simp only [Act.put, List.setIfInBounds_toArray, List.set_cons_zero, List.set_cons_succ])
          refine wpAnyH_take (i := 11) (oi := ⟨some 60, _, _, _, _, _⟩) (v := undef) rfl (by kernel_rfl) (by kernel_rfl) (by kernel_rfl) (fun _ _ _ h => h) (Or.inr ⟨by kernel_rfl, rfl⟩) (by assumption) ?_
          (try simp only [Act.put, List.setIfInBounds_toArray, List.set_cons_zero, List.set_cons_succ])
          refine wpAnyH_take (i := 12) (oi := ⟨some 61, _, _, _, _, _⟩) (v := undef) rfl (by kernel_rfl) (by kernel_rfl) (by kernel_rfl) (fun _ _ _ h => h) (Or.inr ⟨by kernel_rfl, rfl⟩) (by assumption) ?_
          (try simp only [Act.put, List.setIfInBounds_toArray, List.set_cons_zero, List.set_cons_succ])
          refine wpAnyH_take (i := 13) (oi := ⟨some 62, _, _, _, _, _⟩) (v := undef) rfl (by kernel_rfl) (by kernel_rfl) (by kernel_rfl) (fun _ _ _ h => h) (Or.inr ⟨by kernel_rfl, rfl⟩) (by assumption) ?_
          (try simp only [Act.put, List.setIfInBounds_toArray, List.set_cons_zero, List.set_cons_succ])
          refine wpAnyH_take (i := 14) (oi := ⟨some 63, _, _, _, _, _⟩) (v := undef) rfl (by kernel_rfl) (by kernel_rfl) (by kernel_rfl) (fun _ _ _ h => h) (Or.inr ⟨by kernel_rfl, rfl⟩) (by assumption) ?_
          (try simp only [Act.put, List.setIfInBounds_toArray, List.set_cons_zero, List.set_cons_succ])
          refine wpAnyH_take (i := 15) (oi := ⟨some 64, _, _, _, _, _⟩) (v := undef) rfl (by kernel_rfl) (by kernel_rfl) (by kernel_rfl) (fun _ _ _ h => h) (Or.inr ⟨by kernel_rfl, rfl⟩) (by assumption) ?_
          (try simp only [Act.put, List.setIfInBounds_toArray, List.set_cons_zero, List.set_cons_succ])
          refine wpAnyH_take (i := 16) (oi := ⟨some 65, _, _, _, _, _⟩) (v := undef) rfl (by kernel_rfl) (by kernel_rfl) (by kernel_rfl) (fun _ _ _ h => h) (Or.inr ⟨by kernel_rfl, rfl⟩) (by assumption) ?_
          (try simp only [Act.put, List.setIfInBounds_toArray, List.set_cons_zero, List.set_cons_succ])
          refine wpAnyH_take (i := 17) (oi := ⟨some 66, _, _, _, _, _⟩) (v := undef) rfl (by kernel_rfl) (by kernel_rfl) (by kernel_rfl) (fun _ _ _ h => h) (Or.inr ⟨by kernel_rfl, rfl⟩) (by assumption) ?_
          (try simp only [Act.put, List.setIfInBounds_toArray, List.set_cons_zero, List.set_cons_succ])
          refine wpAnyH_take (i := 18) (oi := ⟨some 67, _, _, _, _, _⟩) (v := undef) rfl (by kernel_rfl) (by kernel_rfl) (by kernel_rfl) (fun _ _ _ h => h) (Or.inr ⟨by kernel_rfl, rfl⟩) (by assumption) ?_
          (try simp only [Act.put, List.setIfInBounds_toArray, List.set_cons_zero, List.set_cons_succ])
          refine wpAnyH_take (i := 19) (oi := ⟨some 68, _, _, _, _, _⟩) (v := undef) rfl (by kernel_rfl) (by kernel_rfl) (by kernel_rfl) (fun _ _ _ h => h) (Or.inr ⟨by kernel_rfl, rfl⟩) (by assumption) ?_
          (try simp only [Act.put, List.setIfInBounds_toArray, List.set_cons_zero, List.set_cons_succ])
          refine wpAnyH_take (i := 20) (oi := ⟨some 69, _, _, _, _, _⟩) (v := undef) rfl (by kernel_rfl) (by kernel_rfl) (by kernel_rfl) (fun _ _ _ h => h) (Or.inr ⟨by kernel_rfl, rfl⟩) (by assumption) ?_
          (try simp only [Act.put, List.setIfInBounds_toArray, List.set_cons_zero, List.set_cons_succ])
          refine wpAnyH_take (i := 21) (oi := ⟨some 70, _, _, _, _, _⟩) (v := undef) rfl (by kernel_rfl) (by kernel_rfl) (by kernel_rfl) (fun _ _ _ h => h) (Or.inr ⟨by kernel_rfl, rfl⟩) (by assumption) ?_
          (try simp only [Act.put, List.setIfInBounds_toArray, List.set_cons_zero, List.set_cons_succ])
          refine wpAnyH_take (i := 22) (oi := ⟨some 71, _, _, _, _, _⟩) (v := undef) rfl (by kernel_rfl) (by kernel_rfl) (by kernel_rfl) (fun _ _ _ h => h) (Or.inr ⟨by kernel_rfl, rfl⟩) (by assumption) ?_
          (try simp only [Act.put, List.setIfInBounds_toArray, List.set_cons_zero, List.set_cons_succ])
          refine wpAnyH_take (i := 23) (oi := ⟨some 72, _, _, _, _, _⟩) (v := ?v23) rfl (by kernel_rfl) (by kernel_rfl) (by kernel_rfl) (fun _ _ _ h => h) (Or.inl ⟨by kernel_rfl, ?h23⟩) (by assumption) ?_
          case h23 => ((intro w hSw; (try dsimp only at hSw); go_simp) <;> (try with_reducible rfl))
          (try simp only [Act.put, List.setIfInBounds_toArray, List.set_cons_zero, List.set_cons_succ])
          refine wpAnyH_take (i := 24) (oi := ⟨some 73, _, _, _, _, _⟩) (v := ?v24) rfl (by kernel_rfl) (by kernel_rfl) (by kernel_rfl) (fun _ _ _ h => h) (Or.inl ⟨by kernel_rfl, ?h24⟩) (by assumption) ?_
          case h24 => ((intro w hSw; (try dsimp only at hSw); go_simp) <;> (try with_reducible rfl))
          (try simp only [Act.put, List.setIfInBounds_toArray, List.set_cons_zero, List.set_cons_succ])
          refine wpAnyH_take (i := 25) (oi := ⟨some 9, _, _, _, _, _⟩) (v := ?v25) rfl (by kernel_rfl) (by kernel_rfl) (by kernel_rfl) (fun _ _ _ h => h) (Or.inl ⟨by kernel_rfl, ?h25⟩) (by assumption) ?_
          case h25 => ((intro w hSw; (try dsimp only at hSw); go_simp) <;> (try with_reducible rfl))
          (try simp only [Act.put, List.setIfInBounds_toArray, List.set_cons_zero, List.set_cons_succ])
          refine wpAnyH_done (by kernel_rfl) ?_ _
          go_wp2_with fail
          go_meet
          exact ⟨by rw [if_pos trivial, HFit.out, hr.out]; rfl, ZA⟩
        | true =>
          go_region_held3 (fun w' => w'.cell? ⟨w.heap.size, 0, none⟩ = some (.slice q.aF c.fs.length q.cF) ∧ w'.cell? ⟨w.heap.size, 1, none⟩ = some (.slice q.aH c.nh q.cH) ∧ w'.cell? ⟨w.heap.size, 2, none⟩ = some (.slice q.aR c.fr.length q.cR) ∧ w'.cell? ⟨w.heap.size, 3, none⟩ = some (.slice q.aO c.od.length q.cO) ∧ (LoadE (.pointer (some ⟨g1, n * 14, none⟩))).run Try.prog w' = .ok (evE es n).V w' ∧ w'.cell? ⟨g1, n * 14 + 3, none⟩ = some (.int .u64 (evE es n).addr) ∧ w'.cell? ⟨g1, n * 14 + 4, none⟩ = some (.int .u64 (evE es n).load))
            (first | exact ZD.out.seven hnN | exact Z9.out.seven hnN | exact ZA.out.seven hnN | exact ZB.out.seven hnN)
            ((first
              | (go_at_call 20; (with_reducible refine (KR.out _).mono ?_); rintro e' wa ⟨rfl, hb⟩; have ZA := Lib.hid (ZD.out.on hb); clear hb)
              | (go_at_call 10; (with_reducible refine (KF1.out _ ZA.out.lk.at_).mono ?_); rintro e' wb ⟨rfl, hb⟩; have ZB := Lib.hid (ZA.out.on hb); clear hb)))
          all_goals
            go_wp2_with fail
            go_meet
            exact ⟨by rw [if_pos trivial, HFit.out, hr.out]; rfl, ZB⟩
      · have hf1b : (f == (-1 : Int)) = false := by simpa using hf1
        have hf1h := Lib.hid hf1
        clear hf1
        refine wp_region_held_drew (S := (fun w' => w'.cell? ⟨w.heap.size, 0, none⟩ = some (.slice q.aF c.fs.length q.cF) ∧ w'.cell? ⟨w.heap.size, 1, none⟩ = some (.slice q.aH c.nh q.cH) ∧ w'.cell? ⟨w.heap.size, 2, none⟩ = some (.slice q.aR c.fr.length q.cR) ∧ w'.cell? ⟨w.heap.size, 3, none⟩ = some (.slice q.aO c.od.length q.cO) ∧ (LoadE (.pointer (some ⟨g1, n * 14, none⟩))).run Try.prog w' = .ok (evE es n).V w' ∧ w'.cell? ⟨g1, n * 14 + 3, none⟩ = some (.int .u64 (evE es n).addr) ∧ w'.cell? ⟨g1, n * 14 + 4, none⟩ = some (.int .u64 (evE es n).load))) (by kernel_rfl) ?_ (fun hHeld => ?_)
        · exact ZD.out.seven hnN
        refine wpAnyH_take (i := 0) (oi := ⟨some 49, _, _, _, _, _⟩) (v := .int .i64 f) rfl (by kernel_rfl) (by kernel_rfl) (by kernel_rfl) (fun _ _ _ h => h) (Or.inl ⟨by kernel_rfl, fun w hSw => by ((try dsimp only at hSw); go_simp; done)⟩) (by assumption) ?_
        (try simp only [Act.put, List.setIfInBounds_toArray, List.set_cons_zero, List.set_cons_succ])
        refine wpAnyH_take (i := 1) (oi := ⟨some 50, _, _, _, _, _⟩) (v := .bool false) rfl (by kernel_rfl) (by kernel_rfl) (by kernel_rfl) (fun _ _ _ h => h) (Or.inl ⟨by kernel_rfl, fun w hSw => by ((try dsimp only at hSw); go_simp; done)⟩) (by assumption) ?_
        (try simp only [Act.put, List.setIfInBounds_toArray, List.set_cons_zero, List.set_cons_succ])
        refine wpAnyH_take (i := 2) (oi := ⟨some 51, _, _, _, _, _⟩) (v := .bool false) rfl (by kernel_rfl) (by kernel_rfl) (by kernel_rfl) (fun _ _ _ h => h) (Or.inl ⟨by kernel_rfl, fun w hSw => by ((try dsimp only at hSw); go_simp; done)⟩) (by assumption) ?_
        (try simp only [Act.put, List.setIfInBounds_toArray, List.set_cons_zero, List.set_cons_succ])
        refine wpAnyH_take (i := 3) (oi := ⟨some 52, _, _, _, _, _⟩) (v := undef) rfl (by kernel_rfl) (by kernel_rfl) (by kernel_rfl) (fun _ _ _ h => h) (Or.inr ⟨by kernel_rfl, rfl⟩) (by assumption) ?_
        (try simp only [Act.put, List.setIfInBounds_toArray, List.set_cons_zero, List.set_cons_succ])
        refine wpAnyH_take (i := 4) (oi := ⟨some 53, _, _, _, _, _⟩) (v := undef) rfl (by kernel_rfl) (by kernel_rfl) (by kernel_rfl) (fun _ _ _ h => h) (Or.inr ⟨by kernel_rfl, rfl⟩) (by assumption) ?_
        (try simp only [Act.put, List.setIfInBounds_toArray, List.set_cons_zero, List.set_cons_succ])
        refine wpAnyH_take (i := 5) (oi := ⟨some 54, _, _, _, _, _⟩) (v := undef) rfl (by kernel_rfl) (by kernel_rfl) (by kernel_rfl) (fun _ _ _ h => h) (Or.inr ⟨by kernel_rfl, rfl⟩) (by assumption) ?_
        (try simp only [Act.put, List.setIfInBounds_toArray, List.set_cons_zero, List.set_cons_succ])
        refine wpAnyH_take (i := 6) (oi := ⟨some 55, _, _, _, _, _⟩) (v := undef) rfl (by kernel_rfl) (by kernel_rfl) (by kernel_rfl) (fun _ _ _ h => h) (Or.inr ⟨by kernel_rfl, rfl⟩) (by assumption) ?_
        (try simp only [Act.put, List.setIfInBounds_toArray, List.set_cons_zero, List.set_cons_succ])
        refine wpAnyH_take (i := 7) (oi := ⟨some 56, _, _, _, _, _⟩) (v := undef) rfl (by kernel_rfl) (by kernel_rfl) (by kernel_rfl) (fun _ _ _ h => h) (Or.inr ⟨by kernel_rfl, rfl⟩) (by assumption) ?_
        (try simp only [Act.put, List.setIfInBounds_toArray, List.set_cons_zero, List.set_cons_succ])
        refine wpAnyH_take (i := 8) (oi := ⟨some 57, _, _, _, _, _⟩) (v := undef) rfl (by kernel_rfl) (by kernel_rfl) (by kernel_rfl) (fun _ _ _ h => h) (Or.inr ⟨by kernel_rfl, rfl⟩) (by assumption) ?_
        (try simp only [Act.put, List.setIfInBounds_toArray, List.set_cons_zero, List.set_cons_succ])
        refine wpAnyH_take (i := 9) (oi := ⟨some 58, _, _, _, _, _⟩) (v := undef) rfl (by kernel_rfl) (by kernel_rfl) (by kernel_rfl) (fun _ _ _ h => h) (Or.inr ⟨by kernel_rfl, rfl⟩) (by assumption) ?_
        (try simp only [Act.put, List.setIfInBounds_toArray, List.set_cons_zero, List.set_cons_succ])
        refine wpAnyH_take (i := 10) (oi := ⟨some 59, _, _, _, _, _⟩) (v := undef) rfl (by kernel_rfl) (by kernel_rfl) (by kernel_rfl) (fun _ _ _ h => h) (Or.inr ⟨by kernel_rfl, rfl⟩) (by assumption) ?_
        (try simp only [Act.put, List.setIfInBounds_toArray, List.set_cons_zero, List.set_cons_succ])
        refine wpAnyH_take (i := 11) (oi := ⟨some 60, _, _, _, _, _⟩) (v := undef) rfl (by kernel_rfl) (by kernel_rfl) (by kernel_rfl) (fun _ _ _ h => h) (Or.inr ⟨by kernel_rfl, rfl⟩) (by assumption) ?_
        (try simp only [Act.put, List.setIfInBounds_toArray, List.set_cons_zero, List.set_cons_succ])
        refine wpAnyH_take (i := 12) (oi := ⟨some 61, _, _, _, _, _⟩) (v := undef) rfl (by kernel_rfl) (by kernel_rfl) (by kernel_rfl) (fun _ _ _ h => h) (Or.inr ⟨by kernel_rfl, rfl⟩) (by assumption) ?_
        (try simp only [Act.put, List.setIfInBounds_toArray, List.set_cons_zero, List.set_cons_succ])
        refine wpAnyH_take (i := 13) (oi := ⟨some 62, _, _, _, _, _⟩) (v := undef) rfl (by kernel_rfl) (by kernel_rfl) (by kernel_rfl) (fun _ _ _ h => h) (Or.inr ⟨by kernel_rfl, rfl⟩) (by assumption) ?_
        (try simp only [Act.put, List.setIfInBounds_toArray, List.set_cons_zero, List.set_cons_succ])
        refine wpAnyH_take (i := 14) (oi := ⟨some 63, _, _, _, _, _⟩) (v := undef) rfl (by kernel_rfl) (by kernel_rfl) (by kernel_rfl) (fun _ _ _ h => h) (Or.inr ⟨by kernel_rfl, rfl⟩) (by assumption) ?_
        (try simp only [Act.put, List.setIfInBounds_toArray, List.set_cons_zero, List.set_cons_succ])
        refine wpAnyH_take (i := 15) (oi := ⟨some 64, _, _, _, _, _⟩) (v := undef) rfl (by kernel_rfl) (by kernel_rfl) (by kernel_rfl) (fun _ _ _ h => h) (Or.inr ⟨by kernel_rfl, rfl⟩) (by assumption) ?_
        (try simp only [Act.put, List.setIfInBounds_toArray, List.set_cons_zero, List.set_cons_succ])
        refine wpAnyH_take (i := 16) (oi := ⟨some 65, _, _, _, _, _⟩) (v := undef) rfl (by kernel_rfl) (by kernel_rfl) (by kernel_rfl) (fun _ _ _ h => h) (Or.inr ⟨by kernel_rfl, rfl⟩) (by assumption) ?_
        (try simp only [Act.put, List.setIfInBounds_toArray, List.set_cons_zero, List.set_cons_succ])
        refine wpAnyH_take (i := 17) (oi := ⟨some 66, _, _, _, _, _⟩) (v := undef) rfl (by kernel_rfl) (by kernel_rfl) (by kernel_rfl) (fun _ _ _ h => h) (Or.inr ⟨by kernel_rfl, rfl⟩) (by assumption) ?_
        (try simp only [Act.put, List.setIfInBounds_toArray, List.set_cons_zero, List.set_cons_succ])
        refine wpAnyH_take (i := 18) (oi := ⟨some 67, _, _, _, _, _⟩) (v := undef) rfl (by kernel_rfl) (by kernel_rfl) (by kernel_rfl) (fun _ _ _ h => h) (Or.inr ⟨by kernel_rfl, rfl⟩) (by assumption) ?_
        (try simp only [Act.put, List.setIfInBounds_toArray, List.set_cons_zero, List.set_cons_succ])
        refine wpAnyH_take (i := 19) (oi := ⟨some 68, _, _, _, _, _⟩) (v := undef) rfl (by kernel_rfl) (by kernel_rfl) (by kernel_rfl) (fun _ _ _ h => h) (Or.inr ⟨by kernel_rfl, rfl⟩) (by assumption) ?_
        (try simp only [Act.put, List.setIfInBounds_toArray, List.set_cons_zero, List.set_cons_succ])
        refine wpAnyH_take (i := 20) (oi := ⟨some 69, _, _, _, _, _⟩) (v := undef) rfl (by kernel_rfl) (by kernel_rfl) (by kernel_rfl) (fun _ _ _ h => h) (Or.inr ⟨by kernel_rfl, rfl⟩) (by assumption) ?_
        (try simp only [Act.put, List.setIfInBounds_toArray, List.set_cons_zero, List.set_cons_succ])
        refine wpAnyH_take (i := 21) (oi := ⟨some 70, _, _, _, _, _⟩) (v := undef) rfl (by kernel_rfl) (by kernel_rfl) (by kernel_rfl) (fun _ _ _ h => h) (Or.inr ⟨by kernel_rfl, rfl⟩) (by assumption) ?_
        (try simp only [Act.put, List.setIfInBounds_toArray, List.set_cons_zero, List.set_cons_succ])
        refine wpAnyH_take (i := 22) (oi := ⟨some 71, _, _, _, _, _⟩) (v := undef) rfl (by kernel_rfl) (by kernel_rfl) (by kernel_rfl) (fun _ _ _ h => h) (Or.inr ⟨by kernel_rfl, rfl⟩) (by assumption) ?_
        (try simp only [Act.put, List.setIfInBounds_toArray, List.set_cons_zero, List.set_cons_succ])
        refine wpAnyH_take (i := 23) (oi := ⟨some 72, _, _, _, _, _⟩) (v := undef) rfl (by kernel_rfl) (by kernel_rfl) (by kernel_rfl) (fun _ _ _ h => h) (Or.inr ⟨by kernel_rfl, rfl⟩) (by assumption) ?_
        (try simp only [Act.put, List.setIfInBounds_toArray, List.set_cons_zero, List.set_cons_succ])
        refine wpAnyH_take (i := 24) (oi := ⟨some 73, _, _, _, _, _⟩) (v := .bool false) rfl (by kernel_rfl) (by kernel_rfl) (by kernel_rfl) (fun _ _ _ h => h) (Or.inl ⟨by kernel_rfl, fun w hSw => by ((try dsimp only at hSw); go_simp; done)⟩) (by assumption) ?_
        (try simp only [Act.put, List.setIfInBounds_toArray, List.set_cons_zero, List.set_cons_succ])
        refine wpAnyH_take (i := 25) (oi := ⟨some 9, _, _, _, _, _⟩) (v := .bool false) rfl (by kernel_rfl) (by kernel_rfl) (by kernel_rfl) (fun _ _ _ h => h) (Or.inl ⟨by kernel_rfl, fun w hSw => by ((try dsimp only at hSw); go_simp; done)⟩) (by assumption) ?_
        (try simp only [Act.put, List.setIfInBounds_toArray, List.set_cons_zero, List.set_cons_succ])
        refine wpAnyH_done (by kernel_rfl) ?_ _
        go_wp2_with fail
        go_meet
        exact ⟨by rw [if_neg hf1h.out], ZD⟩
    case rest =>
      obtain ⟨r0, HR10⟩ : ∃ r, Hid (findX c n f = r) := ⟨_, Lib.hid rfl⟩
      have KCx := Lib.hid (fun w0 (h0 : CAt (c.copy ess (c.fr.set n f) c.od) ⟨aF, cF, aH, cH, some ⟨gR, 0, none⟩, cR, aO, cO⟩ w0) => (show Calls Try.prog 12 #[.agg #[.slice aF c.fs.length cF, .slice aH c.nh cH, .slice (some ⟨gR, 0, none⟩) c.fr.length cR, .slice aO c.od.length cO]] w0 fun e w' => CheckIs w0 r0 e w' from by
        have := check_c (c.copy ess (c.fr.set n f) c.od) ⟨aF, cF, aH, cH, some ⟨gR, 0, none⟩, cR, aO, cO⟩ w0 LX.out h0 r0 (by rw [HX.out, HR10.out])
        simp only [cdV, Cd.copy, List.length_set] at this
        exact this))
      obtain ⟨rfl, Z10⟩ := hcut
      clear Z9 HX LX
      apply_assumption
      refine wp_seq_k fun K11 hK11 => ?_
      go_cut [9] (fun t9 wx => t9 = .bool r0 ∧ Hid (Zf c q es g1 (.slice aF c.fs.length cF) (.slice aH c.nh cH) (.slice (some ⟨gR, 0, none⟩) c.fr.length cR) (.slice aO c.od.length cO) w7.heap.size (c.copy ess (c.fr.set n f) c.od) ⟨aF, cF, aH, cH, some ⟨gR, 0, none⟩, cR, aO, cO⟩ w wx))
      case first => as_aux_lemma =>
        by_cases hf1 : f = -1
        · have e9 : (if f = -1 then findX c n f else false) = r0 := by rw [if_pos hf1]; exact HR10.out
          rw [e9]
          subst hf1
          clear e9
          go_wp2_with fail
          go_meet
          exact ⟨rfl, Z10⟩
        · obtain ⟨k, rfl⟩ : ∃ k : Nat, f = (k : Int) := ⟨f.toNat, by omega⟩
          clear hf1 hflo hfhi
          have hkN : k < c.N := by omega
          have hkNi : (k : Int) < (c.N : Int) := by omega
          have hki0 : (0 : Int) ≤ (k : Int) := by omega
          clear hfN
          go_upto_region 12 with fail
          have ZD := Lib.hid (Z10.out.on (Below.refl _ _).drew)
          have HFit := Lib.hid (fit_some (c := c) hkN (ZL.out n hnN) (ZL.out k hkN))
          obtain ⟨r, hr⟩ : ∃ r, Hid (readsE (evE es n) = r) := ⟨_, Lib.hid rfl⟩
          have KR := Lib.hid (fun w0 => rReads_b (evE es n) r hr.out w0)
          obtain ⟨r2, hr2⟩ : ∃ r, Hid (writesE (evE es k) = r) := ⟨_, Lib.hid rfl⟩
          have KW := Lib.hid (fun w0 => rWrites_b (evE es k) r2 hr2.out w0)
          cases r with
          | false =>
            refine wp_region_held_drew (S := (fun w' => w'.cell? ⟨w.heap.size, 0, none⟩ = some (.slice q.aF c.fs.length q.cF) ∧ w'.cell? ⟨w.heap.size, 1, none⟩ = some (.slice q.aH c.nh q.cH) ∧ w'.cell? ⟨w.heap.size, 2, none⟩ = some (.slice q.aR c.fr.length q.cR) ∧ w'.cell? ⟨w.heap.size, 3, none⟩ = some (.slice q.aO c.od.length q.cO) ∧ (LoadE (.pointer (some ⟨g1, n * 14, none⟩))).run Try.prog w' = .ok (evE es n).V w' ∧ w'.cell? ⟨g1, n * 14 + 3, none⟩ = some (.int .u64 (evE es n).addr) ∧ w'.cell? ⟨g1, n * 14 + 4, none⟩ = some (.int .u64 (evE es n).load) ∧ (LoadE (.pointer (some ⟨g1, k * 14, none⟩))).run Try.prog w' = .ok (evE es k).V w' ∧ w'.cell? ⟨g1, k * 14 + 3, none⟩ = some (.int .u64 (evE es k).addr) ∧ w'.cell? ⟨g1, k * 14 + 5, none⟩ = some (.int .u64 (evE es k).store))) (by kernel_rfl) ?_ (fun hHeld => ?_)
            · exact ZD.out.ten hnN hkN
            refine wpAnyH_take (i := 0) (oi := ⟨some 76, _, _, _, _, _⟩) (v := .slice (some ⟨g1, 0, none⟩) c.N c.N) rfl (by kernel_rfl) (by kernel_rfl) (by kernel_rfl) (fun _ _ _ h => h) (Or.inl ⟨by kernel_rfl, fun w hSw => by ((try dsimp only at hSw); go_simp; done)⟩) (by assumption) ?_
            (try simp only [Act.put, List.setIfInBounds_toArray, List.set_cons_zero, List.set_cons_succ])
            refine wpAnyH_take (i := 1) (oi := ⟨some 77, _, _, _, _, _⟩) (v := .int .i64 (n : Int)) rfl (by kernel_rfl) (by kernel_rfl) (by kernel_rfl) (fun _ _ _ h => h) (Or.inl ⟨by kernel_rfl, fun w hSw => by ((try dsimp only at hSw); go_simp; done)⟩) (by assumption) ?_
            (try simp only [Act.put, List.setIfInBounds_toArray, List.set_cons_zero, List.set_cons_succ])
            refine wpAnyH_take (i := 2) (oi := ⟨some 78, _, _, _, _, _⟩) (v := .pointer (some ⟨g1, n * 14, none⟩)) rfl (by kernel_rfl) (by kernel_rfl) (by kernel_rfl) (fun _ _ _ h => h) (Or.inl ⟨by kernel_rfl, fun w hSw => by ((try dsimp only at hSw); go_simp; done)⟩) (by assumption) ?_
            (try simp only [Act.put, List.setIfInBounds_toArray, List.set_cons_zero, List.set_cons_succ])
            refine wpAnyH_take (i := 3) (oi := ⟨some 79, _, _, _, _, _⟩) (v := (evE es n).V) rfl (by kernel_rfl) (by kernel_rfl) (by kernel_rfl) (fun _ _ _ h => h) (Or.inl ⟨by kernel_rfl, fun w hSw => by ((try dsimp only at hSw); go_simp; done)⟩) (by assumption) ?_
            (try simp only [Act.put, List.setIfInBounds_toArray, List.set_cons_zero, List.set_cons_succ])
            refine wpAnyH_ready (rs := [4]) (by kernel_rfl) (by simp) ?_
            refine AllReadyH.cons (o := ⟨some 80, _, _, _, _, _⟩) rfl (fun K hK => ?_) AllReadyH.nil
            go_simp
            ((go_at_call 20; (with_reducible refine (KR.out _).mono ?_); rintro e' wa ⟨rfl, hb⟩; have ZA := Lib.hid (ZD.out.on hb); clear hb))
            (try go_wp2_with fail)
            refine hK.out _ _ ?_ (fun hHeld => ?_)
            · exact ZA.out.ten hnN hkN
            clear hK K
            (try simp only [Act.put, List.setIfInBounds_toArray, List.set_cons_zero, List.set_cons_succ])
            refine wpAnyH_take (i := 5) (oi := ⟨some 81, _, _, _, _, _⟩) (v := .bool false) rfl (by kernel_rfl) (by kernel_rfl) (by kernel_rfl) (fun _ _ _ h => h) (Or.inl ⟨by kernel_rfl, fun w hSw => by ((try dsimp only at hSw); go_simp; done)⟩) (by assumption) ?_
            (try simp only [Act.put, List.setIfInBounds_toArray, List.set_cons_zero, List.set_cons_succ])
            refine wpAnyH_take (i := 6) (oi := ⟨some 82, _, _, _, _, _⟩) (v := undef) rfl (by kernel_rfl) (by kernel_rfl) (by kernel_rfl) (fun _ _ _ h => h) (Or.inr ⟨by kernel_rfl, rfl⟩) (by assumption) ?_
            (try simp only [Act.put, List.setIfInBounds_toArray, List.set_cons_zero, List.set_cons_succ])
            refine wpAnyH_take (i := 7) (oi := ⟨some 83, _, _, _, _, _⟩) (v := undef) rfl (by kernel_rfl) (by kernel_rfl) (by kernel_rfl) (fun _ _ _ h => h) (Or.inr ⟨by kernel_rfl, rfl⟩) (by assumption) ?_
            (try simp only [Act.put, List.setIfInBounds_toArray, List.set_cons_zero, List.set_cons_succ])
            refine wpAnyH_take (i := 8) (oi := ⟨some 84, _, _, _, _, _⟩) (v := undef) rfl (by kernel_rfl) (by kernel_rfl) (by kernel_rfl) (fun _ _ _ h => h) (Or.inr ⟨by kernel_rfl, rfl⟩) (by assumption) ?_
            (try simp only [Act.put, List.setIfInBounds_toArray, List.set_cons_zero, List.set_cons_succ])
            refine wpAnyH_take (i := 9) (oi := ⟨some 85, _, _, _, _, _⟩) (v := .bool false) rfl (by kernel_rfl) (by kernel_rfl) (by kernel_rfl) (fun _ _ _ h => h) (Or.inl ⟨by kernel_rfl, fun w hSw => by ((try dsimp only at hSw); go_simp; done)⟩) (by assumption) ?_
            (try simp only [Act.put, List.setIfInBounds_toArray, List.set_cons_zero, List.set_cons_succ])
            refine wpAnyH_take (i := 10) (oi := ⟨some 86, _, _, _, _, _⟩) (v := .bool false) rfl (by kernel_rfl) (by kernel_rfl) (by kernel_rfl) (fun _ _ _ h => h) (Or.inl ⟨by kernel_rfl, fun w hSw => by ((try dsimp only at hSw); go_simp; done)⟩) (by assumption) ?_
            (try simp only [Act.put, List.setIfInBounds_toArray, List.set_cons_zero, List.set_cons_succ])
            refine wpAnyH_take (i := 11) (oi := ⟨some 87, _, _, _, _, _⟩) (v := undef) rfl (by kernel_rfl) (by kernel_rfl) (by kernel_rfl) (fun _ _ _ h => h) (Or.inr ⟨by kernel_rfl, rfl⟩) (by assumption) ?_
            (try simp only [Act.put, List.setIfInBounds_toArray, List.set_cons_zero, List.set_cons_succ])
            refine wpAnyH_take (i := 12) (oi := ⟨some 88, _, _, _, _, _⟩) (v := undef) rfl (by kernel_rfl) (by kernel_rfl) (by kernel_rfl) (fun _ _ _ h => h) (Or.inr ⟨by kernel_rfl, rfl⟩) (by assumption) ?_
            (try simp only [Act.put, List.setIfInBounds_toArray, List.set_cons_zero, List.set_cons_succ])
            refine wpAnyH_take (i := 13) (oi := ⟨some 89, _, _, _, _, _⟩) (v := undef) rfl (by kernel_rfl) (by kernel_rfl) (by kernel_rfl) (fun _ _ _ h => h) (Or.inr ⟨by kernel_rfl, rfl⟩) (by assumption) ?_
            (try simp only [Act.put, List.setIfInBounds_toArray, List.set_cons_zero, List.set_cons_succ])
            refine wpAnyH_take (i := 14) (oi := ⟨some 90, _, _, _, _, _⟩) (v := undef) rfl (by kernel_rfl) (by kernel_rfl) (by kernel_rfl) (fun _ _ _ h => h) (Or.inr ⟨by kernel_rfl, rfl⟩) (by assumption) ?_
            (try simp only [Act.put, List.setIfInBounds_toArray, List.set_cons_zero, List.set_cons_succ])
            refine wpAnyH_take (i := 15) (oi := ⟨some 91, _, _, _, _, _⟩) (v := undef) rfl (by kernel_rfl) (by kernel_rfl) (by kernel_rfl) (fun _ _ _ h => h) (Or.inr ⟨by kernel_rfl, rfl⟩) (by assumption) ?_
            (try simp only [Act.put, List.setIfInBounds_toArray, List.set_cons_zero, List.set_cons_succ])
            refine wpAnyH_take (i := 16) (oi := ⟨some 92, _, _, _, _, _⟩) (v := .bool false) rfl (by kernel_rfl) (by kernel_rfl) (by kernel_rfl) (fun _ _ _ h => h) (Or.inl ⟨by kernel_rfl, fun w hSw => by ((try dsimp only at hSw); go_simp; done)⟩) (by assumption) ?_
            (try simp only [Act.put, List.setIfInBounds_toArray, List.set_cons_zero, List.set_cons_succ])
            refine wpAnyH_take (i := 17) (oi := ⟨some 93, _, _, _, _, _⟩) (v := .bool false) rfl (by kernel_rfl) (by kernel_rfl) (by kernel_rfl) (fun _ _ _ h => h) (Or.inl ⟨by kernel_rfl, fun w hSw => by ((try dsimp only at hSw); go_simp; done)⟩) (by assumption) ?_
            (try simp only [Act.put, List.setIfInBounds_toArray, List.set_cons_zero, List.set_cons_succ])
            refine wpAnyH_take (i := 18) (oi := ⟨some 94, _, _, _, _, _⟩) (v := undef) rfl (by kernel_rfl) (by kernel_rfl) (by kernel_rfl) (fun _ _ _ h => h) (Or.inr ⟨by kernel_rfl, rfl⟩) (by assumption) ?_
            (try simp only [Act.put, List.setIfInBounds_toArray, List.set_cons_zero, List.set_cons_succ])
            refine wpAnyH_take (i := 19) (oi := ⟨some 95, _, _, _, _, _⟩) (v := undef) rfl (by kernel_rfl) (by kernel_rfl) (by kernel_rfl) (fun _ _ _ h => h) (Or.inr ⟨by kernel_rfl, rfl⟩) (by assumption) ?_
            (try simp only [Act.put, List.setIfInBounds_toArray, List.set_cons_zero, List.set_cons_succ])
            refine wpAnyH_take (i := 20) (oi := ⟨some 96, _, _, _, _, _⟩) (v := undef) rfl (by kernel_rfl) (by kernel_rfl) (by kernel_rfl) (fun _ _ _ h => h) (Or.inr ⟨by kernel_rfl, rfl⟩) (by assumption) ?_
            (try simp only [Act.put, List.setIfInBounds_toArray, List.set_cons_zero, List.set_cons_succ])
            refine wpAnyH_take (i := 21) (oi := ⟨some 97, _, _, _, _, _⟩) (v := undef) rfl (by kernel_rfl) (by kernel_rfl) (by kernel_rfl) (fun _ _ _ h => h) (Or.inr ⟨by kernel_rfl, rfl⟩) (by assumption) ?_
            (try simp only [Act.put, List.setIfInBounds_toArray, List.set_cons_zero, List.set_cons_succ])
            refine wpAnyH_take (i := 22) (oi := ⟨some 98, _, _, _, _, _⟩) (v := undef) rfl (by kernel_rfl) (by kernel_rfl) (by kernel_rfl) (fun _ _ _ h => h) (Or.inr ⟨by kernel_rfl, rfl⟩) (by assumption) ?_
            (try simp only [Act.put, List.setIfInBounds_toArray, List.set_cons_zero, List.set_cons_succ])
            refine wpAnyH_take (i := 23) (oi := ⟨some 99, _, _, _, _, _⟩) (v := undef) rfl (by kernel_rfl) (by kernel_rfl) (by kernel_rfl) (fun _ _ _ h => h) (Or.inr ⟨by kernel_rfl, rfl⟩) (by assumption) ?_
            (try simp only [Act.put, List.setIfInBounds_toArray, List.set_cons_zero, List.set_cons_succ])
            refine wpAnyH_take (i := 24) (oi := ⟨some 100, _, _, _, _, _⟩) (v := undef) rfl (by kernel_rfl) (by kernel_rfl) (by kernel_rfl) (fun _ _ _ h => h) (Or.inr ⟨by kernel_rfl, rfl⟩) (by assumption) ?_
            (try simp only [Act.put, List.setIfInBounds_toArray, List.set_cons_zero, List.set_cons_succ])
            refine wpAnyH_take (i := 25) (oi := ⟨some 101, _, _, _, _, _⟩) (v := undef) rfl (by kernel_rfl) (by kernel_rfl) (by kernel_rfl) (fun _ _ _ h => h) (Or.inr ⟨by kernel_rfl, rfl⟩) (by assumption) ?_
            (try simp only [Act.put, List.setIfInBounds_toArray, List.set_cons_zero, List.set_cons_succ])
            refine wpAnyH_take (i := 26) (oi := ⟨some 102, _, _, _, _, _⟩) (v := undef) rfl (by kernel_rfl) (by kernel_rfl) (by kernel_rfl) (fun _ _ _ h => h) (Or.inr ⟨by kernel_rfl, rfl⟩) (by assumption) ?_
            (try simp only [Act.put, List.setIfInBounds_toArray, List.set_cons_zero, List.set_cons_succ])
            refine wpAnyH_take (i := 27) (oi := ⟨some 103, _, _, _, _, _⟩) (v := undef) rfl (by kernel_rfl) (by kernel_rfl) (by kernel_rfl) (fun _ _ _ h => h) (Or.inr ⟨by kernel_rfl, rfl⟩) (by assumption) ?_
            (try simp only [Act.put, List.setIfInBounds_toArray, List.set_cons_zero, List.set_cons_succ])
            refine wpAnyH_take (i := 28) (oi := ⟨some 104, _, _, _, _, _⟩) (v := undef) rfl (by kernel_rfl) (by kernel_rfl) (by kernel_rfl) (fun _ _ _ h => h) (Or.inr ⟨by kernel_rfl, rfl⟩) (by assumption) ?_
            (try simp only [Act.put, List.setIfInBounds_toArray, List.set_cons_zero, List.set_cons_succ])
            refine wpAnyH_take (i := 29) (oi := ⟨some 105, _, _, _, _, _⟩) (v := .bool false) rfl (by kernel_rfl) (by kernel_rfl) (by kernel_rfl) (fun _ _ _ h => h) (Or.inl ⟨by kernel_rfl, fun w hSw => by ((try dsimp only at hSw); go_simp; done)⟩) (by assumption) ?_
            (try simp only [Act.put, List.setIfInBounds_toArray, List.set_cons_zero, List.set_cons_succ])
            refine wpAnyH_take (i := 30) (oi := ⟨some 106, _, _, _, _, _⟩) (v := .bool false) rfl (by kernel_rfl) (by kernel_rfl) (by kernel_rfl) (fun _ _ _ h => h) (Or.inl ⟨by kernel_rfl, fun w hSw => by ((try dsimp only at hSw); go_simp; done)⟩) (by assumption) ?_
            (try simp only [Act.put, List.setIfInBounds_toArray, List.set_cons_zero, List.set_cons_succ])
            refine wpAnyH_take (i := 31) (oi := ⟨some 107, _, _, _, _, _⟩) (v := undef) rfl (by kernel_rfl) (by kernel_rfl) (by kernel_rfl) (fun _ _ _ h => h) (Or.inr ⟨by kernel_rfl, rfl⟩) (by assumption) ?_
            (try simp only [Act.put, List.setIfInBounds_toArray, List.set_cons_zero, List.set_cons_succ])
            refine wpAnyH_take (i := 32) (oi := ⟨some 108, _, _, _, _, _⟩) (v := undef) rfl (by kernel_rfl) (by kernel_rfl) (by kernel_rfl) (fun _ _ _ h => h) (Or.inr ⟨by kernel_rfl, rfl⟩) (by assumption) ?_
            (try simp only [Act.put, List.setIfInBounds_toArray, List.set_cons_zero, List.set_cons_succ])
            refine wpAnyH_take (i := 33) (oi := ⟨some 109, _, _, _, _, _⟩) (v := undef) rfl (by kernel_rfl) (by kernel_rfl) (by kernel_rfl) (fun _ _ _ h => h) (Or.inr ⟨by kernel_rfl, rfl⟩) (by assumption) ?_
            (try simp only [Act.put, List.setIfInBounds_toArray, List.set_cons_zero, List.set_cons_succ])
            refine wpAnyH_take (i := 34) (oi := ⟨some 110, _, _, _, _, _⟩) (v := undef) rfl (by kernel_rfl) (by kernel_rfl) (by kernel_rfl) (fun _ _ _ h => h) (Or.inr ⟨by kernel_rfl, rfl⟩) (by assumption) ?_
            (try simp only [Act.put, List.setIfInBounds_toArray, List.set_cons_zero, List.set_cons_succ])
            refine wpAnyH_take (i := 35) (oi := ⟨some 111, _, _, _, _, _⟩) (v := undef) rfl (by kernel_rfl) (by kernel_rfl) (by kernel_rfl) (fun _ _ _ h => h) (Or.inr ⟨by kernel_rfl, rfl⟩) (by assumption) ?_
            (try simp only [Act.put, List.setIfInBounds_toArray, List.set_cons_zero, List.set_cons_succ])
            refine wpAnyH_take (i := 36) (oi := ⟨some 112, _, _, _, _, _⟩) (v := undef) rfl (by kernel_rfl) (by kernel_rfl) (by kernel_rfl) (fun _ _ _ h => h) (Or.inr ⟨by kernel_rfl, rfl⟩) (by assumption) ?_
            (try simp only [Act.put, List.setIfInBounds_toArray, List.set_cons_zero, List.set_cons_succ])
            refine wpAnyH_take (i := 37) (oi := ⟨some 113, _, _, _, _, _⟩) (v := undef) rfl (by kernel_rfl) (by kernel_rfl) (by kernel_rfl) (fun _ _ _ h => h) (Or.inr ⟨by kernel_rfl, rfl⟩) (by assumption) ?_
            (try simp only [Act.put, List.setIfInBounds_toArray, List.set_cons_zero, List.set_cons_succ])
            refine wpAnyH_take (i := 38) (oi := ⟨some 114, _, _, _, _, _⟩) (v := undef) rfl (by kernel_rfl) (by kernel_rfl) (by kernel_rfl) (fun _ _ _ h => h) (Or.inr ⟨by kernel_rfl, rfl⟩) (by assumption) ?_
            (try simp only [Act.put, List.setIfInBounds_toArray, List.set_cons_zero, List.set_cons_succ])
            refine wpAnyH_take (i := 39) (oi := ⟨some 115, _, _, _, _, _⟩) (v := undef) rfl (by kernel_rfl) (by kernel_rfl) (by kernel_rfl) (fun _ _ _ h => h) (Or.inr ⟨by kernel_rfl, rfl⟩) (by assumption) ?_
            (try simp only [Act.put, List.setIfInBounds_toArray, List.set_cons_zero, List.set_cons_succ])
            refine wpAnyH_take (i := 40) (oi := ⟨some 116, _, _, _, _, _⟩) (v := undef) rfl (by kernel_rfl) (by kernel_rfl) (by kernel_rfl) (fun _ _ _ h => h) (Or.inr ⟨by kernel_rfl, rfl⟩) (by assumption) ?_
            (try simp only [Act.put, List.setIfInBounds_toArray, List.set_cons_zero, List.set_cons_succ])
            refine wpAnyH_take (i := 41) (oi := ⟨some 117, _, _, _, _, _⟩) (v := undef) rfl (by kernel_rfl) (by kernel_rfl) (by kernel_rfl) (fun _ _ _ h => h) (Or.inr ⟨by kernel_rfl, rfl⟩) (by assumption) ?_
            (try simp only [Act.put, List.setIfInBounds_toArray, List.set_cons_zero, List.set_cons_succ])
            refine wpAnyH_take (i := 42) (oi := ⟨some 118, _, _, _, _, _⟩) (v := .bool false) rfl (by kernel_rfl) (by kernel_rfl) (by kernel_rfl) (fun _ _ _ h => h) (Or.inl ⟨by kernel_rfl, fun w hSw => by ((try dsimp only at hSw); go_simp; done)⟩) (by assumption) ?_
            (try simp only [Act.put, List.setIfInBounds_toArray, List.set_cons_zero, List.set_cons_succ])
            refine wpAnyH_take (i := 43) (oi := ⟨some 9, _, _, _, _, _⟩) (v := .bool false) rfl (by kernel_rfl) (by kernel_rfl) (by kernel_rfl) (fun _ _ _ h => h) (Or.inl ⟨by kernel_rfl, fun w hSw => by ((try dsimp only at hSw); go_simp; done)⟩) (by assumption) ?_
            (try simp only [Act.put, List.setIfInBounds_toArray, List.set_cons_zero, List.set_cons_succ])
            refine wpAnyH_done (by kernel_rfl) ?_ _
            go_wp2_with fail
            go_meet
            exact ⟨by rw [← HR10.out, HFit.out, hr.out]; rfl, ZA⟩
          | true =>
            by_cases hkn0 : k = n
            · have hkn : ((k : Int) != (n : Int)) = false := by subst hkn0; simp
              have hkd : Hid (decide (k ≠ n) = false) := Lib.hid (by simpa using hkn0)
              clear hkn0
              refine wp_region_held_drew (S := (fun w' => w'.cell? ⟨w.heap.size, 0, none⟩ = some (.slice q.aF c.fs.length q.cF) ∧ w'.cell? ⟨w.heap.size, 1, none⟩ = some (.slice q.aH c.nh q.cH) ∧ w'.cell? ⟨w.heap.size, 2, none⟩ = some (.slice q.aR c.fr.length q.cR) ∧ w'.cell? ⟨w.heap.size, 3, none⟩ = some (.slice q.aO c.od.length q.cO) ∧ (LoadE (.pointer (some ⟨g1, n * 14, none⟩))).run Try.prog w' = .ok (evE es n).V w' ∧ w'.cell? ⟨g1, n * 14 + 3, none⟩ = some (.int .u64 (evE es n).addr) ∧ w'.cell? ⟨g1, n * 14 + 4, none⟩ = some (.int .u64 (evE es n).load) ∧ (LoadE (.pointer (some ⟨g1, k * 14, none⟩))).run Try.prog w' = .ok (evE es k).V w' ∧ w'.cell? ⟨g1, k * 14 + 3, none⟩ = some (.int .u64 (evE es k).addr) ∧ w'.cell? ⟨g1, k * 14 + 5, none⟩ = some (.int .u64 (evE es k).store))) (by kernel_rfl) ?_ (fun hHeld => ?_)
              · exact ZD.out.ten hnN hkN
              refine wpAnyH_take (i := 0) (oi := ⟨some 76, _, _, _, _, _⟩) (v := .slice (some ⟨g1, 0, none⟩) c.N c.N) rfl (by kernel_rfl) (by kernel_rfl) (by kernel_rfl) (fun _ _ _ h => h) (Or.inl ⟨by kernel_rfl, fun w hSw => by ((try dsimp only at hSw); go_simp; done)⟩) (by assumption) ?_
              (try simp only [Act.put, List.setIfInBounds_toArray, List.set_cons_zero, List.set_cons_succ])
              refine wpAnyH_take (i := 1) (oi := ⟨some 77, _, _, _, _, _⟩) (v := .int .i64 (n : Int)) rfl (by kernel_rfl) (by kernel_rfl) (by kernel_rfl) (fun _ _ _ h => h) (Or.inl ⟨by kernel_rfl, fun w hSw => by ((try dsimp only at hSw); go_simp; done)⟩) (by assumption) ?_
              (try simp only [Act.put, List.setIfInBounds_toArray, List.set_cons_zero, List.set_cons_succ])
              refine wpAnyH_take (i := 2) (oi := ⟨some 78, _, _, _, _, _⟩) (v := .pointer (some ⟨g1, n * 14, none⟩)) rfl (by kernel_rfl) (by kernel_rfl) (by kernel_rfl) (fun _ _ _ h => h) (Or.inl ⟨by kernel_rfl, fun w hSw => by ((try dsimp only at hSw); go_simp; done)⟩) (by assumption) ?_
              (try simp only [Act.put, List.setIfInBounds_toArray, List.set_cons_zero, List.set_cons_succ])
              refine wpAnyH_take (i := 3) (oi := ⟨some 79, _, _, _, _, _⟩) (v := (evE es n).V) rfl (by kernel_rfl) (by kernel_rfl) (by kernel_rfl) (fun _ _ _ h => h) (Or.inl ⟨by kernel_rfl, fun w hSw => by ((try dsimp only at hSw); go_simp; done)⟩) (by assumption) ?_
              (try simp only [Act.put, List.setIfInBounds_toArray, List.set_cons_zero, List.set_cons_succ])
              refine wpAnyH_ready (rs := [4]) (by kernel_rfl) (by simp) ?_
              refine AllReadyH.cons (o := ⟨some 80, _, _, _, _, _⟩) rfl (fun K hK => ?_) AllReadyH.nil
              go_simp
              ((go_at_call 20; (with_reducible refine (KR.out _).mono ?_); rintro e' wa ⟨rfl, hb⟩; have ZA := Lib.hid (ZD.out.on hb); clear hb))
              (try go_wp2_with fail)
              refine hK.out _ _ ?_ (fun hHeld => ?_)
              · exact ZA.out.ten hnN hkN
              clear hK K
              (try simp only [Act.put, List.setIfInBounds_toArray, List.set_cons_zero, List.set_cons_succ])
              refine wpAnyH_take (i := 5) (oi := ⟨some 81, _, _, _, _, _⟩) (v := .bool true) rfl (by kernel_rfl) (by kernel_rfl) (by kernel_rfl) (fun _ _ _ h => h) (Or.inl ⟨by kernel_rfl, fun w hSw => by ((try dsimp only at hSw); go_simp; done)⟩) (by assumption) ?_
              (try simp only [Act.put, List.setIfInBounds_toArray, List.set_cons_zero, List.set_cons_succ])
              refine wpAnyH_take (i := 6) (oi := ⟨some 82, _, _, _, _, _⟩) (v := .int .i64 (k : Int)) rfl (by kernel_rfl) (by kernel_rfl) (by kernel_rfl) (fun _ _ _ h => h) (Or.inl ⟨by kernel_rfl, fun w hSw => by ((try dsimp only at hSw); go_simp; done)⟩) (by assumption) ?_
              (try simp only [Act.put, List.setIfInBounds_toArray, List.set_cons_zero, List.set_cons_succ])
              refine wpAnyH_take (i := 7) (oi := ⟨some 83, _, _, _, _, _⟩) (v := .int .i64 (n : Int)) rfl (by kernel_rfl) (by kernel_rfl) (by kernel_rfl) (fun _ _ _ h => h) (Or.inl ⟨by kernel_rfl, fun w hSw => by ((try dsimp only at hSw); go_simp; done)⟩) (by assumption) ?_
              (try simp only [Act.put, List.setIfInBounds_toArray, List.set_cons_zero, List.set_cons_succ])
              refine wpAnyH_take (i := 8) (oi := ⟨some 84, _, _, _, _, _⟩) (v := .bool false) rfl (by kernel_rfl) (by kernel_rfl) (by kernel_rfl) (fun _ _ _ h => h) (Or.inl ⟨by kernel_rfl, fun w hSw => by ((try dsimp only at hSw); go_simp; done)⟩) (by assumption) ?_
              (try simp only [Act.put, List.setIfInBounds_toArray, List.set_cons_zero, List.set_cons_succ])
              refine wpAnyH_take (i := 9) (oi := ⟨some 85, _, _, _, _, _⟩) (v := .bool false) rfl (by kernel_rfl) (by kernel_rfl) (by kernel_rfl) (fun _ _ _ h => h) (Or.inl ⟨by kernel_rfl, fun w hSw => by ((try dsimp only at hSw); go_simp; done)⟩) (by assumption) ?_
              (try simp only [Act.put, List.setIfInBounds_toArray, List.set_cons_zero, List.set_cons_succ])
              refine wpAnyH_take (i := 10) (oi := ⟨some 86, _, _, _, _, _⟩) (v := .bool false) rfl (by kernel_rfl) (by kernel_rfl) (by kernel_rfl) (fun _ _ _ h => h) (Or.inl ⟨by kernel_rfl, fun w hSw => by ((try dsimp only at hSw); go_simp; done)⟩) (by assumption) ?_
              (try simp only [Act.put, List.setIfInBounds_toArray, List.set_cons_zero, List.set_cons_succ])
              refine wpAnyH_take (i := 11) (oi := ⟨some 87, _, _, _, _, _⟩) (v := undef) rfl (by kernel_rfl) (by kernel_rfl) (by kernel_rfl) (fun _ _ _ h => h) (Or.inr ⟨by kernel_rfl, rfl⟩) (by assumption) ?_
              (try simp only [Act.put, List.setIfInBounds_toArray, List.set_cons_zero, List.set_cons_succ])
              refine wpAnyH_take (i := 12) (oi := ⟨some 88, _, _, _, _, _⟩) (v := undef) rfl (by kernel_rfl) (by kernel_rfl) (by kernel_rfl) (fun _ _ _ h => h) (Or.inr ⟨by kernel_rfl, rfl⟩) (by assumption) ?_
              (try simp only [Act.put, List.setIfInBounds_toArray, List.set_cons_zero, List.set_cons_succ])
              refine wpAnyH_take (i := 13) (oi := ⟨some 89, _, _, _, _, _⟩) (v := undef) rfl (by kernel_rfl) (by kernel_rfl) (by kernel_rfl) (fun _ _ _ h => h) (Or.inr ⟨by kernel_rfl, rfl⟩) (by assumption) ?_
              (try simp only [Act.put, List.setIfInBounds_toArray, List.set_cons_zero, List.set_cons_succ])
              refine wpAnyH_take (i := 14) (oi := ⟨some 90, _, _, _, _, _⟩) (v := undef) rfl (by kernel_rfl) (by kernel_rfl) (by kernel_rfl) (fun _ _ _ h => h) (Or.inr ⟨by kernel_rfl, rfl⟩) (by assumption) ?_
              (try simp only [Act.put, List.setIfInBounds_toArray, List.set_cons_zero, List.set_cons_succ])
              refine wpAnyH_take (i := 15) (oi := ⟨some 91, _, _, _, _, _⟩) (v := undef) rfl (by kernel_rfl) (by kernel_rfl) (by kernel_rfl) (fun _ _ _ h => h) (Or.inr ⟨by kernel_rfl, rfl⟩) (by assumption) ?_
              (try simp only [Act.put, List.setIfInBounds_toArray, List.set_cons_zero, List.set_cons_succ])
              refine wpAnyH_take (i := 16) (oi := ⟨some 92, _, _, _, _, _⟩) (v := .bool false) rfl (by kernel_rfl) (by kernel_rfl) (by kernel_rfl) (fun _ _ _ h => h) (Or.inl ⟨by kernel_rfl, fun w hSw => by ((try dsimp only at hSw); go_simp; done)⟩) (by assumption) ?_
              (try simp only [Act.put, List.setIfInBounds_toArray, List.set_cons_zero, List.set_cons_succ])
              refine wpAnyH_take (i := 17) (oi := ⟨some 93, _, _, _, _, _⟩) (v := .bool false) rfl (by kernel_rfl) (by kernel_rfl) (by kernel_rfl) (fun _ _ _ h => h) (Or.inl ⟨by kernel_rfl, fun w hSw => by ((try dsimp only at hSw); go_simp; done)⟩) (by assumption) ?_
              (try simp only [Act.put, List.setIfInBounds_toArray, List.set_cons_zero, List.set_cons_succ])
              refine wpAnyH_take (i := 18) (oi := ⟨some 94, _, _, _, _, _⟩) (v := undef) rfl (by kernel_rfl) (by kernel_rfl) (by kernel_rfl) (fun _ _ _ h => h) (Or.inr ⟨by kernel_rfl, rfl⟩) (by assumption) ?_
              (try simp only [Act.put, List.setIfInBounds_toArray, List.set_cons_zero, List.set_cons_succ])
              refine wpAnyH_take (i := 19) (oi := ⟨some 95, _, _, _, _, _⟩) (v := undef) rfl (by kernel_rfl) (by kernel_rfl) (by kernel_rfl) (fun _ _ _ h => h) (Or.inr ⟨by kernel_rfl, rfl⟩) (by assumption) ?_
              (try simp only [Act.put, List.setIfInBounds_toArray, List.set_cons_zero, List.set_cons_succ])
              refine wpAnyH_take (i := 20) (oi := ⟨some 96, _, _, _, _, _⟩) (v := undef) rfl (by kernel_rfl) (by kernel_rfl) (by kernel_rfl) (fun _ _ _ h => h) (Or.inr ⟨by kernel_rfl, rfl⟩) (by assumption) ?_
              (try simp only [Act.put, List.setIfInBounds_toArray, List.set_cons_zero, List.set_cons_succ])
              refine wpAnyH_take (i := 21) (oi := ⟨some 97, _, _, _, _, _⟩) (v := undef) rfl (by kernel_rfl) (by kernel_rfl) (by kernel_rfl) (fun _ _ _ h => h) (Or.inr ⟨by kernel_rfl, rfl⟩) (by assumption) ?_
              (try simp only [Act.put, List.setIfInBounds_toArray, List.set_cons_zero, List.set_cons_succ])
              refine wpAnyH_take (i := 22) (oi := ⟨some 98, _, _, _, _, _⟩) (v := undef) rfl (by kernel_rfl) (by kernel_rfl) (by kernel_rfl) (fun _ _ _ h => h) (Or.inr ⟨by kernel_rfl, rfl⟩) (by assumption) ?_
              (try simp only [Act.put, List.setIfInBounds_toArray, List.set_cons_zero, List.set_cons_succ])
              refine wpAnyH_take (i := 23) (oi := ⟨some 99, _, _, _, _, _⟩) (v := undef) rfl (by kernel_rfl) (by kernel_rfl) (by kernel_rfl) (fun _ _ _ h => h) (Or.inr ⟨by kernel_rfl, rfl⟩) (by assumption) ?_
              (try simp only [Act.put, List.setIfInBounds_toArray, List.set_cons_zero, List.set_cons_succ])
              refine wpAnyH_take (i := 24) (oi := ⟨some 100, _, _, _, _, _⟩) (v := undef) rfl (by kernel_rfl) (by kernel_rfl) (by kernel_rfl) (fun _ _ _ h => h) (Or.inr ⟨by kernel_rfl, rfl⟩) (by assumption) ?_
              (try simp only [Act.put, List.setIfInBounds_toArray, List.set_cons_zero, List.set_cons_succ])
              refine wpAnyH_take (i := 25) (oi := ⟨some 101, _, _, _, _, _⟩) (v := undef) rfl (by kernel_rfl) (by kernel_rfl) (by kernel_rfl) (fun _ _ _ h => h) (Or.inr ⟨by kernel_rfl, rfl⟩) (by assumption) ?_
              (try simp only [Act.put, List.setIfInBounds_toArray, List.set_cons_zero, List.set_cons_succ])
              refine wpAnyH_take (i := 26) (oi := ⟨some 102, _, _, _, _, _⟩) (v := undef) rfl (by kernel_rfl) (by kernel_rfl) (by kernel_rfl) (fun _ _ _ h => h) (Or.inr ⟨by kernel_rfl, rfl⟩) (by assumption) ?_
              (try simp only [Act.put, List.setIfInBounds_toArray, List.set_cons_zero, List.set_cons_succ])
              refine wpAnyH_take (i := 27) (oi := ⟨some 103, _, _, _, _, _⟩) (v := undef) rfl (by kernel_rfl) (by kernel_rfl) (by kernel_rfl) (fun _ _ _ h => h) (Or.inr ⟨by kernel_rfl, rfl⟩) (by assumption) ?_
              (try simp only [Act.put, List.setIfInBounds_toArray, List.set_cons_zero, List.set_cons_succ])
              refine wpAnyH_take (i := 28) (oi := ⟨some 104, _, _, _, _, _⟩) (v := undef) rfl (by kernel_rfl) (by kernel_rfl) (by kernel_rfl) (fun _ _ _ h => h) (Or.inr ⟨by kernel_rfl, rfl⟩) (by assumption) ?_
              (try simp only [Act.put, List.setIfInBounds_toArray, List.set_cons_zero, List.set_cons_succ])
              refine wpAnyH_take (i := 29) (oi := ⟨some 105, _, _, _, _, _⟩) (v := .bool false) rfl (by kernel_rfl) (by kernel_rfl) (by kernel_rfl) (fun _ _ _ h => h) (Or.inl ⟨by kernel_rfl, fun w hSw => by ((try dsimp only at hSw); go_simp; done)⟩) (by assumption) ?_
              (try simp only [Act.put, List.setIfInBounds_toArray, List.set_cons_zero, List.set_cons_succ])
              refine wpAnyH_take (i := 30) (oi := ⟨some 106, _, _, _, _, _⟩) (v := .bool false) rfl (by kernel_rfl) (by kernel_rfl) (by kernel_rfl) (fun _ _ _ h => h) (Or.inl ⟨by kernel_rfl, fun w hSw => by ((try dsimp only at hSw); go_simp; done)⟩) (by assumption) ?_
              (try simp only [Act.put, List.setIfInBounds_toArray, List.set_cons_zero, List.set_cons_succ])
              refine wpAnyH_take (i := 31) (oi := ⟨some 107, _, _, _, _, _⟩) (v := undef) rfl (by kernel_rfl) (by kernel_rfl) (by kernel_rfl) (fun _ _ _ h => h) (Or.inr ⟨by kernel_rfl, rfl⟩) (by assumption) ?_
              (try simp only [Act.put, List.setIfInBounds_toArray, List.set_cons_zero, List.set_cons_succ])
              refine wpAnyH_take (i := 32) (oi := ⟨some 108, _, _, _, _, _⟩) (v := undef) rfl (by kernel_rfl) (by kernel_rfl) (by kernel_rfl) (fun _ _ _ h => h) (Or.inr ⟨by kernel_rfl, rfl⟩) (by assumption) ?_
              (try simp only [Act.put, List.setIfInBounds_toArray, List.set_cons_zero, List.set_cons_succ])
              refine wpAnyH_take (i := 33) (oi := ⟨some 109, _, _, _, _, _⟩) (v := undef) rfl (by kernel_rfl) (by kernel_rfl) (by kernel_rfl) (fun _ _ _ h => h) (Or.inr ⟨by kernel_rfl, rfl⟩) (by assumption) ?_
              (try simp only [Act.put, List.setIfInBounds_toArray, List.set_cons_zero, List.set_cons_succ])
              refine wpAnyH_take (i := 34) (oi := ⟨some 110, _, _, _, _, _⟩) (v := undef) rfl (by kernel_rfl) (by kernel_rfl) (by kernel_rfl) (fun _ _ _ h => h) (Or.inr ⟨by kernel_rfl, rfl⟩) (by assumption) ?_
              (try simp only [Act.put, List.setIfInBounds_toArray, List.set_cons_zero, List.set_cons_succ])
              refine wpAnyH_take (i := 35) (oi := ⟨some 111, _, _, _, _, _⟩) (v := undef) rfl (by kernel_rfl) (by kernel_rfl) (by kernel_rfl) (fun _ _ _ h => h) (Or.inr ⟨by kernel_rfl, rfl⟩) (by assumption) ?_
              (try simp only [Act.put, List.setIfInBounds_toArray, List.set_cons_zero, List.set_cons_succ])
              refine wpAnyH_take (i := 36) (oi := ⟨some 112, _, _, _, _, _⟩) (v := undef) rfl (by kernel_rfl) (by kernel_rfl) (by kernel_rfl) (fun _ _ _ h => h) (Or.inr ⟨by kernel_rfl, rfl⟩) (by assumption) ?_
              (try simp only [Act.put, List.setIfInBounds_toArray, List.set_cons_zero, List.set_cons_succ])
              refine wpAnyH_take (i := 37) (oi := ⟨some 113, _, _, _, _, _⟩) (v := undef) rfl (by kernel_rfl) (by kernel_rfl) (by kernel_rfl) (fun _ _ _ h => h) (Or.inr ⟨by kernel_rfl, rfl⟩) (by assumption) ?_
              (try simp only [Act.put, List.setIfInBounds_toArray, List.set_cons_zero, List.set_cons_succ])
              refine wpAnyH_take (i := 38) (oi := ⟨some 114, _, _, _, _, _⟩) (v := undef) rfl (by kernel_rfl) (by kernel_rfl) (by kernel_rfl) (fun _ _ _ h => h) (Or.inr ⟨by kernel_rfl, rfl⟩) (by assumption) ?_
              (try simp only [Act.put, List.setIfInBounds_toArray, List.set_cons_zero, List.set_cons_succ])
              refine wpAnyH_take (i := 39) (oi := ⟨some 115, _, _, _, _, _⟩) (v := undef) rfl (by kernel_rfl) (by kernel_rfl) (by kernel_rfl) (fun _ _ _ h => h) (Or.inr ⟨by kernel_rfl, rfl⟩) (by assumption) ?_
              (try simp only [Act.put, List.setIfInBounds_toArray, List.set_cons_zero, List.set_cons_succ])
              refine wpAnyH_take (i := 40) (oi := ⟨some 116, _, _, _, _, _⟩) (v := undef) rfl (by kernel_rfl) (by kernel_rfl) (by kernel_rfl) (fun _ _ _ h => h) (Or.inr ⟨by kernel_rfl, rfl⟩) (by assumption) ?_
              (try simp only [Act.put, List.setIfInBounds_toArray, List.set_cons_zero, List.set_cons_succ])
              refine wpAnyH_take (i := 41) (oi := ⟨some 117, _, _, _, _, _⟩) (v := undef) rfl (by kernel_rfl) (by kernel_rfl) (by kernel_rfl) (fun _ _ _ h => h) (Or.inr ⟨by kernel_rfl, rfl⟩) (by assumption) ?_
              (try simp only [Act.put, List.setIfInBounds_toArray, List.set_cons_zero, List.set_cons_succ])
              refine wpAnyH_take (i := 42) (oi := ⟨some 118, _, _, _, _, _⟩) (v := .bool false) rfl (by kernel_rfl) (by kernel_rfl) (by kernel_rfl) (fun _ _ _ h => h) (Or.inl ⟨by kernel_rfl, fun w hSw => by ((try dsimp only at hSw); go_simp; done)⟩) (by assumption) ?_
              (try simp only [Act.put, List.setIfInBounds_toArray, List.set_cons_zero, List.set_cons_succ])
              refine wpAnyH_take (i := 43) (oi := ⟨some 9, _, _, _, _, _⟩) (v := .bool false) rfl (by kernel_rfl) (by kernel_rfl) (by kernel_rfl) (fun _ _ _ h => h) (Or.inl ⟨by kernel_rfl, fun w hSw => by ((try dsimp only at hSw); go_simp; done)⟩) (by assumption) ?_
              (try simp only [Act.put, List.setIfInBounds_toArray, List.set_cons_zero, List.set_cons_succ])
              refine wpAnyH_done (by kernel_rfl) ?_ _
              go_wp2_with fail
              go_meet
              exact ⟨by rw [← HR10.out, HFit.out, hr.out, hkd.out]; rfl, ZA⟩
            · have hkn : ((k : Int) != (n : Int)) = true := by simp; omega
              have hkd : Hid (decide (k ≠ n) = true) := Lib.hid (by simpa using hkn0)
              clear hkn0
              cases r2 with
              | false =>
                refine wp_region_held_drew (S := (fun w' => w'.cell? ⟨w.heap.size, 0, none⟩ = some (.slice q.aF c.fs.length q.cF) ∧ w'.cell? ⟨w.heap.size, 1, none⟩ = some (.slice q.aH c.nh q.cH) ∧ w'.cell? ⟨w.heap.size, 2, none⟩ = some (.slice q.aR c.fr.length q.cR) ∧ w'.cell? ⟨w.heap.size, 3, none⟩ = some (.slice q.aO c.od.length q.cO) ∧ (LoadE (.pointer (some ⟨g1, n * 14, none⟩))).run Try.prog w' = .ok (evE es n).V w' ∧ w'.cell? ⟨g1, n * 14 + 3, none⟩ = some (.int .u64 (evE es n).addr) ∧ w'.cell? ⟨g1, n * 14 + 4, none⟩ = some (.int .u64 (evE es n).load) ∧ (LoadE (.pointer (some ⟨g1, k * 14, none⟩))).run Try.prog w' = .ok (evE es k).V w' ∧ w'.cell? ⟨g1, k * 14 + 3, none⟩ = some (.int .u64 (evE es k).addr) ∧ w'.cell? ⟨g1, k * 14 + 5, none⟩ = some (.int .u64 (evE es k).store))) (by kernel_rfl) ?_ (fun hHeld => ?_)
                · exact ZD.out.ten hnN hkN
                refine wpAnyH_take (i := 0) (oi := ⟨some 76, _, _, _, _, _⟩) (v := .slice (some ⟨g1, 0, none⟩) c.N c.N) rfl (by kernel_rfl) (by kernel_rfl) (by kernel_rfl) (fun _ _ _ h => h) (Or.inl ⟨by kernel_rfl, fun w hSw => by ((try dsimp only at hSw); go_simp; done)⟩) (by assumption) ?_
                (try simp only [Act.put, List.setIfInBounds_toArray, List.set_cons_zero, List.set_cons_succ])
                refine wpAnyH_take (i := 1) (oi := ⟨some 77, _, _, _, _, _⟩) (v := .int .i64 (n : Int)) rfl (by kernel_rfl) (by kernel_rfl) (by kernel_rfl) (fun _ _ _ h => h) (Or.inl ⟨by kernel_rfl, fun w hSw => by ((try dsimp only at hSw); go_simp; done)⟩) (by assumption) ?_
                (try simp only [Act.put, List.setIfInBounds_toArray, List.set_cons_zero, List.set_cons_succ])
                refine wpAnyH_take (i := 2) (oi := ⟨some 78, _, _, _, _, _⟩) (v := .pointer (some ⟨g1, n * 14, none⟩)) rfl (by kernel_rfl) (by kernel_rfl) (by kernel_rfl) (fun _ _ _ h => h) (Or.inl ⟨by kernel_rfl, fun w hSw => by ((try dsimp only at hSw); go_simp; done)⟩) (by assumption) ?_
                (try simp only [Act.put, List.setIfInBounds_toArray, List.set_cons_zero, List.set_cons_succ])
                refine wpAnyH_take (i := 3) (oi := ⟨some 79, _, _, _, _, _⟩) (v := (evE es n).V) rfl (by kernel_rfl) (by kernel_rfl) (by kernel_rfl) (fun _ _ _ h => h) (Or.inl ⟨by kernel_rfl, fun w hSw => by ((try dsimp only at hSw); go_simp; done)⟩) (by assumption) ?_
                (try simp only [Act.put, List.setIfInBounds_toArray, List.set_cons_zero, List.set_cons_succ])
                refine wpAnyH_ready (rs := [4]) (by kernel_rfl) (by simp) ?_
                refine AllReadyH.cons (o := ⟨some 80, _, _, _, _, _⟩) rfl (fun K hK => ?_) AllReadyH.nil
                go_simp
                ((go_at_call 20; (with_reducible refine (KR.out _).mono ?_); rintro e' wa ⟨rfl, hb⟩; have ZA := Lib.hid (ZD.out.on hb); clear hb))
                (try go_wp2_with fail)
                refine hK.out _ _ ?_ (fun hHeld => ?_)
                · exact ZA.out.ten hnN hkN
                clear hK K
                (try simp only [Act.put, List.setIfInBounds_toArray, List.set_cons_zero, List.set_cons_succ])
                refine wpAnyH_take (i := 5) (oi := ⟨some 81, _, _, _, _, _⟩) (v := .bool true) rfl (by kernel_rfl) (by kernel_rfl) (by kernel_rfl) (fun _ _ _ h => h) (Or.inl ⟨by kernel_rfl, fun w hSw => by ((try dsimp only at hSw); go_simp; done)⟩) (by assumption) ?_
                (try simp only [Act.put, List.setIfInBounds_toArray, List.set_cons_zero, List.set_cons_succ])
                refine wpAnyH_take (i := 6) (oi := ⟨some 82, _, _, _, _, _⟩) (v := .int .i64 (k : Int)) rfl (by kernel_rfl) (by kernel_rfl) (by kernel_rfl) (fun _ _ _ h => h) (Or.inl ⟨by kernel_rfl, fun w hSw => by ((try dsimp only at hSw); go_simp; done)⟩) (by assumption) ?_
                (try simp only [Act.put, List.setIfInBounds_toArray, List.set_cons_zero, List.set_cons_succ])
                refine wpAnyH_take (i := 7) (oi := ⟨some 83, _, _, _, _, _⟩) (v := .int .i64 (n : Int)) rfl (by kernel_rfl) (by kernel_rfl) (by kernel_rfl) (fun _ _ _ h => h) (Or.inl ⟨by kernel_rfl, fun w hSw => by ((try dsimp only at hSw); go_simp; done)⟩) (by assumption) ?_
                (try simp only [Act.put, List.setIfInBounds_toArray, List.set_cons_zero, List.set_cons_succ])
                refine wpAnyH_take (i := 8) (oi := ⟨some 84, _, _, _, _, _⟩) (v := .bool true) rfl (by kernel_rfl) (by kernel_rfl) (by kernel_rfl) (fun _ _ _ h => h) (Or.inl ⟨by kernel_rfl, fun w hSw => by ((try dsimp only at hSw); go_simp; done)⟩) (by assumption) ?_
                (try simp only [Act.put, List.setIfInBounds_toArray, List.set_cons_zero, List.set_cons_succ])
                refine wpAnyH_take (i := 9) (oi := ⟨some 85, _, _, _, _, _⟩) (v := .bool true) rfl (by kernel_rfl) (by kernel_rfl) (by kernel_rfl) (fun _ _ _ h => h) (Or.inl ⟨by kernel_rfl, fun w hSw => by ((try dsimp only at hSw); go_simp; done)⟩) (by assumption) ?_
                (try simp only [Act.put, List.setIfInBounds_toArray, List.set_cons_zero, List.set_cons_succ])
                refine wpAnyH_take (i := 10) (oi := ⟨some 86, _, _, _, _, _⟩) (v := .bool true) rfl (by kernel_rfl) (by kernel_rfl) (by kernel_rfl) (fun _ _ _ h => h) (Or.inl ⟨by kernel_rfl, fun w hSw => by ((try dsimp only at hSw); go_simp; done)⟩) (by assumption) ?_
                (try simp only [Act.put, List.setIfInBounds_toArray, List.set_cons_zero, List.set_cons_succ])
                refine wpAnyH_take (i := 11) (oi := ⟨some 87, _, _, _, _, _⟩) (v := .slice (some ⟨g1, 0, none⟩) c.N c.N) rfl (by kernel_rfl) (by kernel_rfl) (by kernel_rfl) (fun _ _ _ h => h) (Or.inl ⟨by kernel_rfl, fun w hSw => by ((try dsimp only at hSw); go_simp; done)⟩) (by assumption) ?_
                (try simp only [Act.put, List.setIfInBounds_toArray, List.set_cons_zero, List.set_cons_succ])
                refine wpAnyH_take (i := 12) (oi := ⟨some 88, _, _, _, _, _⟩) (v := .int .i64 (k : Int)) rfl (by kernel_rfl) (by kernel_rfl) (by kernel_rfl) (fun _ _ _ h => h) (Or.inl ⟨by kernel_rfl, fun w hSw => by ((try dsimp only at hSw); go_simp; done)⟩) (by assumption) ?_
                (try simp only [Act.put, List.setIfInBounds_toArray, List.set_cons_zero, List.set_cons_succ])
                refine wpAnyH_take (i := 13) (oi := ⟨some 89, _, _, _, _, _⟩) (v := .pointer (some ⟨g1, k * 14, none⟩)) rfl (by kernel_rfl) (by kernel_rfl) (by kernel_rfl) (fun _ _ _ h => h) (Or.inl ⟨by kernel_rfl, fun w hSw => by ((try dsimp only at hSw); go_simp; done)⟩) (by assumption) ?_
                (try simp only [Act.put, List.setIfInBounds_toArray, List.set_cons_zero, List.set_cons_succ])
                refine wpAnyH_take (i := 14) (oi := ⟨some 90, _, _, _, _, _⟩) (v := (evE es k).V) rfl (by kernel_rfl) (by kernel_rfl) (by kernel_rfl) (fun _ _ _ h => h) (Or.inl ⟨by kernel_rfl, fun w hSw => by ((try dsimp only at hSw); go_simp; done)⟩) (by assumption) ?_
                (try simp only [Act.put, List.setIfInBounds_toArray, List.set_cons_zero, List.set_cons_succ])
                refine wpAnyH_ready (rs := [15]) (by kernel_rfl) (by simp) ?_
                refine AllReadyH.cons (o := ⟨some 91, _, _, _, _, _⟩) rfl (fun K hK => ?_) AllReadyH.nil
                go_simp
                ((go_at_call 21; (with_reducible refine (KW.out _).mono ?_); rintro e' wb ⟨rfl, hb⟩; have ZB := Lib.hid (ZA.out.on hb); clear hb))
                (try go_wp2_with fail)
                refine hK.out _ _ ?_ (fun hHeld => ?_)
                · exact ZB.out.ten hnN hkN
                clear hK K
                (try simp only [Act.put, List.setIfInBounds_toArray, List.set_cons_zero, List.set_cons_succ])
                refine wpAnyH_take (i := 16) (oi := ⟨some 92, _, _, _, _, _⟩) (v := .bool false) rfl (by kernel_rfl) (by kernel_rfl) (by kernel_rfl) (fun _ _ _ h => h) (Or.inl ⟨by kernel_rfl, fun w hSw => by ((try dsimp only at hSw); go_simp; done)⟩) (by assumption) ?_
                (try simp only [Act.put, List.setIfInBounds_toArray, List.set_cons_zero, List.set_cons_succ])
                refine wpAnyH_take (i := 17) (oi := ⟨some 93, _, _, _, _, _⟩) (v := .bool false) rfl (by kernel_rfl) (by kernel_rfl) (by kernel_rfl) (fun _ _ _ h => h) (Or.inl ⟨by kernel_rfl, fun w hSw => by ((try dsimp only at hSw); go_simp; done)⟩) (by assumption) ?_
                (try simp only [Act.put, List.setIfInBounds_toArray, List.set_cons_zero, List.set_cons_succ])
                refine wpAnyH_take (i := 18) (oi := ⟨some 94, _, _, _, _, _⟩) (v := undef) rfl (by kernel_rfl) (by kernel_rfl) (by kernel_rfl) (fun _ _ _ h => h) (Or.inr ⟨by kernel_rfl, rfl⟩) (by assumption) ?_
                (try simp only [Act.put, List.setIfInBounds_toArray, List.set_cons_zero, List.set_cons_succ])
                refine wpAnyH_take (i := 19) (oi := ⟨some 95, _, _, _, _, _⟩) (v := undef) rfl (by kernel_rfl) (by kernel_rfl) (by kernel_rfl) (fun _ _ _ h => h) (Or.inr ⟨by kernel_rfl, rfl⟩) (by assumption) ?_
                (try simp only [Act.put, List.setIfInBounds_toArray, List.set_cons_zero, List.set_cons_succ])
                refine wpAnyH_take (i := 20) (oi := ⟨some 96, _, _, _, _, _⟩) (v := undef) rfl (by kernel_rfl) (by kernel_rfl) (by kernel_rfl) (fun _ _ _ h => h) (Or.inr ⟨by kernel_rfl, rfl⟩) (by assumption) ?_
                (try simp only [Act.put, List.setIfInBounds_toArray, List.set_cons_zero, List.set_cons_succ])
                refine wpAnyH_take (i := 21) (oi := ⟨some 97, _, _, _, _, _⟩) (v := undef) rfl (by kernel_rfl) (by kernel_rfl) (by kernel_rfl) (fun _ _ _ h => h) (Or.inr ⟨by kernel_rfl, rfl⟩) (by assumption) ?_
                (try simp only [Act.put, List.setIfInBounds_toArray, List.set_cons_zero, List.set_cons_succ])
                refine wpAnyH_take (i := 22) (oi := ⟨some 98, _, _, _, _, _⟩) (v := undef) rfl (by kernel_rfl) (by kernel_rfl) (by kernel_rfl) (fun _ _ _ h => h) (Or.inr ⟨by kernel_rfl, rfl⟩) (by assumption) ?_
                (try simp only [Act.put, List.setIfInBounds_toArray, List.set_cons_zero, List.set_cons_succ])
                refine wpAnyH_take (i := 23) (oi := ⟨some 99, _, _, _, _, _⟩) (v := undef) rfl (by kernel_rfl) (by kernel_rfl) (by kernel_rfl) (fun _ _ _ h => h) (Or.inr ⟨by kernel_rfl, rfl⟩) (by assumption) ?_
                (try simp only [Act.put, List.setIfInBounds_toArray, List.set_cons_zero, List.set_cons_succ])
                refine wpAnyH_take (i := 24) (oi := ⟨some 100, _, _, _, _, _⟩) (v := undef) rfl (by kernel_rfl) (by kernel_rfl) (by kernel_rfl) (fun _ _ _ h => h) (Or.inr ⟨by kernel_rfl, rfl⟩) (by assumption) ?_
                (try simp only [Act.put, List.setIfInBounds_toArray, List.set_cons_zero, List.set_cons_succ])
                refine wpAnyH_take (i := 25) (oi := ⟨some 101, _, _, _, _, _⟩) (v := undef) rfl (by kernel_rfl) (by kernel_rfl) (by kernel_rfl) (fun _ _ _ h => h) (Or.inr ⟨by kernel_rfl, rfl⟩) (by assumption) ?_
                (try simp only [Act.put, List.setIfInBounds_toArray, List.set_cons_zero, List.set_cons_succ])
                refine wpAnyH_take (i := 26) (oi := ⟨some 102, _, _, _, _, _⟩) (v := undef) rfl (by kernel_rfl) (by kernel_rfl) (by kernel_rfl) (fun _ _ _ h => h) (Or.inr ⟨by kernel_rfl, rfl⟩) (by assumption) ?_
                (try simp only [Act.put, List.setIfInBounds_toArray, List.set_cons_zero, List.set_cons_succ])
                refine wpAnyH_take (i := 27) (oi := ⟨some 103, _, _, _, _, _⟩) (v := undef) rfl (by kernel_rfl) (by kernel_rfl) (by kernel_rfl) (fun _ _ _ h => h) (Or.inr ⟨by kernel_rfl, rfl⟩) (by assumption) ?_
                (try simp only [Act.put, List.setIfInBounds_toArray, List.set_cons_zero, List.set_cons_succ])
                refine wpAnyH_take (i := 28) (oi := ⟨some 104, _, _, _, _, _⟩) (v := undef) rfl (by kernel_rfl) (by kernel_rfl) (by kernel_rfl) (fun _ _ _ h => h) (Or.inr ⟨by kernel_rfl, rfl⟩) (by assumption) ?_
                (try simp only [Act.put, List.setIfInBounds_toArray, List.set_cons_zero, List.set_cons_succ])
                refine wpAnyH_take (i := 29) (oi := ⟨some 105, _, _, _, _, _⟩) (v := .bool false) rfl (by kernel_rfl) (by kernel_rfl) (by kernel_rfl) (fun _ _ _ h => h) (Or.inl ⟨by kernel_rfl, fun w hSw => by ((try dsimp only at hSw); go_simp; done)⟩) (by assumption) ?_
                (try simp only [Act.put, List.setIfInBounds_toArray, List.set_cons_zero, List.set_cons_succ])
                refine wpAnyH_take (i := 30) (oi := ⟨some 106, _, _, _, _, _⟩) (v := .bool false) rfl (by kernel_rfl) (by kernel_rfl) (by kernel_rfl) (fun _ _ _ h => h) (Or.inl ⟨by kernel_rfl, fun w hSw => by ((try dsimp only at hSw); go_simp; done)⟩) (by assumption) ?_
                (try simp only [Act.put, List.setIfInBounds_toArray, List.set_cons_zero, List.set_cons_succ])
                refine wpAnyH_take (i := 31) (oi := ⟨some 107, _, _, _, _, _⟩) (v := undef) rfl (by kernel_rfl) (by kernel_rfl) (by kernel_rfl) (fun _ _ _ h => h) (Or.inr ⟨by kernel_rfl, rfl⟩) (by assumption) ?_
                (try simp only [Act.put, List.setIfInBounds_toArray, List.set_cons_zero, List.set_cons_succ])
                refine wpAnyH_take (i := 32) (oi := ⟨some 108, _, _, _, _, _⟩) (v := undef) rfl (by kernel_rfl) (by kernel_rfl) (by kernel_rfl) (fun _ _ _ h => h) (Or.inr ⟨by kernel_rfl, rfl⟩) (by assumption) ?_
                (try simp only [Act.put, List.setIfInBounds_toArray, List.set_cons_zero, List.set_cons_succ])
                refine wpAnyH_take (i := 33) (oi := ⟨some 109, _, _, _, _, _⟩) (v := undef) rfl (by kernel_rfl) (by kernel_rfl) (by kernel_rfl) (fun _ _ _ h => h) (Or.inr ⟨by kernel_rfl, rfl⟩) (by assumption) ?_
                (try simp only [Act.put, List.setIfInBounds_toArray, List.set_cons_zero, List.set_cons_succ])
                refine wpAnyH_take (i := 34) (oi := ⟨some 110, _, _, _, _, _⟩) (v := undef) rfl (by kernel_rfl) (by kernel_rfl) (by kernel_rfl) (fun _ _ _ h => h) (Or.inr ⟨by kernel_rfl, rfl⟩) (by assumption) ?_
                (try simp only [Act.put, List.setIfInBounds_toArray, List.set_cons_zero, List.set_cons_succ])
                refine wpAnyH_take (i := 35) (oi := ⟨some 111, _, _, _, _, _⟩) (v := undef) rfl (by kernel_rfl) (by kernel_rfl) (by kernel_rfl) (fun _ _ _ h => h) (Or.inr ⟨by kernel_rfl, rfl⟩) (by assumption) ?_
                (try simp only [Act.put, List.setIfInBounds_toArray, List.set_cons_zero, List.set_cons_succ])
                refine wpAnyH_take (i := 36) (oi := ⟨some 112, _, _, _, _, _⟩) (v := undef) rfl (by kernel_rfl) (by kernel_rfl) (by kernel_rfl) (fun _ _ _ h => h) (Or.inr ⟨by kernel_rfl, rfl⟩) (by assumption) ?_
                (try simp only [Act.put, List.setIfInBounds_toArray, List.set_cons_zero, List.set_cons_succ])
                refine wpAnyH_take (i := 37) (oi := ⟨some 113, _, _, _, _, _⟩) (v := undef) rfl (by kernel_rfl) (by kernel_rfl) (by kernel_rfl) (fun _ _ _ h => h) (Or.inr ⟨by kernel_rfl, rfl⟩) (by assumption) ?_
                (try simp only [Act.put, List.setIfInBounds_toArray, List.set_cons_zero, List.set_cons_succ])
                refine wpAnyH_take (i := 38) (oi := ⟨some 114, _, _, _, _, _⟩) (v := undef) rfl (by kernel_rfl) (by kernel_rfl) (by kernel_rfl) (fun _ _ _ h => h) (Or.inr ⟨by kernel_rfl, rfl⟩) (by assumption) ?_
                (try simp only [Act.put, List.setIfInBounds_toArray, List.set_cons_zero, List.set_cons_succ])
                refine wpAnyH_take (i := 39) (oi := ⟨some 115, _, _, _, _, _⟩) (v := undef) rfl (by kernel_rfl) (by kernel_rfl) (by kernel_rfl) (fun _ _ _ h => h) (Or.inr ⟨by kernel_rfl, rfl⟩) (by assumption) ?_
                (try simp only [Act.put, List.setIfInBounds_toArray, List.set_cons_zero, List.set_cons_succ])
                refine wpAnyH_take (i := 40) (oi := ⟨some 116, _, _, _, _, _⟩) (v := undef) rfl (by kernel_rfl) (by kernel_rfl) (by kernel_rfl) (fun _ _ _ h => h) (Or.inr ⟨by kernel_rfl, rfl⟩) (by assumption) ?_
                (try simp only [Act.put, List.setIfInBounds_toArray, List.set_cons_zero, List.set_cons_succ])
                refine wpAnyH_take (i := 41) (oi := ⟨some 117, _, _, _, _, _⟩) (v := undef) rfl (by kernel_rfl) (by kernel_rfl) (by kernel_rfl) (fun _ _ _ h => h) (Or.inr ⟨by kernel_rfl, rfl⟩) (by assumption) ?_
                (try simp only [Act.put, List.setIfInBounds_toArray, List.set_cons_zero, List.set_cons_succ])
                refine wpAnyH_take (i := 42) (oi := ⟨some 118, _, _, _, _, _⟩) (v := .bool false) rfl (by kernel_rfl) (by kernel_rfl) (by kernel_rfl) (fun _ _ _ h => h) (Or.inl ⟨by kernel_rfl, fun w hSw => by ((try dsimp only at hSw); go_simp; done)⟩) (by assumption) ?_
                (try simp only [Act.put, List.setIfInBounds_toArray, List.set_cons_zero, List.set_cons_succ])
                refine wpAnyH_take (i := 43) (oi := ⟨some 9, _, _, _, _, _⟩) (v := .bool false) rfl (by kernel_rfl) (by kernel_rfl) (by kernel_rfl) (fun _ _ _ h => h) (Or.inl ⟨by kernel_rfl, fun w hSw => by ((try dsimp only at hSw); go_simp; done)⟩) (by assumption) ?_
                (try simp only [Act.put, List.setIfInBounds_toArray, List.set_cons_zero, List.set_cons_succ])
                refine wpAnyH_done (by kernel_rfl) ?_ _
                go_wp2_with fail
                go_meet
                exact ⟨by rw [← HR10.out, HFit.out, hr.out, hkd.out, hr2.out]; rfl, ZB⟩
              | true =>
                obtain ⟨b1, hb1⟩ : ∃ b, ((evE es k).addr == (evE es n).addr) = b := ⟨_, rfl⟩
                have hbh := Lib.hid hb1
                cases b1 with
                | false =>
                  refine wp_region_held_drew (S := (fun w' => w'.cell? ⟨w.heap.size, 0, none⟩ = some (.slice q.aF c.fs.length q.cF) ∧ w'.cell? ⟨w.heap.size, 1, none⟩ = some (.slice q.aH c.nh q.cH) ∧ w'.cell? ⟨w.heap.size, 2, none⟩ = some (.slice q.aR c.fr.length q.cR) ∧ w'.cell? ⟨w.heap.size, 3, none⟩ = some (.slice q.aO c.od.length q.cO) ∧ (LoadE (.pointer (some ⟨g1, n * 14, none⟩))).run Try.prog w' = .ok (evE es n).V w' ∧ w'.cell? ⟨g1, n * 14 + 3, none⟩ = some (.int .u64 (evE es n).addr) ∧ w'.cell? ⟨g1, n * 14 + 4, none⟩ = some (.int .u64 (evE es n).load) ∧ (LoadE (.pointer (some ⟨g1, k * 14, none⟩))).run Try.prog w' = .ok (evE es k).V w' ∧ w'.cell? ⟨g1, k * 14 + 3, none⟩ = some (.int .u64 (evE es k).addr) ∧ w'.cell? ⟨g1, k * 14 + 5, none⟩ = some (.int .u64 (evE es k).store))) (by kernel_rfl) ?_ (fun hHeld => ?_)
                  · exact ZD.out.ten hnN hkN
                  refine wpAnyH_take (i := 0) (oi := ⟨some 76, _, _, _, _, _⟩) (v := .slice (some ⟨g1, 0, none⟩) c.N c.N) rfl (by kernel_rfl) (by kernel_rfl) (by kernel_rfl) (fun _ _ _ h => h) (Or.inl ⟨by kernel_rfl, fun w hSw => by ((try dsimp only at hSw); go_simp; done)⟩) (by assumption) ?_
                  (try simp only [Act.put, List.setIfInBounds_toArray, List.set_cons_zero, List.set_cons_succ])
                  refine wpAnyH_take (i := 1) (oi := ⟨some 77, _, _, _, _, _⟩) (v := .int .i64 (n : Int)) rfl (by kernel_rfl) (by kernel_rfl) (by kernel_rfl) (fun _ _ _ h => h) (Or.inl ⟨by kernel_rfl, fun w hSw => by ((try dsimp only at hSw); go_simp; done)⟩) (by assumption) ?_
                  (try simp only [Act.put, List.setIfInBounds_toArray, List.set_cons_zero, List.set_cons_succ])
                  refine wpAnyH_take (i := 2) (oi := ⟨some 78, _, _, _, _, _⟩) (v := .pointer (some ⟨g1, n * 14, none⟩)) rfl (by kernel_rfl) (by kernel_rfl) (by kernel_rfl) (fun _ _ _ h => h) (Or.inl ⟨by kernel_rfl, fun w hSw => by ((try dsimp only at hSw); go_simp; done)⟩) (by assumption) ?_
                  (try simp only [Act.put, List.setIfInBounds_toArray, List.set_cons_zero, List.set_cons_succ])
                  refine wpAnyH_take (i := 3) (oi := ⟨some 79, _, _, _, _, _⟩) (v := (evE es n).V) rfl (by kernel_rfl) (by kernel_rfl) (by kernel_rfl) (fun _ _ _ h => h) (Or.inl ⟨by kernel_rfl, fun w hSw => by ((try dsimp only at hSw); go_simp; done)⟩) (by assumption) ?_
                  (try simp only [Act.put, List.setIfInBounds_toArray, List.set_cons_zero, List.set_cons_succ])
                  refine wpAnyH_ready (rs := [4]) (by kernel_rfl) (by simp) ?_
                  refine AllReadyH.cons (o := ⟨some 80, _, _, _, _, _⟩) rfl (fun K hK => ?_) AllReadyH.nil
                  go_simp
                  ((go_at_call 20; (with_reducible refine (KR.out _).mono ?_); rintro e' wa ⟨rfl, hb⟩; have ZA := Lib.hid (ZD.out.on hb); clear hb))
                  (try go_wp2_with fail)
                  refine hK.out _ _ ?_ (fun hHeld => ?_)
                  · exact ZA.out.ten hnN hkN
                  clear hK K
                  (try simp only [Act.put, List.setIfInBounds_toArray, List.set_cons_zero, List.set_cons_succ])
                  refine wpAnyH_take (i := 5) (oi := ⟨some 81, _, _, _, _, _⟩) (v := .bool true) rfl (by kernel_rfl) (by kernel_rfl) (by kernel_rfl) (fun _ _ _ h => h) (Or.inl ⟨by kernel_rfl, fun w hSw => by ((try dsimp only at hSw); go_simp; done)⟩) (by assumption) ?_
                  (try simp only [Act.put, List.setIfInBounds_toArray, List.set_cons_zero, List.set_cons_succ])
                  refine wpAnyH_take (i := 6) (oi := ⟨some 82, _, _, _, _, _⟩) (v := .int .i64 (k : Int)) rfl (by kernel_rfl) (by kernel_rfl) (by kernel_rfl) (fun _ _ _ h => h) (Or.inl ⟨by kernel_rfl, fun w hSw => by ((try dsimp only at hSw); go_simp; done)⟩) (by assumption) ?_
                  (try simp only [Act.put, List.setIfInBounds_toArray, List.set_cons_zero, List.set_cons_succ])
                  refine wpAnyH_take (i := 7) (oi := ⟨some 83, _, _, _, _, _⟩) (v := .int .i64 (n : Int)) rfl (by kernel_rfl) (by kernel_rfl) (by kernel_rfl) (fun _ _ _ h => h) (Or.inl ⟨by kernel_rfl, fun w hSw => by ((try dsimp only at hSw); go_simp; done)⟩) (by assumption) ?_
                  (try simp only [Act.put, List.setIfInBounds_toArray, List.set_cons_zero, List.set_cons_succ])
                  refine wpAnyH_take (i := 8) (oi := ⟨some 84, _, _, _, _, _⟩) (v := .bool true) rfl (by kernel_rfl) (by kernel_rfl) (by kernel_rfl) (fun _ _ _ h => h) (Or.inl ⟨by kernel_rfl, fun w hSw => by ((try dsimp only at hSw); go_simp; done)⟩) (by assumption) ?_
                  (try simp only [Act.put, List.setIfInBounds_toArray, List.set_cons_zero, List.set_cons_succ])
                  refine wpAnyH_take (i := 9) (oi := ⟨some 85, _, _, _, _, _⟩) (v := .bool true) rfl (by kernel_rfl) (by kernel_rfl) (by kernel_rfl) (fun _ _ _ h => h) (Or.inl ⟨by kernel_rfl, fun w hSw => by ((try dsimp only at hSw); go_simp; done)⟩) (by assumption) ?_
                  (try simp only [Act.put, List.setIfInBounds_toArray, List.set_cons_zero, List.set_cons_succ])
                  refine wpAnyH_take (i := 10) (oi := ⟨some 86, _, _, _, _, _⟩) (v := .bool true) rfl (by kernel_rfl) (by kernel_rfl) (by kernel_rfl) (fun _ _ _ h => h) (Or.inl ⟨by kernel_rfl, fun w hSw => by ((try dsimp only at hSw); go_simp; done)⟩) (by assumption) ?_
                  (try simp only [Act.put, List.setIfInBounds_toArray, List.set_cons_zero, List.set_cons_succ])
                  refine wpAnyH_take (i := 11) (oi := ⟨some 87, _, _, _, _, _⟩) (v := .slice (some ⟨g1, 0, none⟩) c.N c.N) rfl (by kernel_rfl) (by kernel_rfl) (by kernel_rfl) (fun _ _ _ h => h) (Or.inl ⟨by kernel_rfl, fun w hSw => by ((try dsimp only at hSw); go_simp; done)⟩) (by assumption) ?_
                  (try simp only [Act.put, List.setIfInBounds_toArray, List.set_cons_zero, List.set_cons_succ])
                  refine wpAnyH_take (i := 12) (oi := ⟨some 88, _, _, _, _, _⟩) (v := .int .i64 (k : Int)) rfl (by kernel_rfl) (by kernel_rfl) (by kernel_rfl) (fun _ _ _ h => h) (Or.inl ⟨by kernel_rfl, fun w hSw => by ((try dsimp only at hSw); go_simp; done)⟩) (by assumption) ?_
                  (try simp only [Act.put, List.setIfInBounds_toArray, List.set_cons_zero, List.set_cons_succ])
                  refine wpAnyH_take (i := 13) (oi := ⟨some 89, _, _, _, _, _⟩) (v := .pointer (some ⟨g1, k * 14, none⟩)) rfl (by kernel_rfl) (by kernel_rfl) (by kernel_rfl) (fun _ _ _ h => h) (Or.inl ⟨by kernel_rfl, fun w hSw => by ((try dsimp only at hSw); go_simp; done)⟩) (by assumption) ?_
                  (try simp only [Act.put, List.setIfInBounds_toArray, List.set_cons_zero, List.set_cons_succ])
                  refine wpAnyH_take (i := 14) (oi := ⟨some 90, _, _, _, _, _⟩) (v := (evE es k).V) rfl (by kernel_rfl) (by kernel_rfl) (by kernel_rfl) (fun _ _ _ h => h) (Or.inl ⟨by kernel_rfl, fun w hSw => by ((try dsimp only at hSw); go_simp; done)⟩) (by assumption) ?_
                  (try simp only [Act.put, List.setIfInBounds_toArray, List.set_cons_zero, List.set_cons_succ])
                  refine wpAnyH_ready (rs := [15]) (by kernel_rfl) (by simp) ?_
                  refine AllReadyH.cons (o := ⟨some 91, _, _, _, _, _⟩) rfl (fun K hK => ?_) AllReadyH.nil
                  go_simp
                  ((go_at_call 21; (with_reducible refine (KW.out _).mono ?_); rintro e' wb ⟨rfl, hb⟩; have ZB := Lib.hid (ZA.out.on hb); clear hb))
                  (try go_wp2_with fail)
                  refine hK.out _ _ ?_ (fun hHeld => ?_)
                  · exact ZB.out.ten hnN hkN
                  clear hK K
                  (try simp only [Act.put, List.setIfInBounds_toArray, List.set_cons_zero, List.set_cons_succ])
                  refine wpAnyH_take (i := 16) (oi := ⟨some 92, _, _, _, _, _⟩) (v := .bool true) rfl (by kernel_rfl) (by kernel_rfl) (by kernel_rfl) (fun _ _ _ h => h) (Or.inl ⟨by kernel_rfl, fun w hSw => by ((try dsimp only at hSw); go_simp; done)⟩) (by assumption) ?_
                  (try simp only [Act.put, List.setIfInBounds_toArray, List.set_cons_zero, List.set_cons_succ])
                  refine wpAnyH_take (i := 17) (oi := ⟨some 93, _, _, _, _, _⟩) (v := .bool true) rfl (by kernel_rfl) (by kernel_rfl) (by kernel_rfl) (fun _ _ _ h => h) (Or.inl ⟨by kernel_rfl, fun w hSw => by ((try dsimp only at hSw); go_simp; done)⟩) (by assumption) ?_
                  (try simp only [Act.put, List.setIfInBounds_toArray, List.set_cons_zero, List.set_cons_succ])
                  refine wpAnyH_take (i := 18) (oi := ⟨some 94, _, _, _, _, _⟩) (v := .slice (some ⟨g1, 0, none⟩) c.N c.N) rfl (by kernel_rfl) (by kernel_rfl) (by kernel_rfl) (fun _ _ _ h => h) (Or.inl ⟨by kernel_rfl, fun w hSw => by ((try dsimp only at hSw); go_simp; done)⟩) (by assumption) ?_
                  (try simp only [Act.put, List.setIfInBounds_toArray, List.set_cons_zero, List.set_cons_succ])
                  refine wpAnyH_take (i := 19) (oi := ⟨some 95, _, _, _, _, _⟩) (v := .int .i64 (k : Int)) rfl (by kernel_rfl) (by kernel_rfl) (by kernel_rfl) (fun _ _ _ h => h) (Or.inl ⟨by kernel_rfl, fun w hSw => by ((try dsimp only at hSw); go_simp; done)⟩) (by assumption) ?_
                  (try simp only [Act.put, List.setIfInBounds_toArray, List.set_cons_zero, List.set_cons_succ])
                  refine wpAnyH_take (i := 20) (oi := ⟨some 96, _, _, _, _, _⟩) (v := .pointer (some ⟨g1, k * 14, none⟩)) rfl (by kernel_rfl) (by kernel_rfl) (by kernel_rfl) (fun _ _ _ h => h) (Or.inl ⟨by kernel_rfl, fun w hSw => by ((try dsimp only at hSw); go_simp; done)⟩) (by assumption) ?_
                  (try simp only [Act.put, List.setIfInBounds_toArray, List.set_cons_zero, List.set_cons_succ])
                  refine wpAnyH_take (i := 21) (oi := ⟨some 97, _, _, _, _, _⟩) (v := .pointer (some ⟨g1, k * 14 + 3, none⟩)) rfl (by kernel_rfl) (by kernel_rfl) (by kernel_rfl) (fun _ _ _ h => h) (Or.inl ⟨by kernel_rfl, fun w hSw => by ((try dsimp only at hSw); go_simp; done)⟩) (by assumption) ?_
                  (try simp only [Act.put, List.setIfInBounds_toArray, List.set_cons_zero, List.set_cons_succ])
                  refine wpAnyH_take (i := 22) (oi := ⟨some 98, _, _, _, _, _⟩) (v := .int .u64 (evE es k).addr) rfl (by kernel_rfl) (by kernel_rfl) (by kernel_rfl) (fun _ _ _ h => h) (Or.inl ⟨by kernel_rfl, fun w hSw => by ((try dsimp only at hSw); go_simp; done)⟩) (by assumption) ?_
                  (try simp only [Act.put, List.setIfInBounds_toArray, List.set_cons_zero, List.set_cons_succ])
                  refine wpAnyH_take (i := 23) (oi := ⟨some 99, _, _, _, _, _⟩) (v := .slice (some ⟨g1, 0, none⟩) c.N c.N) rfl (by kernel_rfl) (by kernel_rfl) (by kernel_rfl) (fun _ _ _ h => h) (Or.inl ⟨by kernel_rfl, fun w hSw => by ((try dsimp only at hSw); go_simp; done)⟩) (by assumption) ?_
                  (try simp only [Act.put, List.setIfInBounds_toArray, List.set_cons_zero, List.set_cons_succ])
                  refine wpAnyH_take (i := 24) (oi := ⟨some 100, _, _, _, _, _⟩) (v := .int .i64 (n : Int)) rfl (by kernel_rfl) (by kernel_rfl) (by kernel_rfl) (fun _ _ _ h => h) (Or.inl ⟨by kernel_rfl, fun w hSw => by ((try dsimp only at hSw); go_simp; done)⟩) (by assumption) ?_
                  (try simp only [Act.put, List.setIfInBounds_toArray, List.set_cons_zero, List.set_cons_succ])
                  refine wpAnyH_take (i := 25) (oi := ⟨some 101, _, _, _, _, _⟩) (v := .pointer (some ⟨g1, n * 14, none⟩)) rfl (by kernel_rfl) (by kernel_rfl) (by kernel_rfl) (fun _ _ _ h => h) (Or.inl ⟨by kernel_rfl, fun w hSw => by ((try dsimp only at hSw); go_simp; done)⟩) (by assumption) ?_
                  (try simp only [Act.put, List.setIfInBounds_toArray, List.set_cons_zero, List.set_cons_succ])
                  refine wpAnyH_take (i := 26) (oi := ⟨some 102, _, _, _, _, _⟩) (v := .pointer (some ⟨g1, n * 14 + 3, none⟩)) rfl (by kernel_rfl) (by kernel_rfl) (by kernel_rfl) (fun _ _ _ h => h) (Or.inl ⟨by kernel_rfl, fun w hSw => by ((try dsimp only at hSw); go_simp; done)⟩) (by assumption) ?_
                  (try simp only [Act.put, List.setIfInBounds_toArray, List.set_cons_zero, List.set_cons_succ])
                  refine wpAnyH_take (i := 27) (oi := ⟨some 103, _, _, _, _, _⟩) (v := .int .u64 (evE es n).addr) rfl (by kernel_rfl) (by kernel_rfl) (by kernel_rfl) (fun _ _ _ h => h) (Or.inl ⟨by kernel_rfl, fun w hSw => by ((try dsimp only at hSw); go_simp; done)⟩) (by assumption) ?_
                  (try simp only [Act.put, List.setIfInBounds_toArray, List.set_cons_zero, List.set_cons_succ])
                  refine wpAnyH_take (i := 28) (oi := ⟨some 104, _, _, _, _, _⟩) (v := .bool false) rfl (by kernel_rfl) (by kernel_rfl) (by kernel_rfl) (fun _ _ _ h => h) (Or.inl ⟨by kernel_rfl, fun w hSw => by ((try dsimp only at hSw); go_simp; done)⟩) (by assumption) ?_
                  (try simp only [Act.put, List.setIfInBounds_toArray, List.set_cons_zero, List.set_cons_succ])
                  refine wpAnyH_take (i := 29) (oi := ⟨some 105, _, _, _, _, _⟩) (v := .bool false) rfl (by kernel_rfl) (by kernel_rfl) (by kernel_rfl) (fun _ _ _ h => h) (Or.inl ⟨by kernel_rfl, fun w hSw => by ((try dsimp only at hSw); go_simp; done)⟩) (by assumption) ?_
                  (try simp only [Act.put, List.setIfInBounds_toArray, List.set_cons_zero, List.set_cons_succ])
                  refine wpAnyH_take (i := 30) (oi := ⟨some 106, _, _, _, _, _⟩) (v := .bool false) rfl (by kernel_rfl) (by kernel_rfl) (by kernel_rfl) (fun _ _ _ h => h) (Or.inl ⟨by kernel_rfl, fun w hSw => by ((try dsimp only at hSw); go_simp; done)⟩) (by assumption) ?_
                  (try simp only [Act.put, List.setIfInBounds_toArray, List.set_cons_zero, List.set_cons_succ])
                  refine wpAnyH_take (i := 31) (oi := ⟨some 107, _, _, _, _, _⟩) (v := undef) rfl (by kernel_rfl) (by kernel_rfl) (by kernel_rfl) (fun _ _ _ h => h) (Or.inr ⟨by kernel_rfl, rfl⟩) (by assumption) ?_
                  (try simp only [Act.put, List.setIfInBounds_toArray, List.set_cons_zero, List.set_cons_succ])
                  refine wpAnyH_take (i := 32) (oi := ⟨some 108, _, _, _, _, _⟩) (v := undef) rfl (by kernel_rfl) (by kernel_rfl) (by kernel_rfl) (fun _ _ _ h => h) (Or.inr ⟨by kernel_rfl, rfl⟩) (by assumption) ?_
                  (try simp only [Act.put, List.setIfInBounds_toArray, List.set_cons_zero, List.set_cons_succ])
                  refine wpAnyH_take (i := 33) (oi := ⟨some 109, _, _, _, _, _⟩) (v := undef) rfl (by kernel_rfl) (by kernel_rfl) (by kernel_rfl) (fun _ _ _ h => h) (Or.inr ⟨by kernel_rfl, rfl⟩) (by assumption) ?_
                  (try simp only [Act.put, List.setIfInBounds_toArray, List.set_cons_zero, List.set_cons_succ])
                  refine wpAnyH_take (i := 34) (oi := ⟨some 110, _, _, _, _, _⟩) (v := undef) rfl (by kernel_rfl) (by kernel_rfl) (by kernel_rfl) (fun _ _ _ h => h) (Or.inr ⟨by kernel_rfl, rfl⟩) (by assumption) ?_
                  (try simp only [Act.put, List.setIfInBounds_toArray, List.set_cons_zero, List.set_cons_succ])
                  refine wpAnyH_take (i := 35) (oi := ⟨some 111, _, _, _, _, _⟩) (v := undef) rfl (by kernel_rfl) (by kernel_rfl) (by kernel_rfl) (fun _ _ _ h => h) (Or.inr ⟨by kernel_rfl, rfl⟩) (by assumption) ?_
                  (try simp only [Act.put, List.setIfInBounds_toArray, List.set_cons_zero, List.set_cons_succ])
                  refine wpAnyH_take (i := 36) (oi := ⟨some 112, _, _, _, _, _⟩) (v := undef) rfl (by kernel_rfl) (by kernel_rfl) (by kernel_rfl) (fun _ _ _ h => h) (Or.inr ⟨by kernel_rfl, rfl⟩) (by assumption) ?_
                  (try simp only [Act.put, List.setIfInBounds_toArray, List.set_cons_zero, List.set_cons_succ])
                  refine wpAnyH_take (i := 37) (oi := ⟨some 113, _, _, _, _, _⟩) (v := undef) rfl (by kernel_rfl) (by kernel_rfl) (by kernel_rfl) (fun _ _ _ h => h) (Or.inr ⟨by kernel_rfl, rfl⟩) (by assumption) ?_
                  (try simp only [Act.put, List.setIfInBounds_toArray, List.set_cons_zero, List.set_cons_succ])
                  refine wpAnyH_take (i := 38) (oi := ⟨some 114, _, _, _, _, _⟩) (v := undef) rfl (by kernel_rfl) (by kernel_rfl) (by kernel_rfl) (fun _ _ _ h => h) (Or.inr ⟨by kernel_rfl, rfl⟩) (by assumption) ?_
                  (try simp only [Act.put, List.setIfInBounds_toArray, List.set_cons_zero, List.set_cons_succ])
                  refine wpAnyH_take (i := 39) (oi := ⟨some 115, _, _, _, _, _⟩) (v := undef) rfl (by kernel_rfl) (by kernel_rfl) (by kernel_rfl) (fun _ _ _ h => h) (Or.inr ⟨by kernel_rfl, rfl⟩) (by assumption) ?_
                  (try simp only [Act.put, List.setIfInBounds_toArray, List.set_cons_zero, List.set_cons_succ])
                  refine wpAnyH_take (i := 40) (oi := ⟨some 116, _, _, _, _, _⟩) (v := undef) rfl (by kernel_rfl) (by kernel_rfl) (by kernel_rfl) (fun _ _ _ h => h) (Or.inr ⟨by kernel_rfl, rfl⟩) (by assumption) ?_
                  (try simp only [Act.put, List.setIfInBounds_toArray, List.set_cons_zero, List.set_cons_succ])
                  refine wpAnyH_take (i := 41) (oi := ⟨some 117, _, _, _, _, _⟩) (v := undef) rfl (by kernel_rfl) (by kernel_rfl) (by kernel_rfl) (fun _ _ _ h => h) (Or.inr ⟨by kernel_rfl, rfl⟩) (by assumption) ?_
                  (try simp only [Act.put, List.setIfInBounds_toArray, List.set_cons_zero, List.set_cons_succ])
                  refine wpAnyH_take (i := 42) (oi := ⟨some 118, _, _, _, _, _⟩) (v := .bool false) rfl (by kernel_rfl) (by kernel_rfl) (by kernel_rfl) (fun _ _ _ h => h) (Or.inl ⟨by kernel_rfl, fun w hSw => by ((try dsimp only at hSw); go_simp; done)⟩) (by assumption) ?_
                  (try simp only [Act.put, List.setIfInBounds_toArray, List.set_cons_zero, List.set_cons_succ])
                  refine wpAnyH_take (i := 43) (oi := ⟨some 9, _, _, _, _, _⟩) (v := .bool false) rfl (by kernel_rfl) (by kernel_rfl) (by kernel_rfl) (fun _ _ _ h => h) (Or.inl ⟨by kernel_rfl, fun w hSw => by ((try dsimp only at hSw); go_simp; done)⟩) (by assumption) ?_
                  (try simp only [Act.put, List.setIfInBounds_toArray, List.set_cons_zero, List.set_cons_succ])
                  refine wpAnyH_done (by kernel_rfl) ?_ _
                  go_wp2_with fail
                  go_meet
                  exact ⟨by rw [← HR10.out, HFit.out, hr.out, hkd.out, hr2.out, hbh.out]; rfl, ZB⟩
                | true =>
                  obtain ⟨b2, hb2⟩ : ∃ b, ((evE es k).store == (evE es n).load) = b := ⟨_, rfl⟩
                  have hbh2 := Lib.hid hb2
                  refine wp_region_held_drew (S := (fun w' => w'.cell? ⟨w.heap.size, 0, none⟩ = some (.slice q.aF c.fs.length q.cF) ∧ w'.cell? ⟨w.heap.size, 1, none⟩ = some (.slice q.aH c.nh q.cH) ∧ w'.cell? ⟨w.heap.size, 2, none⟩ = some (.slice q.aR c.fr.length q.cR) ∧ w'.cell? ⟨w.heap.size, 3, none⟩ = some (.slice q.aO c.od.length q.cO) ∧ (LoadE (.pointer (some ⟨g1, n * 14, none⟩))).run Try.prog w' = .ok (evE es n).V w' ∧ w'.cell? ⟨g1, n * 14 + 3, none⟩ = some (.int .u64 (evE es n).addr) ∧ w'.cell? ⟨g1, n * 14 + 4, none⟩ = some (.int .u64 (evE es n).load) ∧ (LoadE (.pointer (some ⟨g1, k * 14, none⟩))).run Try.prog w' = .ok (evE es k).V w' ∧ w'.cell? ⟨g1, k * 14 + 3, none⟩ = some (.int .u64 (evE es k).addr) ∧ w'.cell? ⟨g1, k * 14 + 5, none⟩ = some (.int .u64 (evE es k).store))) (by kernel_rfl) ?_ (fun hHeld => ?_)
                  · exact ZD.out.ten hnN hkN
                  refine wpAnyH_take (i := 0) (oi := ⟨some 76, _, _, _, _, _⟩) (v := .slice (some ⟨g1, 0, none⟩) c.N c.N) rfl (by kernel_rfl) (by kernel_rfl) (by kernel_rfl) (fun _ _ _ h => h) (Or.inl ⟨by kernel_rfl, fun w hSw => by ((try dsimp only at hSw); go_simp; done)⟩) (by assumption) ?_
                  (try simp only [Act.put, List.setIfInBounds_toArray, List.set_cons_zero, List.set_cons_succ])
                  refine wpAnyH_take (i := 1) (oi := ⟨some 77, _, _, _, _, _⟩) (v := .int .i64 (n : Int)) rfl (by kernel_rfl) (by kernel_rfl) (by kernel_rfl) (fun _ _ _ h => h) (Or.inl ⟨by kernel_rfl, fun w hSw => by ((try dsimp only at hSw); go_simp; done)⟩) (by assumption) ?_
                  (try simp only [Act.put, List.setIfInBounds_toArray, List.set_cons_zero, List.set_cons_succ])
                  refine wpAnyH_take (i := 2) (oi := ⟨some 78, _, _, _, _, _⟩) (v := .pointer (some ⟨g1, n * 14, none⟩)) rfl (by kernel_rfl) (by kernel_rfl) (by kernel_rfl) (fun _ _ _ h => h) (Or.inl ⟨by kernel_rfl, fun w hSw => by ((try dsimp only at hSw); go_simp; done)⟩) (by assumption) ?_
                  (try simp only [Act.put, List.setIfInBounds_toArray, List.set_cons_zero, List.set_cons_succ])
                  refine wpAnyH_take (i := 3) (oi := ⟨some 79, _, _, _, _, _⟩) (v := (evE es n).V) rfl (by kernel_rfl) (by kernel_rfl) (by kernel_rfl) (fun _ _ _ h => h) (Or.inl ⟨by kernel_rfl, fun w hSw => by ((try dsimp only at hSw); go_simp; done)⟩) (by assumption) ?_
                  (try simp only [Act.put, List.setIfInBounds_toArray, List.set_cons_zero, List.set_cons_succ])
                  refine wpAnyH_ready (rs := [4]) (by kernel_rfl) (by simp) ?_
                  refine AllReadyH.cons (o := ⟨some 80, _, _, _, _, _⟩) rfl (fun K hK => ?_) AllReadyH.nil
                  go_simp
                  ((go_at_call 20; (with_reducible refine (KR.out _).mono ?_); rintro e' wa ⟨rfl, hb⟩; have ZA := Lib.hid (ZD.out.on hb); clear hb))
                  (try go_wp2_with fail)
                  refine hK.out _ _ ?_ (fun hHeld => ?_)
                  · exact ZA.out.ten hnN hkN
                  clear hK K
                  (try simp only [Act.put, List.setIfInBounds_toArray, List.set_cons_zero, List.set_cons_succ])
                  refine wpAnyH_take (i := 5) (oi := ⟨some 81, _, _, _, _, _⟩) (v := .bool true) rfl (by kernel_rfl) (by kernel_rfl) (by kernel_rfl) (fun _ _ _ h => h) (Or.inl ⟨by kernel_rfl, fun w hSw => by ((try dsimp only at hSw); go_simp; done)⟩) (by assumption) ?_
                  (try simp only [Act.put, List.setIfInBounds_toArray, List.set_cons_zero, List.set_cons_succ])
                  refine wpAnyH_take (i := 6) (oi := ⟨some 82, _, _, _, _, _⟩) (v := .int .i64 (k : Int)) rfl (by kernel_rfl) (by kernel_rfl) (by kernel_rfl) (fun _ _ _ h => h) (Or.inl ⟨by kernel_rfl, fun w hSw => by ((try dsimp only at hSw); go_simp; done)⟩) (by assumption) ?_
                  (try simp only [Act.put, List.setIfInBounds_toArray, List.set_cons_zero, List.set_cons_succ])
                  refine wpAnyH_take (i := 7) (oi := ⟨some 83, _, _, _, _, _⟩) (v := .int .i64 (n : Int)) rfl (by kernel_rfl) (by kernel_rfl) (by kernel_rfl) (fun _ _ _ h => h) (Or.inl ⟨by kernel_rfl, fun w hSw => by ((try dsimp only at hSw); go_simp; done)⟩) (by assumption) ?_
                  (try simp only [Act.put, List.setIfInBounds_toArray, List.set_cons_zero, List.set_cons_succ])
                  refine wpAnyH_take (i := 8) (oi := ⟨some 84, _, _, _, _, _⟩) (v := .bool true) rfl (by kernel_rfl) (by kernel_rfl) (by kernel_rfl) (fun _ _ _ h => h) (Or.inl ⟨by kernel_rfl, fun w hSw => by ((try dsimp only at hSw); go_simp; done)⟩) (by assumption) ?_
                  (try simp only [Act.put, List.setIfInBounds_toArray, List.set_cons_zero, List.set_cons_succ])
                  refine wpAnyH_take (i := 9) (oi := ⟨some 85, _, _, _, _, _⟩) (v := .bool true) rfl (by kernel_rfl) (by kernel_rfl) (by kernel_rfl) (fun _ _ _ h => h) (Or.inl ⟨by kernel_rfl, fun w hSw => by ((try dsimp only at hSw); go_simp; done)⟩) (by assumption) ?_
                  (try simp only [Act.put, List.setIfInBounds_toArray, List.set_cons_zero, List.set_cons_succ])
                  refine wpAnyH_take (i := 10) (oi := ⟨some 86, _, _, _, _, _⟩) (v := .bool true) rfl (by kernel_rfl) (by kernel_rfl) (by kernel_rfl) (fun _ _ _ h => h) (Or.inl ⟨by kernel_rfl, fun w hSw => by ((try dsimp only at hSw); go_simp; done)⟩) (by assumption) ?_
                  (try simp only [Act.put, List.setIfInBounds_toArray, List.set_cons_zero, List.set_cons_succ])
                  refine wpAnyH_take (i := 11) (oi := ⟨some 87, _, _, _, _, _⟩) (v := .slice (some ⟨g1, 0, none⟩) c.N c.N) rfl (by kernel_rfl) (by kernel_rfl) (by kernel_rfl) (fun _ _ _ h => h) (Or.inl ⟨by kernel_rfl, fun w hSw => by ((try dsimp only at hSw); go_simp; done)⟩) (by assumption) ?_
                  (try simp only [Act.put, List.setIfInBounds_toArray, List.set_cons_zero, List.set_cons_succ])
                  refine wpAnyH_take (i := 12) (oi := ⟨some 88, _, _, _, _, _⟩) (v := .int .i64 (k : Int)) rfl (by kernel_rfl) (by kernel_rfl) (by kernel_rfl) (fun _ _ _ h => h) (Or.inl ⟨by kernel_rfl, fun w hSw => by ((try dsimp only at hSw); go_simp; done)⟩) (by assumption) ?_
                  (try simp only [Act.put, List.setIfInBounds_toArray, List.set_cons_zero, List.set_cons_succ])
                  refine wpAnyH_take (i := 13) (oi := ⟨some 89, _, _, _, _, _⟩) (v := .pointer (some ⟨g1, k * 14, none⟩)) rfl (by kernel_rfl) (by kernel_rfl) (by kernel_rfl) (fun _ _ _ h => h) (Or.inl ⟨by kernel_rfl, fun w hSw => by ((try dsimp only at hSw); go_simp; done)⟩) (by assumption) ?_
                  (try simp only [Act.put, List.setIfInBounds_toArray, List.set_cons_zero, List.set_cons_succ])
                  refine wpAnyH_take (i := 14) (oi := ⟨some 90, _, _, _, _, _⟩) (v := (evE es k).V) rfl (by kernel_rfl) (by kernel_rfl) (by kernel_rfl) (fun _ _ _ h => h) (Or.inl ⟨by kernel_rfl, fun w hSw => by ((try dsimp only at hSw); go_simp; done)⟩) (by assumption) ?_
                  (try simp only [Act.put, List.setIfInBounds_toArray, List.set_cons_zero, List.set_cons_succ])
                  refine wpAnyH_ready (rs := [15]) (by kernel_rfl) (by simp) ?_
                  refine AllReadyH.cons (o := ⟨some 91, _, _, _, _, _⟩) rfl (fun K hK => ?_) AllReadyH.nil
                  go_simp
                  ((go_at_call 21; (with_reducible refine (KW.out _).mono ?_); rintro e' wb ⟨rfl, hb⟩; have ZB := Lib.hid (ZA.out.on hb); clear hb))
                  (try go_wp2_with fail)
                  refine hK.out _ _ ?_ (fun hHeld => ?_)
                  · exact ZB.out.ten hnN hkN
                  clear hK K
                  (try simp only [Act.put, List.setIfInBounds_toArray, List.set_cons_zero, List.set_cons_succ])
                  refine wpAnyH_take (i := 16) (oi := ⟨some 92, _, _, _, _, _⟩) (v := .bool true) rfl (by kernel_rfl) (by kernel_rfl) (by kernel_rfl) (fun _ _ _ h => h) (Or.inl ⟨by kernel_rfl, fun w hSw => by ((try dsimp only at hSw); go_simp; done)⟩) (by assumption) ?_
                  (try simp only [Act.put, List.setIfInBounds_toArray, List.set_cons_zero, List.set_cons_succ])
                  refine wpAnyH_take (i := 17) (oi := ⟨some 93, _, _, _, _, _⟩) (v := .bool true) rfl (by kernel_rfl) (by kernel_rfl) (by kernel_rfl) (fun _ _ _ h => h) (Or.inl ⟨by kernel_rfl, fun w hSw => by ((try dsimp only at hSw); go_simp; done)⟩) (by assumption) ?_
                  (try simp only [Act.put, List.setIfInBounds_toArray, List.set_cons_zero, List.set_cons_succ])
                  refine wpAnyH_take (i := 18) (oi := ⟨some 94, _, _, _, _, _⟩) (v := .slice (some ⟨g1, 0, none⟩) c.N c.N) rfl (by kernel_rfl) (by kernel_rfl) (by kernel_rfl) (fun _ _ _ h => h) (Or.inl ⟨by kernel_rfl, fun w hSw => by ((try dsimp only at hSw); go_simp; done)⟩) (by assumption) ?_
                  (try simp only [Act.put, List.setIfInBounds_toArray, List.set_cons_zero, List.set_cons_succ])
                  refine wpAnyH_take (i := 19) (oi := ⟨some 95, _, _, _, _, _⟩) (v := .int .i64 (k : Int)) rfl (by kernel_rfl) (by kernel_rfl) (by kernel_rfl) (fun _ _ _ h => h) (Or.inl ⟨by kernel_rfl, fun w hSw => by ((try dsimp only at hSw); go_simp; done)⟩) (by assumption) ?_
                  (try simp only [Act.put, List.setIfInBounds_toArray, List.set_cons_zero, List.set_cons_succ])
                  refine wpAnyH_take (i := 20) (oi := ⟨some 96, _, _, _, _, _⟩) (v := .pointer (some ⟨g1, k * 14, none⟩)) rfl (by kernel_rfl) (by kernel_rfl) (by kernel_rfl) (fun _ _ _ h => h) (Or.inl ⟨by kernel_rfl, fun w hSw => by ((try dsimp only at hSw); go_simp; done)⟩) (by assumption) ?_
                  (try simp only [Act.put, List.setIfInBounds_toArray, List.set_cons_zero, List.set_cons_succ])
                  refine wpAnyH_take (i := 21) (oi := ⟨some 97, _, _, _, _, _⟩) (v := .pointer (some ⟨g1, k * 14 + 3, none⟩)) rfl (by kernel_rfl) (by kernel_rfl) (by kernel_rfl) (fun _ _ _ h => h) (Or.inl ⟨by kernel_rfl, fun w hSw => by ((try dsimp only at hSw); go_simp; done)⟩) (by assumption) ?_
                  (try simp only [Act.put, List.setIfInBounds_toArray, List.set_cons_zero, List.set_cons_succ])
                  refine wpAnyH_take (i := 22) (oi := ⟨some 98, _, _, _, _, _⟩) (v := .int .u64 (evE es k).addr) rfl (by kernel_rfl) (by kernel_rfl) (by kernel_rfl) (fun _ _ _ h => h) (Or.inl ⟨by kernel_rfl, fun w hSw => by ((try dsimp only at hSw); go_simp; done)⟩) (by assumption) ?_
                  (try simp only [Act.put, List.setIfInBounds_toArray, List.set_cons_zero, List.set_cons_succ])
                  refine wpAnyH_take (i := 23) (oi := ⟨some 99, _, _, _, _, _⟩) (v := .slice (some ⟨g1, 0, none⟩) c.N c.N) rfl (by kernel_rfl) (by kernel_rfl) (by kernel_rfl) (fun _ _ _ h => h) (Or.inl ⟨by kernel_rfl, fun w hSw => by ((try dsimp only at hSw); go_simp; done)⟩) (by assumption) ?_
                  (try simp only [Act.put, List.setIfInBounds_toArray, List.set_cons_zero, List.set_cons_succ])
                  refine wpAnyH_take (i := 24) (oi := ⟨some 100, _, _, _, _, _⟩) (v := .int .i64 (n : Int)) rfl (by kernel_rfl) (by kernel_rfl) (by kernel_rfl) (fun _ _ _ h => h) (Or.inl ⟨by kernel_rfl, fun w hSw => by ((try dsimp only at hSw); go_simp; done)⟩) (by assumption) ?_
                  (try simp only [Act.put, List.setIfInBounds_toArray, List.set_cons_zero, List.set_cons_succ])
                  refine wpAnyH_take (i := 25) (oi := ⟨some 101, _, _, _, _, _⟩) (v := .pointer (some ⟨g1, n * 14, none⟩)) rfl (by kernel_rfl) (by kernel_rfl) (by kernel_rfl) (fun _ _ _ h => h) (Or.inl ⟨by kernel_rfl, fun w hSw => by ((try dsimp only at hSw); go_simp; done)⟩) (by assumption) ?_
                  (try simp only [Act.put, List.setIfInBounds_toArray, List.set_cons_zero, List.set_cons_succ])
                  refine wpAnyH_take (i := 26) (oi := ⟨some 102, _, _, _, _, _⟩) (v := .pointer (some ⟨g1, n * 14 + 3, none⟩)) rfl (by kernel_rfl) (by kernel_rfl) (by kernel_rfl) (fun _ _ _ h => h) (Or.inl ⟨by kernel_rfl, fun w hSw => by ((try dsimp only at hSw); go_simp; done)⟩) (by assumption) ?_
                  (try simp only [Act.put, List.setIfInBounds_toArray, List.set_cons_zero, List.set_cons_succ])
                  refine wpAnyH_take (i := 27) (oi := ⟨some 103, _, _, _, _, _⟩) (v := .int .u64 (evE es n).addr) rfl (by kernel_rfl) (by kernel_rfl) (by kernel_rfl) (fun _ _ _ h => h) (Or.inl ⟨by kernel_rfl, fun w hSw => by ((try dsimp only at hSw); go_simp; done)⟩) (by assumption) ?_
                  (try simp only [Act.put, List.setIfInBounds_toArray, List.set_cons_zero, List.set_cons_succ])
                  refine wpAnyH_take (i := 28) (oi := ⟨some 104, _, _, _, _, _⟩) (v := .bool true) rfl (by kernel_rfl) (by kernel_rfl) (by kernel_rfl) (fun _ _ _ h => h) (Or.inl ⟨by kernel_rfl, fun w hSw => by ((try dsimp only at hSw); go_simp; done)⟩) (by assumption) ?_
                  (try simp only [Act.put, List.setIfInBounds_toArray, List.set_cons_zero, List.set_cons_succ])
                  refine wpAnyH_take (i := 29) (oi := ⟨some 105, _, _, _, _, _⟩) (v := .bool true) rfl (by kernel_rfl) (by kernel_rfl) (by kernel_rfl) (fun _ _ _ h => h) (Or.inl ⟨by kernel_rfl, fun w hSw => by ((try dsimp only at hSw); go_simp; done)⟩) (by assumption) ?_
                  (try simp only [Act.put, List.setIfInBounds_toArray, List.set_cons_zero, List.set_cons_succ])
                  refine wpAnyH_take (i := 30) (oi := ⟨some 106, _, _, _, _, _⟩) (v := .bool true) rfl (by kernel_rfl) (by kernel_rfl) (by kernel_rfl) (fun _ _ _ h => h) (Or.inl ⟨by kernel_rfl, fun w hSw => by ((try dsimp only at hSw); go_simp; done)⟩) (by assumption) ?_
                  (try simp only [Act.put, List.setIfInBounds_toArray, List.set_cons_zero, List.set_cons_succ])
                  refine wpAnyH_take (i := 31) (oi := ⟨some 107, _, _, _, _, _⟩) (v := .slice (some ⟨g1, 0, none⟩) c.N c.N) rfl (by kernel_rfl) (by kernel_rfl) (by kernel_rfl) (fun _ _ _ h => h) (Or.inl ⟨by kernel_rfl, fun w hSw => by ((try dsimp only at hSw); go_simp; done)⟩) (by assumption) ?_
                  (try simp only [Act.put, List.setIfInBounds_toArray, List.set_cons_zero, List.set_cons_succ])
                  refine wpAnyH_take (i := 32) (oi := ⟨some 108, _, _, _, _, _⟩) (v := .int .i64 (k : Int)) rfl (by kernel_rfl) (by kernel_rfl) (by kernel_rfl) (fun _ _ _ h => h) (Or.inl ⟨by kernel_rfl, fun w hSw => by ((try dsimp only at hSw); go_simp; done)⟩) (by assumption) ?_
                  (try simp only [Act.put, List.setIfInBounds_toArray, List.set_cons_zero, List.set_cons_succ])
                  refine wpAnyH_take (i := 33) (oi := ⟨some 109, _, _, _, _, _⟩) (v := .pointer (some ⟨g1, k * 14, none⟩)) rfl (by kernel_rfl) (by kernel_rfl) (by kernel_rfl) (fun _ _ _ h => h) (Or.inl ⟨by kernel_rfl, fun w hSw => by ((try dsimp only at hSw); go_simp; done)⟩) (by assumption) ?_
                  (try simp only [Act.put, List.setIfInBounds_toArray, List.set_cons_zero, List.set_cons_succ])
                  refine wpAnyH_take (i := 34) (oi := ⟨some 110, _, _, _, _, _⟩) (v := .pointer (some ⟨g1, k * 14 + 5, none⟩)) rfl (by kernel_rfl) (by kernel_rfl) (by kernel_rfl) (fun _ _ _ h => h) (Or.inl ⟨by kernel_rfl, fun w hSw => by ((try dsimp only at hSw); go_simp; done)⟩) (by assumption) ?_
                  (try simp only [Act.put, List.setIfInBounds_toArray, List.set_cons_zero, List.set_cons_succ])
                  refine wpAnyH_take (i := 35) (oi := ⟨some 111, _, _, _, _, _⟩) (v := .int .u64 (evE es k).store) rfl (by kernel_rfl) (by kernel_rfl) (by kernel_rfl) (fun _ _ _ h => h) (Or.inl ⟨by kernel_rfl, fun w hSw => by ((try dsimp only at hSw); go_simp; done)⟩) (by assumption) ?_
                  (try simp only [Act.put, List.setIfInBounds_toArray, List.set_cons_zero, List.set_cons_succ])
                  refine wpAnyH_take (i := 36) (oi := ⟨some 112, _, _, _, _, _⟩) (v := .slice (some ⟨g1, 0, none⟩) c.N c.N) rfl (by kernel_rfl) (by kernel_rfl) (by kernel_rfl) (fun _ _ _ h => h) (Or.inl ⟨by kernel_rfl, fun w hSw => by ((try dsimp only at hSw); go_simp; done)⟩) (by assumption) ?_
                  (try simp only [Act.put, List.setIfInBounds_toArray, List.set_cons_zero, List.set_cons_succ])
                  refine wpAnyH_take (i := 37) (oi := ⟨some 113, _, _, _, _, _⟩) (v := .int .i64 (n : Int)) rfl (by kernel_rfl) (by kernel_rfl) (by kernel_rfl) (fun _ _ _ h => h) (Or.inl ⟨by kernel_rfl, fun w hSw => by ((try dsimp only at hSw); go_simp; done)⟩) (by assumption) ?_
                  (try simp only [Act.put, List.setIfInBounds_toArray, List.set_cons_zero, List.set_cons_succ])
                  refine wpAnyH_take (i := 38) (oi := ⟨some 114, _, _, _, _, _⟩) (v := .pointer (some ⟨g1, n * 14, none⟩)) rfl (by kernel_rfl) (by kernel_rfl) (by kernel_rfl) (fun _ _ _ h => h) (Or.inl ⟨by kernel_rfl, fun w hSw => by ((try dsimp only at hSw); go_simp; done)⟩) (by assumption) ?_
                  (try simp only [Act.put, List.setIfInBounds_toArray, List.set_cons_zero, List.set_cons_succ])
                  refine wpAnyH_take (i := 39) (oi := ⟨some 115, _, _, _, _, _⟩) (v := .pointer (some ⟨g1, n * 14 + 4, none⟩)) rfl (by kernel_rfl) (by kernel_rfl) (by kernel_rfl) (fun _ _ _ h => h) (Or.inl ⟨by kernel_rfl, fun w hSw => by ((try dsimp only at hSw); go_simp; done)⟩) (by assumption) ?_
                  (try simp only [Act.put, List.setIfInBounds_toArray, List.set_cons_zero, List.set_cons_succ])
                  refine wpAnyH_take (i := 40) (oi := ⟨some 116, _, _, _, _, _⟩) (v := .int .u64 (evE es n).load) rfl (by kernel_rfl) (by kernel_rfl) (by kernel_rfl) (fun _ _ _ h => h) (Or.inl ⟨by kernel_rfl, fun w hSw => by ((try dsimp only at hSw); go_simp; done)⟩) (by assumption) ?_
                  (try simp only [Act.put, List.setIfInBounds_toArray, List.set_cons_zero, List.set_cons_succ])
                  refine wpAnyH_take (i := 41) (oi := ⟨some 117, _, _, _, _, _⟩) (v := .bool b2) rfl (by kernel_rfl) (by kernel_rfl) (by kernel_rfl) (fun _ _ _ h => h) (Or.inl ⟨by kernel_rfl, fun w hSw => by ((try dsimp only at hSw); go_simp; done)⟩) (by assumption) ?_
                  (try simp only [Act.put, List.setIfInBounds_toArray, List.set_cons_zero, List.set_cons_succ])
                  refine wpAnyH_take (i := 42) (oi := ⟨some 118, _, _, _, _, _⟩) (v := .bool b2) rfl (by kernel_rfl) (by kernel_rfl) (by kernel_rfl) (fun _ _ _ h => h) (Or.inl ⟨by kernel_rfl, fun w hSw => by ((try dsimp only at hSw); go_simp; done)⟩) (by assumption) ?_
                  (try simp only [Act.put, List.setIfInBounds_toArray, List.set_cons_zero, List.set_cons_succ])
                  refine wpAnyH_take (i := 43) (oi := ⟨some 9, _, _, _, _, _⟩) (v := .bool b2) rfl (by kernel_rfl) (by kernel_rfl) (by kernel_rfl) (fun _ _ _ h => h) (Or.inl ⟨by kernel_rfl, fun w hSw => by ((try dsimp only at hSw); go_simp; done)⟩) (by assumption) ?_
                  (try simp only [Act.put, List.setIfInBounds_toArray, List.set_cons_zero, List.set_cons_succ])
                  refine wpAnyH_done (by kernel_rfl) ?_ _
                  go_wp2_with fail
                  go_meet
                  exact ⟨by rw [← HR10.out, HFit.out, hr.out, hkd.out, hr2.out, hbh.out, hbh2.out]; rfl, ZB⟩
      case rest =>
        obtain ⟨rfl, Z12⟩ := hcut
        clear Z10 ZE ZL HR10
        refine hK11 _ _ ?_
        refine wp_seq_k fun K13 hK13 => ?_
        obtain ⟨b0, b1, b2, b3⟩ := Z12.out.x.facts
        go_cut [9] (fun t9 wx => t9 = .bool r0 ∧ Hid (Lk c q w wx))
        case first => as_aux_lemma =>
          cases r0 with
          | false =>
            go_wp2_with (go_at_call 12; (with_reducible refine (KCx.out _ Z12.out.p).mono ?_); rintro e' wa ⟨rfl, hb⟩; have LA := Lib.hid (Z12.out.lk.on hb); clear hb)
            go_meet
            exact ⟨rfl, LA⟩
          | true =>
            go_wp2_with (go_at_call 12; (with_reducible refine (KCx.out _ Z12.out.p).mono ?_); rintro e' wa ⟨rfl, hb⟩; have LA := Lib.hid (Z12.out.lk.on hb); clear hb)
            go_meet
            exact ⟨rfl, LA⟩
        case rest =>
          obtain ⟨rfl, LA⟩ := hcut
          clear Z12 KCx b0 b1 b2 b3
          refine hK13 _ _ ?_
          obtain ⟨u0, u1, u2, u3⟩ := LA.out.box.facts
          by_cases hd0 : c.od.length = 0
          · have hd : ((c.od.length : Int) == 0) = true := by simp [hd0]
            clear hd0
            go_wp2_with fail
            go_ret
            exact ⟨rfl, LA.out.below⟩
          · have hd : ((c.od.length : Int) == 0) = false := by simpa using hd0
            go_upto_region 17 with fail
            go_name_world X0 hX0
            rw [hX0] at LA
            clear hX0 u0 u1 u2 u3
            go_cut [10, 11] (fun t10 t11 wx => ∃ (ny nz : Nat) (y z : Cq), t10 = .pointer (some ⟨ny, 0, none⟩) ∧ t11 = .pointer (some ⟨nz, 0, none⟩) ∧ Hid (Yz c q ny nz y z w wx))
            case first => as_aux_lemma =>
              have L0 := Lib.hid (LA.out.on (Below.refl _ _).drew)
              have hd0 : X0.drew.heap.size = X0.heap.size := rfl
              have hlo : w.heap.size < X0.heap.size := LA.out.box.lt
              refine wp_region_held_drew (S := (fun w' => w'.cell? ⟨w.heap.size, 0, none⟩ = some (.slice q.aF c.fs.length q.cF) ∧ w'.cell? ⟨w.heap.size, 1, none⟩ = some (.slice q.aH c.nh q.cH) ∧ w'.cell? ⟨w.heap.size, 2, none⟩ = some (.slice q.aR c.fr.length q.cR) ∧ w'.cell? ⟨w.heap.size, 3, none⟩ = some (.slice q.aO c.od.length q.cO))) (by kernel_rfl) ?_ (fun hHeld => ?_)
              · exact L0.out.box.facts
              refine wpAnyH_take (i := 0) (oi := ⟨some 128, _, _, _, _, _⟩) (v := .agg #[.slice q.aF c.fs.length q.cF, .slice q.aH c.nh q.cH, .slice q.aR c.fr.length q.cR, .slice q.aO c.od.length q.cO]) rfl (by kernel_rfl) (by kernel_rfl) (by kernel_rfl) (fun _ _ _ h => h) (Or.inl ⟨by kernel_rfl, fun w hSw => by ((try dsimp only at hSw); go_simp; done)⟩) (by assumption) ?_
              (try simp only [Act.put, List.setIfInBounds_toArray, List.set_cons_zero, List.set_cons_succ])
              refine wpAnyH_take (i := 2) (oi := ⟨some 130, _, _, _, _, _⟩) (v := .agg #[.slice q.aF c.fs.length q.cF, .slice q.aH c.nh q.cH, .slice q.aR c.fr.length q.cR, .slice q.aO c.od.length q.cO]) rfl (by kernel_rfl) (by kernel_rfl) (by kernel_rfl) (fun _ _ _ h => h) (Or.inl ⟨by kernel_rfl, fun w hSw => by ((try dsimp only at hSw); go_simp; done)⟩) (by assumption) ?_
              (try simp only [Act.put, List.setIfInBounds_toArray, List.set_cons_zero, List.set_cons_succ])
              refine wpAnyH_ready (rs := [1, 4, 5]) (by kernel_rfl) (by simp) ?_
              refine AllReadyH.cons (o := ⟨some 129, _, _, _, _, _⟩) rfl (fun K hK => ?_) ?_
              · go_simp
                (go_at_call 19; (with_reducible refine (KO.out _ L0.out.at_).mono ?_); rintro e' X1 ⟨gBy, loy, vF, vR, vO, vH, essy, valsy, rfl, hC⟩; obtain ⟨aFy, cFy, rfl⟩ := own_form hC.first; obtain ⟨aRy, cRy, rfl⟩ := own_form hC.from_; obtain ⟨aOy, cOy, rfl⟩ := own_form hC.order; obtain ⟨aHy, cHy, rfl⟩ := own_form hC.own)
                have Cy := Lib.hid hC.p
                have B1 := Lib.hid hC.below
                have hs1 := Lib.hid hC.below.size
                clear hC
                have L1 := Lib.hid (L0.out.on B1.out)
                (try go_wp2_with fail)
                refine hK.out _ _ L1.out.box.facts (fun hHeld => ?_)
                clear hK K
                (try simp only [Act.put, List.setIfInBounds_toArray, List.set_cons_zero, List.set_cons_succ])
                refine wpAnyH_ready (rs := [3, 4, 5]) (by kernel_rfl) (by simp) ?_
                refine AllReadyH.cons (o := ⟨some 131, _, _, _, _, _⟩) rfl (fun K hK => ?_) ?_
                · go_simp
                  (go_at_call 19; (with_reducible refine (KO.out _ L1.out.at_).mono ?_); rintro e' X2 ⟨gBz, loz, vF, vR, vO, vH, essz, valsz, rfl, hC⟩; obtain ⟨aFz, cFz, rfl⟩ := own_form hC.first; obtain ⟨aRz, cRz, rfl⟩ := own_form hC.from_; obtain ⟨aOz, cOz, rfl⟩ := own_form hC.order; obtain ⟨aHz, cHz, rfl⟩ := own_form hC.own)
                  have Cz := Lib.hid hC.p
                  have B2 := Lib.hid hC.below
                  have hs2 := Lib.hid hC.below.size
                  clear hC
                  have L2 := Lib.hid (L1.out.on B2.out)
                  (try go_wp2_with fail)
                  refine hK.out _ _ L2.out.box.facts (fun hHeld => ?_)
                  clear hK K
                  (try simp only [Act.put, List.setIfInBounds_toArray, List.set_cons_zero, List.set_cons_succ])
                  refine wpAnyH_ready (rs := [4, 5]) (by kernel_rfl) (by simp) ?_
                  refine AllReadyH.cons (o := ⟨some 10, _, _, _, _, _⟩) rfl (fun K hK => ?_) ?_
                  · go_simp
                    obtain ⟨X3, hX3⟩ : ∃ W, X2.alloc (.cells #[.slice none 0 0, .slice none 0 0, .slice none 0 0, .slice none 0 0] 26) = W := ⟨_, rfl⟩
                    have B3 : Hid (Below X2.heap.size X2 X3) := Lib.hid (by rw [← hX3]; exact box_below X2 (.cells #[.slice none 0 0, .slice none 0 0, .slice none 0 0, .slice none 0 0] 26))
                    have Zy : Hid (CBox (.slice none 0 0) (.slice none 0 0) (.slice none 0 0) (.slice none 0 0) (X2.heap.size) X3) := Lib.hid (by rw [← hX3]; exact CBox.new _ _ _ _ X2)
                    have hs3 : Hid (X3.heap.size = X2.heap.size + 1) := Lib.hid (by rw [← hX3]; simp)
                    have L3 := Lib.hid (L2.out.on B3.out)
                    rw [hX3]
                    clear hX3
                    refine hK.out _ _ L3.out.box.facts (fun hHeld => ?_)
                    clear hK K
                    (try simp only [Act.put, List.setIfInBounds_toArray, List.set_cons_zero, List.set_cons_succ])
                    refine wpAnyH_ready (rs := [5]) (by kernel_rfl) (by simp) ?_
                    refine AllReadyH.cons (o := ⟨some 11, _, _, _, _, _⟩) rfl (fun K hK => ?_) ?_
                    · go_simp
                      obtain ⟨X4, hX4⟩ : ∃ W, X3.alloc (.cells #[.slice none 0 0, .slice none 0 0, .slice none 0 0, .slice none 0 0] 26) = W := ⟨_, rfl⟩
                      have B4 : Hid (Below X3.heap.size X3 X4) := Lib.hid (by rw [← hX4]; exact box_below X3 (.cells #[.slice none 0 0, .slice none 0 0, .slice none 0 0, .slice none 0 0] 26))
                      have Zz : Hid (CBox (.slice none 0 0) (.slice none 0 0) (.slice none 0 0) (.slice none 0 0) (X3.heap.size) X4) := Lib.hid (by rw [← hX4]; exact CBox.new _ _ _ _ X3)
                      have hs4 : Hid (X4.heap.size = X3.heap.size + 1) := Lib.hid (by rw [← hX4]; simp)
                      have L4 := Lib.hid (L3.out.on B4.out)
                      rw [hX4]
                      clear hX4
                      refine hK.out _ _ L4.out.box.facts (fun hHeld => ?_)
                      clear hK K
                      (try simp only [Act.put, List.setIfInBounds_toArray, List.set_cons_zero, List.set_cons_succ])
                      have Ky : Hid (Keep X0.drew.heap.size X1 X4) := Lib.hid (((((Keep.refl _ _)).on B2.out).on B3.out).on B4.out)
                      have Kz : Hid (Keep X1.heap.size X2 X4) := Lib.hid ((((Keep.refl _ _)).on B3.out).on B4.out)
                      have Xy : Hid (CBox (.slice none 0 0) (.slice none 0 0) (.slice none 0 0) (.slice none 0 0) (X2.heap.size) X4) := Lib.hid ((Zy.out).on B4.out)
                      have Xz : Hid (CBox (.slice none 0 0) (.slice none 0 0) (.slice none 0 0) (.slice none 0 0) (X3.heap.size) X4) := Lib.hid (Zz.out)
                      have F6 := run_StoreC (y0 := .slice aFy c.fs.length cFy) (y1 := .slice aHy c.nh cHy) (y2 := .slice aRy c.fr.length cRy) (y3 := .slice aOy c.od.length cOy) Xy.out rfl rfl rfl rfl
                      have hnn : X3.heap.size ≠ X2.heap.size := by have := hs1.out; have := hs2.out; have := hs3.out; have := hs4.out; omega
                      have X7 : CBox (.slice none 0 0) (.slice none 0 0) (.slice none 0 0) (.slice none 0 0) (X3.heap.size) (X4.setRow (X2.heap.size) #[.slice aFy c.fs.length cFy, .slice aHy c.nh cHy, .slice aRy c.fr.length cRy, .slice aOy c.od.length cOy]) := (setRow_other _ _ _ _ hnn).trans Xz.out
                      have F7 := run_StoreC (y0 := .slice aFz c.fs.length cFz) (y1 := .slice aHz c.nh cHz) (y2 := .slice aRz c.fr.length cRz) (y3 := .slice aOz c.od.length cOz) X7 rfl rfl rfl rfl
                      have G6 : (X4.setRow (X2.heap.size) #[.slice aFy c.fs.length cFy, .slice aHy c.nh cHy, .slice aRy c.fr.length cRy, .slice aOy c.od.length cOy]).cell? ⟨w.heap.size, 0, none⟩ = some (.slice q.aF c.fs.length q.cF) ∧ (X4.setRow (X2.heap.size) #[.slice aFy c.fs.length cFy, .slice aHy c.nh cHy, .slice aRy c.fr.length cRy, .slice aOy c.od.length cOy]).cell? ⟨w.heap.size, 1, none⟩ = some (.slice q.aH c.nh q.cH) ∧ (X4.setRow (X2.heap.size) #[.slice aFy c.fs.length cFy, .slice aHy c.nh cHy, .slice aRy c.fr.length cRy, .slice aOy c.od.length cOy]).cell? ⟨w.heap.size, 2, none⟩ = some (.slice q.aR c.fr.length q.cR) ∧ (X4.setRow (X2.heap.size) #[.slice aFy c.fs.length cFy, .slice aHy c.nh cHy, .slice aRy c.fr.length cRy, .slice aOy c.od.length cOy]).cell? ⟨w.heap.size, 3, none⟩ = some (.slice q.aO c.od.length q.cO) := CdAt.facts (c := c) (q := q) ((setRow_other _ _ _ _ (by have := hs1.out; have := hs2.out; have := hs3.out; have := hs4.out; omega)).trans L4.out.box)
                      have YZ : Hid (Yz c q (X2.heap.size) (X3.heap.size) (⟨gBy, loy, aFy, cFy, aRy, cRy, aOy, cOy, aHy, cHy, essy, valsy, X0.drew, X1⟩ : Cq) (⟨gBz, loz, aFz, cFz, aRz, cRz, aOz, cOz, aHz, cHz, essz, valsz, X1, X2⟩ : Cq) w ((X4.setRow (X2.heap.size) #[.slice aFy c.fs.length cFy, .slice aHy c.nh cHy, .slice aRy c.fr.length cRy, .slice aOy c.od.length cOy]).setRow (X3.heap.size) #[.slice aFz c.fs.length cFz, .slice aHz c.nh cHz, .slice aRz c.fr.length cRz, .slice aOz c.od.length cOz])) := Lib.hid (Yz.make (y := (⟨gBy, loy, aFy, cFy, aRy, cRy, aOy, cOy, aHy, cHy, essy, valsy, X0.drew, X1⟩ : Cq)) (z := (⟨gBz, loz, aFz, cFz, aRz, cRz, aOz, cOz, aHz, cHz, essz, valsz, X1, X2⟩ : Cq)) L4.out Xy.out Xz.out Cy.out Cz.out Ky.out Kz.out (by show _ < _ ∨ _ ≤ _; dsimp only; have := hs1.out; have := hs2.out; have := hs3.out; have := hs4.out; omega) (by show _ < _ ∨ _ ≤ _; dsimp only; have := hs1.out; have := hs2.out; have := hs3.out; have := hs4.out; omega) (by show _ < _ ∨ _ ≤ _; dsimp only; have := hs1.out; have := hs2.out; have := hs3.out; have := hs4.out; omega) (by show _ < _ ∨ _ ≤ _; dsimp only; have := hs1.out; have := hs2.out; have := hs3.out; have := hs4.out; omega) (by have := hs1.out; have := hs2.out; have := hs3.out; have := hs4.out; omega) (by have := hs1.out; have := hs2.out; have := hs3.out; have := hs4.out; omega) (by have := hs1.out; have := hs2.out; have := hs3.out; have := hs4.out; omega) (by show X1.heap.size ≤ X1.heap.size; have := hs1.out; have := hs2.out; have := hs3.out; have := hs4.out; omega) (by show w.heap.size < X1.heap.size; have := hs1.out; have := hs2.out; have := hs3.out; have := hs4.out; omega))
                      refine wpAnyH_ready (rs := [6]) (by kernel_rfl) (by simp) ?_
                      refine AllReadyH.cons (o := ⟨none, _, _, _, _, _⟩) rfl (fun K hK => ?_) AllReadyH.nil
                      go_simp
                      refine hK.out _ _ G6 (fun hHeld => ?_)
                      clear hK K
                      (try simp only [Act.put, List.setIfInBounds_toArray, List.set_cons_zero, List.set_cons_succ])
                      refine wpAnyH_ready (rs := [7]) (by kernel_rfl) (by simp) ?_
                      refine AllReadyH.cons (o := ⟨none, _, _, _, _, _⟩) rfl (fun K hK => ?_) AllReadyH.nil
                      go_simp
                      refine hK.out _ _ YZ.out.lk.box.facts (fun hHeld => ?_)
                      clear hK K
                      (try simp only [Act.put, List.setIfInBounds_toArray, List.set_cons_zero, List.set_cons_succ])
                      refine wpAnyH_done (by kernel_rfl) ?_ _
                      go_wp2_with fail
                      go_meet
                      exact ⟨_, _, _, _, rfl, rfl, YZ⟩
                    exact AllReadyH.nil
                  refine AllReadyH.cons (o := ⟨some 11, _, _, _, _, _⟩) rfl (fun K hK => ?_) ?_
                  · go_simp
                    obtain ⟨X3, hX3⟩ : ∃ W, X2.alloc (.cells #[.slice none 0 0, .slice none 0 0, .slice none 0 0, .slice none 0 0] 26) = W := ⟨_, rfl⟩
                    have B3 : Hid (Below X2.heap.size X2 X3) := Lib.hid (by rw [← hX3]; exact box_below X2 (.cells #[.slice none 0 0, .slice none 0 0, .slice none 0 0, .slice none 0 0] 26))
                    have Zz : Hid (CBox (.slice none 0 0) (.slice none 0 0) (.slice none 0 0) (.slice none 0 0) (X2.heap.size) X3) := Lib.hid (by rw [← hX3]; exact CBox.new _ _ _ _ X2)
                    have hs3 : Hid (X3.heap.size = X2.heap.size + 1) := Lib.hid (by rw [← hX3]; simp)
                    have L3 := Lib.hid (L2.out.on B3.out)
                    rw [hX3]
                    clear hX3
                    refine hK.out _ _ L3.out.box.facts (fun hHeld => ?_)
                    clear hK K
                    (try simp only [Act.put, List.setIfInBounds_toArray, List.set_cons_zero, List.set_cons_succ])
                    refine wpAnyH_ready (rs := [4]) (by kernel_rfl) (by simp) ?_
                    refine AllReadyH.cons (o := ⟨some 10, _, _, _, _, _⟩) rfl (fun K hK => ?_) ?_
                    · go_simp
                      obtain ⟨X4, hX4⟩ : ∃ W, X3.alloc (.cells #[.slice none 0 0, .slice none 0 0, .slice none 0 0, .slice none 0 0] 26) = W := ⟨_, rfl⟩
                      have B4 : Hid (Below X3.heap.size X3 X4) := Lib.hid (by rw [← hX4]; exact box_below X3 (.cells #[.slice none 0 0, .slice none 0 0, .slice none 0 0, .slice none 0 0] 26))
                      have Zy : Hid (CBox (.slice none 0 0) (.slice none 0 0) (.slice none 0 0) (.slice none 0 0) (X3.heap.size) X4) := Lib.hid (by rw [← hX4]; exact CBox.new _ _ _ _ X3)
                      have hs4 : Hid (X4.heap.size = X3.heap.size + 1) := Lib.hid (by rw [← hX4]; simp)
                      have L4 := Lib.hid (L3.out.on B4.out)
                      rw [hX4]
                      clear hX4
                      refine hK.out _ _ L4.out.box.facts (fun hHeld => ?_)
                      clear hK K
                      (try simp only [Act.put, List.setIfInBounds_toArray, List.set_cons_zero, List.set_cons_succ])
                      have Ky : Hid (Keep X0.drew.heap.size X1 X4) := Lib.hid (((((Keep.refl _ _)).on B2.out).on B3.out).on B4.out)
                      have Kz : Hid (Keep X1.heap.size X2 X4) := Lib.hid ((((Keep.refl _ _)).on B3.out).on B4.out)
                      have Xy : Hid (CBox (.slice none 0 0) (.slice none 0 0) (.slice none 0 0) (.slice none 0 0) (X3.heap.size) X4) := Lib.hid (Zy.out)
                      have Xz : Hid (CBox (.slice none 0 0) (.slice none 0 0) (.slice none 0 0) (.slice none 0 0) (X2.heap.size) X4) := Lib.hid ((Zz.out).on B4.out)
                      have F6 := run_StoreC (y0 := .slice aFy c.fs.length cFy) (y1 := .slice aHy c.nh cHy) (y2 := .slice aRy c.fr.length cRy) (y3 := .slice aOy c.od.length cOy) Xy.out rfl rfl rfl rfl
                      have hnn : X2.heap.size ≠ X3.heap.size := by have := hs1.out; have := hs2.out; have := hs3.out; have := hs4.out; omega
                      have X7 : CBox (.slice none 0 0) (.slice none 0 0) (.slice none 0 0) (.slice none 0 0) (X2.heap.size) (X4.setRow (X3.heap.size) #[.slice aFy c.fs.length cFy, .slice aHy c.nh cHy, .slice aRy c.fr.length cRy, .slice aOy c.od.length cOy]) := (setRow_other _ _ _ _ hnn).trans Xz.out
                      have F7 := run_StoreC (y0 := .slice aFz c.fs.length cFz) (y1 := .slice aHz c.nh cHz) (y2 := .slice aRz c.fr.length cRz) (y3 := .slice aOz c.od.length cOz) X7 rfl rfl rfl rfl
                      have G6 : (X4.setRow (X3.heap.size) #[.slice aFy c.fs.length cFy, .slice aHy c.nh cHy, .slice aRy c.fr.length cRy, .slice aOy c.od.length cOy]).cell? ⟨w.heap.size, 0, none⟩ = some (.slice q.aF c.fs.length q.cF) ∧ (X4.setRow (X3.heap.size) #[.slice aFy c.fs.length cFy, .slice aHy c.nh cHy, .slice aRy c.fr.length cRy, .slice aOy c.od.length cOy]).cell? ⟨w.heap.size, 1, none⟩ = some (.slice q.aH c.nh q.cH) ∧ (X4.setRow (X3.heap.size) #[.slice aFy c.fs.length cFy, .slice aHy c.nh cHy, .slice aRy c.fr.length cRy, .slice aOy c.od.length cOy]).cell? ⟨w.heap.size, 2, none⟩ = some (.slice q.aR c.fr.length q.cR) ∧ (X4.setRow (X3.heap.size) #[.slice aFy c.fs.length cFy, .slice aHy c.nh cHy, .slice aRy c.fr.length cRy, .slice aOy c.od.length cOy]).cell? ⟨w.heap.size, 3, none⟩ = some (.slice q.aO c.od.length q.cO) := CdAt.facts (c := c) (q := q) ((setRow_other _ _ _ _ (by have := hs1.out; have := hs2.out; have := hs3.out; have := hs4.out; omega)).trans L4.out.box)
                      have YZ : Hid (Yz c q (X3.heap.size) (X2.heap.size) (⟨gBy, loy, aFy, cFy, aRy, cRy, aOy, cOy, aHy, cHy, essy, valsy, X0.drew, X1⟩ : Cq) (⟨gBz, loz, aFz, cFz, aRz, cRz, aOz, cOz, aHz, cHz, essz, valsz, X1, X2⟩ : Cq) w ((X4.setRow (X3.heap.size) #[.slice aFy c.fs.length cFy, .slice aHy c.nh cHy, .slice aRy c.fr.length cRy, .slice aOy c.od.length cOy]).setRow (X2.heap.size) #[.slice aFz c.fs.length cFz, .slice aHz c.nh cHz, .slice aRz c.fr.length cRz, .slice aOz c.od.length cOz])) := Lib.hid (Yz.make (y := (⟨gBy, loy, aFy, cFy, aRy, cRy, aOy, cOy, aHy, cHy, essy, valsy, X0.drew, X1⟩ : Cq)) (z := (⟨gBz, loz, aFz, cFz, aRz, cRz, aOz, cOz, aHz, cHz, essz, valsz, X1, X2⟩ : Cq)) L4.out Xy.out Xz.out Cy.out Cz.out Ky.out Kz.out (by show _ < _ ∨ _ ≤ _; dsimp only; have := hs1.out; have := hs2.out; have := hs3.out; have := hs4.out; omega) (by show _ < _ ∨ _ ≤ _; dsimp only; have := hs1.out; have := hs2.out; have := hs3.out; have := hs4.out; omega) (by show _ < _ ∨ _ ≤ _; dsimp only; have := hs1.out; have := hs2.out; have := hs3.out; have := hs4.out; omega) (by show _ < _ ∨ _ ≤ _; dsimp only; have := hs1.out; have := hs2.out; have := hs3.out; have := hs4.out; omega) (by have := hs1.out; have := hs2.out; have := hs3.out; have := hs4.out; omega) (by have := hs1.out; have := hs2.out; have := hs3.out; have := hs4.out; omega) (by have := hs1.out; have := hs2.out; have := hs3.out; have := hs4.out; omega) (by show X1.heap.size ≤ X1.heap.size; have := hs1.out; have := hs2.out; have := hs3.out; have := hs4.out; omega) (by show w.heap.size < X1.heap.size; have := hs1.out; have := hs2.out; have := hs3.out; have := hs4.out; omega))
                      refine wpAnyH_ready (rs := [6]) (by kernel_rfl) (by simp) ?_
                      refine AllReadyH.cons (o := ⟨none, _, _, _, _, _⟩) rfl (fun K hK => ?_) AllReadyH.nil
                      go_simp
                      refine hK.out _ _ G6 (fun hHeld => ?_)
                      clear hK K
                      (try simp only [Act.put, List.setIfInBounds_toArray, List.set_cons_zero, List.set_cons_succ])
                      refine wpAnyH_ready (rs := [7]) (by kernel_rfl) (by simp) ?_
                      refine AllReadyH.cons (o := ⟨none, _, _, _, _, _⟩) rfl (fun K hK => ?_) AllReadyH.nil
                      go_simp
                      refine hK.out _ _ YZ.out.lk.box.facts (fun hHeld => ?_)
                      clear hK K
                      (try simp only [Act.put, List.setIfInBounds_toArray, List.set_cons_zero, List.set_cons_succ])
                      refine wpAnyH_done (by kernel_rfl) ?_ _
                      go_wp2_with fail
                      go_meet
                      exact ⟨_, _, _, _, rfl, rfl, YZ⟩
                    exact AllReadyH.nil
                  exact AllReadyH.nil
                refine AllReadyH.cons (o := ⟨some 10, _, _, _, _, _⟩) rfl (fun K hK => ?_) ?_
                · go_simp
                  obtain ⟨X2, hX2⟩ : ∃ W, X1.alloc (.cells #[.slice none 0 0, .slice none 0 0, .slice none 0 0, .slice none 0 0] 26) = W := ⟨_, rfl⟩
                  have B2 : Hid (Below X1.heap.size X1 X2) := Lib.hid (by rw [← hX2]; exact box_below X1 (.cells #[.slice none 0 0, .slice none 0 0, .slice none 0 0, .slice none 0 0] 26))
                  have Zy : Hid (CBox (.slice none 0 0) (.slice none 0 0) (.slice none 0 0) (.slice none 0 0) (X1.heap.size) X2) := Lib.hid (by rw [← hX2]; exact CBox.new _ _ _ _ X1)
                  have hs2 : Hid (X2.heap.size = X1.heap.size + 1) := Lib.hid (by rw [← hX2]; simp)
                  have L2 := Lib.hid (L1.out.on B2.out)
                  rw [hX2]
                  clear hX2
                  refine hK.out _ _ L2.out.box.facts (fun hHeld => ?_)
                  clear hK K
                  (try simp only [Act.put, List.setIfInBounds_toArray, List.set_cons_zero, List.set_cons_succ])
                  refine wpAnyH_ready (rs := [3, 5]) (by kernel_rfl) (by simp) ?_
                  refine AllReadyH.cons (o := ⟨some 131, _, _, _, _, _⟩) rfl (fun K hK => ?_) ?_
                  · go_simp
                    (go_at_call 19; (with_reducible refine (KO.out _ L2.out.at_).mono ?_); rintro e' X3 ⟨gBz, loz, vF, vR, vO, vH, essz, valsz, rfl, hC⟩; obtain ⟨aFz, cFz, rfl⟩ := own_form hC.first; obtain ⟨aRz, cRz, rfl⟩ := own_form hC.from_; obtain ⟨aOz, cOz, rfl⟩ := own_form hC.order; obtain ⟨aHz, cHz, rfl⟩ := own_form hC.own)
                    have Cz := Lib.hid hC.p
                    have B3 := Lib.hid hC.below
                    have hs3 := Lib.hid hC.below.size
                    clear hC
                    have L3 := Lib.hid (L2.out.on B3.out)
                    (try go_wp2_with fail)
                    refine hK.out _ _ L3.out.box.facts (fun hHeld => ?_)
                    clear hK K
                    (try simp only [Act.put, List.setIfInBounds_toArray, List.set_cons_zero, List.set_cons_succ])
                    refine wpAnyH_ready (rs := [5]) (by kernel_rfl) (by simp) ?_
                    refine AllReadyH.cons (o := ⟨some 11, _, _, _, _, _⟩) rfl (fun K hK => ?_) ?_
                    · go_simp
                      obtain ⟨X4, hX4⟩ : ∃ W, X3.alloc (.cells #[.slice none 0 0, .slice none 0 0, .slice none 0 0, .slice none 0 0] 26) = W := ⟨_, rfl⟩
                      have B4 : Hid (Below X3.heap.size X3 X4) := Lib.hid (by rw [← hX4]; exact box_below X3 (.cells #[.slice none 0 0, .slice none 0 0, .slice none 0 0, .slice none 0 0] 26))
                      have Zz : Hid (CBox (.slice none 0 0) (.slice none 0 0) (.slice none 0 0) (.slice none 0 0) (X3.heap.size) X4) := Lib.hid (by rw [← hX4]; exact CBox.new _ _ _ _ X3)
                      have hs4 : Hid (X4.heap.size = X3.heap.size + 1) := Lib.hid (by rw [← hX4]; simp)
                      have L4 := Lib.hid (L3.out.on B4.out)
                      rw [hX4]
                      clear hX4
                      refine hK.out _ _ L4.out.box.facts (fun hHeld => ?_)
                      clear hK K
                      (try simp only [Act.put, List.setIfInBounds_toArray, List.set_cons_zero, List.set_cons_succ])
                      have Ky : Hid (Keep X0.drew.heap.size X1 X4) := Lib.hid (((((Keep.refl _ _)).on B2.out).on B3.out).on B4.out)
                      have Kz : Hid (Keep X2.heap.size X3 X4) := Lib.hid (((Keep.refl _ _)).on B4.out)
                      have Xy : Hid (CBox (.slice none 0 0) (.slice none 0 0) (.slice none 0 0) (.slice none 0 0) (X1.heap.size) X4) := Lib.hid (((Zy.out).on B3.out).on B4.out)
                      have Xz : Hid (CBox (.slice none 0 0) (.slice none 0 0) (.slice none 0 0) (.slice none 0 0) (X3.heap.size) X4) := Lib.hid (Zz.out)
                      have F6 := run_StoreC (y0 := .slice aFy c.fs.length cFy) (y1 := .slice aHy c.nh cHy) (y2 := .slice aRy c.fr.length cRy) (y3 := .slice aOy c.od.length cOy) Xy.out rfl rfl rfl rfl
                      have hnn : X3.heap.size ≠ X1.heap.size := by have := hs1.out; have := hs2.out; have := hs3.out; have := hs4.out; omega
                      have X7 : CBox (.slice none 0 0) (.slice none 0 0) (.slice none 0 0) (.slice none 0 0) (X3.heap.size) (X4.setRow (X1.heap.size) #[.slice aFy c.fs.length cFy, .slice aHy c.nh cHy, .slice aRy c.fr.length cRy, .slice aOy c.od.length cOy]) := (setRow_other _ _ _ _ hnn).trans Xz.out
                      have F7 := run_StoreC (y0 := .slice aFz c.fs.length cFz) (y1 := .slice aHz c.nh cHz) (y2 := .slice aRz c.fr.length cRz) (y3 := .slice aOz c.od.length cOz) X7 rfl rfl rfl rfl
                      have G6 : (X4.setRow (X1.heap.size) #[.slice aFy c.fs.length cFy, .slice aHy c.nh cHy, .slice aRy c.fr.length cRy, .slice aOy c.od.length cOy]).cell? ⟨w.heap.size, 0, none⟩ = some (.slice q.aF c.fs.length q.cF) ∧ (X4.setRow (X1.heap.size) #[.slice aFy c.fs.length cFy, .slice aHy c.nh cHy, .slice aRy c.fr.length cRy, .slice aOy c.od.length cOy]).cell? ⟨w.heap.size, 1, none⟩ = some (.slice q.aH c.nh q.cH) ∧ (X4.setRow (X1.heap.size) #[.slice aFy c.fs.length cFy, .slice aHy c.nh cHy, .slice aRy c.fr.length cRy, .slice aOy c.od.length cOy]).cell? ⟨w.heap.size, 2, none⟩ = some (.slice q.aR c.fr.length q.cR) ∧ (X4.setRow (X1.heap.size) #[.slice aFy c.fs.length cFy, .slice aHy c.nh cHy, .slice aRy c.fr.length cRy, .slice aOy c.od.length cOy]).cell? ⟨w.heap.size, 3, none⟩ = some (.slice q.aO c.od.length q.cO) := CdAt.facts (c := c) (q := q) ((setRow_other _ _ _ _ (by have := hs1.out; have := hs2.out; have := hs3.out; have := hs4.out; omega)).trans L4.out.box)
                      have YZ : Hid (Yz c q (X1.heap.size) (X3.heap.size) (⟨gBy, loy, aFy, cFy, aRy, cRy, aOy, cOy, aHy, cHy, essy, valsy, X0.drew, X1⟩ : Cq) (⟨gBz, loz, aFz, cFz, aRz, cRz, aOz, cOz, aHz, cHz, essz, valsz, X2, X3⟩ : Cq) w ((X4.setRow (X1.heap.size) #[.slice aFy c.fs.length cFy, .slice aHy c.nh cHy, .slice aRy c.fr.length cRy, .slice aOy c.od.length cOy]).setRow (X3.heap.size) #[.slice aFz c.fs.length cFz, .slice aHz c.nh cHz, .slice aRz c.fr.length cRz, .slice aOz c.od.length cOz])) := Lib.hid (Yz.make (y := (⟨gBy, loy, aFy, cFy, aRy, cRy, aOy, cOy, aHy, cHy, essy, valsy, X0.drew, X1⟩ : Cq)) (z := (⟨gBz, loz, aFz, cFz, aRz, cRz, aOz, cOz, aHz, cHz, essz, valsz, X2, X3⟩ : Cq)) L4.out Xy.out Xz.out Cy.out Cz.out Ky.out Kz.out (by show _ < _ ∨ _ ≤ _; dsimp only; have := hs1.out; have := hs2.out; have := hs3.out; have := hs4.out; omega) (by show _ < _ ∨ _ ≤ _; dsimp only; have := hs1.out; have := hs2.out; have := hs3.out; have := hs4.out; omega) (by show _ < _ ∨ _ ≤ _; dsimp only; have := hs1.out; have := hs2.out; have := hs3.out; have := hs4.out; omega) (by show _ < _ ∨ _ ≤ _; dsimp only; have := hs1.out; have := hs2.out; have := hs3.out; have := hs4.out; omega) (by have := hs1.out; have := hs2.out; have := hs3.out; have := hs4.out; omega) (by have := hs1.out; have := hs2.out; have := hs3.out; have := hs4.out; omega) (by have := hs1.out; have := hs2.out; have := hs3.out; have := hs4.out; omega) (by show X1.heap.size ≤ X2.heap.size; have := hs1.out; have := hs2.out; have := hs3.out; have := hs4.out; omega) (by show w.heap.size < X2.heap.size; have := hs1.out; have := hs2.out; have := hs3.out; have := hs4.out; omega))
                      refine wpAnyH_ready (rs := [6]) (by kernel_rfl) (by simp) ?_
                      refine AllReadyH.cons (o := ⟨none, _, _, _, _, _⟩) rfl (fun K hK => ?_) AllReadyH.nil
                      go_simp
                      refine hK.out _ _ G6 (fun hHeld => ?_)
                      clear hK K
                      (try simp only [Act.put, List.setIfInBounds_toArray, List.set_cons_zero, List.set_cons_succ])
                      refine wpAnyH_ready (rs := [7]) (by kernel_rfl) (by simp) ?_
                      refine AllReadyH.cons (o := ⟨none, _, _, _, _, _⟩) rfl (fun K hK => ?_) AllReadyH.nil
                      go_simp
                      refine hK.out _ _ YZ.out.lk.box.facts (fun hHeld => ?_)
                      clear hK K
                      (try simp only [Act.put, List.setIfInBounds_toArray, List.set_cons_zero, List.set_cons_succ])
                      refine wpAnyH_done (by kernel_rfl) ?_ _
                      go_wp2_with fail
                      go_meet
                      exact ⟨_, _, _, _, rfl, rfl, YZ⟩
                    exact AllReadyH.nil
                  refine AllReadyH.cons (o := ⟨some 11, _, _, _, _, _⟩) rfl (fun K hK => ?_) ?_
                  · go_simp
                    obtain ⟨X3, hX3⟩ : ∃ W, X2.alloc (.cells #[.slice none 0 0, .slice none 0 0, .slice none 0 0, .slice none 0 0] 26) = W := ⟨_, rfl⟩
                    have B3 : Hid (Below X2.heap.size X2 X3) := Lib.hid (by rw [← hX3]; exact box_below X2 (.cells #[.slice none 0 0, .slice none 0 0, .slice none 0 0, .slice none 0 0] 26))
                    have Zz : Hid (CBox (.slice none 0 0) (.slice none 0 0) (.slice none 0 0) (.slice none 0 0) (X2.heap.size) X3) := Lib.hid (by rw [← hX3]; exact CBox.new _ _ _ _ X2)
                    have hs3 : Hid (X3.heap.size = X2.heap.size + 1) := Lib.hid (by rw [← hX3]; simp)
                    have L3 := Lib.hid (L2.out.on B3.out)
                    rw [hX3]
                    clear hX3
                    refine hK.out _ _ L3.out.box.facts (fun hHeld => ?_)
                    clear hK K
                    (try simp only [Act.put, List.setIfInBounds_toArray, List.set_cons_zero, List.set_cons_succ])
                    refine wpAnyH_ready (rs := [3]) (by kernel_rfl) (by simp) ?_
                    refine AllReadyH.cons (o := ⟨some 131, _, _, _, _, _⟩) rfl (fun K hK => ?_) ?_
                    · go_simp
                      (go_at_call 19; (with_reducible refine (KO.out _ L3.out.at_).mono ?_); rintro e' X4 ⟨gBz, loz, vF, vR, vO, vH, essz, valsz, rfl, hC⟩; obtain ⟨aFz, cFz, rfl⟩ := own_form hC.first; obtain ⟨aRz, cRz, rfl⟩ := own_form hC.from_; obtain ⟨aOz, cOz, rfl⟩ := own_form hC.order; obtain ⟨aHz, cHz, rfl⟩ := own_form hC.own)
                      have Cz := Lib.hid hC.p
                      have B4 := Lib.hid hC.below
                      have hs4 := Lib.hid hC.below.size
                      clear hC
                      have L4 := Lib.hid (L3.out.on B4.out)
                      (try go_wp2_with fail)
                      refine hK.out _ _ L4.out.box.facts (fun hHeld => ?_)
                      clear hK K
                      (try simp only [Act.put, List.setIfInBounds_toArray, List.set_cons_zero, List.set_cons_succ])
                      have Ky : Hid (Keep X0.drew.heap.size X1 X4) := Lib.hid (((((Keep.refl _ _)).on B2.out).on B3.out).on B4.out)
                      have Kz : Hid (Keep X3.heap.size X4 X4) := Lib.hid ((Keep.refl _ _))
                      have Xy : Hid (CBox (.slice none 0 0) (.slice none 0 0) (.slice none 0 0) (.slice none 0 0) (X1.heap.size) X4) := Lib.hid (((Zy.out).on B3.out).on B4.out)
                      have Xz : Hid (CBox (.slice none 0 0) (.slice none 0 0) (.slice none 0 0) (.slice none 0 0) (X2.heap.size) X4) := Lib.hid ((Zz.out).on B4.out)
                      have F6 := run_StoreC (y0 := .slice aFy c.fs.length cFy) (y1 := .slice aHy c.nh cHy) (y2 := .slice aRy c.fr.length cRy) (y3 := .slice aOy c.od.length cOy) Xy.out rfl rfl rfl rfl
                      have hnn : X2.heap.size ≠ X1.heap.size := by have := hs1.out; have := hs2.out; have := hs3.out; have := hs4.out; omega
                      have X7 : CBox (.slice none 0 0) (.slice none 0 0) (.slice none 0 0) (.slice none 0 0) (X2.heap.size) (X4.setRow (X1.heap.size) #[.slice aFy c.fs.length cFy, .slice aHy c.nh cHy, .slice aRy c.fr.length cRy, .slice aOy c.od.length cOy]) := (setRow_other _ _ _ _ hnn).trans Xz.out
                      have F7 := run_StoreC (y0 := .slice aFz c.fs.length cFz) (y1 := .slice aHz c.nh cHz) (y2 := .slice aRz c.fr.length cRz) (y3 := .slice aOz c.od.length cOz) X7 rfl rfl rfl rfl
                      have G6 : (X4.setRow (X1.heap.size) #[.slice aFy c.fs.length cFy, .slice aHy c.nh cHy, .slice aRy c.fr.length cRy, .slice aOy c.od.length cOy]).cell? ⟨w.heap.size, 0, none⟩ = some (.slice q.aF c.fs.length q.cF) ∧ (X4.setRow (X1.heap.size) #[.slice aFy c.fs.length cFy, .slice aHy c.nh cHy, .slice aRy c.fr.length cRy, .slice aOy c.od.length cOy]).cell? ⟨w.heap.size, 1, none⟩ = some (.slice q.aH c.nh q.cH) ∧ (X4.setRow (X1.heap.size) #[.slice aFy c.fs.length cFy, .slice aHy c.nh cHy, .slice aRy c.fr.length cRy, .slice aOy c.od.length cOy]).cell? ⟨w.heap.size, 2, none⟩ = some (.slice q.aR c.fr.length q.cR) ∧ (X4.setRow (X1.heap.size) #[.slice aFy c.fs.length cFy, .slice aHy c.nh cHy, .slice aRy c.fr.length cRy, .slice aOy c.od.length cOy]).cell? ⟨w.heap.size, 3, none⟩ = some (.slice q.aO c.od.length q.cO) := CdAt.facts (c := c) (q := q) ((setRow_other _ _ _ _ (by have := hs1.out; have := hs2.out; have := hs3.out; have := hs4.out; omega)).trans L4.out.box)
                      have YZ : Hid (Yz c q (X1.heap.size) (X2.heap.size) (⟨gBy, loy, aFy, cFy, aRy, cRy, aOy, cOy, aHy, cHy, essy, valsy, X0.drew, X1⟩ : Cq) (⟨gBz, loz, aFz, cFz, aRz, cRz, aOz, cOz, aHz, cHz, essz, valsz, X3, X4⟩ : Cq) w ((X4.setRow (X1.heap.size) #[.slice aFy c.fs.length cFy, .slice aHy c.nh cHy, .slice aRy c.fr.length cRy, .slice aOy c.od.length cOy]).setRow (X2.heap.size) #[.slice aFz c.fs.length cFz, .slice aHz c.nh cHz, .slice aRz c.fr.length cRz, .slice aOz c.od.length cOz])) := Lib.hid (Yz.make (y := (⟨gBy, loy, aFy, cFy, aRy, cRy, aOy, cOy, aHy, cHy, essy, valsy, X0.drew, X1⟩ : Cq)) (z := (⟨gBz, loz, aFz, cFz, aRz, cRz, aOz, cOz, aHz, cHz, essz, valsz, X3, X4⟩ : Cq)) L4.out Xy.out Xz.out Cy.out Cz.out Ky.out Kz.out (by show _ < _ ∨ _ ≤ _; dsimp only; have := hs1.out; have := hs2.out; have := hs3.out; have := hs4.out; omega) (by show _ < _ ∨ _ ≤ _; dsimp only; have := hs1.out; have := hs2.out; have := hs3.out; have := hs4.out; omega) (by show _ < _ ∨ _ ≤ _; dsimp only; have := hs1.out; have := hs2.out; have := hs3.out; have := hs4.out; omega) (by show _ < _ ∨ _ ≤ _; dsimp only; have := hs1.out; have := hs2.out; have := hs3.out; have := hs4.out; omega) (by have := hs1.out; have := hs2.out; have := hs3.out; have := hs4.out; omega) (by have := hs1.out; have := hs2.out; have := hs3.out; have := hs4.out; omega) (by have := hs1.out; have := hs2.out; have := hs3.out; have := hs4.out; omega) (by show X1.heap.size ≤ X3.heap.size; have := hs1.out; have := hs2.out; have := hs3.out; have := hs4.out; omega) (by show w.heap.size < X3.heap.size; have := hs1.out; have := hs2.out; have := hs3.out; have := hs4.out; omega))
                      refine wpAnyH_ready (rs := [6]) (by kernel_rfl) (by simp) ?_
                      refine AllReadyH.cons (o := ⟨none, _, _, _, _, _⟩) rfl (fun K hK => ?_) AllReadyH.nil
                      go_simp
                      refine hK.out _ _ G6 (fun hHeld => ?_)
                      clear hK K
                      (try simp only [Act.put, List.setIfInBounds_toArray, List.set_cons_zero, List.set_cons_succ])
                      refine wpAnyH_ready (rs := [7]) (by kernel_rfl) (by simp) ?_
                      refine AllReadyH.cons (o := ⟨none, _, _, _, _, _⟩) rfl (fun K hK => ?_) AllReadyH.nil
                      go_simp
                      refine hK.out _ _ YZ.out.lk.box.facts (fun hHeld => ?_)
                      clear hK K
                      (try simp only [Act.put, List.setIfInBounds_toArray, List.set_cons_zero, List.set_cons_succ])
                      refine wpAnyH_done (by kernel_rfl) ?_ _
                      go_wp2_with fail
                      go_meet
                      exact ⟨_, _, _, _, rfl, rfl, YZ⟩
                    exact AllReadyH.nil
                  exact AllReadyH.nil
                refine AllReadyH.cons (o := ⟨some 11, _, _, _, _, _⟩) rfl (fun K hK => ?_) ?_
                · go_simp
                  obtain ⟨X2, hX2⟩ : ∃ W, X1.alloc (.cells #[.slice none 0 0, .slice none 0 0, .slice none 0 0, .slice none 0 0] 26) = W := ⟨_, rfl⟩
                  have B2 : Hid (Below X1.heap.size X1 X2) := Lib.hid (by rw [← hX2]; exact box_below X1 (.cells #[.slice none 0 0, .slice none 0 0, .slice none 0 0, .slice none 0 0] 26))
                  have Zz : Hid (CBox (.slice none 0 0) (.slice none 0 0) (.slice none 0 0) (.slice none 0 0) (X1.heap.size) X2) := Lib.hid (by rw [← hX2]; exact CBox.new _ _ _ _ X1)
                  have hs2 : Hid (X2.heap.size = X1.heap.size + 1) := Lib.hid (by rw [← hX2]; simp)
                  have L2 := Lib.hid (L1.out.on B2.out)
                  rw [hX2]
                  clear hX2
                  refine hK.out _ _ L2.out.box.facts (fun hHeld => ?_)
                  clear hK K
                  (try simp only [Act.put, List.setIfInBounds_toArray, List.set_cons_zero, List.set_cons_succ])
                  refine wpAnyH_ready (rs := [3, 4]) (by kernel_rfl) (by simp) ?_
                  refine AllReadyH.cons (o := ⟨some 131, _, _, _, _, _⟩) rfl (fun K hK => ?_) ?_
                  · go_simp
                    (go_at_call 19; (with_reducible refine (KO.out _ L2.out.at_).mono ?_); rintro e' X3 ⟨gBz, loz, vF, vR, vO, vH, essz, valsz, rfl, hC⟩; obtain ⟨aFz, cFz, rfl⟩ := own_form hC.first; obtain ⟨aRz, cRz, rfl⟩ := own_form hC.from_; obtain ⟨aOz, cOz, rfl⟩ := own_form hC.order; obtain ⟨aHz, cHz, rfl⟩ := own_form hC.own)
                    have Cz := Lib.hid hC.p
                    have B3 := Lib.hid hC.below
                    have hs3 := Lib.hid hC.below.size
                    clear hC
                    have L3 := Lib.hid (L2.out.on B3.out)
                    (try go_wp2_with fail)
                    refine hK.out _ _ L3.out.box.facts (fun hHeld => ?_)
                    clear hK K
                    (try simp only [Act.put, List.setIfInBounds_toArray, List.set_cons_zero, List.set_cons_succ])
                    refine wpAnyH_ready (rs := [4]) (by kernel_rfl) (by simp) ?_
                    refine AllReadyH.cons (o := ⟨some 10, _, _, _, _, _⟩) rfl (fun K hK => ?_) ?_
                    · go_simp
                      obtain ⟨X4, hX4⟩ : ∃ W, X3.alloc (.cells #[.slice none 0 0, .slice none 0 0, .slice none 0 0, .slice none 0 0] 26) = W := ⟨_, rfl⟩
                      have B4 : Hid (Below X3.heap.size X3 X4) := Lib.hid (by rw [← hX4]; exact box_below X3 (.cells #[.slice none 0 0, .slice none 0 0, .slice none 0 0, .slice none 0 0] 26))
                      have Zy : Hid (CBox (.slice none 0 0) (.slice none 0 0) (.slice none 0 0) (.slice none 0 0) (X3.heap.size) X4) := Lib.hid (by rw [← hX4]; exact CBox.new _ _ _ _ X3)
                      have hs4 : Hid (X4.heap.size = X3.heap.size + 1) := Lib.hid (by rw [← hX4]; simp)
                      have L4 := Lib.hid (L3.out.on B4.out)
                      rw [hX4]
                      clear hX4
                      refine hK.out _ _ L4.out.box.facts (fun hHeld => ?_)
                      clear hK K
                      (try simp only [Act.put, List.setIfInBounds_toArray, List.set_cons_zero, List.set_cons_succ])
                      have Ky : Hid (Keep X0.drew.heap.size X1 X4) := Lib.hid (((((Keep.refl _ _)).on B2.out).on B3.out).on B4.out)
                      have Kz : Hid (Keep X2.heap.size X3 X4) := Lib.hid (((Keep.refl _ _)).on B4.out)
                      have Xy : Hid (CBox (.slice none 0 0) (.slice none 0 0) (.slice none 0 0) (.slice none 0 0) (X3.heap.size) X4) := Lib.hid (Zy.out)
                      have Xz : Hid (CBox (.slice none 0 0) (.slice none 0 0) (.slice none 0 0) (.slice none 0 0) (X1.heap.size) X4) := Lib.hid (((Zz.out).on B3.out).on B4.out)
                      have F6 := run_StoreC (y0 := .slice aFy c.fs.length cFy) (y1 := .slice aHy c.nh cHy) (y2 := .slice aRy c.fr.length cRy) (y3 := .slice aOy c.od.length cOy) Xy.out rfl rfl rfl rfl
                      have hnn : X1.heap.size ≠ X3.heap.size := by have := hs1.out; have := hs2.out; have := hs3.out; have := hs4.out; omega
                      have X7 : CBox (.slice none 0 0) (.slice none 0 0) (.slice none 0 0) (.slice none 0 0) (X1.heap.size) (X4.setRow (X3.heap.size) #[.slice aFy c.fs.length cFy, .slice aHy c.nh cHy, .slice aRy c.fr.length cRy, .slice aOy c.od.length cOy]) := (setRow_other _ _ _ _ hnn).trans Xz.out
                      have F7 := run_StoreC (y0 := .slice aFz c.fs.length cFz) (y1 := .slice aHz c.nh cHz) (y2 := .slice aRz c.fr.length cRz) (y3 := .slice aOz c.od.length cOz) X7 rfl rfl rfl rfl
                      have G6 : (X4.setRow (X3.heap.size) #[.slice aFy c.fs.length cFy, .slice aHy c.nh cHy, .slice aRy c.fr.length cRy, .slice aOy c.od.length cOy]).cell? ⟨w.heap.size, 0, none⟩ = some (.slice q.aF c.fs.length q.cF) ∧ (X4.setRow (X3.heap.size) #[.slice aFy c.fs.length cFy, .slice aHy c.nh cHy, .slice aRy c.fr.length cRy, .slice aOy c.od.length cOy]).cell? ⟨w.heap.size, 1, none⟩ = some (.slice q.aH c.nh q.cH) ∧ (X4.setRow (X3.heap.size) #[.slice aFy c.fs.length cFy, .slice aHy c.nh cHy, .slice aRy c.fr.length cRy, .slice aOy c.od.length cOy]).cell? ⟨w.heap.size, 2, none⟩ = some (.slice q.aR c.fr.length q.cR) ∧ (X4.setRow (X3.heap.size) #[.slice aFy c.fs.length cFy, .slice aHy c.nh cHy, .slice aRy c.fr.length cRy, .slice aOy c.od.length cOy]).cell? ⟨w.heap.size, 3, none⟩ = some (.slice q.aO c.od.length q.cO) := CdAt.facts (c := c) (q := q) ((setRow_other _ _ _ _ (by have := hs1.out; have := hs2.out; have := hs3.out; have := hs4.out; omega)).trans L4.out.box)
                      have YZ : Hid (Yz c q (X3.heap.size) (X1.heap.size) (⟨gBy, loy, aFy, cFy, aRy, cRy, aOy, cOy, aHy, cHy, essy, valsy, X0.drew, X1⟩ : Cq) (⟨gBz, loz, aFz, cFz, aRz, cRz, aOz, cOz, aHz, cHz, essz, valsz, X2, X3⟩ : Cq) w ((X4.setRow (X3.heap.size) #[.slice aFy c.fs.length cFy, .slice aHy c.nh cHy, .slice aRy c.fr.length cRy, .slice aOy c.od.length cOy]).setRow (X1.heap.size) #[.slice aFz c.fs.length cFz, .slice aHz c.nh cHz, .slice aRz c.fr.length cRz, .slice aOz c.od.length cOz])) := Lib.hid (Yz.make (y := (⟨gBy, loy, aFy, cFy, aRy, cRy, aOy, cOy, aHy, cHy, essy, valsy, X0.drew, X1⟩ : Cq)) (z := (⟨gBz, loz, aFz, cFz, aRz, cRz, aOz, cOz, aHz, cHz, essz, valsz, X2, X3⟩ : Cq)) L4.out Xy.out Xz.out Cy.out Cz.out Ky.out Kz.out (by show _ < _ ∨ _ ≤ _; dsimp only; have := hs1.out; have := hs2.out; have := hs3.out; have := hs4.out; omega) (by show _ < _ ∨ _ ≤ _; dsimp only; have := hs1.out; have := hs2.out; have := hs3.out; have := hs4.out; omega) (by show _ < _ ∨ _ ≤ _; dsimp only; have := hs1.out; have := hs2.out; have := hs3.out; have := hs4.out; omega) (by show _ < _ ∨ _ ≤ _; dsimp only; have := hs1.out; have := hs2.out; have := hs3.out; have := hs4.out; omega) (by have := hs1.out; have := hs2.out; have := hs3.out; have := hs4.out; omega) (by have := hs1.out; have := hs2.out; have := hs3.out; have := hs4.out; omega) (by have := hs1.out; have := hs2.out; have := hs3.out; have := hs4.out; omega) (by show X1.heap.size ≤ X2.heap.size; have := hs1.out; have := hs2.out; have := hs3.out; have := hs4.out; omega) (by show w.heap.size < X2.heap.size; have := hs1.out; have := hs2.out; have := hs3.out; have := hs4.out; omega))
                      refine wpAnyH_ready (rs := [6]) (by kernel_rfl) (by simp) ?_
                      refine AllReadyH.cons (o := ⟨none, _, _, _, _, _⟩) rfl (fun K hK => ?_) AllReadyH.nil
                      go_simp
                      refine hK.out _ _ G6 (fun hHeld => ?_)
                      clear hK K
                      (try simp only [Act.put, List.setIfInBounds_toArray, List.set_cons_zero, List.set_cons_succ])
                      refine wpAnyH_ready (rs := [7]) (by kernel_rfl) (by simp) ?_
                      refine AllReadyH.cons (o := ⟨none, _, _, _, _, _⟩) rfl (fun K hK => ?_) AllReadyH.nil
                      go_simp
                      refine hK.out _ _ YZ.out.lk.box.facts (fun hHeld => ?_)
                      clear hK K
                      (try simp only [Act.put, List.setIfInBounds_toArray, List.set_cons_zero, List.set_cons_succ])
                      refine wpAnyH_done (by kernel_rfl) ?_ _
                      go_wp2_with fail
                      go_meet
                      exact ⟨_, _, _, _, rfl, rfl, YZ⟩
                    exact AllReadyH.nil
                  refine AllReadyH.cons (o := ⟨some 10, _, _, _, _, _⟩) rfl (fun K hK => ?_) ?_
                  · go_simp
                    obtain ⟨X3, hX3⟩ : ∃ W, X2.alloc (.cells #[.slice none 0 0, .slice none 0 0, .slice none 0 0, .slice none 0 0] 26) = W := ⟨_, rfl⟩
                    have B3 : Hid (Below X2.heap.size X2 X3) := Lib.hid (by rw [← hX3]; exact box_below X2 (.cells #[.slice none 0 0, .slice none 0 0, .slice none 0 0, .slice none 0 0] 26))
                    have Zy : Hid (CBox (.slice none 0 0) (.slice none 0 0) (.slice none 0 0) (.slice none 0 0) (X2.heap.size) X3) := Lib.hid (by rw [← hX3]; exact CBox.new _ _ _ _ X2)
                    have hs3 : Hid (X3.heap.size = X2.heap.size + 1) := Lib.hid (by rw [← hX3]; simp)
                    have L3 := Lib.hid (L2.out.on B3.out)
                    rw [hX3]
                    clear hX3
                    refine hK.out _ _ L3.out.box.facts (fun hHeld => ?_)
                    clear hK K
                    (try simp only [Act.put, List.setIfInBounds_toArray, List.set_cons_zero, List.set_cons_succ])
                    refine wpAnyH_ready (rs := [3]) (by kernel_rfl) (by simp) ?_
                    refine AllReadyH.cons (o := ⟨some 131, _, _, _, _, _⟩) rfl (fun K hK => ?_) ?_
                    · go_simp
                      (go_at_call 19; (with_reducible refine (KO.out _ L3.out.at_).mono ?_); rintro e' X4 ⟨gBz, loz, vF, vR, vO, vH, essz, valsz, rfl, hC⟩; obtain ⟨aFz, cFz, rfl⟩ := own_form hC.first; obtain ⟨aRz, cRz, rfl⟩ := own_form hC.from_; obtain ⟨aOz, cOz, rfl⟩ := own_form hC.order; obtain ⟨aHz, cHz, rfl⟩ := own_form hC.own)
                      have Cz := Lib.hid hC.p
                      have B4 := Lib.hid hC.below
                      have hs4 := Lib.hid hC.below.size
                      clear hC
                      have L4 := Lib.hid (L3.out.on B4.out)
                      (try go_wp2_with fail)
                      refine hK.out _ _ L4.out.box.facts (fun hHeld => ?_)
                      clear hK K
                      (try simp only [Act.put, List.setIfInBounds_toArray, List.set_cons_zero, List.set_cons_succ])
                      have Ky : Hid (Keep X0.drew.heap.size X1 X4) := Lib.hid (((((Keep.refl _ _)).on B2.out).on B3.out).on B4.out)
                      have Kz : Hid (Keep X3.heap.size X4 X4) := Lib.hid ((Keep.refl _ _))
                      have Xy : Hid (CBox (.slice none 0 0) (.slice none 0 0) (.slice none 0 0) (.slice none 0 0) (X2.heap.size) X4) := Lib.hid ((Zy.out).on B4.out)
                      have Xz : Hid (CBox (.slice none 0 0) (.slice none 0 0) (.slice none 0 0) (.slice none 0 0) (X1.heap.size) X4) := Lib.hid (((Zz.out).on B3.out).on B4.out)
                      have F6 := run_StoreC (y0 := .slice aFy c.fs.length cFy) (y1 := .slice aHy c.nh cHy) (y2 := .slice aRy c.fr.length cRy) (y3 := .slice aOy c.od.length cOy) Xy.out rfl rfl rfl rfl
                      have hnn : X1.heap.size ≠ X2.heap.size := by have := hs1.out; have := hs2.out; have := hs3.out; have := hs4.out; omega
                      have X7 : CBox (.slice none 0 0) (.slice none 0 0) (.slice none 0 0) (.slice none 0 0) (X1.heap.size) (X4.setRow (X2.heap.size) #[.slice aFy c.fs.length cFy, .slice aHy c.nh cHy, .slice aRy c.fr.length cRy, .slice aOy c.od.length cOy]) := (setRow_other _ _ _ _ hnn).trans Xz.out
                      have F7 := run_StoreC (y0 := .slice aFz c.fs.length cFz) (y1 := .slice aHz c.nh cHz) (y2 := .slice aRz c.fr.length cRz) (y3 := .slice aOz c.od.length cOz) X7 rfl rfl rfl rfl
                      have G6 : (X4.setRow (X2.heap.size) #[.slice aFy c.fs.length cFy, .slice aHy c.nh cHy, .slice aRy c.fr.length cRy, .slice aOy c.od.length cOy]).cell? ⟨w.heap.size, 0, none⟩ = some (.slice q.aF c.fs.length q.cF) ∧ (X4.setRow (X2.heap.size) #[.slice aFy c.fs.length cFy, .slice aHy c.nh cHy, .slice aRy c.fr.length cRy, .slice aOy c.od.length cOy]).cell? ⟨w.heap.size, 1, none⟩ = some (.slice q.aH c.nh q.cH) ∧ (X4.setRow (X2.heap.size) #[.slice aFy c.fs.length cFy, .slice aHy c.nh cHy, .slice aRy c.fr.length cRy, .slice aOy c.od.length cOy]).cell? ⟨w.heap.size, 2, none⟩ = some (.slice q.aR c.fr.length q.cR) ∧ (X4.setRow (X2.heap.size) #[.slice aFy c.fs.length cFy, .slice aHy c.nh cHy, .slice aRy c.fr.length cRy, .slice aOy c.od.length cOy]).cell? ⟨w.heap.size, 3, none⟩ = some (.slice q.aO c.od.length q.cO) := CdAt.facts (c := c) (q := q) ((setRow_other _ _ _ _ (by have := hs1.out; have := hs2.out; have := hs3.out; have := hs4.out; omega)).trans L4.out.box)
                      have YZ : Hid (Yz c q (X2.heap.size) (X1.heap.size) (⟨gBy, loy, aFy, cFy, aRy, cRy, aOy, cOy, aHy, cHy, essy, valsy, X0.drew, X1⟩ : Cq) (⟨gBz, loz, aFz, cFz, aRz, cRz, aOz, cOz, aHz, cHz, essz, valsz, X3, X4⟩ : Cq) w ((X4.setRow (X2.heap.size) #[.slice aFy c.fs.length cFy, .slice aHy c.nh cHy, .slice aRy c.fr.length cRy, .slice aOy c.od.length cOy]).setRow (X1.heap.size) #[.slice aFz c.fs.length cFz, .slice aHz c.nh cHz, .slice aRz c.fr.length cRz, .slice aOz c.od.length cOz])) := Lib.hid (Yz.make (y := (⟨gBy, loy, aFy, cFy, aRy, cRy, aOy, cOy, aHy, cHy, essy, valsy, X0.drew, X1⟩ : Cq)) (z := (⟨gBz, loz, aFz, cFz, aRz, cRz, aOz, cOz, aHz, cHz, essz, valsz, X3, X4⟩ : Cq)) L4.out Xy.out Xz.out Cy.out Cz.out Ky.out Kz.out (by show _ < _ ∨ _ ≤ _; dsimp only; have := hs1.out; have := hs2.out; have := hs3.out; have := hs4.out; omega) (by show _ < _ ∨ _ ≤ _; dsimp only; have := hs1.out; have := hs2.out; have := hs3.out; have := hs4.out; omega) (by show _ < _ ∨ _ ≤ _; dsimp only; have := hs1.out; have := hs2.out; have := hs3.out; have := hs4.out; omega) (by show _ < _ ∨ _ ≤ _; dsimp only; have := hs1.out; have := hs2.out; have := hs3.out; have := hs4.out; omega) (by have := hs1.out; have := hs2.out; have := hs3.out; have := hs4.out; omega) (by have := hs1.out; have := hs2.out; have := hs3.out; have := hs4.out; omega) (by have := hs1.out; have := hs2.out; have := hs3.out; have := hs4.out; omega) (by show X1.heap.size ≤ X3.heap.size; have := hs1.out; have := hs2.out; have := hs3.out; have := hs4.out; omega) (by show w.heap.size < X3.heap.size; have := hs1.out; have := hs2.out; have := hs3.out; have := hs4.out; omega))
                      refine wpAnyH_ready (rs := [6]) (by kernel_rfl) (by simp) ?_
                      refine AllReadyH.cons (o := ⟨none, _, _, _, _, _⟩) rfl (fun K hK => ?_) AllReadyH.nil
                      go_simp
                      refine hK.out _ _ G6 (fun hHeld => ?_)
                      clear hK K
                      (try simp only [Act.put, List.setIfInBounds_toArray, List.set_cons_zero, List.set_cons_succ])
                      refine wpAnyH_ready (rs := [7]) (by kernel_rfl) (by simp) ?_
                      refine AllReadyH.cons (o := ⟨none, _, _, _, _, _⟩) rfl (fun K hK => ?_) AllReadyH.nil
                      go_simp
                      refine hK.out _ _ YZ.out.lk.box.facts (fun hHeld => ?_)
                      clear hK K
                      (try simp only [Act.put, List.setIfInBounds_toArray, List.set_cons_zero, List.set_cons_succ])
                      refine wpAnyH_done (by kernel_rfl) ?_ _
                      go_wp2_with fail
                      go_meet
                      exact ⟨_, _, _, _, rfl, rfl, YZ⟩
                    exact AllReadyH.nil
                  exact AllReadyH.nil
                exact AllReadyH.nil
              refine AllReadyH.cons (o := ⟨some 10, _, _, _, _, _⟩) rfl (fun K hK => ?_) ?_
              · go_simp
                obtain ⟨X1, hX1⟩ : ∃ W, (X0.alloc (.cells #[.slice none 0 0, .slice none 0 0, .slice none 0 0, .slice none 0 0] 26)).drew = W := ⟨_, rfl⟩
                have B1 : Hid (Below X0.drew.heap.size X0.drew X1) := Lib.hid (by rw [← hX1]; exact box_below X0.drew (.cells #[.slice none 0 0, .slice none 0 0, .slice none 0 0, .slice none 0 0] 26))
                have Zy : Hid (CBox (.slice none 0 0) (.slice none 0 0) (.slice none 0 0) (.slice none 0 0) (X0.heap.size) X1) := Lib.hid (by rw [← hX1]; exact CBox.new _ _ _ _ X0.drew)
                have hs1 : Hid (X1.heap.size = X0.heap.size + 1) := Lib.hid (by rw [← hX1]; simp)
                have L1 := Lib.hid (L0.out.on B1.out)
                rw [hX1]
                clear hX1
                refine hK.out _ _ L1.out.box.facts (fun hHeld => ?_)
                clear hK K
                (try simp only [Act.put, List.setIfInBounds_toArray, List.set_cons_zero, List.set_cons_succ])
                refine wpAnyH_ready (rs := [1, 5]) (by kernel_rfl) (by simp) ?_
                refine AllReadyH.cons (o := ⟨some 129, _, _, _, _, _⟩) rfl (fun K hK => ?_) ?_
                · go_simp
                  (go_at_call 19; (with_reducible refine (KO.out _ L1.out.at_).mono ?_); rintro e' X2 ⟨gBy, loy, vF, vR, vO, vH, essy, valsy, rfl, hC⟩; obtain ⟨aFy, cFy, rfl⟩ := own_form hC.first; obtain ⟨aRy, cRy, rfl⟩ := own_form hC.from_; obtain ⟨aOy, cOy, rfl⟩ := own_form hC.order; obtain ⟨aHy, cHy, rfl⟩ := own_form hC.own)
                  have Cy := Lib.hid hC.p
                  have B2 := Lib.hid hC.below
                  have hs2 := Lib.hid hC.below.size
                  clear hC
                  have L2 := Lib.hid (L1.out.on B2.out)
                  (try go_wp2_with fail)
                  refine hK.out _ _ L2.out.box.facts (fun hHeld => ?_)
                  clear hK K
                  (try simp only [Act.put, List.setIfInBounds_toArray, List.set_cons_zero, List.set_cons_succ])
                  refine wpAnyH_ready (rs := [3, 5]) (by kernel_rfl) (by simp) ?_
                  refine AllReadyH.cons (o := ⟨some 131, _, _, _, _, _⟩) rfl (fun K hK => ?_) ?_
                  · go_simp
                    (go_at_call 19; (with_reducible refine (KO.out _ L2.out.at_).mono ?_); rintro e' X3 ⟨gBz, loz, vF, vR, vO, vH, essz, valsz, rfl, hC⟩; obtain ⟨aFz, cFz, rfl⟩ := own_form hC.first; obtain ⟨aRz, cRz, rfl⟩ := own_form hC.from_; obtain ⟨aOz, cOz, rfl⟩ := own_form hC.order; obtain ⟨aHz, cHz, rfl⟩ := own_form hC.own)
                    have Cz := Lib.hid hC.p
                    have B3 := Lib.hid hC.below
                    have hs3 := Lib.hid hC.below.size
                    clear hC
                    have L3 := Lib.hid (L2.out.on B3.out)
                    (try go_wp2_with fail)
                    refine hK.out _ _ L3.out.box.facts (fun hHeld => ?_)
                    clear hK K
                    (try simp only [Act.put, List.setIfInBounds_toArray, List.set_cons_zero, List.set_cons_succ])
                    refine wpAnyH_ready (rs := [5]) (by kernel_rfl) (by simp) ?_
                    refine AllReadyH.cons (o := ⟨some 11, _, _, _, _, _⟩) rfl (fun K hK => ?_) ?_
                    · go_simp
                      obtain ⟨X4, hX4⟩ : ∃ W, X3.alloc (.cells #[.slice none 0 0, .slice none 0 0, .slice none 0 0, .slice none 0 0] 26) = W := ⟨_, rfl⟩
                      have B4 : Hid (Below X3.heap.size X3 X4) := Lib.hid (by rw [← hX4]; exact box_below X3 (.cells #[.slice none 0 0, .slice none 0 0, .slice none 0 0, .slice none 0 0] 26))
                      have Zz : Hid (CBox (.slice none 0 0) (.slice none 0 0) (.slice none 0 0) (.slice none 0 0) (X3.heap.size) X4) := Lib.hid (by rw [← hX4]; exact CBox.new _ _ _ _ X3)
                      have hs4 : Hid (X4.heap.size = X3.heap.size + 1) := Lib.hid (by rw [← hX4]; simp)
                      have L4 := Lib.hid (L3.out.on B4.out)
                      rw [hX4]
                      clear hX4
                      refine hK.out _ _ L4.out.box.facts (fun hHeld => ?_)
                      clear hK K
                      (try simp only [Act.put, List.setIfInBounds_toArray, List.set_cons_zero, List.set_cons_succ])
                      have Ky : Hid (Keep X1.heap.size X2 X4) := Lib.hid ((((Keep.refl _ _)).on B3.out).on B4.out)
                      have Kz : Hid (Keep X2.heap.size X3 X4) := Lib.hid (((Keep.refl _ _)).on B4.out)
                      have Xy : Hid (CBox (.slice none 0 0) (.slice none 0 0) (.slice none 0 0) (.slice none 0 0) (X0.heap.size) X4) := Lib.hid ((((Zy.out).on B2.out).on B3.out).on B4.out)
                      have Xz : Hid (CBox (.slice none 0 0) (.slice none 0 0) (.slice none 0 0) (.slice none 0 0) (X3.heap.size) X4) := Lib.hid (Zz.out)
                      have F6 := run_StoreC (y0 := .slice aFy c.fs.length cFy) (y1 := .slice aHy c.nh cHy) (y2 := .slice aRy c.fr.length cRy) (y3 := .slice aOy c.od.length cOy) Xy.out rfl rfl rfl rfl
                      have hnn : X3.heap.size ≠ X0.heap.size := by have := hs1.out; have := hs2.out; have := hs3.out; have := hs4.out; omega
                      have X7 : CBox (.slice none 0 0) (.slice none 0 0) (.slice none 0 0) (.slice none 0 0) (X3.heap.size) (X4.setRow (X0.heap.size) #[.slice aFy c.fs.length cFy, .slice aHy c.nh cHy, .slice aRy c.fr.length cRy, .slice aOy c.od.length cOy]) := (setRow_other _ _ _ _ hnn).trans Xz.out
                      have F7 := run_StoreC (y0 := .slice aFz c.fs.length cFz) (y1 := .slice aHz c.nh cHz) (y2 := .slice aRz c.fr.length cRz) (y3 := .slice aOz c.od.length cOz) X7 rfl rfl rfl rfl
                      have G6 : (X4.setRow (X0.heap.size) #[.slice aFy c.fs.length cFy, .slice aHy c.nh cHy, .slice aRy c.fr.length cRy, .slice aOy c.od.length cOy]).cell? ⟨w.heap.size, 0, none⟩ = some (.slice q.aF c.fs.length q.cF) ∧ (X4.setRow (X0.heap.size) #[.slice aFy c.fs.length cFy, .slice aHy c.nh cHy, .slice aRy c.fr.length cRy, .slice aOy c.od.length cOy]).cell? ⟨w.heap.size, 1, none⟩ = some (.slice q.aH c.nh q.cH) ∧ (X4.setRow (X0.heap.size) #[.slice aFy c.fs.length cFy, .slice aHy c.nh cHy, .slice aRy c.fr.length cRy, .slice aOy c.od.length cOy]).cell? ⟨w.heap.size, 2, none⟩ = some (.slice q.aR c.fr.length q.cR) ∧ (X4.setRow (X0.heap.size) #[.slice aFy c.fs.length cFy, .slice aHy c.nh cHy, .slice aRy c.fr.length cRy, .slice aOy c.od.length cOy]).cell? ⟨w.heap.size, 3, none⟩ = some (.slice q.aO c.od.length q.cO) := CdAt.facts (c := c) (q := q) ((setRow_other _ _ _ _ (by have := hs1.out; have := hs2.out; have := hs3.out; have := hs4.out; omega)).trans L4.out.box)
                      have YZ : Hid (Yz c q (X0.heap.size) (X3.heap.size) (⟨gBy, loy, aFy, cFy, aRy, cRy, aOy, cOy, aHy, cHy, essy, valsy, X1, X2⟩ : Cq) (⟨gBz, loz, aFz, cFz, aRz, cRz, aOz, cOz, aHz, cHz, essz, valsz, X2, X3⟩ : Cq) w ((X4.setRow (X0.heap.size) #[.slice aFy c.fs.length cFy, .slice aHy c.nh cHy, .slice aRy c.fr.length cRy, .slice aOy c.od.length cOy]).setRow (X3.heap.size) #[.slice aFz c.fs.length cFz, .slice aHz c.nh cHz, .slice aRz c.fr.length cRz, .slice aOz c.od.length cOz])) := Lib.hid (Yz.make (y := (⟨gBy, loy, aFy, cFy, aRy, cRy, aOy, cOy, aHy, cHy, essy, valsy, X1, X2⟩ : Cq)) (z := (⟨gBz, loz, aFz, cFz, aRz, cRz, aOz, cOz, aHz, cHz, essz, valsz, X2, X3⟩ : Cq)) L4.out Xy.out Xz.out Cy.out Cz.out Ky.out Kz.out (by show _ < _ ∨ _ ≤ _; dsimp only; have := hs1.out; have := hs2.out; have := hs3.out; have := hs4.out; omega) (by show _ < _ ∨ _ ≤ _; dsimp only; have := hs1.out; have := hs2.out; have := hs3.out; have := hs4.out; omega) (by show _ < _ ∨ _ ≤ _; dsimp only; have := hs1.out; have := hs2.out; have := hs3.out; have := hs4.out; omega) (by show _ < _ ∨ _ ≤ _; dsimp only; have := hs1.out; have := hs2.out; have := hs3.out; have := hs4.out; omega) (by have := hs1.out; have := hs2.out; have := hs3.out; have := hs4.out; omega) (by have := hs1.out; have := hs2.out; have := hs3.out; have := hs4.out; omega) (by have := hs1.out; have := hs2.out; have := hs3.out; have := hs4.out; omega) (by show X2.heap.size ≤ X2.heap.size; have := hs1.out; have := hs2.out; have := hs3.out; have := hs4.out; omega) (by show w.heap.size < X2.heap.size; have := hs1.out; have := hs2.out; have := hs3.out; have := hs4.out; omega))
                      refine wpAnyH_ready (rs := [6]) (by kernel_rfl) (by simp) ?_
                      refine AllReadyH.cons (o := ⟨none, _, _, _, _, _⟩) rfl (fun K hK => ?_) AllReadyH.nil
                      go_simp
                      refine hK.out _ _ G6 (fun hHeld => ?_)
                      clear hK K
                      (try simp only [Act.put, List.setIfInBounds_toArray, List.set_cons_zero, List.set_cons_succ])
                      refine wpAnyH_ready (rs := [7]) (by kernel_rfl) (by simp) ?_
                      refine AllReadyH.cons (o := ⟨none, _, _, _, _, _⟩) rfl (fun K hK => ?_) AllReadyH.nil
                      go_simp
                      refine hK.out _ _ YZ.out.lk.box.facts (fun hHeld => ?_)
                      clear hK K
                      (try simp only [Act.put, List.setIfInBounds_toArray, List.set_cons_zero, List.set_cons_succ])
                      refine wpAnyH_done (by kernel_rfl) ?_ _
                      go_wp2_with fail
                      go_meet
                      exact ⟨_, _, _, _, rfl, rfl, YZ⟩
                    exact AllReadyH.nil
                  refine AllReadyH.cons (o := ⟨some 11, _, _, _, _, _⟩) rfl (fun K hK => ?_) ?_
                  · go_simp
                    obtain ⟨X3, hX3⟩ : ∃ W, X2.alloc (.cells #[.slice none 0 0, .slice none 0 0, .slice none 0 0, .slice none 0 0] 26) = W := ⟨_, rfl⟩
                    have B3 : Hid (Below X2.heap.size X2 X3) := Lib.hid (by rw [← hX3]; exact box_below X2 (.cells #[.slice none 0 0, .slice none 0 0, .slice none 0 0, .slice none 0 0] 26))
                    have Zz : Hid (CBox (.slice none 0 0) (.slice none 0 0) (.slice none 0 0) (.slice none 0 0) (X2.heap.size) X3) := Lib.hid (by rw [← hX3]; exact CBox.new _ _ _ _ X2)
                    have hs3 : Hid (X3.heap.size = X2.heap.size + 1) := Lib.hid (by rw [← hX3]; simp)
                    have L3 := Lib.hid (L2.out.on B3.out)
                    rw [hX3]
                    clear hX3
                    refine hK.out _ _ L3.out.box.facts (fun hHeld => ?_)
                    clear hK K
                    (try simp only [Act.put, List.setIfInBounds_toArray, List.set_cons_zero, List.set_cons_succ])
                    refine wpAnyH_ready (rs := [3]) (by kernel_rfl) (by simp) ?_
                    refine AllReadyH.cons (o := ⟨some 131, _, _, _, _, _⟩) rfl (fun K hK => ?_) ?_
                    · go_simp
                      (go_at_call 19; (with_reducible refine (KO.out _ L3.out.at_).mono ?_); rintro e' X4 ⟨gBz, loz, vF, vR, vO, vH, essz, valsz, rfl, hC⟩; obtain ⟨aFz, cFz, rfl⟩ := own_form hC.first; obtain ⟨aRz, cRz, rfl⟩ := own_form hC.from_; obtain ⟨aOz, cOz, rfl⟩ := own_form hC.order; obtain ⟨aHz, cHz, rfl⟩ := own_form hC.own)
                      have Cz := Lib.hid hC.p
                      have B4 := Lib.hid hC.below
                      have hs4 := Lib.hid hC.below.size
                      clear hC
                      have L4 := Lib.hid (L3.out.on B4.out)
                      (try go_wp2_with fail)
                      refine hK.out _ _ L4.out.box.facts (fun hHeld => ?_)
                      clear hK K
                      (try simp only [Act.put, List.setIfInBounds_toArray, List.set_cons_zero, List.set_cons_succ])
                      have Ky : Hid (Keep X1.heap.size X2 X4) := Lib.hid ((((Keep.refl _ _)).on B3.out).on B4.out)
                      have Kz : Hid (Keep X3.heap.size X4 X4) := Lib.hid ((Keep.refl _ _))
                      have Xy : Hid (CBox (.slice none 0 0) (.slice none 0 0) (.slice none 0 0) (.slice none 0 0) (X0.heap.size) X4) := Lib.hid ((((Zy.out).on B2.out).on B3.out).on B4.out)
                      have Xz : Hid (CBox (.slice none 0 0) (.slice none 0 0) (.slice none 0 0) (.slice none 0 0) (X2.heap.size) X4) := Lib.hid ((Zz.out).on B4.out)
                      have F6 := run_StoreC (y0 := .slice aFy c.fs.length cFy) (y1 := .slice aHy c.nh cHy) (y2 := .slice aRy c.fr.length cRy) (y3 := .slice aOy c.od.length cOy) Xy.out rfl rfl rfl rfl
                      have hnn : X2.heap.size ≠ X0.heap.size := by have := hs1.out; have := hs2.out; have := hs3.out; have := hs4.out; omega
                      have X7 : CBox (.slice none 0 0) (.slice none 0 0) (.slice none 0 0) (.slice none 0 0) (X2.heap.size) (X4.setRow (X0.heap.size) #[.slice aFy c.fs.length cFy, .slice aHy c.nh cHy, .slice aRy c.fr.length cRy, .slice aOy c.od.length cOy]) := (setRow_other _ _ _ _ hnn).trans Xz.out
                      have F7 := run_StoreC (y0 := .slice aFz c.fs.length cFz) (y1 := .slice aHz c.nh cHz) (y2 := .slice aRz c.fr.length cRz) (y3 := .slice aOz c.od.length cOz) X7 rfl rfl rfl rfl
                      have G6 : (X4.setRow (X0.heap.size) #[.slice aFy c.fs.length cFy, .slice aHy c.nh cHy, .slice aRy c.fr.length cRy, .slice aOy c.od.length cOy]).cell? ⟨w.heap.size, 0, none⟩ = some (.slice q.aF c.fs.length q.cF) ∧ (X4.setRow (X0.heap.size) #[.slice aFy c.fs.length cFy, .slice aHy c.nh cHy, .slice aRy c.fr.length cRy, .slice aOy c.od.length cOy]).cell? ⟨w.heap.size, 1, none⟩ = some (.slice q.aH c.nh q.cH) ∧ (X4.setRow (X0.heap.size) #[.slice aFy c.fs.length cFy, .slice aHy c.nh cHy, .slice aRy c.fr.length cRy, .slice aOy c.od.length cOy]).cell? ⟨w.heap.size, 2, none⟩ = some (.slice q.aR c.fr.length q.cR) ∧ (X4.setRow (X0.heap.size) #[.slice aFy c.fs.length cFy, .slice aHy c.nh cHy, .slice aRy c.fr.length cRy, .slice aOy c.od.length cOy]).cell? ⟨w.heap.size, 3, none⟩ = some (.slice q.aO c.od.length q.cO) := CdAt.facts (c := c) (q := q) ((setRow_other _ _ _ _ (by have := hs1.out; have := hs2.out; have := hs3.out; have := hs4.out; omega)).trans L4.out.box)
                      have YZ : Hid (Yz c q (X0.heap.size) (X2.heap.size) (⟨gBy, loy, aFy, cFy, aRy, cRy, aOy, cOy, aHy, cHy, essy, valsy, X1, X2⟩ : Cq) (⟨gBz, loz, aFz, cFz, aRz, cRz, aOz, cOz, aHz, cHz, essz, valsz, X3, X4⟩ : Cq) w ((X4.setRow (X0.heap.size) #[.slice aFy c.fs.length cFy, .slice aHy c.nh cHy, .slice aRy c.fr.length cRy, .slice aOy c.od.length cOy]).setRow (X2.heap.size) #[.slice aFz c.fs.length cFz, .slice aHz c.nh cHz, .slice aRz c.fr.length cRz, .slice aOz c.od.length cOz])) := Lib.hid (Yz.make (y := (⟨gBy, loy, aFy, cFy, aRy, cRy, aOy, cOy, aHy, cHy, essy, valsy, X1, X2⟩ : Cq)) (z := (⟨gBz, loz, aFz, cFz, aRz, cRz, aOz, cOz, aHz, cHz, essz, valsz, X3, X4⟩ : Cq)) L4.out Xy.out Xz.out Cy.out Cz.out Ky.out Kz.out (by show _ < _ ∨ _ ≤ _; dsimp only; have := hs1.out; have := hs2.out; have := hs3.out; have := hs4.out; omega) (by show _ < _ ∨ _ ≤ _; dsimp only; have := hs1.out; have := hs2.out; have := hs3.out; have := hs4.out; omega) (by show _ < _ ∨ _ ≤ _; dsimp only; have := hs1.out; have := hs2.out; have := hs3.out; have := hs4.out; omega) (by show _ < _ ∨ _ ≤ _; dsimp only; have := hs1.out; have := hs2.out; have := hs3.out; have := hs4.out; omega) (by have := hs1.out; have := hs2.out; have := hs3.out; have := hs4.out; omega) (by have := hs1.out; have := hs2.out; have := hs3.out; have := hs4.out; omega) (by have := hs1.out; have := hs2.out; have := hs3.out; have := hs4.out; omega) (by show X2.heap.size ≤ X3.heap.size; have := hs1.out; have := hs2.out; have := hs3.out; have := hs4.out; omega) (by show w.heap.size < X3.heap.size; have := hs1.out; have := hs2.out; have := hs3.out; have := hs4.out; omega))
                      refine wpAnyH_ready (rs := [6]) (by kernel_rfl) (by simp) ?_
                      refine AllReadyH.cons (o := ⟨none, _, _, _, _, _⟩) rfl (fun K hK => ?_) AllReadyH.nil
                      go_simp
                      refine hK.out _ _ G6 (fun hHeld => ?_)
                      clear hK K
                      (try simp only [Act.put, List.setIfInBounds_toArray, List.set_cons_zero, List.set_cons_succ])
                      refine wpAnyH_ready (rs := [7]) (by kernel_rfl) (by simp) ?_
                      refine AllReadyH.cons (o := ⟨none, _, _, _, _, _⟩) rfl (fun K hK => ?_) AllReadyH.nil
                      go_simp
                      refine hK.out _ _ YZ.out.lk.box.facts (fun hHeld => ?_)
                      clear hK K
                      (try simp only [Act.put, List.setIfInBounds_toArray, List.set_cons_zero, List.set_cons_succ])
                      refine wpAnyH_done (by kernel_rfl) ?_ _
                      go_wp2_with fail
                      go_meet
                      exact ⟨_, _, _, _, rfl, rfl, YZ⟩
                    exact AllReadyH.nil
                  exact AllReadyH.nil
                refine AllReadyH.cons (o := ⟨some 11, _, _, _, _, _⟩) rfl (fun K hK => ?_) ?_
                · go_simp
                  obtain ⟨X2, hX2⟩ : ∃ W, X1.alloc (.cells #[.slice none 0 0, .slice none 0 0, .slice none 0 0, .slice none 0 0] 26) = W := ⟨_, rfl⟩
                  have B2 : Hid (Below X1.heap.size X1 X2) := Lib.hid (by rw [← hX2]; exact box_below X1 (.cells #[.slice none 0 0, .slice none 0 0, .slice none 0 0, .slice none 0 0] 26))
                  have Zz : Hid (CBox (.slice none 0 0) (.slice none 0 0) (.slice none 0 0) (.slice none 0 0) (X1.heap.size) X2) := Lib.hid (by rw [← hX2]; exact CBox.new _ _ _ _ X1)
                  have hs2 : Hid (X2.heap.size = X1.heap.size + 1) := Lib.hid (by rw [← hX2]; simp)
                  have L2 := Lib.hid (L1.out.on B2.out)
                  rw [hX2]
                  clear hX2
                  refine hK.out _ _ L2.out.box.facts (fun hHeld => ?_)
                  clear hK K
                  (try simp only [Act.put, List.setIfInBounds_toArray, List.set_cons_zero, List.set_cons_succ])
                  refine wpAnyH_ready (rs := [1]) (by kernel_rfl) (by simp) ?_
                  refine AllReadyH.cons (o := ⟨some 129, _, _, _, _, _⟩) rfl (fun K hK => ?_) ?_
                  · go_simp
                    (go_at_call 19; (with_reducible refine (KO.out _ L2.out.at_).mono ?_); rintro e' X3 ⟨gBy, loy, vF, vR, vO, vH, essy, valsy, rfl, hC⟩; obtain ⟨aFy, cFy, rfl⟩ := own_form hC.first; obtain ⟨aRy, cRy, rfl⟩ := own_form hC.from_; obtain ⟨aOy, cOy, rfl⟩ := own_form hC.order; obtain ⟨aHy, cHy, rfl⟩ := own_form hC.own)
                    have Cy := Lib.hid hC.p
                    have B3 := Lib.hid hC.below
                    have hs3 := Lib.hid hC.below.size
                    clear hC
                    have L3 := Lib.hid (L2.out.on B3.out)
                    (try go_wp2_with fail)
                    refine hK.out _ _ L3.out.box.facts (fun hHeld => ?_)
                    clear hK K
                    (try simp only [Act.put, List.setIfInBounds_toArray, List.set_cons_zero, List.set_cons_succ])
                    refine wpAnyH_ready (rs := [3]) (by kernel_rfl) (by simp) ?_
                    refine AllReadyH.cons (o := ⟨some 131, _, _, _, _, _⟩) rfl (fun K hK => ?_) ?_
                    · go_simp
                      (go_at_call 19; (with_reducible refine (KO.out _ L3.out.at_).mono ?_); rintro e' X4 ⟨gBz, loz, vF, vR, vO, vH, essz, valsz, rfl, hC⟩; obtain ⟨aFz, cFz, rfl⟩ := own_form hC.first; obtain ⟨aRz, cRz, rfl⟩ := own_form hC.from_; obtain ⟨aOz, cOz, rfl⟩ := own_form hC.order; obtain ⟨aHz, cHz, rfl⟩ := own_form hC.own)
                      have Cz := Lib.hid hC.p
                      have B4 := Lib.hid hC.below
                      have hs4 := Lib.hid hC.below.size
                      clear hC
                      have L4 := Lib.hid (L3.out.on B4.out)
                      (try go_wp2_with fail)
                      refine hK.out _ _ L4.out.box.facts (fun hHeld => ?_)
                      clear hK K
                      (try simp only [Act.put, List.setIfInBounds_toArray, List.set_cons_zero, List.set_cons_succ])
                      have Ky : Hid (Keep X2.heap.size X3 X4) := Lib.hid (((Keep.refl _ _)).on B4.out)
                      have Kz : Hid (Keep X3.heap.size X4 X4) := Lib.hid ((Keep.refl _ _))
                      have Xy : Hid (CBox (.slice none 0 0) (.slice none 0 0) (.slice none 0 0) (.slice none 0 0) (X0.heap.size) X4) := Lib.hid ((((Zy.out).on B2.out).on B3.out).on B4.out)
                      have Xz : Hid (CBox (.slice none 0 0) (.slice none 0 0) (.slice none 0 0) (.slice none 0 0) (X1.heap.size) X4) := Lib.hid (((Zz.out).on B3.out).on B4.out)
                      have F6 := run_StoreC (y0 := .slice aFy c.fs.length cFy) (y1 := .slice aHy c.nh cHy) (y2 := .slice aRy c.fr.length cRy) (y3 := .slice aOy c.od.length cOy) Xy.out rfl rfl rfl rfl
                      have hnn : X1.heap.size ≠ X0.heap.size := by have := hs1.out; have := hs2.out; have := hs3.out; have := hs4.out; omega
                      have X7 : CBox (.slice none 0 0) (.slice none 0 0) (.slice none 0 0) (.slice none 0 0) (X1.heap.size) (X4.setRow (X0.heap.size) #[.slice aFy c.fs.length cFy, .slice aHy c.nh cHy, .slice aRy c.fr.length cRy, .slice aOy c.od.length cOy]) := (setRow_other _ _ _ _ hnn).trans Xz.out
                      have F7 := run_StoreC (y0 := .slice aFz c.fs.length cFz) (y1 := .slice aHz c.nh cHz) (y2 := .slice aRz c.fr.length cRz) (y3 := .slice aOz c.od.length cOz) X7 rfl rfl rfl rfl
                      have G6 : (X4.setRow (X0.heap.size) #[.slice aFy c.fs.length cFy, .slice aHy c.nh cHy, .slice aRy c.fr.length cRy, .slice aOy c.od.length cOy]).cell? ⟨w.heap.size, 0, none⟩ = some (.slice q.aF c.fs.length q.cF) ∧ (X4.setRow (X0.heap.size) #[.slice aFy c.fs.length cFy, .slice aHy c.nh cHy, .slice aRy c.fr.length cRy, .slice aOy c.od.length cOy]).cell? ⟨w.heap.size, 1, none⟩ = some (.slice q.aH c.nh q.cH) ∧ (X4.setRow (X0.heap.size) #[.slice aFy c.fs.length cFy, .slice aHy c.nh cHy, .slice aRy c.fr.length cRy, .slice aOy c.od.length cOy]).cell? ⟨w.heap.size, 2, none⟩ = some (.slice q.aR c.fr.length q.cR) ∧ (X4.setRow (X0.heap.size) #[.slice aFy c.fs.length cFy, .slice aHy c.nh cHy, .slice aRy c.fr.length cRy, .slice aOy c.od.length cOy]).cell? ⟨w.heap.size, 3, none⟩ = some (.slice q.aO c.od.length q.cO) := CdAt.facts (c := c) (q := q) ((setRow_other _ _ _ _ (by have := hs1.out; have := hs2.out; have := hs3.out; have := hs4.out; omega)).trans L4.out.box)
                      have YZ : Hid (Yz c q (X0.heap.size) (X1.heap.size) (⟨gBy, loy, aFy, cFy, aRy, cRy, aOy, cOy, aHy, cHy, essy, valsy, X2, X3⟩ : Cq) (⟨gBz, loz, aFz, cFz, aRz, cRz, aOz, cOz, aHz, cHz, essz, valsz, X3, X4⟩ : Cq) w ((X4.setRow (X0.heap.size) #[.slice aFy c.fs.length cFy, .slice aHy c.nh cHy, .slice aRy c.fr.length cRy, .slice aOy c.od.length cOy]).setRow (X1.heap.size) #[.slice aFz c.fs.length cFz, .slice aHz c.nh cHz, .slice aRz c.fr.length cRz, .slice aOz c.od.length cOz])) := Lib.hid (Yz.make (y := (⟨gBy, loy, aFy, cFy, aRy, cRy, aOy, cOy, aHy, cHy, essy, valsy, X2, X3⟩ : Cq)) (z := (⟨gBz, loz, aFz, cFz, aRz, cRz, aOz, cOz, aHz, cHz, essz, valsz, X3, X4⟩ : Cq)) L4.out Xy.out Xz.out Cy.out Cz.out Ky.out Kz.out (by show _ < _ ∨ _ ≤ _; dsimp only; have := hs1.out; have := hs2.out; have := hs3.out; have := hs4.out; omega) (by show _ < _ ∨ _ ≤ _; dsimp only; have := hs1.out; have := hs2.out; have := hs3.out; have := hs4.out; omega) (by show _ < _ ∨ _ ≤ _; dsimp only; have := hs1.out; have := hs2.out; have := hs3.out; have := hs4.out; omega) (by show _ < _ ∨ _ ≤ _; dsimp only; have := hs1.out; have := hs2.out; have := hs3.out; have := hs4.out; omega) (by have := hs1.out; have := hs2.out; have := hs3.out; have := hs4.out; omega) (by have := hs1.out; have := hs2.out; have := hs3.out; have := hs4.out; omega) (by have := hs1.out; have := hs2.out; have := hs3.out; have := hs4.out; omega) (by show X3.heap.size ≤ X3.heap.size; have := hs1.out; have := hs2.out; have := hs3.out; have := hs4.out; omega) (by show w.heap.size < X3.heap.size; have := hs1.out; have := hs2.out; have := hs3.out; have := hs4.out; omega))
                      refine wpAnyH_ready (rs := [6]) (by kernel_rfl) (by simp) ?_
                      refine AllReadyH.cons (o := ⟨none, _, _, _, _, _⟩) rfl (fun K hK => ?_) AllReadyH.nil
                      go_simp
                      refine hK.out _ _ G6 (fun hHeld => ?_)
                      clear hK K
                      (try simp only [Act.put, List.setIfInBounds_toArray, List.set_cons_zero, List.set_cons_succ])
                      refine wpAnyH_ready (rs := [7]) (by kernel_rfl) (by simp) ?_
                      refine AllReadyH.cons (o := ⟨none, _, _, _, _, _⟩) rfl (fun K hK => ?_) AllReadyH.nil
                      go_simp
                      refine hK.out _ _ YZ.out.lk.box.facts (fun hHeld => ?_)
                      clear hK K
                      (try simp only [Act.put, List.setIfInBounds_toArray, List.set_cons_zero, List.set_cons_succ])
                      refine wpAnyH_done (by kernel_rfl) ?_ _
                      go_wp2_with fail
                      go_meet
                      exact ⟨_, _, _, _, rfl, rfl, YZ⟩
                    exact AllReadyH.nil
                  exact AllReadyH.nil
                exact AllReadyH.nil
              refine AllReadyH.cons (o := ⟨some 11, _, _, _, _, _⟩) rfl (fun K hK => ?_) ?_
              · go_simp
                obtain ⟨X1, hX1⟩ : ∃ W, (X0.alloc (.cells #[.slice none 0 0, .slice none 0 0, .slice none 0 0, .slice none 0 0] 26)).drew = W := ⟨_, rfl⟩
                have B1 : Hid (Below X0.drew.heap.size X0.drew X1) := Lib.hid (by rw [← hX1]; exact box_below X0.drew (.cells #[.slice none 0 0, .slice none 0 0, .slice none 0 0, .slice none 0 0] 26))
                have Zz : Hid (CBox (.slice none 0 0) (.slice none 0 0) (.slice none 0 0) (.slice none 0 0) (X0.heap.size) X1) := Lib.hid (by rw [← hX1]; exact CBox.new _ _ _ _ X0.drew)
                have hs1 : Hid (X1.heap.size = X0.heap.size + 1) := Lib.hid (by rw [← hX1]; simp)
                have L1 := Lib.hid (L0.out.on B1.out)
                rw [hX1]
                clear hX1
                refine hK.out _ _ L1.out.box.facts (fun hHeld => ?_)
                clear hK K
                (try simp only [Act.put, List.setIfInBounds_toArray, List.set_cons_zero, List.set_cons_succ])
                refine wpAnyH_ready (rs := [1, 4]) (by kernel_rfl) (by simp) ?_
                refine AllReadyH.cons (o := ⟨some 129, _, _, _, _, _⟩) rfl (fun K hK => ?_) ?_
                · go_simp
                  (go_at_call 19; (with_reducible refine (KO.out _ L1.out.at_).mono ?_); rintro e' X2 ⟨gBy, loy, vF, vR, vO, vH, essy, valsy, rfl, hC⟩; obtain ⟨aFy, cFy, rfl⟩ := own_form hC.first; obtain ⟨aRy, cRy, rfl⟩ := own_form hC.from_; obtain ⟨aOy, cOy, rfl⟩ := own_form hC.order; obtain ⟨aHy, cHy, rfl⟩ := own_form hC.own)
                  have Cy := Lib.hid hC.p
                  have B2 := Lib.hid hC.below
                  have hs2 := Lib.hid hC.below.size
                  clear hC
                  have L2 := Lib.hid (L1.out.on B2.out)
                  (try go_wp2_with fail)
                  refine hK.out _ _ L2.out.box.facts (fun hHeld => ?_)
                  clear hK K
                  (try simp only [Act.put, List.setIfInBounds_toArray, List.set_cons_zero, List.set_cons_succ])
                  refine wpAnyH_ready (rs := [3, 4]) (by kernel_rfl) (by simp) ?_
                  refine AllReadyH.cons (o := ⟨some 131, _, _, _, _, _⟩) rfl (fun K hK => ?_) ?_
                  · go_simp
                    (go_at_call 19; (with_reducible refine (KO.out _ L2.out.at_).mono ?_); rintro e' X3 ⟨gBz, loz, vF, vR, vO, vH, essz, valsz, rfl, hC⟩; obtain ⟨aFz, cFz, rfl⟩ := own_form hC.first; obtain ⟨aRz, cRz, rfl⟩ := own_form hC.from_; obtain ⟨aOz, cOz, rfl⟩ := own_form hC.order; obtain ⟨aHz, cHz, rfl⟩ := own_form hC.own)
                    have Cz := Lib.hid hC.p
                    have B3 := Lib.hid hC.below
                    have hs3 := Lib.hid hC.below.size
                    clear hC
                    have L3 := Lib.hid (L2.out.on B3.out)
                    (try go_wp2_with fail)
                    refine hK.out _ _ L3.out.box.facts (fun hHeld => ?_)
                    clear hK K
                    (try simp only [Act.put, List.setIfInBounds_toArray, List.set_cons_zero, List.set_cons_succ])
                    refine wpAnyH_ready (rs := [4]) (by kernel_rfl) (by simp) ?_
                    refine AllReadyH.cons (o := ⟨some 10, _, _, _, _, _⟩) rfl (fun K hK => ?_) ?_
                    · go_simp
                      obtain ⟨X4, hX4⟩ : ∃ W, X3.alloc (.cells #[.slice none 0 0, .slice none 0 0, .slice none 0 0, .slice none 0 0] 26) = W := ⟨_, rfl⟩
                      have B4 : Hid (Below X3.heap.size X3 X4) := Lib.hid (by rw [← hX4]; exact box_below X3 (.cells #[.slice none 0 0, .slice none 0 0, .slice none 0 0, .slice none 0 0] 26))
                      have Zy : Hid (CBox (.slice none 0 0) (.slice none 0 0) (.slice none 0 0) (.slice none 0 0) (X3.heap.size) X4) := Lib.hid (by rw [← hX4]; exact CBox.new _ _ _ _ X3)
                      have hs4 : Hid (X4.heap.size = X3.heap.size + 1) := Lib.hid (by rw [← hX4]; simp)
                      have L4 := Lib.hid (L3.out.on B4.out)
                      rw [hX4]
                      clear hX4
                      refine hK.out _ _ L4.out.box.facts (fun hHeld => ?_)
                      clear hK K
                      (try simp only [Act.put, List.setIfInBounds_toArray, List.set_cons_zero, List.set_cons_succ])
                      have Ky : Hid (Keep X1.heap.size X2 X4) := Lib.hid ((((Keep.refl _ _)).on B3.out).on B4.out)
                      have Kz : Hid (Keep X2.heap.size X3 X4) := Lib.hid (((Keep.refl _ _)).on B4.out)
                      have Xy : Hid (CBox (.slice none 0 0) (.slice none 0 0) (.slice none 0 0) (.slice none 0 0) (X3.heap.size) X4) := Lib.hid (Zy.out)
                      have Xz : Hid (CBox (.slice none 0 0) (.slice none 0 0) (.slice none 0 0) (.slice none 0 0) (X0.heap.size) X4) := Lib.hid ((((Zz.out).on B2.out).on B3.out).on B4.out)
                      have F6 := run_StoreC (y0 := .slice aFy c.fs.length cFy) (y1 := .slice aHy c.nh cHy) (y2 := .slice aRy c.fr.length cRy) (y3 := .slice aOy c.od.length cOy) Xy.out rfl rfl rfl rfl
                      have hnn : X0.heap.size ≠ X3.heap.size := by have := hs1.out; have := hs2.out; have := hs3.out; have := hs4.out; omega
                      have X7 : CBox (.slice none 0 0) (.slice none 0 0) (.slice none 0 0) (.slice none 0 0) (X0.heap.size) (X4.setRow (X3.heap.size) #[.slice aFy c.fs.length cFy, .slice aHy c.nh cHy, .slice aRy c.fr.length cRy, .slice aOy c.od.length cOy]) := (setRow_other _ _ _ _ hnn).trans Xz.out
                      have F7 := run_StoreC (y0 := .slice aFz c.fs.length cFz) (y1 := .slice aHz c.nh cHz) (y2 := .slice aRz c.fr.length cRz) (y3 := .slice aOz c.od.length cOz) X7 rfl rfl rfl rfl
                      have G6 : (X4.setRow (X3.heap.size) #[.slice aFy c.fs.length cFy, .slice aHy c.nh cHy, .slice aRy c.fr.length cRy, .slice aOy c.od.length cOy]).cell? ⟨w.heap.size, 0, none⟩ = some (.slice q.aF c.fs.length q.cF) ∧ (X4.setRow (X3.heap.size) #[.slice aFy c.fs.length cFy, .slice aHy c.nh cHy, .slice aRy c.fr.length cRy, .slice aOy c.od.length cOy]).cell? ⟨w.heap.size, 1, none⟩ = some (.slice q.aH c.nh q.cH) ∧ (X4.setRow (X3.heap.size) #[.slice aFy c.fs.length cFy, .slice aHy c.nh cHy, .slice aRy c.fr.length cRy, .slice aOy c.od.length cOy]).cell? ⟨w.heap.size, 2, none⟩ = some (.slice q.aR c.fr.length q.cR) ∧ (X4.setRow (X3.heap.size) #[.slice aFy c.fs.length cFy, .slice aHy c.nh cHy, .slice aRy c.fr.length cRy, .slice aOy c.od.length cOy]).cell? ⟨w.heap.size, 3, none⟩ = some (.slice q.aO c.od.length q.cO) := CdAt.facts (c := c) (q := q) ((setRow_other _ _ _ _ (by have := hs1.out; have := hs2.out; have := hs3.out; have := hs4.out; omega)).trans L4.out.box)
                      have YZ : Hid (Yz c q (X3.heap.size) (X0.heap.size) (⟨gBy, loy, aFy, cFy, aRy, cRy, aOy, cOy, aHy, cHy, essy, valsy, X1, X2⟩ : Cq) (⟨gBz, loz, aFz, cFz, aRz, cRz, aOz, cOz, aHz, cHz, essz, valsz, X2, X3⟩ : Cq) w ((X4.setRow (X3.heap.size) #[.slice aFy c.fs.length cFy, .slice aHy c.nh cHy, .slice aRy c.fr.length cRy, .slice aOy c.od.length cOy]).setRow (X0.heap.size) #[.slice aFz c.fs.length cFz, .slice aHz c.nh cHz, .slice aRz c.fr.length cRz, .slice aOz c.od.length cOz])) := Lib.hid (Yz.make (y := (⟨gBy, loy, aFy, cFy, aRy, cRy, aOy, cOy, aHy, cHy, essy, valsy, X1, X2⟩ : Cq)) (z := (⟨gBz, loz, aFz, cFz, aRz, cRz, aOz, cOz, aHz, cHz, essz, valsz, X2, X3⟩ : Cq)) L4.out Xy.out Xz.out Cy.out Cz.out Ky.out Kz.out (by show _ < _ ∨ _ ≤ _; dsimp only; have := hs1.out; have := hs2.out; have := hs3.out; have := hs4.out; omega) (by show _ < _ ∨ _ ≤ _; dsimp only; have := hs1.out; have := hs2.out; have := hs3.out; have := hs4.out; omega) (by show _ < _ ∨ _ ≤ _; dsimp only; have := hs1.out; have := hs2.out; have := hs3.out; have := hs4.out; omega) (by show _ < _ ∨ _ ≤ _; dsimp only; have := hs1.out; have := hs2.out; have := hs3.out; have := hs4.out; omega) (by have := hs1.out; have := hs2.out; have := hs3.out; have := hs4.out; omega) (by have := hs1.out; have := hs2.out; have := hs3.out; have := hs4.out; omega) (by have := hs1.out; have := hs2.out; have := hs3.out; have := hs4.out; omega) (by show X2.heap.size ≤ X2.heap.size; have := hs1.out; have := hs2.out; have := hs3.out; have := hs4.out; omega) (by show w.heap.size < X2.heap.size; have := hs1.out; have := hs2.out; have := hs3.out; have := hs4.out; omega))
                      refine wpAnyH_ready (rs := [6]) (by kernel_rfl) (by simp) ?_
                      refine AllReadyH.cons (o := ⟨none, _, _, _, _, _⟩) rfl (fun K hK => ?_) AllReadyH.nil
                      go_simp
                      refine hK.out _ _ G6 (fun hHeld => ?_)
                      clear hK K
                      (try simp only [Act.put, List.setIfInBounds_toArray, List.set_cons_zero, List.set_cons_succ])
                      refine wpAnyH_ready (rs := [7]) (by kernel_rfl) (by simp) ?_
                      refine AllReadyH.cons (o := ⟨none, _, _, _, _, _⟩) rfl (fun K hK => ?_) AllReadyH.nil
                      go_simp
                      refine hK.out _ _ YZ.out.lk.box.facts (fun hHeld => ?_)
                      clear hK K
                      (try simp only [Act.put, List.setIfInBounds_toArray, List.set_cons_zero, List.set_cons_succ])
                      refine wpAnyH_done (by kernel_rfl) ?_ _
                      go_wp2_with fail
                      go_meet
                      exact ⟨_, _, _, _, rfl, rfl, YZ⟩
                    exact AllReadyH.nil
                  refine AllReadyH.cons (o := ⟨some 10, _, _, _, _, _⟩) rfl (fun K hK => ?_) ?_
                  · go_simp
                    obtain ⟨X3, hX3⟩ : ∃ W, X2.alloc (.cells #[.slice none 0 0, .slice none 0 0, .slice none 0 0, .slice none 0 0] 26) = W := ⟨_, rfl⟩
                    have B3 : Hid (Below X2.heap.size X2 X3) := Lib.hid (by rw [← hX3]; exact box_below X2 (.cells #[.slice none 0 0, .slice none 0 0, .slice none 0 0, .slice none 0 0] 26))
                    have Zy : Hid (CBox (.slice none 0 0) (.slice none 0 0) (.slice none 0 0) (.slice none 0 0) (X2.heap.size) X3) := Lib.hid (by rw [← hX3]; exact CBox.new _ _ _ _ X2)
                    have hs3 : Hid (X3.heap.size = X2.heap.size + 1) := Lib.hid (by rw [← hX3]; simp)
                    have L3 := Lib.hid (L2.out.on B3.out)
                    rw [hX3]
                    clear hX3
                    refine hK.out _ _ L3.out.box.facts (fun hHeld => ?_)
                    clear hK K
                    (try simp only [Act.put, List.setIfInBounds_toArray, List.set_cons_zero, List.set_cons_succ])
                    refine wpAnyH_ready (rs := [3]) (by kernel_rfl) (by simp) ?_
                    refine AllReadyH.cons (o := ⟨some 131, _, _, _, _, _⟩) rfl (fun K hK => ?_) ?_
                    · go_simp
                      (go_at_call 19; (with_reducible refine (KO.out _ L3.out.at_).mono ?_); rintro e' X4 ⟨gBz, loz, vF, vR, vO, vH, essz, valsz, rfl, hC⟩; obtain ⟨aFz, cFz, rfl⟩ := own_form hC.first; obtain ⟨aRz, cRz, rfl⟩ := own_form hC.from_; obtain ⟨aOz, cOz, rfl⟩ := own_form hC.order; obtain ⟨aHz, cHz, rfl⟩ := own_form hC.own)
                      have Cz := Lib.hid hC.p
                      have B4 := Lib.hid hC.below
                      have hs4 := Lib.hid hC.below.size
                      clear hC
                      have L4 := Lib.hid (L3.out.on B4.out)
                      (try go_wp2_with fail)
                      refine hK.out _ _ L4.out.box.facts (fun hHeld => ?_)
                      clear hK K
                      (try simp only [Act.put, List.setIfInBounds_toArray, List.set_cons_zero, List.set_cons_succ])
                      have Ky : Hid (Keep X1.heap.size X2 X4) := Lib.hid ((((Keep.refl _ _)).on B3.out).on B4.out)
                      have Kz : Hid (Keep X3.heap.size X4 X4) := Lib.hid ((Keep.refl _ _))
                      have Xy : Hid (CBox (.slice none 0 0) (.slice none 0 0) (.slice none 0 0) (.slice none 0 0) (X2.heap.size) X4) := Lib.hid ((Zy.out).on B4.out)
                      have Xz : Hid (CBox (.slice none 0 0) (.slice none 0 0) (.slice none 0 0) (.slice none 0 0) (X0.heap.size) X4) := Lib.hid ((((Zz.out).on B2.out).on B3.out).on B4.out)
                      have F6 := run_StoreC (y0 := .slice aFy c.fs.length cFy) (y1 := .slice aHy c.nh cHy) (y2 := .slice aRy c.fr.length cRy) (y3 := .slice aOy c.od.length cOy) Xy.out rfl rfl rfl rfl
                      have hnn : X0.heap.size ≠ X2.heap.size := by have := hs1.out; have := hs2.out; have := hs3.out; have := hs4.out; omega
                      have X7 : CBox (.slice none 0 0) (.slice none 0 0) (.slice none 0 0) (.slice none 0 0) (X0.heap.size) (X4.setRow (X2.heap.size) #[.slice aFy c.fs.length cFy, .slice aHy c.nh cHy, .slice aRy c.fr.length cRy, .slice aOy c.od.length cOy]) := (setRow_other _ _ _ _ hnn).trans Xz.out
                      have F7 := run_StoreC (y0 := .slice aFz c.fs.length cFz) (y1 := .slice aHz c.nh cHz) (y2 := .slice aRz c.fr.length cRz) (y3 := .slice aOz c.od.length cOz) X7 rfl rfl rfl rfl
                      have G6 : (X4.setRow (X2.heap.size) #[.slice aFy c.fs.length cFy, .slice aHy c.nh cHy, .slice aRy c.fr.length cRy, .slice aOy c.od.length cOy]).cell? ⟨w.heap.size, 0, none⟩ = some (.slice q.aF c.fs.length q.cF) ∧ (X4.setRow (X2.heap.size) #[.slice aFy c.fs.length cFy, .slice aHy c.nh cHy, .slice aRy c.fr.length cRy, .slice aOy c.od.length cOy]).cell? ⟨w.heap.size, 1, none⟩ = some (.slice q.aH c.nh q.cH) ∧ (X4.setRow (X2.heap.size) #[.slice aFy c.fs.length cFy, .slice aHy c.nh cHy, .slice aRy c.fr.length cRy, .slice aOy c.od.length cOy]).cell? ⟨w.heap.size, 2, none⟩ = some (.slice q.aR c.fr.length q.cR) ∧ (X4.setRow (X2.heap.size) #[.slice aFy c.fs.length cFy, .slice aHy c.nh cHy, .slice aRy c.fr.length cRy, .slice aOy c.od.length cOy]).cell? ⟨w.heap.size, 3, none⟩ = some (.slice q.aO c.od.length q.cO) := CdAt.facts (c := c) (q := q) ((setRow_other _ _ _ _ (by have := hs1.out; have := hs2.out; have := hs3.out; have := hs4.out; omega)).trans L4.out.box)
                      have YZ : Hid (Yz c q (X2.heap.size) (X0.heap.size) (⟨gBy, loy, aFy, cFy, aRy, cRy, aOy, cOy, aHy, cHy, essy, valsy, X1, X2⟩ : Cq) (⟨gBz, loz, aFz, cFz, aRz, cRz, aOz, cOz, aHz, cHz, essz, valsz, X3, X4⟩ : Cq) w ((X4.setRow (X2.heap.size) #[.slice aFy c.fs.length cFy, .slice aHy c.nh cHy, .slice aRy c.fr.length cRy, .slice aOy c.od.length cOy]).setRow (X0.heap.size) #[.slice aFz c.fs.length cFz, .slice aHz c.nh cHz, .slice aRz c.fr.length cRz, .slice aOz c.od.length cOz])) := Lib.hid (Yz.make (y := (⟨gBy, loy, aFy, cFy, aRy, cRy, aOy, cOy, aHy, cHy, essy, valsy, X1, X2⟩ : Cq)) (z := (⟨gBz, loz, aFz, cFz, aRz, cRz, aOz, cOz, aHz, cHz, essz, valsz, X3, X4⟩ : Cq)) L4.out Xy.out Xz.out Cy.out Cz.out Ky.out Kz.out (by show _ < _ ∨ _ ≤ _; dsimp only; have := hs1.out; have := hs2.out; have := hs3.out; have := hs4.out; omega) (by show _ < _ ∨ _ ≤ _; dsimp only; have := hs1.out; have := hs2.out; have := hs3.out; have := hs4.out; omega) (by show _ < _ ∨ _ ≤ _; dsimp only; have := hs1.out; have := hs2.out; have := hs3.out; have := hs4.out; omega) (by show _ < _ ∨ _ ≤ _; dsimp only; have := hs1.out; have := hs2.out; have := hs3.out; have := hs4.out; omega) (by have := hs1.out; have := hs2.out; have := hs3.out; have := hs4.out; omega) (by have := hs1.out; have := hs2.out; have := hs3.out; have := hs4.out; omega) (by have := hs1.out; have := hs2.out; have := hs3.out; have := hs4.out; omega) (by show X2.heap.size ≤ X3.heap.size; have := hs1.out; have := hs2.out; have := hs3.out; have := hs4.out; omega) (by show w.heap.size < X3.heap.size; have := hs1.out; have := hs2.out; have := hs3.out; have := hs4.out; omega))
                      refine wpAnyH_ready (rs := [6]) (by kernel_rfl) (by simp) ?_
                      refine AllReadyH.cons (o := ⟨none, _, _, _, _, _⟩) rfl (fun K hK => ?_) AllReadyH.nil
                      go_simp
                      refine hK.out _ _ G6 (fun hHeld => ?_)
                      clear hK K
                      (try simp only [Act.put, List.setIfInBounds_toArray, List.set_cons_zero, List.set_cons_succ])
                      refine wpAnyH_ready (rs := [7]) (by kernel_rfl) (by simp) ?_
                      refine AllReadyH.cons (o := ⟨none, _, _, _, _, _⟩) rfl (fun K hK => ?_) AllReadyH.nil
                      go_simp
                      refine hK.out _ _ YZ.out.lk.box.facts (fun hHeld => ?_)
                      clear hK K
                      (try simp only [Act.put, List.setIfInBounds_toArray, List.set_cons_zero, List.set_cons_succ])
                      refine wpAnyH_done (by kernel_rfl) ?_ _
                      go_wp2_with fail
                      go_meet
                      exact ⟨_, _, _, _, rfl, rfl, YZ⟩
                    exact AllReadyH.nil
                  exact AllReadyH.nil
                refine AllReadyH.cons (o := ⟨some 10, _, _, _, _, _⟩) rfl (fun K hK => ?_) ?_
                · go_simp
                  obtain ⟨X2, hX2⟩ : ∃ W, X1.alloc (.cells #[.slice none 0 0, .slice none 0 0, .slice none 0 0, .slice none 0 0] 26) = W := ⟨_, rfl⟩
                  have B2 : Hid (Below X1.heap.size X1 X2) := Lib.hid (by rw [← hX2]; exact box_below X1 (.cells #[.slice none 0 0, .slice none 0 0, .slice none 0 0, .slice none 0 0] 26))
                  have Zy : Hid (CBox (.slice none 0 0) (.slice none 0 0) (.slice none 0 0) (.slice none 0 0) (X1.heap.size) X2) := Lib.hid (by rw [← hX2]; exact CBox.new _ _ _ _ X1)
                  have hs2 : Hid (X2.heap.size = X1.heap.size + 1) := Lib.hid (by rw [← hX2]; simp)
                  have L2 := Lib.hid (L1.out.on B2.out)
                  rw [hX2]
                  clear hX2
                  refine hK.out _ _ L2.out.box.facts (fun hHeld => ?_)
                  clear hK K
                  (try simp only [Act.put, List.setIfInBounds_toArray, List.set_cons_zero, List.set_cons_succ])
                  refine wpAnyH_ready (rs := [1]) (by kernel_rfl) (by simp) ?_
                  refine AllReadyH.cons (o := ⟨some 129, _, _, _, _, _⟩) rfl (fun K hK => ?_) ?_
                  · go_simp
                    (go_at_call 19; (with_reducible refine (KO.out _ L2.out.at_).mono ?_); rintro e' X3 ⟨gBy, loy, vF, vR, vO, vH, essy, valsy, rfl, hC⟩; obtain ⟨aFy, cFy, rfl⟩ := own_form hC.first; obtain ⟨aRy, cRy, rfl⟩ := own_form hC.from_; obtain ⟨aOy, cOy, rfl⟩ := own_form hC.order; obtain ⟨aHy, cHy, rfl⟩ := own_form hC.own)
                    have Cy := Lib.hid hC.p
                    have B3 := Lib.hid hC.below
                    have hs3 := Lib.hid hC.below.size
                    clear hC
                    have L3 := Lib.hid (L2.out.on B3.out)
                    (try go_wp2_with fail)
                    refine hK.out _ _ L3.out.box.facts (fun hHeld => ?_)
                    clear hK K
                    (try simp only [Act.put, List.setIfInBounds_toArray, List.set_cons_zero, List.set_cons_succ])
                    refine wpAnyH_ready (rs := [3]) (by kernel_rfl) (by simp) ?_
                    refine AllReadyH.cons (o := ⟨some 131, _, _, _, _, _⟩) rfl (fun K hK => ?_) ?_
                    · go_simp
                      (go_at_call 19; (with_reducible refine (KO.out _ L3.out.at_).mono ?_); rintro e' X4 ⟨gBz, loz, vF, vR, vO, vH, essz, valsz, rfl, hC⟩; obtain ⟨aFz, cFz, rfl⟩ := own_form hC.first; obtain ⟨aRz, cRz, rfl⟩ := own_form hC.from_; obtain ⟨aOz, cOz, rfl⟩ := own_form hC.order; obtain ⟨aHz, cHz, rfl⟩ := own_form hC.own)
                      have Cz := Lib.hid hC.p
                      have B4 := Lib.hid hC.below
                      have hs4 := Lib.hid hC.below.size
                      clear hC
                      have L4 := Lib.hid (L3.out.on B4.out)
                      (try go_wp2_with fail)
                      refine hK.out _ _ L4.out.box.facts (fun hHeld => ?_)
                      clear hK K
                      (try simp only [Act.put, List.setIfInBounds_toArray, List.set_cons_zero, List.set_cons_succ])
                      have Ky : Hid (Keep X2.heap.size X3 X4) := Lib.hid (((Keep.refl _ _)).on B4.out)
                      have Kz : Hid (Keep X3.heap.size X4 X4) := Lib.hid ((Keep.refl _ _))
                      have Xy : Hid (CBox (.slice none 0 0) (.slice none 0 0) (.slice none 0 0) (.slice none 0 0) (X1.heap.size) X4) := Lib.hid (((Zy.out).on B3.out).on B4.out)
                      have Xz : Hid (CBox (.slice none 0 0) (.slice none 0 0) (.slice none 0 0) (.slice none 0 0) (X0.heap.size) X4) := Lib.hid ((((Zz.out).on B2.out).on B3.out).on B4.out)
                      have F6 := run_StoreC (y0 := .slice aFy c.fs.length cFy) (y1 := .slice aHy c.nh cHy) (y2 := .slice aRy c.fr.length cRy) (y3 := .slice aOy c.od.length cOy) Xy.out rfl rfl rfl rfl
                      have hnn : X0.heap.size ≠ X1.heap.size := by have := hs1.out; have := hs2.out; have := hs3.out; have := hs4.out; omega
                      have X7 : CBox (.slice none 0 0) (.slice none 0 0) (.slice none 0 0) (.slice none 0 0) (X0.heap.size) (X4.setRow (X1.heap.size) #[.slice aFy c.fs.length cFy, .slice aHy c.nh cHy, .slice aRy c.fr.length cRy, .slice aOy c.od.length cOy]) := (setRow_other _ _ _ _ hnn).trans Xz.out
                      have F7 := run_StoreC (y0 := .slice aFz c.fs.length cFz) (y1 := .slice aHz c.nh cHz) (y2 := .slice aRz c.fr.length cRz) (y3 := .slice aOz c.od.length cOz) X7 rfl rfl rfl rfl
                      have G6 : (X4.setRow (X1.heap.size) #[.slice aFy c.fs.length cFy, .slice aHy c.nh cHy, .slice aRy c.fr.length cRy, .slice aOy c.od.length cOy]).cell? ⟨w.heap.size, 0, none⟩ = some (.slice q.aF c.fs.length q.cF) ∧ (X4.setRow (X1.heap.size) #[.slice aFy c.fs.length cFy, .slice aHy c.nh cHy, .slice aRy c.fr.length cRy, .slice aOy c.od.length cOy]).cell? ⟨w.heap.size, 1, none⟩ = some (.slice q.aH c.nh q.cH) ∧ (X4.setRow (X1.heap.size) #[.slice aFy c.fs.length cFy, .slice aHy c.nh cHy, .slice aRy c.fr.length cRy, .slice aOy c.od.length cOy]).cell? ⟨w.heap.size, 2, none⟩ = some (.slice q.aR c.fr.length q.cR) ∧ (X4.setRow (X1.heap.size) #[.slice aFy c.fs.length cFy, .slice aHy c.nh cHy, .slice aRy c.fr.length cRy, .slice aOy c.od.length cOy]).cell? ⟨w.heap.size, 3, none⟩ = some (.slice q.aO c.od.length q.cO) := CdAt.facts (c := c) (q := q) ((setRow_other _ _ _ _ (by have := hs1.out; have := hs2.out; have := hs3.out; have := hs4.out; omega)).trans L4.out.box)
                      have YZ : Hid (Yz c q (X1.heap.size) (X0.heap.size) (⟨gBy, loy, aFy, cFy, aRy, cRy, aOy, cOy, aHy, cHy, essy, valsy, X2, X3⟩ : Cq) (⟨gBz, loz, aFz, cFz, aRz, cRz, aOz, cOz, aHz, cHz, essz, valsz, X3, X4⟩ : Cq) w ((X4.setRow (X1.heap.size) #[.slice aFy c.fs.length cFy, .slice aHy c.nh cHy, .slice aRy c.fr.length cRy, .slice aOy c.od.length cOy]).setRow (X0.heap.size) #[.slice aFz c.fs.length cFz, .slice aHz c.nh cHz, .slice aRz c.fr.length cRz, .slice aOz c.od.length cOz])) := Lib.hid (Yz.make (y := (⟨gBy, loy, aFy, cFy, aRy, cRy, aOy, cOy, aHy, cHy, essy, valsy, X2, X3⟩ : Cq)) (z := (⟨gBz, loz, aFz, cFz, aRz, cRz, aOz, cOz, aHz, cHz, essz, valsz, X3, X4⟩ : Cq)) L4.out Xy.out Xz.out Cy.out Cz.out Ky.out Kz.out (by show _ < _ ∨ _ ≤ _; dsimp only; have := hs1.out; have := hs2.out; have := hs3.out; have := hs4.out; omega) (by show _ < _ ∨ _ ≤ _; dsimp only; have := hs1.out; have := hs2.out; have := hs3.out; have := hs4.out; omega) (by show _ < _ ∨ _ ≤ _; dsimp only; have := hs1.out; have := hs2.out; have := hs3.out; have := hs4.out; omega) (by show _ < _ ∨ _ ≤ _; dsimp only; have := hs1.out; have := hs2.out; have := hs3.out; have := hs4.out; omega) (by have := hs1.out; have := hs2.out; have := hs3.out; have := hs4.out; omega) (by have := hs1.out; have := hs2.out; have := hs3.out; have := hs4.out; omega) (by have := hs1.out; have := hs2.out; have := hs3.out; have := hs4.out; omega) (by show X3.heap.size ≤ X3.heap.size; have := hs1.out; have := hs2.out; have := hs3.out; have := hs4.out; omega) (by show w.heap.size < X3.heap.size; have := hs1.out; have := hs2.out; have := hs3.out; have := hs4.out; omega))
                      refine wpAnyH_ready (rs := [6]) (by kernel_rfl) (by simp) ?_
                      refine AllReadyH.cons (o := ⟨none, _, _, _, _, _⟩) rfl (fun K hK => ?_) AllReadyH.nil
                      go_simp
                      refine hK.out _ _ G6 (fun hHeld => ?_)
                      clear hK K
                      (try simp only [Act.put, List.setIfInBounds_toArray, List.set_cons_zero, List.set_cons_succ])
                      refine wpAnyH_ready (rs := [7]) (by kernel_rfl) (by simp) ?_
                      refine AllReadyH.cons (o := ⟨none, _, _, _, _, _⟩) rfl (fun K hK => ?_) AllReadyH.nil
                      go_simp
                      refine hK.out _ _ YZ.out.lk.box.facts (fun hHeld => ?_)
                      clear hK K
                      (try simp only [Act.put, List.setIfInBounds_toArray, List.set_cons_zero, List.set_cons_succ])
                      refine wpAnyH_done (by kernel_rfl) ?_ _
                      go_wp2_with fail
                      go_meet
                      exact ⟨_, _, _, _, rfl, rfl, YZ⟩
                    exact AllReadyH.nil
                  exact AllReadyH.nil
                exact AllReadyH.nil
              exact AllReadyH.nil
            case rest =>
              obtain ⟨ny, nz, y, z, rfl, rfl, YZ⟩ := hcut
              obtain ⟨gO1, hgO1, _, _⟩ := own_some YZ.out.okY.order hd0
              obtain ⟨gO2, hgO2, _, _⟩ := own_some YZ.out.okZ.order hd0
              obtain ⟨p0, p1, p2, p3⟩ := CBox.facts YZ.out.boxY
              have hcp1 := own_cap YZ.out.okY.order hd0
              have hcp2 := own_cap YZ.out.okZ.order hd0
              have zf1 : wc.frozen? ⟨ny, 3, none⟩ = false := frozen_of_row _ _ _ _ _ YZ.out.boxY
              rw [hgO1] at p3
              have hd1 : (1 : Int) ≤ (c.od.length : Int) := by omega
              have hd2 : (c.od.length : Int) ≤ (y.cO : Int) := by omega
              have hcap1 : (1 : Int) ≤ (y.cO : Int) := by omega
              have hgO1h := Lib.hid hgO1
              have hgO2h := Lib.hid hgO2
              clear hgO1 hgO2 LA X0
              apply_assumption
              go_upto_region 19 with fail
              obtain ⟨aY, haY⟩ : ∃ a : Option Addr, (if y.cO = 1 then some (⟨gO1, 0, none⟩ : Addr) else some ⟨gO1, 1, none⟩) = a := ⟨_, rfl⟩
              rw [haY]
              have haYh := Lib.hid haY
              clear haY
              go_name_world W18 hW18
              have hW := Lib.hid hW18
              clear hW18 p0 p1 p2 p3 zf1 hd1 hd2 hcap1
              have hod60 : c.od.length ≤ 60 := by
                have h1 := count_mem hm.out
                have h2 := countW_le (fun n => memE (c.at n).1) c.N
                have h3 := LT.out.n
                omega
              obtain ⟨x0, hx0⟩ : ∃ x, atI c.od 0 = x := ⟨_, rfl⟩
              have R18 := Lib.hid (YZ.out.reads hd0 hgO2h.out hW.out (Below.refl _ _).drew)
              have R19 := Lib.hid (YZ.out.reads hd0 hgO2h.out hW.out ((box_below W18 (.cells #[.int .i64 x0] 3)).drew))
              have BB := Lib.hid ((box_below W18 (.cells #[.int .i64 x0] 3)).drew)
              have B19 : Hid ((W18.alloc (.cells #[.int .i64 x0] 3)).drew.heap[W18.heap.size]? = some (.cells #[.int .i64 x0] 3 (0, 0))) := Lib.hid Array.getElem?_push_size
              have hap := YZ.out.apart hgO2h.out
              rw [hx0] at R18 R19
              obtain ⟨_, c1, c2, c3, _, _⟩ := R18.out
              obtain ⟨bz9, d1, d2, d3, d4, d5⟩ := R19.out
              have Bz9 := Lib.hid bz9
              have e3 : (W18.alloc (.cells #[.int .i64 x0] 3)).cell? ⟨nz, 3, none⟩ = some (.slice (some ⟨gO2, 0, none⟩) c.od.length z.cO) := d1
              have H9 := Lib.hid d4
              have hid5 := Lib.hid d5
              have hz0 : (0 : Int) < (c.od.length : Int) := by omega
              have hz0n : 0 < c.od.length := by omega
              have hod5 : c.od.length ≤ 100000 := by omega
              have KY := Lib.hid (fun w0 (h0 : CAt (c.copy y.ess c.fr c.od.tail) ⟨y.aF, y.cF, y.aH, y.cH, y.aR, y.cR, aY, y.cO - 1⟩ w0) => (show Calls Try.prog 12 #[.agg #[.slice y.aF c.fs.length y.cF, .slice y.aH c.nh y.cH, .slice y.aR c.fr.length y.cR, .slice aY (c.od.length - 1) (y.cO - 1)]] w0 fun e w' => CheckIs w0 false e w' from by
                have := check_c (c.copy y.ess c.fr c.od.tail) ⟨y.aF, y.cF, y.aH, y.cH, y.aR, y.cR, aY, y.cO - 1⟩ w0 (copy_lt LT.out (copy_as YZ.out.okY.rows c.fr c.od.tail) LT.out.fr (by rw [List.length_tail]; omega)) h0 false (may_order (copy_as YZ.out.okY.rows c.fr c.od.tail) hm.out (by show c.od.tail.length ≠ _; rw [List.length_tail]; omega))
                simp only [cdV, Cd.copy, List.length_tail] at this
                exact this))
              have KZ := Lib.hid (fun w0 a5 c5 (h0 : CAt (c.copy z.ess c.fr (c.od ++ [x0])) ⟨z.aF, z.cF, z.aH, z.cH, z.aR, z.cR, a5, c5⟩ w0) => (show Calls Try.prog 12 #[.agg #[.slice z.aF c.fs.length z.cF, .slice z.aH c.nh z.cH, .slice z.aR c.fr.length z.cR, .slice a5 (c.od.length + 1) c5]] w0 fun e w' => CheckIs w0 false e w' from by
                have := check_c (c.copy z.ess c.fr (c.od ++ [x0])) ⟨z.aF, z.cF, z.aH, z.cH, z.aR, z.cR, a5, c5⟩ w0 (copy_lt LT.out (copy_as YZ.out.okZ.rows c.fr (c.od ++ [x0])) LT.out.fr (by simp; omega)) h0 false (may_order (copy_as YZ.out.okZ.rows c.fr (c.od ++ [x0])) hm.out (by show (c.od ++ [x0]).length ≠ _; simp))
                simp only [cdV, Cd.copy, List.length_append, List.length_cons, List.length_nil, Nat.zero_add] at this
                exact this))
              have hyd := Lib.hid (fun (w5 : World) (hg : (W18.alloc (.cells #[.int .i64 x0] 3)).drew.grownBy w5 (some gO2)) (a5 : Option Addr) (c5 : Nat) (ho : w5.ownsRow z.A.heap.size 3 1 (.slice a5 (c.od ++ [x0]).length c5) (c.od ++ [x0]).length ((c.od ++ [x0]).map (Value.int .i64))) => YZ.out.yd HLO.out hd0 hgO1h.out hgO2h.out (by assumption) (by rw [haYh.out]; exact hW.out) BB.out hg ho)
              clear R18 R19 bz9 d1 d2 d3 d4 d5 hx0 hcp1 hcp2 hd hod60
              go_cut [11] (fun t11 wx => t11 = .pointer (some ⟨nz, 0, none⟩) ∧ ∃ a5 c5, Hid (Yd c y z ny nz gO1 x0 a5 c5 w wx))
              case first => as_aux_lemma =>
                go_region_law (first
                  | (refine step_append_int rfl (.tmp 137) (.tmp 142) rfl z.A.heap.size (.slice (some ⟨gO2, 0, none⟩) c.od.length z.cO) c.od rfl H9.out x0 W18.heap.size rfl B19.out hod5 hid5.out ?_; intro v5 w5 ho5 hg5; obtain ⟨a5, c5, rfl⟩ := own_form ho5; obtain ⟨f5, f6⟩ := Yz.after Bz9.out hg5 hap; have D5 := Lib.hid (hyd.out w5 hg5 a5 c5 ho5); clear ho5 hg5))
                all_goals
                  go_wp2_with fail
                  go_meet
                  exact ⟨rfl, _, _, D5⟩
              case rest =>
                obtain ⟨rfl, a5, c5, D⟩ := hcut
                obtain ⟨b0, b1, b2, b3⟩ := CBox.facts D.out.by_
                rw [haYh.out] at b3
                have CY : Hid (CAt (c.copy y.ess c.fr c.od.tail) ⟨y.aF, y.cF, y.aH, y.cH, y.aR, y.cR, aY, y.cO - 1⟩ wc) := Lib.hid (by have := D.out.cy; rw [haYh.out] at this; exact this)
                apply_assumption
                go_wp2_with (first
                  | (go_at_call 12; (with_reducible refine (KY.out _ CY.out).mono ?_); rintro e' wa ⟨rfl, hb⟩; have DA := Lib.hid (D.out.on hb); clear hb b0 b1 b2 b3; obtain ⟨b0, b1, b2, b3⟩ := CBox.facts DA.out.bz)
                  | (go_at_call 12; (with_reducible refine (KZ.out _ _ _ DA.out.cz).mono ?_); rintro e' wb ⟨rfl, hb⟩; have DB := Lib.hid (DA.out.on hb); clear hb))
                go_ret
                exact ⟨rfl, DB.out.below⟩
end Go.Proofs.Ytcebcmmbokajcaa
