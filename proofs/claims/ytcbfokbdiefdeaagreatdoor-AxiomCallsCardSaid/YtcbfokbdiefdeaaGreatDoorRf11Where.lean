/-
  Proved here: the document's Source of chapter 11: of any candidate, any number, what ours answers; nothing that was there is changed. Condition: a light candidate whose pairs fit.
-/
import Derived.Test.YtcbfokbdiefdeaaGreatDoorRf11Judge
namespace Go.Proofs.YtcbfokbdiefdeaaGreatDoor
set_option linter.unusedVariables false
set_option linter.unusedSimpArgs false
open Go.RowKit Go.Maps
attribute [local go_sem ↓] fold_E fold_SE
attribute [local irreducible] wpStill

set_option maxRecDepth 100000 in
set_option maxHeartbeats 16000000 in
theorem rSource_any (c : Cd) (q : Cv) (w : World) (hL : Lt c) (hX : ∀ h, h < c.nh → ∀ k, k < c.len h → PairFits (c.ev h k)) (h : CAt c q w) (n r : Int) (hr : sourceW c n = r) : Calls Tryz.prog 19 #[cdV c q, .int .i64 n] w fun e w' => GivesI w r e w' := by
  have S0 := Lib.hid (Lk.start h)
  obtain ⟨u0, u1, u2, u3⟩ := S0.out.box.facts
  cases hm : c.may with
  | false =>
    have KF := Lib.hid (fun w0 h0 => of_no c q w0 hL hX h0 hm)
    obtain rfl : r = -1 := by rw [← hr]; unfold sourceW; rw [if_neg (fun hh => by rw [hm] at hh; simp at hh)]
    clear h hL hX hm hr
    go_enter Tryz.func19, Tryz.ntmps19
    go_wp2_with (go_at_call 44; (with_reducible refine (KF.out _ S0.out.at_).mono ?_); rintro e' w1 ⟨rfl, hb⟩; have S1 := Lib.hid ((S0.out.on hb).on (box_below _ (.cells #[.slice q.aF c.fs.length q.cF, .slice q.aH c.nh q.cH, .slice q.aR c.fr.length q.cR, .slice q.aO c.od.length q.cO, .slice none 0 0] 76))); clear hb u0 u1 u2 u3)
    go_ret
    exact ⟨rfl, S1.out.below⟩
  | true =>
    have KF := Lib.hid (fun w0 h0 => of_yes c q w0 hL hX h0 hm)
    have KL := Lib.hid (fun w0 h0 => rplaces_yes c q w0 hL hX h0 hm)
    have KS := Lib.hid (fun es aA cA base gP w0 h0 hp n hn => rsource_any c q es aA cA base gP w0 hL hm h0 hp n hn)
    have HM := Lib.hid hm
    have hN60 := hL.n
    by_cases h1 : n < 0
    · obtain rfl : r = -1 := by rw [← hr]; unfold sourceW; rw [if_neg (fun hh => by omega)]
      have d1 : decide (n < 0) = true := by simpa using h1
      clear h hL hX hm hr h1 KL KS
      go_enter Tryz.func19, Tryz.ntmps19
      go_wp2_with (go_at_call 44; (with_reducible refine (KF.out _ S0.out.at_).mono ?_); rintro e' w1 ⟨es, aA, cA, base, rfl, hvh, hb⟩; have S2 := Lib.hid ((S0.out.on hb).on (box_below w1 (.cells #[.slice q.aF c.fs.length q.cF, .slice q.aH c.nh q.cH, .slice q.aR c.fr.length q.cR, .slice q.aO c.od.length q.cO, .slice aA c.N cA] 76))); clear hb hvh u0 u1 u2 u3)
      go_ret
      exact ⟨rfl, S2.out.below⟩
    · obtain ⟨k, rfl⟩ : ∃ k : Nat, n = k := ⟨n.toNat, by omega⟩
      have d1 : decide ((k : Int) < 0) = false := by simp
      by_cases h2 : k < c.N
      · have d2 : decide ((k : Int) ≥ (c.N : Int)) = false := by simpa using h2
        have d3 : decide (c.N ≤ k) = false := by simpa using h2
        have hk1 : (k : Int) < (c.N : Int) := by omega
        have hk0 : (0 : Int) ≤ (k : Int) := by omega
        have HR : Hid (srcW c k = r) := Lib.hid (by rw [← hr, sourceW_in hm k h2])
        clear h hL hX hm hr h1
        go_enter Tryz.func19, Tryz.ntmps19
        obtain ⟨rX, hrX⟩ : ∃ b, Hid (readsE (c.at k).1 = b) := ⟨_, Lib.hid rfl⟩
        cases rX with
        | false =>
          obtain rfl : r = -1 := by rw [← HR.out]; exact src_none HM.out k h2 hrX.out
          go_wp2_with (first
            | (go_at_call 44; (with_reducible refine (KF.out _ S0.out.at_).mono ?_); rintro e' w1 ⟨es, aA, cA, base, rfl, hvh, hb⟩; have S1 := Lib.hid (S0.out.on hb); have V1 := Lib.hid hvh; clear hb hvh u0 u1 u2 u3; obtain ⟨gE, cap, ev, _, hra⟩ := V1.out.ra.rall (by omega); injection ev with ev1 ev2 ev3; subst ev1; clear ev2 ev3; obtain ⟨X, hX⟩ : ∃ X, Hid (evAtN es k = X) := ⟨_, Lib.hid rfl⟩; have XL : Hid (∃ x y z, X = (c.at k).1.lists x y z) := Lib.hid (by rw [← hX.out]; exact hra.like k h2); have KRX := Lib.hid (fun w0 => rReads_b X _ (show readsE X = readsE (c.at k).1 by obtain ⟨_, _, _, ex⟩ := XL.out; rw [ex]; rfl) w0); rw [hrX.out] at KRX; have S2 := Lib.hid (S1.out.on (box_below w1 (.cells #[.slice q.aF c.fs.length q.cF, .slice q.aH c.nh q.cH, .slice q.aR c.fr.length q.cR, .slice q.aO c.od.length q.cO, .slice (some ⟨gE, 0, none⟩) c.N cA] 76))); have V2 := Lib.hid (Vr.made V1.out S1.out.below); obtain ⟨y0, y1, y2, y3, y4⟩ := V2.out.facts; have clx : (LoadE (.pointer (some ⟨gE, k * 14, none⟩))).run Tryz.prog (w1.alloc (.cells #[.slice q.aF c.fs.length q.cF, .slice q.aH c.nh q.cH, .slice q.aR c.fr.length q.cR, .slice q.aO c.od.length q.cO, .slice (some ⟨gE, 0, none⟩) c.N cA] 76)) = .ok X.V (w1.alloc (.cells #[.slice q.aF c.fs.length q.cF, .slice q.aH c.nh q.cH, .slice q.aR c.fr.length q.cR, .slice q.aO c.od.length q.cO, .slice (some ⟨gE, 0, none⟩) c.N cA] 76)) := by rw [← hX.out]; exact load0 (hra.on (box_below w1 _)) k h2)
            | (go_at_call 28; (with_reducible refine (KRX.out _).mono ?_); rintro e' w9 ⟨rfl, hb⟩; have S3 := Lib.hid (S2.out.on hb); have V3 := Lib.hid (V2.out.on hb); clear hb clx y0 y1 y2 y3 y4; obtain ⟨y0, y1, y2, y3, y4⟩ := V3.out.facts; obtain ⟨u0, u1, u2, u3⟩ := S3.out.box.facts))
          go_ret
          exact ⟨rfl, S3.out.below⟩
        | true =>
          go_upto_region 4 with (first
            | (go_at_call 44; (with_reducible refine (KF.out _ S0.out.at_).mono ?_); rintro e' w1 ⟨es, aA, cA, base, rfl, hvh, hb⟩; have S1 := Lib.hid (S0.out.on hb); have V1 := Lib.hid hvh; clear hb hvh u0 u1 u2 u3; obtain ⟨gE, cap, ev, _, hra⟩ := V1.out.ra.rall (by omega); injection ev with ev1 ev2 ev3; subst ev1; clear ev2 ev3; obtain ⟨X, hX⟩ : ∃ X, Hid (evAtN es k = X) := ⟨_, Lib.hid rfl⟩; have XL : Hid (∃ x y z, X = (c.at k).1.lists x y z) := Lib.hid (by rw [← hX.out]; exact hra.like k h2); have KRX := Lib.hid (fun w0 => rReads_b X _ (show readsE X = readsE (c.at k).1 by obtain ⟨_, _, _, ex⟩ := XL.out; rw [ex]; rfl) w0); rw [hrX.out] at KRX; have S2 := Lib.hid (S1.out.on (box_below w1 (.cells #[.slice q.aF c.fs.length q.cF, .slice q.aH c.nh q.cH, .slice q.aR c.fr.length q.cR, .slice q.aO c.od.length q.cO, .slice (some ⟨gE, 0, none⟩) c.N cA] 76))); have V2 := Lib.hid (Vr.made V1.out S1.out.below); obtain ⟨y0, y1, y2, y3, y4⟩ := V2.out.facts; have clx : (LoadE (.pointer (some ⟨gE, k * 14, none⟩))).run Tryz.prog (w1.alloc (.cells #[.slice q.aF c.fs.length q.cF, .slice q.aH c.nh q.cH, .slice q.aR c.fr.length q.cR, .slice q.aO c.od.length q.cO, .slice (some ⟨gE, 0, none⟩) c.N cA] 76)) = .ok X.V (w1.alloc (.cells #[.slice q.aF c.fs.length q.cF, .slice q.aH c.nh q.cH, .slice q.aR c.fr.length q.cR, .slice q.aO c.od.length q.cO, .slice (some ⟨gE, 0, none⟩) c.N cA] 76)) := by rw [← hX.out]; exact load0 (hra.on (box_below w1 _)) k h2)
            | (go_at_call 28; (with_reducible refine (KRX.out _).mono ?_); rintro e' w9 ⟨rfl, hb⟩; have S3 := Lib.hid (S2.out.on hb); have V3 := Lib.hid (V2.out.on hb); clear hb clx y0 y1 y2 y3 y4; obtain ⟨y0, y1, y2, y3, y4⟩ := V3.out.facts; obtain ⟨u0, u1, u2, u3⟩ := S3.out.box.facts))
          have HD := Lib.hid (S3.out.on (Below.refl w9.heap.size w9).drew)
          replace V3 := Lib.hid (V3.out.on (Below.refl w9.heap.size w9).drew)
          have HSR : Hid (srcR c k c.N = r) := Lib.hid (by rw [srcR_src HM.out k h2 hrX.out]; exact HR.out)
          have FX : ∀ W, Lk c q w W → Vr c q es (some ⟨gE, 0, none⟩) cA base w1.heap.size w W → W.cell? ⟨w1.heap.size, 0, none⟩ = some (.slice q.aF c.fs.length q.cF) ∧ W.cell? ⟨w1.heap.size, 1, none⟩ = some (.slice q.aH c.nh q.cH) ∧ W.cell? ⟨w1.heap.size, 2, none⟩ = some (.slice q.aR c.fr.length q.cR) ∧ W.cell? ⟨w1.heap.size, 3, none⟩ = some (.slice q.aO c.od.length q.cO) ∧ W.cell? ⟨w1.heap.size, 4, none⟩ = some (.slice (some ⟨gE, 0, none⟩) c.N cA) ∧ W.cell? ⟨w.heap.size, 0, none⟩ = some (.slice q.aF c.fs.length q.cF) ∧ W.cell? ⟨w.heap.size, 1, none⟩ = some (.slice q.aH c.nh q.cH) ∧ W.cell? ⟨w.heap.size, 2, none⟩ = some (.slice q.aR c.fr.length q.cR) ∧ W.cell? ⟨w.heap.size, 3, none⟩ = some (.slice q.aO c.od.length q.cO) := fun W a b => ⟨b.facts.1, b.facts.2.1, b.facts.2.2.1, b.facts.2.2.2.1, b.facts.2.2.2.2, a.box.facts⟩
          refine wp_region_held_drew (S := (fun w9 => w9.cell? ⟨w1.heap.size, 0, none⟩ = some (.slice q.aF c.fs.length q.cF) ∧ w9.cell? ⟨w1.heap.size, 1, none⟩ = some (.slice q.aH c.nh q.cH) ∧ w9.cell? ⟨w1.heap.size, 2, none⟩ = some (.slice q.aR c.fr.length q.cR) ∧ w9.cell? ⟨w1.heap.size, 3, none⟩ = some (.slice q.aO c.od.length q.cO) ∧ w9.cell? ⟨w1.heap.size, 4, none⟩ = some (.slice (some ⟨gE, 0, none⟩) c.N cA) ∧ w9.cell? ⟨w.heap.size, 0, none⟩ = some (.slice q.aF c.fs.length q.cF) ∧ w9.cell? ⟨w.heap.size, 1, none⟩ = some (.slice q.aH c.nh q.cH) ∧ w9.cell? ⟨w.heap.size, 2, none⟩ = some (.slice q.aR c.fr.length q.cR) ∧ w9.cell? ⟨w.heap.size, 3, none⟩ = some (.slice q.aO c.od.length q.cO))) (by kernel_rfl) ?_ (fun hHeld => ?_)
          · exact FX _ HD.out V3.out
          refine wpAnyH_take (i := 0) (oi := ⟨some 34, _, _, _, _, _⟩) (v := ?v0) rfl (by kernel_rfl) (by kernel_rfl) (by kernel_rfl) (fun _ _ _ h => h) (Or.inl ⟨by kernel_rfl, ?h0⟩) (by assumption) ?_
          case h0 => ((intro w hSw; (try dsimp only at hSw); go_simp) <;> (try with_reducible rfl))
          (try simp only [Act.put, List.setIfInBounds_toArray, List.set_cons_zero, List.set_cons_succ])
          refine wpAnyH_take (i := 1) (oi := ⟨some 35, _, _, _, _, _⟩) (v := ?v1) rfl (by kernel_rfl) (by kernel_rfl) (by kernel_rfl) (fun _ _ _ h => h) (Or.inl ⟨by kernel_rfl, ?h1⟩) (by assumption) ?_
          case h1 => ((intro w hSw; (try dsimp only at hSw); go_simp) <;> (try with_reducible rfl))
          (try simp only [Act.put, List.setIfInBounds_toArray, List.set_cons_zero, List.set_cons_succ])
          refine wpAnyH_take (i := 3) (oi := ⟨some 37, _, _, _, _, _⟩) (v := .int .i64 (k : Int)) rfl (by kernel_rfl) (by kernel_rfl) (by kernel_rfl) (fun _ _ _ h => h) (Or.inl ⟨by kernel_rfl, fun w hSw => by ((try dsimp only at hSw); go_simp; done)⟩) (by assumption) ?_
          (try simp only [Act.put, List.setIfInBounds_toArray, List.set_cons_zero, List.set_cons_succ])
          refine wpAnyH_ready (rs := [2]) (by kernel_rfl) (by simp) ?_
          refine AllReadyH.cons (o := ⟨some 36, _, _, _, _, _⟩) rfl (fun K hK => ?_) AllReadyH.nil
          go_simp
          ((go_at_call 24; (with_reducible refine (KL.out _ HD.out.at_).mono ?_); rintro e' w10 ⟨gP, rfl, hg, hI, hb⟩; replace HD := Lib.hid (HD.out.on hb); replace V3 := Lib.hid (V3.out.on hb); have I3 := Lib.hid hI; clear hI hg hb))
          (try go_wp2_with fail)
          refine hK.out _ _ ?_ (fun hHeld => ?_)
          · exact FX _ HD.out V3.out
          clear hK K
          (try simp only [Act.put, List.setIfInBounds_toArray, List.set_cons_zero, List.set_cons_succ])
          refine wpAnyH_ready (rs := [4]) (by kernel_rfl) (by simp) ?_
          refine AllReadyH.cons (o := ⟨some 38, _, _, _, _, _⟩) rfl (fun K hK => ?_) AllReadyH.nil
          go_simp
          ((go_at_call 46; (with_reducible refine (KS.out es (some ⟨gE, 0, none⟩) cA base gP _ V3.out.vh I3.out k h2 r HSR.out).mono ?_); rintro e' w10 ⟨rfl, hb⟩; replace HD := Lib.hid (HD.out.on hb); replace V3 := Lib.hid (V3.out.on hb); clear hb))
          (try go_wp2_with fail)
          refine hK.out _ _ ?_ (fun hHeld => ?_)
          · exact FX _ HD.out V3.out
          clear hK K
          (try simp only [Act.put, List.setIfInBounds_toArray, List.set_cons_zero, List.set_cons_succ])
          refine wpAnyH_take (i := 5) (oi := ⟨some 4, _, _, _, _, _⟩) (v := ?v5) rfl (by kernel_rfl) (by kernel_rfl) (by kernel_rfl) (fun _ _ _ h => h) (Or.inl ⟨by kernel_rfl, ?h5⟩) (by assumption) ?_
          case h5 => ((intro w hSw; (try dsimp only at hSw); go_simp) <;> (try with_reducible rfl))
          (try simp only [Act.put, List.setIfInBounds_toArray, List.set_cons_zero, List.set_cons_succ])
          refine wpAnyH_done (by kernel_rfl) ?_ _
          go_wp2_with fail
          go_ret
          exact ⟨rfl, HD.out.below⟩
      · have d2 : decide ((k : Int) ≥ (c.N : Int)) = true := by simpa using h2
        have d3 : decide (c.N ≤ k) = true := by simp; omega
        obtain rfl : r = -1 := by rw [← hr]; unfold sourceW; rw [if_neg (fun hh => by omega)]
        clear h hL hX hm hr h1 KL KS
        go_enter Tryz.func19, Tryz.ntmps19
        go_wp2_with (go_at_call 44; (with_reducible refine (KF.out _ S0.out.at_).mono ?_); rintro e' w1 ⟨es, aA, cA, base, rfl, hvh, hb⟩; have S2 := Lib.hid ((S0.out.on hb).on (box_below w1 (.cells #[.slice q.aF c.fs.length q.cF, .slice q.aH c.nh q.cH, .slice q.aR c.fr.length q.cR, .slice q.aO c.od.length q.cO, .slice aA c.N cA] 76))); clear hb hvh u0 u1 u2 u3)
        go_ret
        exact ⟨rfl, S2.out.below⟩
end Go.Proofs.YtcbfokbdiefdeaaGreatDoor
