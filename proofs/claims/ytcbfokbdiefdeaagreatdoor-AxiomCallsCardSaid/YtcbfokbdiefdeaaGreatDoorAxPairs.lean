/-
  Proved here: package axiom's pair: the first SC that another hart parts from what its pair reads; nothing that was there is changed. Condition: a view of a light candidate that may be.
  (With it: Proved here: package axiom's parting and pair: who comes between what an SC's pair reads from and the SC; nothing that was there is changed. Condition: a view of a light candidate that may be.)
-/
import Derived.Test.YtcbfokbdiefdeaaGreatDoorAxParts
namespace Go.Proofs.YtcbfokbdiefdeaaGreatDoor
set_option linter.unusedVariables false
set_option linter.unusedSimpArgs false
open Go.RowKit Go.Maps
attribute [local go_sem ↓] fold_E fold_SE fold_SJ
attribute [local irreducible] wpStill

/-- does the one at place i of the order part n from what its pair reads? -/
def amidB (c : Cd) (n i : Nat) : Bool := decide ((c.at (atI c.od i).toNat).1.addr = (c.at n).1.addr) && (decide ((c.at (atI c.od i).toNat).1.hart ≠ (c.at n).1.hart) && writesE (c.at (atI c.od i).toNat).1)
theorem amidF_hit (c : Cd) (n : Nat) : ∀ (j k i : Nat), k ≤ i → i < k + j → amidB c n i = true → (∀ m, k ≤ m → m < i → amidB c n m = false) → amidF c n k j = atI c.od i
  | 0, k, i, h1, h2, _, _ => by omega
  | j + 1, k, i, h1, h2, hb, hn => by
    unfold amidF
    by_cases e : k = i
    · subst e
      unfold amidB at hb
      simp only [Bool.and_eq_true, decide_eq_true_eq] at hb
      rw [if_pos ⟨hb.1, hb.2.1, hb.2.2⟩]
    · have h0 := hn k (Nat.le_refl _) (by omega)
      rw [if_neg (fun hc => by
        unfold amidB at h0
        rw [decide_eq_true hc.1, decide_eq_true hc.2.1, hc.2.2] at h0
        simp at h0)]
      exact amidF_hit c n j (k + 1) i (by omega) (by omega) hb (fun m h3 h4 => hn m (by omega) h4)
theorem amidF_miss (c : Cd) (n : Nat) : ∀ (j k : Nat), (∀ m, k ≤ m → m < k + j → amidB c n m = false) → amidF c n k j = -1
  | 0, k, _ => rfl
  | j + 1, k, hn => by
    unfold amidF
    have h0 := hn k (Nat.le_refl _) (by omega)
    rw [if_neg (fun hc => by
      unfold amidB at h0
      rw [decide_eq_true hc.1, decide_eq_true hc.2.1, hc.2.2] at h0
      simp at h0)]
    exact amidF_miss c n j (k + 1) (fun m h3 h4 => hn m (by omega) (by omega))
structure Ps (c : Cd) (p : Ap) (w W : World) : Prop where
  ax : Ax c p W
  bel : Below w.heap.size w W
theorem Ps.on {c : Cd} {p : Ap} {w W W2 : World} (h : Ps c p w W) (hb : Below W.heap.size W W2) : Ps c p w W2 := ⟨h.ax.on hb, h.bel.trans (hb.mono h.bel.size)⟩
set_option maxRecDepth 100000 in
set_option maxHeartbeats 8000000 in
theorem parting_a (c : Cd) (p : Ap) (w : World) (hL : Lt c) (hm : c.may = true) (h : Ax c p w) (s : Int) (hs : InN c s) (n : Nat) (hn : n < c.N) (hmem : memE (c.at n).1 = true) (v : Int) (hv : partN c s n = v) : Calls Tryz.prog 63 #[.pointer (some ⟨p.g, 0, none⟩), .int .i64 s, .int .i64 (n : Int)] w fun e w' => GivesI w v e w' := by
  obtain ⟨vs, hvs⟩ : ∃ x, plN c s = x := ⟨_, rfl⟩
  obtain ⟨pn, hpn1, hpn2, _⟩ := place_of hm n hn hmem
  have KA := Lib.hid (fun w0 h0 => place_a c p w0 h0 s hs vs hvs)
  have KB := Lib.hid (fun w0 h0 => place_a c p w0 h0 n (InN.at hn) pn hpn2)
  have HV : Hid ((if (pn : Int) ≤ vs then s else amidF c n (vs + 1).toNat ((pn : Int) - (vs + 1)).toNat) = v) := Lib.hid (by rw [← hv]; unfold partN; rw [hvs, hpn2])
  have S0 : Hid (Ps c p w w) := Lib.hid ⟨h, Below.refl _ _⟩
  have ho120 := hL.od
  have hlow : -1 ≤ vs := by
    rw [← hvs]
    rcases hs with rfl | ⟨h1, h2⟩
    · exact Int.le_refl _
    · obtain ⟨k, rfl⟩ : ∃ k : Nat, s = k := ⟨s.toNat, by omega⟩
      cases hmk : memE (c.at k).1 with
      | true => obtain ⟨p2, _, h3, _⟩ := place_of hm k (by omega) hmk; omega
      | false => rw [plN_nat, place_not hm k hmk]; omega
  by_cases hge : (pn : Int) ≤ vs
  · rw [if_pos hge] at HV
    have hge' : vs ≥ (pn : Int) := hge
    clear h hs hmem hv hvs hpn2 hL hm
    go_enter Tryz.func63, Tryz.ntmps63
    go_wp2_with (first
      | (go_at_call 80; (with_reducible refine (KA.out _ S0.out.ax).mono ?_); rintro e' w1 ⟨rfl, hb⟩; have S1 := Lib.hid (S0.out.on hb); clear hb)
      | (go_at_call 80; (with_reducible refine (KB.out _ S1.out.ax).mono ?_); rintro e' w2 ⟨rfl, hb⟩; have S2 := Lib.hid (S1.out.on hb); clear hb))
    go_ret
    exact ⟨by rw [HV.out]; rfl, S2.out.bel⟩
  · rw [if_neg hge] at HV
    obtain ⟨k, hk⟩ : ∃ k : Nat, vs + 1 = k := ⟨(vs + 1).toNat, by omega⟩
    obtain ⟨j, hj⟩ : ∃ j : Nat, (pn : Int) - (vs + 1) = j := ⟨((pn : Int) - (vs + 1)).toNat, by omega⟩
    rw [hj, hk, Int.toNat_natCast, Int.toNat_natCast] at HV
    obtain ⟨b, off, hq, hbl, hcap, hcell⟩ : ∃ b off, p.q.aO = some ⟨b, off, none⟩ ∧ b < w.heap.size ∧ c.od.length ≤ p.q.cO ∧ ∀ j, j < c.od.length → w.cell? ⟨b, off + j, none⟩ = some (.int .i64 (atI c.od j)) := by
      rcases h.ca.order with ⟨_, h0⟩ | ⟨b, off, c2, e, h1, h2, h3, h4⟩
      · rw [h0] at hpn1; simp at hpn1
      · injection e with e1 e2 e3
        exact ⟨b, off, e1, h3, by omega, h4⟩
    have HC := Lib.hid hcell
    have HIN := Lib.hid (may_in hm)
    have F3 : Hid (∀ W, Ps c p w W → W.cell? ⟨p.g, 3, none⟩ = some (.slice (some ⟨b, off, none⟩) c.od.length p.q.cO)) := Lib.hid (fun W hW => by have := hW.ax.six.2.2.2.1; rw [hq] at this; exact this)
    have hng : ¬ (vs ≥ (pn : Int)) := by omega
    have hw1 : IntKind.i64.wrap (vs + 1) = (k : Int) := by rw [IntWalk.i64_in _ (by omega)]; omega
    have hw2 : wrap64 (vs + 1) = (k : Int) := by rw [IntWalk.wrap64_in _ (by omega)]; omega
    have hb1 : (0 : Int) ≤ (k : Int) := by omega
    have hb2 : (k : Int) ≤ (pn : Int) := by omega
    have hb3 : (pn : Int) ≤ (p.q.cO : Int) := by omega
    have hsl : ∀ W : World, (Instr.slice 24 (.slice (some ⟨b, off, none⟩) c.od.length p.q.cO) (some (.int .i64 (k : Int))) (some (.int .i64 (pn : Int))) none).run Tryz.prog W = .ok (.slice (some ⟨b, off + k, none⟩) (pn - k) (p.q.cO - k)) W := fun W => by
      have e1 : ¬ (p.q.cO - k = 0) := by omega
      simp [Instr.slice, run_underlying Tryz.underlying24, Instr.sliceBounds, run_sliceBound, sliced, hb1, hb2, hb3, e1]
      rw [if_neg (by omega), Addr.add_lit]
    have hne : ¬ (p.q.cO = k) := by omega
    have HK := Lib.hid hk
    have HJJ := Lib.hid hj
    have hlt0 : ¬ (vs + 1 = 0 ∧ False) := by simp
    clear h hs hmem hv hvs hpn2 hm hcell hk hj hlt0 hge hlow hcap
    go_enter Tryz.func63, Tryz.ntmps63
    go_upto_region 3 with (first
      | (go_at_call 80; (with_reducible refine (KA.out _ S0.out.ax).mono ?_); rintro e' w1 ⟨rfl, hb⟩; have S1 := Lib.hid (S0.out.on hb); clear hb)
      | (go_at_call 80; (with_reducible refine (KB.out _ S1.out.ax).mono ?_); rintro e' w2 ⟨rfl, hb⟩; have S2 := Lib.hid (S1.out.on hb); clear hb))
    have SD := Lib.hid (S2.out.on (Below.refl _ _).drew)
    go_region_held3 (fun w' => w'.cell? ⟨p.g, 3, none⟩ = some (.slice (some ⟨b, off, none⟩) c.od.length p.q.cO))
      (first | exact F3.out _ S4.out | exact F3.out _ S3.out | exact F3.out _ SD.out)
      (first
      | (go_at_call 80; (with_reducible refine (KA.out _ SD.out.ax).mono ?_); rintro e' w3 ⟨rfl, hb⟩; have S3 := Lib.hid (SD.out.on hb); clear hb)
      | (go_at_call 80; (with_reducible refine (KB.out _ S3.out.ax).mono ?_); rintro e' w4 ⟨rfl, hb⟩; have S4 := Lib.hid (S3.out.on hb); clear hb))
    have hjk : pn - k = j := by have h1 := HK.out; have h2 := HJJ.out; omega
    rw [hjk]
    have hjk2 : k + j = pn := by have h1 := HK.out; have h2 := HJJ.out; omega
    clear hsl hw1 hw2 hng hb2 hb3 hne hjk
    go_wp2
    go_loopw [31] (fun vi wr => ∃ (i : Nat), i ≤ j ∧ vi = .int .i64 i ∧ Hid (∀ m, k ≤ m → m < k + i → amidB c n m = false) ∧ Hid (Ps c p w wr)) (fun vi _ => j - (intOf vi).toNat)
    case atStart => exact ⟨0, Nat.zero_le _, rfl, Lib.hid (fun m h1 h2 => by omega), S4⟩
    case round =>
      clear S4 S3 SD S2 S1
      obtain ⟨i, hi, rfl, hB, hP⟩ := hrel
      by_cases hlt : i < j
      · obtain ⟨i0, i1⟩ := HIN.out (k + i) (by omega)
        obtain ⟨x, hx⟩ : ∃ x : Nat, atI c.od (k + i) = x := ⟨(atI c.od (k + i)).toNat, by omega⟩
        have d0 := (hP.out.bel.cell (p := ⟨b, off + (k + i), none⟩) hbl).trans (HC.out (k + i) (by omega))
        rw [hx] at d0 i1
        rw [← Nat.add_assoc] at d0
        have hxN : x < c.N := by omega
        have hx0 : (0 : Int) ≤ (x : Int) := by omega
        have hn0 : (0 : Int) ≤ (n : Int) := by omega
        have hn1 : (n : Int) < (c.N : Int) := by omega
        have HX := Lib.hid hx
        have HBX : Hid (amidB c n (k + i) = (decide ((c.at x).1.addr = (c.at n).1.addr) && (decide ((c.at x).1.hart ≠ (c.at n).1.hart) && writesE (c.at x).1))) := Lib.hid (by unfold amidB; rw [hx, Int.toNat_natCast])
        have FC : Hid (∀ W, Ps c p w W → W.cell? ⟨p.g, 4, none⟩ = some (.slice (some ⟨p.b, p.off, none⟩) c.N p.cA) ∧ W.cell? ⟨p.b, p.off + x * 14 + 3, none⟩ = some (.int .u64 (c.at x).1.addr) ∧ W.cell? ⟨p.b, p.off + n * 14 + 3, none⟩ = some (.int .u64 (c.at n).1.addr) ∧ W.cell? ⟨p.b, p.off + x * 14, none⟩ = some (.int .i64 (c.at x).1.hart) ∧ W.cell? ⟨p.b, p.off + n * 14, none⟩ = some (.int .i64 (c.at n).1.hart) ∧ (LoadE (.pointer (some ⟨p.b, p.off + x * 14, none⟩))).run Tryz.prog W = .ok (c.at x).1.V W) := Lib.hid (fun W hW => by
          have h4 := hW.ax.six.2.2.2.2.1
          rw [hW.ax.hA (by omega)] at h4
          exact ⟨h4, hW.ax.ev x hxN 3 _ rfl, hW.ax.ev n hn 3 _ rfl, hW.ax.ev x hxN 0 _ rfl, hW.ax.ev n hn 0 _ rfl, (hW.ax.ev x hxN).load⟩)
        obtain ⟨eX, heX⟩ : ∃ e, (c.at x).1 = e := ⟨_, rfl⟩
        obtain ⟨eN, heN⟩ : ∃ e, (c.at n).1 = e := ⟨_, rfl⟩
        rw [heX, heN] at FC HBX
        obtain ⟨r, hr⟩ : ∃ r, Hid (writesE eX = r) := ⟨_, Lib.hid rfl⟩
        have KW := Lib.hid (fun w0 => Writes_b eX r hr.out w0)
        rw [hr.out] at HBX
        have SD := Lib.hid (hP.out.on (Below.refl _ _).drew)
        clear hx heX heN i0
        by_cases ha : eX.addr = eN.addr
        · by_cases hh : eX.hart = eN.hart
          · have hab : (eX.addr == eN.addr) = true := by simpa using ha
            have hhb : (eX.hart != eN.hart) = false := by simpa using hh
            have HN : Hid (∀ m, k ≤ m → m < k + (i + 1) → amidB c n m = false) := Lib.hid (fun m h1 h2 => by
              by_cases e : m = k + i
              · subst e; rw [HBX.out]; simp [ha, hh]
              · exact hB.out m h1 (by omega))
            obtain ⟨g1, g2, g3, g4, g5, g6⟩ := FC.out _ hP.out
            have g7 := (FC.out _ SD.out).2.2.2.2.2
            go_upto_region 6 with fail
            refine wp_region_still_tail 44 (by kernel_rfl) (by kernel_rfl) ?_
            simp only [List.take_succ_cons, List.take_zero, List.drop_succ_cons, List.drop_zero]
            iterate 44 (first | (refine wpStill_skip (by as_aux_lemma => kernel_rfl) ?_; simp only [Act.put, List.setIfInBounds_toArray, List.set_cons_succ, List.set_cons_zero]) | still_step)
            refine wpStill_nil ?_
            change wpList _ _ _ _ _ (World.drew _)
            go_wp2
            go_roundw
            case rel => exact ⟨i + 1, by omega, by go_num, HN, SD⟩
            case measure => simp [intOf]; omega
          · have hab : (eX.addr == eN.addr) = true := by simpa using ha
            have hhb : (eX.hart != eN.hart) = true := by simpa using hh
            cases r with
            | false =>
              have HN : Hid (∀ m, k ≤ m → m < k + (i + 1) → amidB c n m = false) := Lib.hid (fun m h1 h2 => by
                by_cases e : m = k + i
                · subst e; rw [HBX.out]; simp [ha, hh]
                · exact hB.out m h1 (by omega))
              obtain ⟨g1, g2, g3, g4, g5, g6⟩ := FC.out _ hP.out
              have g7 := (FC.out _ SD.out).2.2.2.2.2
              go_upto_region 6 with fail
              refine wp_region_still_tail 44 (by kernel_rfl) (by kernel_rfl) ?_
              simp only [List.take_succ_cons, List.take_zero, List.drop_succ_cons, List.drop_zero]
              iterate 44 (first | (refine wpStill_skip (by as_aux_lemma => kernel_rfl) ?_; simp only [Act.put, List.setIfInBounds_toArray, List.set_cons_succ, List.set_cons_zero]) | still_step)
              refine wpStill_nil ?_
              change wpList _ _ _ _ _ (World.drew _)
              go_wp2_with (first | (go_at_call 81; (with_reducible refine (KW.out _).mono ?_); rintro e' w5 ⟨rfl, hb⟩; have S5 := Lib.hid (SD.out.on hb); clear hb))
              go_roundw
              case rel => exact ⟨i + 1, by omega, by go_num, HN, S5⟩
              case measure => simp [intOf]; omega
            | true =>
              have HV2 : Hid (v = (x : Int)) := Lib.hid (by
                rw [← HV.out, amidF_hit c n j k (k + i) (by omega) (by omega) (by rw [HBX.out]; simp [ha, hh]) (fun m h1 h2 => hB.out m h1 h2), HX.out])
              obtain ⟨g1, g2, g3, g4, g5, g6⟩ := FC.out _ hP.out
              have g7 := (FC.out _ SD.out).2.2.2.2.2
              go_upto_region 6 with fail
              refine wp_region_still_tail 44 (by kernel_rfl) (by kernel_rfl) ?_
              simp only [List.take_succ_cons, List.take_zero, List.drop_succ_cons, List.drop_zero]
              iterate 44 (first | (refine wpStill_skip (by as_aux_lemma => kernel_rfl) ?_; simp only [Act.put, List.setIfInBounds_toArray, List.set_cons_succ, List.set_cons_zero]) | still_step)
              refine wpStill_nil ?_
              change wpList _ _ _ _ _ (World.drew _)
              go_wp2_with (first | (go_at_call 81; (with_reducible refine (KW.out _).mono ?_); rintro e' w5 ⟨rfl, hb⟩; have S5 := Lib.hid (SD.out.on hb); clear hb))
              go_ret
              exact ⟨by rw [HV2.out]; rfl, S5.out.bel⟩
        · have hab : (eX.addr == eN.addr) = false := by simpa using ha
          have HN : Hid (∀ m, k ≤ m → m < k + (i + 1) → amidB c n m = false) := Lib.hid (fun m h1 h2 => by
            by_cases e : m = k + i
            · subst e; rw [HBX.out]; simp [ha]
            · exact hB.out m h1 (by omega))
          obtain ⟨g1, g2, g3, g4, g5, g6⟩ := FC.out _ hP.out
          have g7 := (FC.out _ SD.out).2.2.2.2.2
          go_upto_region 6 with fail
          refine wp_region_still_tail 44 (by kernel_rfl) (by kernel_rfl) ?_
          simp only [List.take_succ_cons, List.take_zero, List.drop_succ_cons, List.drop_zero]
          iterate 44 (first | (refine wpStill_skip (by as_aux_lemma => kernel_rfl) ?_; simp only [Act.put, List.setIfInBounds_toArray, List.set_cons_succ, List.set_cons_zero]) | still_step)
          refine wpStill_nil ?_
          change wpList _ _ _ _ _ (World.drew _)
          go_wp2
          go_roundw
          case rel => exact ⟨i + 1, by omega, by go_num, HN, SD⟩
          case measure => simp [intOf]; omega
      · obtain rfl : i = j := by omega
        have HV2 : Hid (v = -1) := Lib.hid (by rw [← HV.out]; exact amidF_miss c n i k hB.out)
        go_wp2
        go_ret
        exact ⟨by rw [HV2.out]; rfl, hP.out.bel⟩
end Go.Proofs.YtcbfokbdiefdeaaGreatDoor
namespace Go.Proofs.YtcbfokbdiefdeaaGreatDoor
set_option linter.unusedVariables false
set_option linter.unusedSimpArgs false
open Go.RowKit Go.Maps
attribute [local go_sem ↓] fold_E fold_SE fold_SJ
attribute [local irreducible] wpStill

/-- an SC's pair stands ahead of it -/
theorem sc_pair {c : Cd} (hm : c.may = true) (n : Nat) (hn : n < c.N) (h4 : (c.at n).1.kind = 4) : ∃ l j m : Nat, l < n ∧ lrN c n = (l : Int) ∧ (c.at n).1.pos = (j : Int) ∧ (c.at n).1.pair = (m : Int) ∧ m < j ∧ j ≤ n ∧ n - j + m = l := by
  obtain ⟨h, j, hh, hj, en, eat, _, ep, _⟩ := may_num hm n hn
  have hr := all_at _ _ (may_rows hm) h hh
  unfold rowB at hr
  obtain ⟨last, hl⟩ := Option.isSome_iff_exists.1 hr
  rw [eat] at h4
  obtain ⟨m, e1, e2, _⟩ := rowL_sc hl j hj h4
  have e3 : (c.at n).1.pair = (m : Int) := by rw [eat]; exact e1
  exact ⟨n - j + m, j, m, by omega, by unfold lrN; rw [ep, e3]; omega, ep, e3, e2, by omega, rfl⟩
theorem fr_in {c : Cd} (hm : c.may = true) (n : Nat) (hn : n < c.N) : InN c (atI c.fr n) := by
  rw [may_is] at hm
  simp only [Bool.and_eq_true] at hm
  have h1 := hm.2.2.2.2.2.1
  unfold foundB at h1
  rw [Bool.and_eq_true] at h1
  have h2 := all_at _ _ h1.2 n hn
  unfold findB at h2
  by_cases a1 : readsE (c.at n).1 = false
  · rw [if_pos a1] at h2; exact .inl (by simpa using h2)
  · rw [if_neg a1] at h2
    by_cases a2 : atI c.fr n = -1
    · exact .inl a2
    · rw [if_neg a2] at h2
      by_cases a3 : atI c.fr n = n ∨ withinB (atI c.fr n) c.N = false
      · rw [if_pos a3] at h2; cases h2
      · exact .inr (withinB_yes (by
          cases hw : withinB (atI c.fr n) c.N with
          | true => rfl
          | false => exact absurd (.inr hw) a3))
structure Qs (c : Cd) (p : Ap) (w W : World) : Prop where
  ax : Ax c p W
  jb : JBox ⟨false, 0, 0, 0⟩ w.heap.size W
  bel : Below w.heap.size w W
theorem Qs.on {c : Cd} {p : Ap} {w W W2 : World} (h : Qs c p w W) (hb : Below W.heap.size W W2) : Qs c p w W2 := ⟨h.ax.on hb, h.jb.on hb, h.bel.trans (hb.mono h.bel.size)⟩
set_option maxRecDepth 100000 in
set_option maxHeartbeats 8000000 in
theorem pair_a (c : Cd) (p : Ap) (w : World) (hL : Lt c) (hm : c.may = true) (h : Ax c p w) : Calls Tryz.prog 38 #[.pointer (some ⟨p.g, 0, none⟩)] w fun e w' => GivesJ w ((parJ c).getD keptJ) e w' := by
  have KP := Lib.hid (fun s hs n hn hmem v hv w0 h0 => parting_a c p w0 hL hm h0 s hs n hn hmem v hv)
  have HSC := Lib.hid (fun n hn h4 => sc_pair hm n hn h4)
  have HFR := Lib.hid (fun n hn => fr_in hm n hn)
  have hfr := may_fr hm
  have hN := hL.n
  have X1 := Lib.hid (h.on (box_below w (.cells #[.bool false, .int .i64 0, .int .i64 0, .int .i64 0] 37)))
  have J1 := Lib.hid (JBox.new w)
  have B1 := Lib.hid (box_below w (.cells #[.bool false, .int .i64 0, .int .i64 0, .int .i64 0] 37))
  have V1 : Hid (Qs c p w (w.alloc (.cells #[.bool false, .int .i64 0, .int .i64 0, .int .i64 0] 37))) := Lib.hid ⟨X1.out, J1.out, B1.out⟩
  obtain ⟨_, _, _, _, f4, _⟩ := X1.out.six
  clear h hL hm X1 J1 B1
  go_enter Tryz.func38, Tryz.ntmps38
  go_wp2
  clear f4
  go_loopw [12] (fun vi wr => ∃ (k : Nat), k ≤ c.N ∧ vi = .int .i64 k ∧ Hid (∀ j, j < k → parB c j = false) ∧ Hid (Qs c p w wr)) (fun vi _ => c.N - (intOf vi).toNat)
  case atStart => exact ⟨0, Nat.zero_le _, rfl, Lib.hid (fun j hj => by omega), V1⟩
  case round =>
    obtain ⟨k, hk, rfl, hB, hV⟩ := hrel
    by_cases hlt : k < c.N
    · obtain ⟨_, _, f2, _, f4, _⟩ := hV.out.ax.six
      rw [hV.out.ax.hA (by omega)] at f4
      have c2 : _ = some (Value.int .i64 (c.at k).1.kind) := hV.out.ax.ev k hlt 2 _ rfl
      have hk0 : (0 : Int) ≤ (k : Int) := by omega
      have hk1 : (k : Int) < (c.N : Int) := by omega
      by_cases h4 : (c.at k).1.kind = 4
      · obtain ⟨l, j, m, hl1, hl2, hpos, hpair, hm1, hm2, hm3⟩ := HSC.out k hlt h4
        have FC : Hid (∀ W, Qs c p w W → W.cell? ⟨p.b, p.off + k * 14 + 1, none⟩ = some (.int .i64 (j : Int)) ∧ W.cell? ⟨p.b, p.off + k * 14 + 10, none⟩ = some (.int .i64 (m : Int))) := Lib.hid (fun W hW => ⟨by rw [← hpos]; exact hW.ax.ev k hlt 1 _ rfl, by rw [← hpair]; exact hW.ax.ev k hlt 10 _ rfl⟩)
        rw [h4] at c2
        have SD := Lib.hid (hV.out.on (Below.refl _ _).drew)
        have w1 : IntKind.i64.wrap ((k : Int) - (j : Int)) = (k : Int) - (j : Int) := IntWalk.i64_in _ (by omega)
        have w2 : IntKind.i64.wrap ((k : Int) - (j : Int) + (m : Int)) = (l : Int) := by rw [IntWalk.i64_in _ (by omega)]; omega
        have w3 : wrap64 ((k : Int) - (j : Int)) = (k : Int) - (j : Int) := IntWalk.wrap64_in _ (by omega)
        have w4 : wrap64 ((k : Int) - (j : Int) + (m : Int)) = (l : Int) := by rw [IntWalk.wrap64_in _ (by omega)]; omega
        obtain ⟨b, off, hq, hbl, hcell⟩ := SD.out.ax.from_at (by omega)
        have cf := hcell l (by omega)
        obtain ⟨y, hy⟩ : ∃ y, Hid (atI c.fr l = y) := ⟨_, Lib.hid rfl⟩
        rw [hy.out] at cf
        rw [hq] at f2
        have HL2 : Hid ((lrN c k) = (l : Int)) := Lib.hid hl2
        obtain ⟨v, hv⟩ : ∃ v, Hid (partN c y k = v) := ⟨_, Lib.hid rfl⟩
        have KT := Lib.hid (fun w0 h0 => KP.out y (by rw [← hy.out]; exact HFR.out l (by omega)) k hlt (by unfold memE; rw [h4]; decide) v hv.out w0 h0)
        have HPB : Hid (parB c k = decide (v ≠ -1)) := Lib.hid (by unfold parB; rw [h4, HL2.out, Int.toNat_natCast, hy.out, hv.out]; rfl)
        have hl0 : (0 : Int) ≤ (l : Int) := by omega
        have hlf : (l : Int) < (c.fr.length : Int) := by omega
        clear hcell hpos hpair hl2 hm3
        go_upto_region 6 with fail
        go_region_held3 (fun W => W.cell? ⟨p.b, p.off + k * 14 + 1, none⟩ = some (.int .i64 (j : Int)) ∧ W.cell? ⟨p.b, p.off + k * 14 + 10, none⟩ = some (.int .i64 (m : Int))) (exact FC.out _ SD.out) (fail)
        by_cases hv1 : v = -1
        · subst hv1
          have HN : Hid (∀ j, j < k + 1 → parB c j = false) := Lib.hid (fun j hj => by
            by_cases e : j = k
            · subst e; rw [HPB.out]; simp
            · exact hB.out j (by omega))
          go_wp2_with (first | (go_at_call 63; (with_reducible refine (KT.out _ SD.out.ax).mono ?_); rintro e' w5 ⟨rfl, hb⟩; have S5 := Lib.hid (SD.out.on hb); clear hb))
          go_roundw
          case rel => exact ⟨k + 1, by omega, by go_num, HN, S5⟩
          case measure => simp [intOf]; omega
        · have HJ : Hid ((parJ c).getD keptJ = ⟨false, 4, l, v⟩) := Lib.hid (by
            unfold parJ
            rw [find_range hlt (by rw [HPB.out]; simpa using hv1) hB.out]
            show (⟨false, 4, lrN c k, partN c (atI c.fr (lrN c k).toNat) k⟩ : Jd) = _
            rw [HL2.out, Int.toNat_natCast, hy.out, hv.out])
          have KB := Lib.hid (broken_b 4 l v)
          go_wp2_with (first
            | (go_at_call 63; (with_reducible refine (KT.out _ SD.out.ax).mono ?_); rintro e' w5 ⟨rfl, hb⟩; have S5 := Lib.hid (SD.out.on hb); clear hb)
            | (go_at_call 35; (with_reducible refine (KB.out _).mono ?_); rintro e' w6 ⟨rfl, hb⟩; have S6 := Lib.hid (S5.out.on hb); clear hb; obtain ⟨hs, hd⟩ := Dn.broken 4 l v S6.out.jb S6.out.bel; have D6 := Lib.hid hd; clear hd))
          refine bodyPost_ret (judged_end rfl rfl D6.out.jb) rfl ?_
          exact ⟨by rw [HJ.out], D6.out.bel⟩
      · have HN : Hid (∀ j, j < k + 1 → parB c j = false) := Lib.hid (fun j hj => by
          by_cases e : j = k
          · subst e; unfold parB; rw [decide_eq_false h4]; rfl
          · exact hB.out j (by omega))
        go_wp2
        go_roundw
        case rel => exact ⟨k + 1, by omega, by go_num, HN, hV⟩
        case measure => simp [intOf]; omega
    · obtain rfl : k = c.N := by omega
      have HJ : Hid ((parJ c).getD keptJ = keptJ) := Lib.hid (by
        unfold parJ
        rw [find_range_none hB.out]; rfl)
      have KK := Lib.hid kept_b
      go_wp2_with (first | (go_at_call 39; (with_reducible refine (KK.out _).mono ?_); rintro e' w3 ⟨rfl, hb⟩; have V3 := Lib.hid (hV.out.on hb); clear hb; obtain ⟨hs, hd⟩ := Dn.kept V3.out.jb V3.out.bel; have D3 := Lib.hid hd; clear hd))
      refine bodyPost_ret (judged_end rfl rfl D3.out.jb) rfl ?_
      exact ⟨by rw [HJ.out], D3.out.bel⟩
end Go.Proofs.YtcbfokbdiefdeaaGreatDoor
