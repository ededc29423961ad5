/-
  Proved here: findWriters lays the last one ahead of each event that writes its address; nothing else that was there is changed. Condition: a view of at most 60 events.
-/
import Derived.Test.YtgkiaeddlahngaaGreatDoorPpSides
namespace Go.Proofs.YtgkiaeddlahngaaGreatDoor
set_option linter.unusedVariables false
set_option linter.unusedSimpArgs false
open Go.RowKit Go.Maps
attribute [local go_sem ↓] fold_E fold_SE
attribute [local irreducible] wpStill

theorem Lt.wordN {c : Cd} (h : Lt c) (n : Nat) (hn : n < c.N) : WordE (c.at n).1 := by
  obtain ⟨k, j, hk, hj, rfl⟩ := num_of c.len c.nh n hn
  rw [c.at_is k j hk hj]
  exact h.ew k hk j hj
/-- one more of what is known, for so many events -/
def layK (f : Nat → Int) (j0 n : Nat) (K : Nat → Nat → Int) : Nat → Nat → Int := fun m j => if j = j0 ∧ m < n then f m else K m j
theorem layK_zero (f : Nat → Int) (j0 : Nat) (K : Nat → Nat → Int) : layK f j0 0 K = K := by funext m j; unfold layK; rw [if_neg (by omega)]
theorem layK_next (f : Nat → Int) (j0 n : Nat) (K : Nat → Nat → Int) (x : Int) (hx : x = f n) : updK (layK f j0 n K) n j0 x = layK f j0 (n + 1) K := by
  funext m j
  unfold updK layK
  by_cases h : m = n ∧ j = j0
  · obtain ⟨rfl, rfl⟩ := h
    rw [if_pos ⟨rfl, rfl⟩, if_pos ⟨rfl, by omega⟩, hx]
  · rw [if_neg h]
    by_cases h2 : j = j0 ∧ m < n
    · rw [if_pos h2, if_pos ⟨h2.1, by omega⟩]
    · rw [if_neg h2, if_neg (by omega)]
/-- the last of the first n that writes somewhere, if any does -/
def wrO (c : Cd) (x : Int) : Nat → Option Int
  | 0 => none
  | n + 1 => if writesE (c.at n).1 = true ∧ (c.at n).1.addr = x then some (n : Int) else wrO c x n
theorem wrO_is (c : Cd) (x : Int) : ∀ n, (wrO c x n).getD 0 = ((wrL c x n : Nat) : Int)
  | 0 => rfl
  | n + 1 => by
    unfold wrO wrL
    split
    · rfl
    · exact wrO_is c x n
/-! ### maps of numbers by address -/
abbrev OMi (b n : Nat) (D : DataW Unit) (w : World) : Prop := w.ownsMap Tryz.prog 44 (plainElem (H := Unit) Tryz.prog 3) b n D
theorem zero_i64 (w : World) : (zeroValue 3).run Tryz.prog w = .ok (.int .i64 0) w := by kernel_rfl
theorem OMi.on {b n : Nat} {D : DataW Unit} {w w' : World} (h : OMi b n D w) (hb : Below w.heap.size w w') : OMi b n D w' := by
  obtain ⟨es, clock, h1, h2⟩ := h
  exact ⟨es, clock, (hb.block b (Array.getElem?_eq_some_iff.1 h1).1).trans h1, h2⟩
theorem OMi.lt {b n : Nat} {D : DataW Unit} {w : World} (h : OMi b n D w) : b < w.heap.size := by
  obtain ⟨es, clock, h1, h2⟩ := h
  exact (Array.getElem?_eq_some_iff.1 h1).1
theorem OMi.keep {b n : Nat} {D : DataW Unit} {w w' : World} (h : OMi b n D w) (hb : w'.heap[b]? = w.heap[b]?) : OMi b n D w' := by
  obtain ⟨es, clock, h1, h2⟩ := h
  exact ⟨es, clock, hb.trans h1, h2⟩
theorem OMi.more {b n : Nat} {D : DataW Unit} {w : World} (h : OMi b n D w) : OMi b (n + 1) D w := by
  obtain ⟨es, clock, h1, h2, h3, h4⟩ := h
  exact ⟨es, clock, h1, h2, by omega, h4⟩
structure MetI (f : Int → Option Int) (D : DataW Unit) : Prop where
  map : IsMap D
  at_ : ∀ x v, f x = some v → ∀ zd, D.atKey (.int .u64 x) zd = .lit (.int .i64 v)
  no : ∀ x, f x = none → ∀ zd, D.atKey (.int .u64 x) zd = zd
theorem MetI.start : MetI (fun _ => none) (.map []) := ⟨⟨_, rfl⟩, (fun _ _ h => by cases h), fun _ _ _ => rfl⟩
theorem MetI.put {f : Int → Option Int} {D : DataW Unit} (h : MetI f D) (a v : Int) : MetI (fun x => if a = x then some v else f x) (D.put (.int .u64 a) (.lit (.int .i64 v))) := by
  refine ⟨?_, fun x u hx zd => ?_, fun x hx zd => ?_⟩
  · obtain ⟨l, rfl⟩ := h.map
    exact ⟨_, rfl⟩
  · by_cases ha : a = x
    · subst ha
      rw [if_pos rfl] at hx
      cases hx
      exact atKey_put_same h.map (by unfold WideAt.IsKeyLit; trivial) _ _
    · rw [if_neg ha] at hx
      rw [atKey_put_other (by simpa using fun e => ha e.symm)]
      exact h.at_ x u hx zd
  · by_cases ha : a = x
    · rw [if_pos ha] at hx; cases hx
    · rw [if_neg ha] at hx
      rw [atKey_put_other (by simpa using fun e => ha e.symm)]
      exact h.no x hx zd
theorem MetI.ext {f f2 : Int → Option Int} {D : DataW Unit} (h : MetI f D) (he : ∀ x, f x = f2 x) : MetI f2 D := by
  obtain rfl : f = f2 := funext he
  exact h
theorem look_int {M n : Nat} {D : DataW Unit} {f : Int → Option Int} {x : Int} {w : World} (h : OMi M n D w) (hM : MetI f D) (hwx : (Lit.int .u64 x).wf = true) : (Instr.lookup 101 (.map (some M)) (.int .u64 x) false).run Tryz.prog w = .ok (.int .i64 ((f x).getD 0)) w := by
  obtain ⟨cc, hrun, hat, _⟩ := World.ownsMap.lookup_int h law_u64 Tryz.underlying101 Tryz.underlying3 (zero_i64 _) (keyOf_int_mk Tryz.underlying44 hwx)
  cases hf : f x with
  | some y =>
    rw [hM.at_ x y hf] at hat
    have h3 : y = cc := congrArg (fun d : DataW Unit => match d with | .lit (.int _ z) => z | _ => 0) hat
    rw [Option.getD_some, h3]
    exact hrun
  | none =>
    rw [hM.no x hf] at hat
    have h3 : 0 = cc := congrArg (fun d : DataW Unit => match d with | .lit (.int _ z) => z | _ => 0) hat
    rw [Option.getD_none, h3]
    exact hrun
theorem Vw.put {c : Cd} {K : Nat → Nat → Int} {p : Vp} {w w2 : World} {M : Nat} (h : Vw c K p w) (hg : w.grownBy w2 (some M)) (h1 : M ≠ p.g) (h2 : M ≠ p.gk) (h3 : p.W0.heap.size ≤ M) : Vw c K p w2 :=
  ⟨(hg.block _ (Array.getElem?_eq_some_iff.1 h.box).1 (by simp; omega)).trans h.box, (hg.block _ (Array.getElem?_eq_some_iff.1 h.kn).1 (by simp; omega)).trans h.kn, h.bel.grown hg h.bel.size (fun k hk => by cases hk; exact h3), h.hk, h.hg, h.ne, h.hA, h.ev0, h.rd0, h.lt0, h.fr0⟩
def wrF (c : Cd) (n : Nat) : Int := ((wrL c (c.at n).1.addr n : Nat) : Int)
set_option maxRecDepth 100000 in
set_option maxHeartbeats 8000000 in
theorem findWriters_v (c : Cd) (p : Vp) (w : World) (h : Vw c (sidesK c c.N) p w) (hL : Lt c) : Calls Tryz.prog 57 #[.pointer (some ⟨p.g, 0, none⟩)] w fun e w' => VwIs c (layK (wrF c) 1 c.N (sidesK c c.N)) p e w' := by
  have hN := hL.n
  have HW := Lib.hid (fun n hn => hL.wordN n hn)
  rw [← layK_zero (wrF c) 1 (sidesK c c.N)] at h
  have hM1 := (Array.getElem?_eq_some_iff.1 h.box).1
  have hM2 := (Array.getElem?_eq_some_iff.1 h.kn).1
  have hMb := h.bel.size
  have H := Lib.hid (h.on (box_below w (.map #[] 0)))
  have hmm := @run_makeMap Tryz.prog
  clear h hL
  obtain ⟨b0, b1, b2⟩ := H.out.three
  go_enter Tryz.func57, Tryz.ntmps57
  go_wp2
  clear b0 b1 b2 hmm
  have HH0 := Lib.hid hM1
  have HH1 := Lib.hid hM2
  have HH2 := Lib.hid hMb
  clear hM1 hM2 hMb
  go_loopw [11] (fun vi wr => ∃ (n : Nat) (D : DataW Unit), n ≤ c.N ∧ vi = .int .i64 n ∧ Hid (MetI (fun x => wrO c x n) D) ∧ Hid (OMi w.heap.size n D wr) ∧ Hid (Vw c (layK (wrF c) 1 n (sidesK c c.N)) p wr)) (fun vi _ => c.N - (intOf vi).toNat)
  case atStart => exact ⟨0, _, Nat.zero_le _, rfl, Lib.hid (MetI.start.ext (fun _ => rfl)), Lib.hid (World.ownsMap_made _ _ _ _), H⟩
  case round =>
    obtain ⟨n, D, hn, rfl, hM, hO, HV⟩ := hrel
    by_cases hlt : n < c.N
    · have hAA := HV.out.hA (by omega)
      have V0 := Lib.hid (HV.out.on (Below.refl _ _).drew)
      obtain ⟨b0, b1, b2⟩ := HV.out.three
      rw [hAA] at b0
      have hwd := Lib.hid (HW.out n hlt).1
      have HF : Hid (wrF c n = (wrO c (c.at n).1.addr n).getD 0) := Lib.hid (by unfold wrF; exact (wrO_is c _ n).symm)
      have HNX : Hid (∀ x, wrO c x (n + 1) = if writesE (c.at n).1 = true ∧ (c.at n).1.addr = x then some (n : Int) else wrO c x n) := Lib.hid (fun x => rfl)
      have ca := HV.out.ev n hlt 3 _ rfl
      obtain ⟨x, hx⟩ : ∃ x, Hid ((c.at n).1.addr = x) := ⟨_, Lib.hid rfl⟩
      rw [hx.out] at ca hwd HF HNX
      have n0 : (0 : Int) ≤ (n : Int) := by omega
      have n1 : (n : Int) < (c.N : Int) := by omega
      have k1 := HV.out.k n 1 hlt (by omega)
      have z1 := HV.out.free (n * 7 + 1)
      obtain ⟨r, hr⟩ : ∃ r, Hid (writesE (c.at n).1 = r) := ⟨_, Lib.hid rfl⟩
      rw [hr.out] at HNX
      have hlk := look_int (hO.out.on (Below.refl _ _).drew) hM.out hwd.out
      obtain ⟨v, hv⟩ : ∃ v, Hid ((wrO c x n).getD 0 = v) := ⟨_, Lib.hid rfl⟩
      rw [hv.out] at hlk HF
      have hs0 : Hid (layK (wrF c) 1 (n + 1) (sidesK c c.N) n 0 = ((sideE (c.at n).1 : Nat) : Int)) := Lib.hid (by unfold layK sidesK; rw [if_neg (by omega), if_pos ⟨rfl, hlt⟩])
      have KW := Lib.hid (fun w0 h0 => writes_v c (layK (wrF c) 1 (n + 1) (sidesK c c.N)) p w0 h0 n hlt hs0.out r hr.out)
      have V1 : Hid (Vw c (layK (wrF c) 1 (n + 1) (sidesK c c.N)) p (wr.setCell ⟨p.gk, n * 7 + 1, none⟩ (.int .i64 v)).drew) := Lib.hid (by have := HV.out.set n 1 hlt (by omega) v; rw [layK_next (wrF c) 1 n _ v HF.out.symm] at this; exact this.on (Below.refl _ _).drew)
      have O1 : Hid (OMi w.heap.size n D (wr.setCell ⟨p.gk, n * 7 + 1, none⟩ (.int .i64 v)).drew) := Lib.hid ((hO.out.keep (Below.heap_setCell wr ⟨p.gk, n * 7 + 1, none⟩ _ _ (by have := HH1.out; show w.heap.size ≠ p.gk; omega))).on (Below.refl _ _).drew)
      rw [hAA]
      clear hAA
      go_upto_region 5 with fail
      refine wp_region_still_tail 10 (by kernel_rfl) (by kernel_rfl) ?_
      simp only [List.take_succ_cons, List.take_zero, List.drop_succ_cons, List.drop_zero]
      iterate 7 still_step
      refine wpStill_lookup (.tmp 27) (.tmp 28) _ _ _ (by as_aux_lemma => kernel_rfl) rfl rfl rfl hlk ?_
      simp only [Act.put, List.setIfInBounds_toArray, List.set_cons_succ, List.set_cons_zero]
      iterate 2 still_step
      refine wpStill_nil ?_
      change wpList _ _ _ _ _ (World.drew _)
      have k1d : wr.drew.cell? ⟨p.gk, n * 7 + 1, none⟩ = some (.int .i64 (layK (wrF c) 1 n (sidesK c c.N) n 1)) := k1
      have z1d : wr.drew.frozen? ⟨p.gk, n * 7 + 1, none⟩ = false := z1
      have hwn : (Lit.int .i64 (n : Int)).wf = true := WalkArith.wf_i64 (by omega)
      have hn60 : n < maxLen := by unfold maxLen; omega
      cases r with
      | false =>
        go_wp2_with (go_at_call 86; (with_reducible refine (KW.out _ V1.out).mono ?_); rintro e' w2 ⟨rfl, hb⟩; have V2 := Lib.hid (V1.out.on hb); have O2 := Lib.hid (O1.out.on hb); clear hb b0 b1 b2 k1 z1 k1d z1d ca)
        go_roundw
        case rel => exact ⟨n + 1, D, by omega, by go_num, Lib.hid (hM.out.ext (fun y => by rw [HNX.out y, if_neg (by simp)])), Lib.hid O2.out.more, V2⟩
        case measure => simp [intOf]; omega
      | true =>
        go_wp2_with (first
          | (go_at_call 86; (with_reducible refine (KW.out _ V1.out).mono ?_); rintro e' w2 ⟨rfl, hb⟩; have V2 := Lib.hid (V1.out.on hb); have O2 := Lib.hid (O1.out.on hb); clear hb b0 b1 b2 k1 z1 k1d z1d ca)
          | (at_mapUpdate; refine wpList_mapUpdate_own _ rfl _ _ _ 101 rfl 44 3 law_u64 Tryz.underlying101 _ w.heap.size n _ rfl O2.out hn60 _ _ _ rfl rfl (keyOf_int_mk Tryz.underlying44 hwd.out) _ [] (plainElem_int Tryz.underlying3 hwn) ?_; intro w8 hown1 hgrow1; have O8 := Lib.hid hown1; have V8 := Lib.hid (V2.out.put hgrow1 (by have := HH0.out; omega) (by have := HH1.out; omega) HH2.out); clear hown1 hgrow1))
        go_roundw
        case rel => exact ⟨n + 1, _, by omega, by go_num, Lib.hid ((hM.out.put x n).ext (fun y => by rw [HNX.out y]; simp)), O8, V8⟩
        case measure => simp [intOf]; omega
    · obtain rfl : n = c.N := by omega
      go_wp2
      exact bodyPost_ret (v := .tuple #[]) (by simp [results, Tryz.results57]) rfl ⟨rfl, HV.out⟩
end Go.Proofs.YtgkiaeddlahngaaGreatDoor
