/-
  Proved here: the law TaintJoins answers true of any three lists; nothing that was there is changed. Condition: numbers of 64 bits.
-/
import Derived.Test.YtmdaleokhekdeaaTaintRises
import Derived.Maps.OwnOps
import Derived.Maps.OwnSet
import Derived.Deep.DeepCutAuto
namespace Go.Proofs.Ytmdaleokhekdeaa
open Go.RowKit Go.Maps

theorem law_int : Keyed Try.prog 3 := int_keyed Try.underlying3
theorem zero_int (w : World) : (zeroValue 3).run Try.prog w = .ok (.int .i64 0) w := by kernel_rfl
theorem hasD_snoc_is {H : Type} (xs : List Int) (x : Int) : hasD (H := H) (xs ++ [x]) = (hasD xs).put (.int .i64 x) (.lit (.int .i64 1)) := (hasD_put xs x).symm
theorem hasD_map {H : Type} (xs : List Int) : IsMap (hasD (H := H) xs) := (tidy_setOf _ _ (fun x hx => by unfold lits at hx; obtain ⟨a, _, rfl⟩ := List.mem_map.1 hx; trivial)).isMap
theorem hasD_at {H : Type} (xs : List Int) (z : Int) (d : DataW H) : z ∈ xs → (hasD xs).atKey (.int .i64 z) d = .lit (.int .i64 1) := by
  have key : ∀ n, ∀ xs : List Int, xs.length = n → z ∈ xs → (hasD xs).atKey (.int .i64 z) d = .lit (.int .i64 1) := by
    intro n
    induction n with
    | zero => intro xs h hz; rw [List.length_eq_zero_iff.1 h] at hz; simp at hz
    | succ n ih =>
      intro xs h hz
      rcases List.eq_nil_or_concat xs with rfl | ⟨ys, y, rfl⟩
      · simp at hz
      · rw [List.concat_eq_append] at *
        rw [hasD_snoc_is]
        by_cases e : z = y
        · subst e; exact atKey_put_same (hasD_map ys) (k := .int .i64 z) trivial _ _
        · rw [atKey_put_other (by simpa using e)]
          refine ih ys (by simp at h; omega) ?_
          rcases List.mem_append.1 hz with h1 | h1
          · exact h1
          · simp at h1; exact absurd h1 e
  exact key xs.length xs rfl
theorem hasD_size {H : Type} (a b : List Int) (ha : rises a = true) (hb : rises b = true) : Maps.size (hasD (H := H) (a ++ b)) = (mergeL a b).length := by
  unfold hasD
  rw [size_setOf _ _ (fun x hx => by unfold lits at hx; obtain ⟨a, _, rfl⟩ := List.mem_map.1 hx; trivial)]
  have := fold_add (a ++ b) []
  rw [show lits [] = [] from rfl] at this
  rw [this]
  unfold lits
  rw [List.length_map, count_join a b ha hb]
theorem ReadsI.spot {w : World} {a0 : Option Addr} {n c k : Nat} {zs : List Int} (h : ReadsI w (.slice a0 n c) zs) (hk : k < zs.length) : ∃ b off, a0 = some ⟨b, off, none⟩ ∧ b < w.heap.size ∧ w.cell? ⟨b, off + k, none⟩ = some (.int .i64 (atI zs k)) := by
  rcases h with ⟨e, rfl⟩ | ⟨b, off, c', e, _, _, h3, h4⟩
  · simp at hk
  · simp only [Value.slice.injEq] at e
    exact ⟨b, off, e.1, h3, h4 k hk⟩
theorem rise_any (v : Value) (zs : List Int) (w : World) (h : ReadsI w v zs) (hlen : zs.length ≤ 1000) (hf : ∀ j, j < zs.length → -9223372036854775808 ≤ atI zs j ∧ atI zs j ≤ 9223372036854775807) : Calls Try.prog 28 #[v] w fun e w' => Merged w (riseL zs) e w' := by
  rcases h with ⟨rfl, rfl⟩ | ⟨b, off, c, rfl, _, _, h3, h4⟩
  · go_enter Try.func28, Try.ntmps28
    go_wp2
    refine wp_loop_rounds 1 ?_
    rw [rounds_succ]
    go_wp2
    go_ret
    exact ⟨_, rfl, ReadsN.nil _ _, Below.refl _ _⟩
  · exact rise_some zs b off c w hlen h3 h4 hf
theorem join_up (va vb : Value) (a b : List Int) (w : World) (ha : ReadsI w va a) (hb : ReadsI w vb b) (la : rises a = true) (lb : rises b = true) (na : a.length ≤ 1000) (nb : b.length ≤ 1000) : Calls Try.prog 14 #[va, vb] w fun e w' => Merged w (mergeL a b) e w' := by
  have := Join_any va vb a b w ha hb (by omega)
  have e : joinL a b = mergeL a b := by unfold joinL; rw [la, lb]; rfl
  rw [e] at this
  exact this
theorem atI_mem (l : List Int) (k : Nat) (hk : k < l.length) : atI l k ∈ l := by
  unfold atI
  rw [List.getD_eq_getElem?_getD, List.getElem?_eq_getElem hk]
  exact List.getElem_mem hk
theorem take_at (l : List Int) (k : Nat) (hk : k < l.length) : l.take (k + 1) = l.take k ++ [atI l k] := by
  rw [List.take_succ_eq_append_getElem hk]
  unfold atI
  rw [List.getD_eq_getElem?_getD, List.getElem?_eq_getElem hk]
  rfl
/-- a slice of which rising tells so, in whatever world behind -/
def RiseIn (w : World) (v : Value) (l : List Int) : Prop := ∀ w0, Below w.heap.size w w0 → Calls Try.prog 28 #[v] w0 fun e w' => Merged w0 (riseL l) e w'
theorem rise_zero (a : Option Addr) (c : Nat) (w : World) : RiseIn w (.slice a 0 c) [] := by
  intro w _
  go_enter Try.func28, Try.ntmps28
  go_wp2
  refine wp_loop_rounds 1 ?_
  rw [rounds_succ]
  go_wp2
  go_ret
  exact ⟨_, rfl, ReadsN.nil _ _, Below.refl _ _⟩
def FitI (l : List Int) : Prop := ∀ j, j < l.length → -9223372036854775808 ≤ atI l j ∧ atI l j ≤ 9223372036854775807
/-- four lists that are held on to -/
structure Four (va vb vc vx : Value) (A B C X : List Int) (w : World) : Prop where
  a : ReadsI w va A
  b : ReadsI w vb B
  c : ReadsI w vc C
  x : ReadsI w vx X
theorem Four.on {va vb vc vx : Value} {A B C X : List Int} {w w' : World} (h : Four va vb vc vx A B C X w) (hb : Below w.heap.size w w') : Four va vb vc vx A B C X w' := ⟨h.a.below hb, h.b.below hb, h.c.below hb, h.x.below hb⟩
set_option maxRecDepth 100000 in
set_option maxHeartbeats 8000000 in
theorem joins_short (a0 b0 c0 : Option Addr) (ca cb cc : Nat) (a b c : List Int) (w : World) (ha : RiseIn w (.slice a0 a.length ca) a) (hb : RiseIn w (.slice b0 b.length cb) b) (hc : RiseIn w (.slice c0 c.length cc) c)
    (na : a.length ≤ 60) (nb : b.length ≤ 60) (nc : c.length ≤ 60) :
    Calls Try.prog 6 #[.slice a0 a.length ca, .slice b0 b.length cb, .slice c0 c.length cc] w fun e w' => SameOk w true e w' := by
  have hmm := @run_makeMap Try.prog
  have HA := Lib.hid ha
  have HB := Lib.hid hb
  have HC := Lib.hid hc
  have la := Lib.hid (riseL_low a)
  have lb := Lib.hid (riseL_low b)
  have lc := Lib.hid (riseL_low c)
  have ra := riseL_len a
  have rb := riseL_len b
  have rc := riseL_len c
  obtain ⟨A, hA⟩ : ∃ A, Hid (riseL a = A) := ⟨_, Lib.hid rfl⟩
  obtain ⟨B, hB⟩ : ∃ B, Hid (riseL b = B) := ⟨_, Lib.hid rfl⟩
  obtain ⟨C, hC⟩ : ∃ C, Hid (riseL c = C) := ⟨_, Lib.hid rfl⟩
  unfold RiseIn at HA HB HC
  rw [hA.out] at HA la ra
  rw [hB.out] at HB lb rb
  rw [hC.out] at HC lc rc
  have nA : A.length ≤ 60 := by omega
  have nB : B.length ≤ 60 := by omega
  have nC : C.length ≤ 60 := by omega
  clear ha hb hc ra rb rc hA hB hC
  go_enter Try.func6, Try.ntmps6
  go_upto_region 7 with (first
    | (go_at_call 11; (with_reducible refine (lives_any _).mono ?_); rintro e w1 ⟨rfl, h⟩; have M1 := Lib.hid h; clear h)
    | (go_at_call 28; (with_reducible refine (HA.out w1 M1.out).mono ?_); rintro e w2 ⟨v2, rfl, hv, h⟩; clear HA; have VA := Lib.hid hv.1; have M2 := Lib.hid (M1.out.trans (h.mono M1.out.size)); clear h hv)
    | (go_at_call 28; (with_reducible refine (HB.out w2 M2.out).mono ?_); rintro e w3 ⟨v3, rfl, hv, h⟩; clear HB; have VB := Lib.hid hv.1; have VA3 := Lib.hid (VA.out.below h); have M3 := Lib.hid (M2.out.trans (h.mono M2.out.size)); clear h hv VA)
    | (go_at_call 28; (with_reducible refine (HC.out w3 M3.out).mono ?_); rintro e w4 ⟨v4, rfl, hv, h⟩; clear HC; have VC := Lib.hid hv.1; have VA4 := Lib.hid (VA3.out.below h); have VB4 := Lib.hid (VB.out.below h); have M4 := Lib.hid (M3.out.trans (h.mono M3.out.size)); clear h hv VA3 VB)
    | (go_at_call 27; (with_reducible refine (own_any _ A w4 VA4.out (by omega)).mono ?_); rintro e w5 ⟨v5, rfl, hv, h⟩; have VX := Lib.hid hv.1; have VA5 := Lib.hid (VA4.out.below h); have VB5 := Lib.hid (VB4.out.below h); have VC5 := Lib.hid (VC.out.below h); have M5 := Lib.hid (M4.out.trans (h.mono M4.out.size)); clear h hv VA4 VB4 VC)
    | (go_at_call 27; (with_reducible refine (own_any _ B w5 VB5.out (by omega)).mono ?_); rintro e w6 ⟨v6, rfl, hv, h⟩; have VY := Lib.hid hv.1; have VX6 := Lib.hid (VX.out.below h); have VA6 := Lib.hid (VA5.out.below h); have VB6 := Lib.hid (VB5.out.below h); have VC6 := Lib.hid (VC5.out.below h); have M6 := Lib.hid (M5.out.trans (h.mono M5.out.size)); clear h hv VA5 VB5 VC5 VX)
    | (go_at_call 14; (with_reducible refine (join_up _ _ A B w6 VX6.out VY.out la.out.up lb.out.up (by omega) (by omega)).mono ?_); rintro e w7 ⟨v7, rfl, hv, h⟩; have F7 := Lib.hid (Four.mk (VA6.out.below h) (VB6.out.below h) (VC6.out.below h) hv.1); have M7 := Lib.hid (M6.out.trans (h.mono M6.out.size)); clear h hv VA6 VB6 VC6 VX6 VY))
  obtain ⟨a1, c1, rfl⟩ := F7.out.a.len
  obtain ⟨a2, c2, rfl⟩ := F7.out.b.len
  obtain ⟨a3, c3, rfl⟩ := F7.out.c.len
  obtain ⟨a4, c4, rfl⟩ := F7.out.x.len
  have hxl : (mergeL A B).length ≤ 120 := by have := mergeL_length A B; omega
  have HXup := Lib.hid (rises_mergeL A B la.out.up lb.out.up)
  have HXmem := Lib.hid (fun z => (mem_mergeL A B z).1)
  have HXsz := Lib.hid (hasD_size (H := Unit) A B la.out.up lb.out.up)
  have HJ1 := Lib.hid (mergeL_comm B A lb.out.up la.out.up)
  have HJ2 := Lib.hid (mergeL_assoc A B C la.out.up lb.out.up lc.out.up)
  have HJ3 := Lib.hid (mergeL_self A la.out.up)
  have HJ4 := Lib.hid (mergeL_nil_r A)
  obtain ⟨X, hX⟩ : ∃ X, Hid (mergeL A B = X) := ⟨_, Lib.hid rfl⟩
  rw [hX.out] at F7 hxl HXup HXmem HXsz HJ1 HJ2
  rw [hX.out]
  have hw1 : (Lit.int .i64 1).wf = true := by decide
  go_wp2
  go_loopw [9] (fun i wr => ∃ k : Nat, k ≤ A.length ∧ i = .int .i64 k ∧ wr.ownsMap Try.prog 3 (plainElem (H := Unit) Try.prog 3) w7.heap.size k (hasD (A.take k)) ∧ Below w7.heap.size w7 wr) (fun i _ => A.length - (intOf i).toNat)
  case atStart => exact ⟨0, Nat.zero_le _, rfl, World.ownsMap_made _ _ _ _, box_below _ _⟩
  case round =>
    obtain ⟨k, hk, rfl, hown, hbel⟩ := hrel
    have HO := Lib.hid hown
    have HL := Lib.hid hbel
    clear hown hbel
    by_cases hlt : k < A.length
    · obtain ⟨b, off, rfl, hb, hcell⟩ := (F7.out.a.below HL.out).spot hlt
      have hwf : (Lit.int .i64 (atI A k)).wf = true := by
        have := la.out.lt _ (atI_mem A k hlt)
        exact WalkArith.wf_i64 (by omega)
      have HS : Hid (hasD (H := Unit) (A.take (k + 1)) = (hasD (A.take k)).put (.int .i64 (atI A k)) (.lit (.int .i64 1))) := Lib.hid (by rw [take_at A k hlt, hasD_snoc_is])
      have hi0 : (0 : Int) ≤ (k : Int) := by omega
      go_wp2_with (at_mapUpdate; refine wpList_mapUpdate_own _ rfl _ _ _ 53 rfl 3 3 law_int Try.underlying53 _ w7.heap.size k _ rfl HO.out (by unfold maxLen; omega) _ _ _ rfl rfl (keyOf_int_mk Try.underlying3 hwf) _ [] (plainElem_int Try.underlying3 hw1) ?_; intro w8 hown1 hgrow1)
      have HO1 := Lib.hid hown1
      have HL1 := Lib.hid (HL.out.grown hgrow1 HL.out.size (fun j hj => by cases hj; exact Nat.le_refl _))
      rw [← HS.out] at HO1
      clear hown1 hgrow1
      go_roundw
      case rel => exact ⟨k + 1, by omega, by go_num, HO1.out, HL1.out⟩
      case measure => simp [intOf]; omega
    · have HT : Hid (A.take k = A ++ B.take 0) := Lib.hid (by rw [List.take_of_length_le (by omega)]; simp)
      have HK : Hid (k = A.length + 0) := Lib.hid (by omega)
      rw [HT.out, HK.out] at HO
      clear HK
      obtain ⟨wa, hwa⟩ : ∃ wa : World, Hid (wa = wr) := ⟨_, Lib.hid rfl⟩
      go_wp2
      go_loopw [10] (fun i wr => ∃ k : Nat, k ≤ B.length ∧ i = .int .i64 k ∧ wr.ownsMap Try.prog 3 (plainElem (H := Unit) Try.prog 3) w7.heap.size (A.length + k) (hasD (A ++ B.take k)) ∧ Below w7.heap.size w7 wr) (fun i _ => B.length - (intOf i).toNat)
      case atStart => exact ⟨0, Nat.zero_le _, rfl, HO.out, HL.out⟩
      case round =>
        clear HO HL hlt HT hwa
        obtain ⟨k2, hk2, rfl, hown2, hbel2⟩ := hrel
        have HO := Lib.hid hown2
        have HL := Lib.hid hbel2
        clear hown2 hbel2
        by_cases hlt : k2 < B.length
        · obtain ⟨b, off, rfl, hb, hcell⟩ := (F7.out.b.below HL.out).spot hlt
          have hwf : (Lit.int .i64 (atI B k2)).wf = true := by
            have := lb.out.lt _ (atI_mem B k2 hlt)
            exact WalkArith.wf_i64 (by omega)
          have HS : Hid (hasD (H := Unit) (A ++ B.take (k2 + 1)) = (hasD (A ++ B.take k2)).put (.int .i64 (atI B k2)) (.lit (.int .i64 1))) := Lib.hid (by rw [take_at B k2 hlt, ← List.append_assoc, hasD_snoc_is])
          have hi0 : (0 : Int) ≤ (k2 : Int) := by omega
          go_wp2_with (at_mapUpdate; refine wpList_mapUpdate_own _ rfl _ _ _ 53 rfl 3 3 law_int Try.underlying53 _ w7.heap.size (A.length + k2) _ rfl HO.out (by unfold maxLen; omega) _ _ _ rfl rfl (keyOf_int_mk Try.underlying3 hwf) _ [] (plainElem_int Try.underlying3 hw1) ?_; intro w8 hown1 hgrow1)
          have HO1 := Lib.hid hown1
          have HL1 := Lib.hid (HL.out.grown hgrow1 HL.out.size (fun j hj => by cases hj; exact Nat.le_refl _))
          rw [← HS.out] at HO1
          clear hown1 hgrow1
          go_roundw
          case rel => exact ⟨k2 + 1, by omega, by go_num, HO1.out, HL1.out⟩
          case measure => simp [intOf]; omega
        · have HT : Hid (B.take k2 = B) := Lib.hid (List.take_of_length_le (by omega))
          rw [HT.out] at HO
          obtain ⟨wb, hwb⟩ : ∃ wb : World, Hid (wb = wr) := ⟨_, Lib.hid rfl⟩
          go_wp2
          go_loopw [11] (fun i wr => ∃ k : Nat, k ≤ X.length ∧ i = .int .i64 k ∧ wr.ownsMap Try.prog 3 (plainElem (H := Unit) Try.prog 3) w7.heap.size (A.length + k2) (hasD (A ++ B)) ∧ Below w7.heap.size w7 wr) (fun i _ => X.length - (intOf i).toNat)
          case atStart => exact ⟨0, Nat.zero_le _, rfl, HO.out, HL.out⟩
          case round =>
            clear HO HL hlt HT hwb
            obtain ⟨k3, hk3, rfl, hown3, hbel3⟩ := hrel
            have HO3 := Lib.hid hown3
            have HL3 := Lib.hid hbel3
            clear hown3 hbel3
            by_cases hlt : k3 < X.length
            · obtain ⟨b, off, rfl, hb, hcell⟩ := (F7.out.x.below HL3.out).spot hlt
              have hzm := HXmem.out _ (atI_mem X k3 hlt)
              have hzr : 0 ≤ atI X k3 ∧ atI X k3 < 200 := by
                rcases hzm with h | h
                · exact la.out.lt _ h
                · exact lb.out.lt _ h
              have hwf : (Lit.int .i64 (atI X k3)).wf = true := WalkArith.wf_i64 (by omega)
              have HAt := Lib.hid (fun d => hasD_at (H := Unit) (A ++ B) (atI X k3) d (List.mem_append.2 hzm))
              clear hzm hzr
              go_wp2_with (at_lookup; refine wpList_lookup_own_int _ rfl _ _ 53 rfl 3 3 .i64 law_int Try.underlying53 Try.underlying3 (zero_int _) w7.heap.size (A.length + k2) _ rfl HO3.out _ _ rfl (keyOf_int_mk Try.underlying3 hwf) ?_; intro cc1 hat hwc; rw [HAt.out] at hat; have hcc : cc1 = 1 := (by injection hat with h1; injection h1 with _ h2; exact h2.symm); subst hcc; clear hat hwc)
              go_roundw
              case rel => exact ⟨k3 + 1, by omega, by go_num, HO3.out, HL3.out⟩
              case measure => simp [intOf]; omega
            · have N0 := Lib.hid (M7.out.trans (HL3.out.mono M7.out.size))
              go_wp2_with (first
              | (refine wpList_len_own _ rfl (.tmp 76) 53 rfl 3 3 Try.underlying53 _ _ _ _ rfl HO3.out ?_; rw [HXsz.out])
              | (go_at_call 15; (with_reducible refine (rising_any _ X _ (F7.out.x.below HL3.out) (by omega)).mono ?_); rw [HXup.out]; rintro e w8 ⟨rfl, rfl⟩; have G0 := Lib.hid (F7.out.on HL3.out))
              | (go_at_call 14; (with_reducible refine (join_up _ _ B A _ G0.out.b G0.out.a lb.out.up la.out.up (by omega) (by omega)).mono ?_); rintro e g1 ⟨u1, rfl, hv, h⟩; have U1 := Lib.hid hv.1; have G1 := Lib.hid (G0.out.on h); have N1 := Lib.hid (N0.out.trans (h.mono N0.out.size)); clear h hv G0 N0)
              | (go_at_call 12; (with_reducible refine (same_yes _ _ (mergeL B A) X _ HJ1 U1.out G1.out.x (by have := mergeL_length B A; omega)).mono ?_); rintro e g2 ⟨rfl, h⟩; have G2 := Lib.hid (G1.out.on h); have N2 := Lib.hid (N1.out.trans (h.mono N1.out.size)); clear U1; clear h G1 N1)
              | (go_at_call 14; (with_reducible refine (join_up _ _ X C _ G2.out.x G2.out.c HXup.out lc.out.up (by omega) (by omega)).mono ?_); rintro e g3 ⟨u3, rfl, hv, h⟩; have U3 := Lib.hid hv.1; have G3 := Lib.hid (G2.out.on h); have N3 := Lib.hid (N2.out.trans (h.mono N2.out.size)); clear h hv G2 N2)
              | (go_at_call 14; (with_reducible refine (join_up _ _ B C _ G3.out.b G3.out.c lb.out.up lc.out.up (by omega) (by omega)).mono ?_); rintro e g4 ⟨u4, rfl, hv, h⟩; have U4 := Lib.hid hv.1; have G4 := Lib.hid (G3.out.on h); have N4 := Lib.hid (N3.out.trans (h.mono N3.out.size)); have U34 := Lib.hid (U3.out.below h); clear U3; clear h hv G3 N3)
              | (go_at_call 14; (with_reducible refine (join_up _ _ A (mergeL B C) _ G4.out.a U4.out la.out.up (rises_mergeL B C lb.out.up lc.out.up) (by omega) (by have := mergeL_length B C; omega)).mono ?_); rintro e g5 ⟨u5, rfl, hv, h⟩; have U5 := Lib.hid hv.1; have G5 := Lib.hid (G4.out.on h); have N5 := Lib.hid (N4.out.trans (h.mono N4.out.size)); have U35 := Lib.hid (U34.out.below h); clear U34 U4; clear h hv G4 N4)
              | (go_at_call 12; (with_reducible refine (same_yes _ _ (mergeL X C) (mergeL A (mergeL B C)) _ HJ2 U35.out U5.out (by have := mergeL_length X C; omega)).mono ?_); rintro e g6 ⟨rfl, h⟩; have G6 := Lib.hid (G5.out.on h); have N6 := Lib.hid (N5.out.trans (h.mono N5.out.size)); clear U35 U5; clear h G5 N5)
              | (go_at_call 14; (with_reducible refine (join_up _ _ A A _ G6.out.a G6.out.a la.out.up la.out.up (by omega) (by omega)).mono ?_); rintro e g7 ⟨u7, rfl, hv, h⟩; have U7 := Lib.hid hv.1; have G7 := Lib.hid (G6.out.on h); have N7 := Lib.hid (N6.out.trans (h.mono N6.out.size)); clear h hv G6 N6)
              | (go_at_call 12; (with_reducible refine (same_yes _ _ (mergeL A A) A _ HJ3 U7.out G7.out.a (by have := mergeL_length A A; omega)).mono ?_); rintro e g8 ⟨rfl, h⟩; have G8 := Lib.hid (G7.out.on h); have N8 := Lib.hid (N7.out.trans (h.mono N7.out.size)); clear U7; clear h G7 N7)
              | (go_at_call 14; (with_reducible refine (join_up _ _ A [] _ G8.out.a (ReadsI.nil _) la.out.up rfl (by omega) (by simp)).mono ?_); rintro e g9 ⟨u9, rfl, hv, h⟩; have U9 := Lib.hid hv.1; have G9 := Lib.hid (G8.out.on h); have N9 := Lib.hid (N8.out.trans (h.mono N8.out.size)); clear h hv G8 N8)
              | (go_at_call 12; (with_reducible refine (same_yes _ _ (mergeL A []) A _ HJ4 U9.out G9.out.a (by rw [HJ4.out]; omega)).mono ?_); rintro e g10 ⟨rfl, h⟩; have G10 := Lib.hid (G9.out.on h); have N10 := Lib.hid (N9.out.trans (h.mono N9.out.size)); clear U9; clear h G9 N9))
              go_ret
              exact ⟨rfl, N10.out⟩
set_option maxRecDepth 100000 in
set_option maxHeartbeats 4000000 in
theorem joins_long (a0 b0 c0 : Option Addr) (na nb nc ca cb cc : Nat) (w : World) (h : 60 < na ∨ (na ≤ 60 ∧ 60 < nb) ∨ (na ≤ 60 ∧ nb ≤ 60 ∧ 60 < nc)) :
    Calls Try.prog 6 #[.slice a0 na ca, .slice b0 nb cb, .slice c0 nc cc] w fun e w' => SameOk w true e w' := by
  rcases h with h | h | h
  · have d1 : decide (60 < na) = true := by simpa using h
    go_enter Try.func6, Try.ntmps6
    go_wp2_with (go_at_call 11; (with_reducible refine (lives_any _).mono ?_); rintro e w1 ⟨rfl, h⟩; have M1 := Lib.hid h; clear h)
    go_ret
    exact ⟨rfl, M1.out⟩
  · obtain ⟨h1, h2⟩ := h
    have d1 : decide (60 < na) = false := by simpa using h1
    have d2 : decide (60 < nb) = true := by simpa using h2
    go_enter Try.func6, Try.ntmps6
    go_wp2_with (go_at_call 11; (with_reducible refine (lives_any _).mono ?_); rintro e w1 ⟨rfl, h⟩; have M1 := Lib.hid h; clear h)
    go_ret
    exact ⟨rfl, M1.out⟩
  · obtain ⟨h1, h2, h3⟩ := h
    have d1 : decide (60 < na) = false := by simpa using h1
    have d2 : decide (60 < nb) = false := by simpa using h2
    have d3 : decide (60 < nc) = true := by simpa using h3
    go_enter Try.func6, Try.ntmps6
    go_wp2_with (go_at_call 11; (with_reducible refine (lives_any _).mono ?_); rintro e w1 ⟨rfl, h⟩; have M1 := Lib.hid h; clear h)
    go_ret
    exact ⟨rfl, M1.out⟩
/-- a slice of ints that came in, as the row's frame tells of it -/
theorem arg_reads {w : World} {x : Addr} {len cap : Nat} {zs : List Int} (hl : len ≤ cap) (hm : cap ≤ maxLen) (hz : zs.length = cap) (hpos : 0 < len)
    (hcell : ∀ i, i < zs.length → w.cell? (x.add i) = some (.int .i64 (zs.getD i 0))) : ReadsI w (.slice (some x) len cap) (zs.take len) := by
  have hlen : (zs.take len).length = len := by rw [List.length_take]; omega
  obtain ⟨b, off, spot⟩ := x
  have hspot : spot = none := by
    have hc := hcell 0 (by omega)
    simpa [Addr.add] using World.cell?_spot hc
  subst hspot
  have hb : b < w.heap.size := by
    have hc := hcell 0 (by omega)
    rw [Addr.add_lit] at hc
    exact World.block_lt_of_cell? w _ hc
  refine .inr ⟨b, off, cap, by rw [hlen], by omega, by unfold maxLen at hm; omega, hb, fun j hj => ?_⟩
  rw [hlen] at hj
  have hc := hcell j (by omega)
  rw [Addr.add_lit] at hc
  rw [hc]
  unfold atI
  simp [List.getD, hj]
theorem arg_fit {len : Nat} {zs : List Int} (hwz : ∀ n ∈ zs, (Lit.int .i64 n).wf = true) : FitI (zs.take len) := by
  intro j hj
  have hm : atI (zs.take len) j ∈ zs := List.mem_of_mem_take (atI_mem _ j hj)
  have h := hwz _ hm
  simp [Lit.wf, IntKind.min, IntKind.max, IntKind.bits, IntKind.signed] at h
  exact ⟨by simpa using h.1, by simpa using h.2⟩
/-- what the walk is told of a slice of ints: it is nil, or it leads to a row -/
def IntRow (w : World) (a : Option Addr) (len cap : Nat) (zs : List Int) : Prop :=
  (a = none ∧ len = 0 ∧ cap = 0 ∧ zs = []) ∨
  ∃ x, a = some x ∧ len ≤ cap ∧ cap ≤ maxLen ∧ zs.length = cap ∧ (∀ i, i < zs.length → w.cell? (x.add i) = some (.int .i64 (zs.getD i 0))) ∧ ∀ n ∈ zs, (Lit.int .i64 n).wf = true
theorem IntRow.rise {w : World} {a : Option Addr} {len cap : Nat} {zs : List Int} (h : IntRow w a len cap zs) (hs : len ≤ 60) : ∃ l : List Int, l.length = len ∧ RiseIn w (.slice a l.length cap) l := by
  by_cases h0 : len = 0
  · subst h0
    exact ⟨[], rfl, rise_zero a cap w⟩
  · rcases h with ⟨_, h1, _⟩ | ⟨x, rfl, hl, hm, hz, hcell, hwz⟩
    · exact absurd h1 h0
    · have hlen : (zs.take len).length = len := by rw [List.length_take]; omega
      refine ⟨zs.take len, hlen, fun w0 hb => ?_⟩
      rw [hlen]
      exact rise_any _ _ w0 ((arg_reads hl hm hz (by omega) hcell).below hb) (by omega) (arg_fit hwz)
theorem joins_any (a0 b0 c0 : Option Addr) (na nb nc ca cb cc : Nat) (za zb zc : List Int) (w : World) (ha : IntRow w a0 na ca za) (hb : IntRow w b0 nb cb zb) (hc : IntRow w c0 nc cc zc) :
    Calls Try.prog 6 #[.slice a0 na ca, .slice b0 nb cb, .slice c0 nc cc] w fun e w' => SameOk w true e w' := by
  by_cases h1 : na ≤ 60
  · by_cases h2 : nb ≤ 60
    · by_cases h3 : nc ≤ 60
      · obtain ⟨a, ea, ra⟩ := ha.rise h1
        obtain ⟨b, eb, rb⟩ := hb.rise h2
        obtain ⟨c, ec, rc⟩ := hc.rise h3
        subst ea eb ec
        exact joins_short a0 b0 c0 ca cb cc a b c w ra rb rc h1 h2 h3
      · exact joins_long a0 b0 c0 _ _ _ ca cb cc w (by omega)
    · exact joins_long a0 b0 c0 _ _ _ ca cb cc w (by omega)
  · exact joins_long a0 b0 c0 _ _ _ ca cb cc w (by omega)
end Go.Proofs.Ytmdaleokhekdeaa
