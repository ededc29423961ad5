/-
  Proved here: what slices.symMergeCmpFunc makes of two sorted parts of which one is a single element: one sorted part, each rank's in their order. No condition but the row's own.
-/
import Derived.Test.YthkakikigccaaaaDtSwap
import Derived.Test.YthkakikigccaaaaDtPure2
import Derived.Shelf.SlSortCmp.QuietGrown
namespace Go.Proofs.Ythkakikigccaaaa
open Go.Shelf Go.RowKit Go.Lib Go.Sort
set_option linter.unusedVariables false
set_option linter.unusedSimpArgs false
variable {P : Program} {α : Type} [Inhabited α]

/-- what comes of a merge: Z in the place of X and Y -/
def MgOut (enc : α → List Value) (k : Nat) (w0 : World) (blk off n : Nat) (r : α → Int) (C L D : List α) (e : Ending) (w' : World) : Prop :=
  e = .returned (.tuple #[]) ∧ ∃ (d' : Array α) (Z : List α), d'.size = n ∧ d'.toList = C ++ Z ++ D ∧ St r L Z ∧ SWK enc k w0 blk off d' w'
set_option maxHeartbeats 4000000 in
set_option maxRecDepth 1000000 in
theorem sym_left {k : Nat} (L : DtL P k) (enc : α → List Value) (cf : α → α → Int) (r : α → Int) (hcf : ∀ x y, cf x y < 0 ↔ r x < r y) (g : Nat) (cb : Array Value) (blk off cap : Nat) (d0 d : Array α) (w0 w : World) (eg : ∀ args w, (callFunc g args).run P w = .ok (.enter g args) w)
    (hcmp : CmpLays P g cb enc k cf blk off d0.size w0) (R : RowK enc k w0 blk off d0) (n : Nat) (hs : d0.size = n) (hds : d.size = n) (hsz : n < 4611686018427387904)
    (S : SWK enc k w0 blk off d w) (C Y D : List α) (x : α) (hd : d.toList = C ++ [x] ++ Y ++ D) (hY : Up r Y) (a m b : Nat) (ha : a = C.length) (hm : m = a + 1) (hb : b = m + Y.length) :
    Calls P 43 #[.slice (some ⟨blk, off, none⟩) n cap, .int .i64 a, .int .i64 m, .int .i64 b, .func (.func g) #[] cb] w (MgOut enc k w0 blk off n r C (x :: Y) D) := by
  have mixed := L.mixed; have t0 := L.t0; have a0 := L.a0; have z0 := L.z0; have v0 := L.v0; have t3 := L.t3; have a3 := L.a3; have z3 := L.z3; have v3 := L.v3; have t4 := L.t4; have a4 := L.a4; have z4 := L.z4; have v4 := L.v4; have t51 := L.t51; have a51 := L.a51; have z51 := L.z51; have v51 := L.v51; have t66 := L.t66; have a66 := L.a66; have z66 := L.z66; have v66 := L.v66; have t76 := L.t76; have a76 := L.a76; have z76 := L.z76; have v76 := L.v76; have aE := L.aE; have zE := L.zE
  have FG := L.f43
  have HC : Aside _ := hcmp
  have S0 : Aside (SWK enc k w0 blk off d w) := S
  have hdY : d.toList = (C ++ [x]) ++ Y ++ D := by rw [hd]
  have hlm : m = (C ++ [x]).length := by simp; omega
  have updn : Hid (∀ s t, m ≤ s → s ≤ t → t < b → r d[s]! ≤ r d[t]!) := Lib.hid (fun s t h1 h2 h3 => up_at hdY hlm hY s t h1 h2 (by omega))
  have hxa : Hid (d[a]! = x) := Lib.hid (by
    have hdx : d.toList = C ++ x :: (Y ++ D) := by rw [hd]; simp
    rw [ha]; exact at_mid hdx)
  have HD := Lib.hid (And.intro hdY (And.intro hlm (And.intro hY (And.intro ha (And.intro hb hd)))))
  have CF := Lib.hid hcf
  have hbn : b ≤ n := by have := congrArg List.length hd; simp at this; omega
  have hmb : m ≤ b := by omega
  have ham : a + 1 = m := by omega
  have hm1 : (m : Int) - (a : Int) = 1 := by omega
  clear hcmp S hd hdY hlm hY ha hcf hm hb
  go_enter FG, Try.ntmps43
  go_wp2
  go_loopg [10, 11] (b - m) (fun kx s10 s11 wr => ∃ (i j : Nat), s10 = .int .i64 i ∧ s11 = .int .i64 j ∧ m ≤ i ∧ i ≤ j ∧ j ≤ b ∧ j - i ≤ kx ∧ Aside (SWK enc k w0 blk off d wr) ∧
    Hid ((∀ t, m ≤ t → t < i → r d[t]! < r x) ∧ (∀ t, j ≤ t → t < b → r x ≤ r d[t]!)))
  case atStart => exact ⟨m, b, rfl, rfl, Nat.le_refl _, hmb, Nat.le_refl _, Nat.le_refl _, S0, Lib.hid ⟨fun t h1 h2 => by omega, fun t h1 h2 => by omega⟩⟩
  case round =>
    clear S0
    obtain ⟨i, j, rfl, rfl, hmi, hij, hjb, hkx, S1, HI⟩ := hrel
    by_cases hlt : i < j
    · have hltz : (i : Int) < (j : Int) := by omega
      go_wp2_with fail
      obtain ⟨h, hh⟩ : ∃ h : Nat, h = (i + j) / 2 := ⟨_, rfl⟩
      have q : ((i : Int) + (j : Int)) / 2 = (h : Int) := by omega
      have hih : i ≤ h := by omega
      have hhj : h < j := by omega
      rw [q]
      clear q hh
      have ea1 : ((h : Int)).toNat = h := by omega
      have pa1 : (0 : Int) ≤ (h : Int) := by omega
      have ba1 : (h : Int) < (n : Int) := by omega
      have ra1 : IntKind.i64.wrap ((h : Int)) = (h : Int) := by rw [IntKind.wrap_i64]; omega
      have ec1 : ((a : Int)).toNat = a := by omega
      have pc1 : (0 : Int) ≤ (a : Int) := by omega
      have bc1 : (a : Int) < (n : Int) := by omega
      obtain ⟨x1, hx1⟩ : ∃ v, v = d[h]! := ⟨_, rfl⟩
      obtain ⟨y1, hy1⟩ : ∃ v, v = d[a]! := ⟨_, rfl⟩
      have l1a := S1.out.ld R (by omega) P (h) (by omega)
      have l1b := S1.out.ld R (by omega) P (a) (by omega)
      rw [← hx1] at l1a
      rw [← hy1] at l1b
      have hc1 := S1.out.cmp HC.out (by omega) x1 y1
      have E1 := Lib.hid (And.intro hx1 hy1)
      clear hx1 hy1
      by_cases hv : cf x1 y1 < 0
      · have hd1 : decide (cf x1 y1 < 0) = true := decide_eq_true hv
        go_wp2_with fail
        go_quiet_grown (first | (go_at_fn g; refine Calls.grown_of (hc1 _ _)))
        have S2 : Aside (SWK enc k w0 blk off d (grow (wr.drewN nq) osq)) := S1.out.grown nq osq
        clear l1a l1b hc1 S1
        generalize grow (wr.drewN nq) osq = w2 at S2 ⊢
        clear nq osq
        have hlo : Hid (r d[h]! < r x) := Lib.hid (by have := (CF.out x1 y1).1 hv; rw [E1.out.1, E1.out.2, hxa.out] at this; exact this)
        go_wp2
        go_roundg (j - (h + 1))
        case measure => omega
        case rel =>
          refine ⟨h + 1, j, by go_num, rfl, by omega, by omega, by omega, by omega, S2, Lib.hid ⟨fun t h1 h2 => ?_, HI.out.2⟩⟩
          have := updn.out t h h1 (by omega) (by omega)
          have := hlo.out
          omega
      · have hd1 : decide (cf x1 y1 < 0) = false := decide_eq_false hv
        go_wp2_with fail
        go_quiet_grown (first | (go_at_fn g; refine Calls.grown_of (hc1 _ _)))
        have S2 : Aside (SWK enc k w0 blk off d (grow (wr.drewN nq) osq)) := S1.out.grown nq osq
        clear l1a l1b hc1 S1
        generalize grow (wr.drewN nq) osq = w2 at S2 ⊢
        clear nq osq
        have hlo : Hid (r x ≤ r d[h]!) := Lib.hid (by have h9 : ¬ r x1 < r y1 := fun e => absurd ((CF.out x1 y1).2 e) (by omega); rw [E1.out.1, E1.out.2, hxa.out] at h9; omega)
        go_wp2
        go_roundg (h - i)
        case measure => omega
        case rel =>
          refine ⟨i, h, rfl, rfl, by omega, by omega, by omega, by omega, S2, Lib.hid ⟨HI.out.1, fun t h1 h2 => ?_⟩⟩
          have := updn.out h t (by omega) h1 (by omega)
          have := hlo.out
          omega
    · obtain rfl : i = j := by omega
      clear hkx hij hlt
      go_wp2
      go_loopg [13] (i - a) (fun kx s13 wr2 => ∃ (t : Nat) (dk : Array α), s13 = .int .i64 ((a + t : Nat) : Int) ∧ m + t ≤ i ∧ i ≤ kx + (a + t) ∧ dk.size = n ∧ Aside (SWK enc k w0 blk off dk wr2) ∧ Hid (Mv C Y D x t dk))
      case atStart => exact ⟨0, d, rfl, by omega, by omega, hds, S1, Lib.hid (by unfold Mv; rw [HD.out.2.2.2.2.2]; simp)⟩
      case round =>
        clear S1
        obtain ⟨t, dk, rfl, hti, hkx, hdk, S1, HV⟩ := hrel
        obtain ⟨c, hc⟩ : ∃ c, c = a + t := ⟨_, rfl⟩
        rw [← hc]
        have hci : c + 1 ≤ i := by omega
        have hcn : c + 1 ≤ n := by omega
        have hmv : c + 1 < i → Hid (Mv C Y D x (t + 1) (swp dk c (c + 1))) := fun hlt => Lib.hid (by
          have := HD.out
          rw [hc]; exact mv_right this.2.2.2.1 (by omega) HV.out)
        have HMV := Lib.hid hmv
        have Hc := Lib.hid hc
        clear hmv hc
        by_cases hlt : c + 1 < i
        · have hltz : (c : Int) < (i : Int) - 1 := by omega
          go_wp2_with fail
          have ea2 : ((c : Int)).toNat = c := by omega
          have pa2 : (0 : Int) ≤ (c : Int) := by omega
          have ba2 : (c : Int) < (n : Int) := by omega
          have ra2 : IntKind.i64.wrap ((c : Int)) = (c : Int) := by rw [IntKind.wrap_i64]; omega
          have ec2 : ((c : Int) + 1).toNat = c + 1 := by omega
          have pc2 : (0 : Int) ≤ (c : Int) + 1 := by omega
          have bc2 : (c : Int) + 1 < (n : Int) := by omega
          have rc2 : IntKind.i64.wrap ((c : Int) + 1) = (c : Int) + 1 := by rw [IntKind.wrap_i64]; omega
          have S2 : Aside (SWK enc k w0 blk off (swp dk (c) (c + 1)) ((wr.drew.setCells blk (off + (c) * k) (enc dk[c + 1]!)).setCells blk (off + (c + 1) * k) (enc dk[c]!))) := S1.out.swapped R (c) (c + 1) (by omega) (by omega)
          have l2a := S1.out.ld1 R (by omega) P (c) (by omega)
          have l2b := S1.out.ld1 R (by omega) P (c + 1) (by omega)
          have s2a := S1.out.st1 R (by omega) P (c) (by omega) dk[c + 1]!
          have s2b := S1.out.st2 R (by omega) P (c) (c + 1) (by omega) (by omega) dk[c + 1]! dk[c]!
          have n2a : (enc dk[c]!).length = k := R.hk _
          have n2b : (enc dk[c + 1]!).length = k := R.hk _
          generalize enc dk[c]! = cI2 at S2 l2a s2b n2a
          generalize enc dk[c + 1]! = cJ2 at S2 l2b s2a s2b n2b
          clear S1
          go_wp2_with fail
          go_big_region_o
          clear l2a l2b s2a s2b
          generalize (wr.drew.setCells blk (off + (c) * k) cJ2).setCells blk (off + (c + 1) * k) cI2 = w2 at S2 ⊢
          go_wp2
          go_roundg (i - (c + 1))
          case measure => have := Hc.out; omega
          case rel => exact ⟨t + 1, swp dk c (c + 1), by rw [Hc.out]; go_num, by have := Hc.out; omega, by have := Hc.out; omega, by rw [size_swp]; exact hdk, S2, HMV.out hlt⟩
        · have hltz : ¬ (c : Int) < (i : Int) - 1 := by omega
          go_wp2
          refine bodyPost_ret (v := .tuple #[]) (by simp [results, go_sem]) rfl ?_
          obtain ⟨hdY, hlm, hY, ha, hb, hd⟩ := HD.out
          have hc := Hc.out
          refine ⟨rfl, dk, Y.take t ++ x :: Y.drop t, hdk, by rw [show dk.toList = _ from HV.out]; simp, st_left hY ?_ ?_, S1.out⟩
          · exact take_of_at hdY hlm (by omega) (fun s h1 h2 => HI.out.1 s h1 (by omega))
          · exact drop_of_at hdY hlm (fun s h1 h2 => HI.out.2 s (by omega) (by omega))
set_option maxHeartbeats 4000000 in
set_option maxRecDepth 1000000 in
theorem sym_right {k : Nat} (L : DtL P k) (enc : α → List Value) (cf : α → α → Int) (r : α → Int) (hcf : ∀ x y, cf x y < 0 ↔ r x < r y) (g : Nat) (cb : Array Value) (blk off cap : Nat) (d0 d : Array α) (w0 w : World) (eg : ∀ args w, (callFunc g args).run P w = .ok (.enter g args) w)
    (hcmp : CmpLays P g cb enc k cf blk off d0.size w0) (R : RowK enc k w0 blk off d0) (n : Nat) (hs : d0.size = n) (hds : d.size = n) (hsz : n < 4611686018427387904)
    (S : SWK enc k w0 blk off d w) (C X D : List α) (y : α) (hd : d.toList = C ++ X ++ [y] ++ D) (hX : Up r X) (a m b : Nat) (ha : a = C.length) (hm : m = a + X.length) (hb : b = m + 1) (hne : X.length ≠ 1) :
    Calls P 43 #[.slice (some ⟨blk, off, none⟩) n cap, .int .i64 a, .int .i64 m, .int .i64 b, .func (.func g) #[] cb] w (MgOut enc k w0 blk off n r C (X ++ [y]) D) := by
  have mixed := L.mixed; have t0 := L.t0; have a0 := L.a0; have z0 := L.z0; have v0 := L.v0; have t3 := L.t3; have a3 := L.a3; have z3 := L.z3; have v3 := L.v3; have t4 := L.t4; have a4 := L.a4; have z4 := L.z4; have v4 := L.v4; have t51 := L.t51; have a51 := L.a51; have z51 := L.z51; have v51 := L.v51; have t66 := L.t66; have a66 := L.a66; have z66 := L.z66; have v66 := L.v66; have t76 := L.t76; have a76 := L.a76; have z76 := L.z76; have v76 := L.v76; have aE := L.aE; have zE := L.zE
  have FG := L.f43
  have HC : Aside _ := hcmp
  have S0 : Aside (SWK enc k w0 blk off d w) := S
  have hdX : d.toList = C ++ X ++ ([y] ++ D) := by rw [hd]; simp
  have updn : Hid (∀ s t, a ≤ s → s ≤ t → t < m → r d[s]! ≤ r d[t]!) := Lib.hid (fun s t h1 h2 h3 => up_at hdX ha hX s t h1 h2 (by omega))
  have hym : Hid (d[m]! = y) := Lib.hid (by
    have hdx : d.toList = (C ++ X) ++ y :: D := by rw [hd]; simp
    have : m = (C ++ X).length := by simp; omega
    rw [this]; exact at_mid hdx)
  have HD := Lib.hid (And.intro hdX (And.intro hX (And.intro ha (And.intro hm hd))))
  have CF := Lib.hid hcf
  have hbn : b ≤ n := by have := congrArg List.length hd; simp at this; omega
  have ham : a ≤ m := by omega
  have hmb : m + 1 = b := by omega
  have hm1 : ¬ (m : Int) - (a : Int) = 1 := by omega
  have hm2 : ((m : Int) - (a : Int) == 1) = false := by simpa using hm1
  have hb1 : (b : Int) - (m : Int) = 1 := by omega
  clear hcmp S hd hdX hX ha hcf hm hb hne
  go_enter FG, Try.ntmps43
  go_wp2
  go_loopg [14, 15] (m - a) (fun kx s10 s11 wr => ∃ (i j : Nat), s10 = .int .i64 i ∧ s11 = .int .i64 j ∧ a ≤ i ∧ i ≤ j ∧ j ≤ m ∧ j - i ≤ kx ∧ Aside (SWK enc k w0 blk off d wr) ∧
    Hid ((∀ t, a ≤ t → t < i → r d[t]! ≤ r y) ∧ (∀ t, j ≤ t → t < m → r y < r d[t]!)))
  case atStart => exact ⟨a, m, rfl, rfl, Nat.le_refl _, ham, Nat.le_refl _, Nat.le_refl _, S0, Lib.hid ⟨fun t h1 h2 => by omega, fun t h1 h2 => by omega⟩⟩
  case round =>
    clear S0
    obtain ⟨i, j, rfl, rfl, hmi, hij, hjb, hkx, S1, HI⟩ := hrel
    by_cases hlt : i < j
    · have hltz : (i : Int) < (j : Int) := by omega
      go_wp2_with fail
      obtain ⟨h, hh⟩ : ∃ h : Nat, h = (i + j) / 2 := ⟨_, rfl⟩
      have q : ((i : Int) + (j : Int)) / 2 = (h : Int) := by omega
      have hih : i ≤ h := by omega
      have hhj : h < j := by omega
      rw [q]
      clear q hh
      have ea1 : ((m : Int)).toNat = m := by omega
      have pa1 : (0 : Int) ≤ (m : Int) := by omega
      have ba1 : (m : Int) < (n : Int) := by omega
      have ra1 : IntKind.i64.wrap ((m : Int)) = (m : Int) := by rw [IntKind.wrap_i64]; omega
      have ec1 : ((h : Int)).toNat = h := by omega
      have pc1 : (0 : Int) ≤ (h : Int) := by omega
      have bc1 : (h : Int) < (n : Int) := by omega
      obtain ⟨x1, hx1⟩ : ∃ v, v = d[m]! := ⟨_, rfl⟩
      obtain ⟨y1, hy1⟩ : ∃ v, v = d[h]! := ⟨_, rfl⟩
      have l1a := S1.out.ld R (by omega) P (m) (by omega)
      have l1b := S1.out.ld R (by omega) P (h) (by omega)
      rw [← hx1] at l1a
      rw [← hy1] at l1b
      have hc1 := S1.out.cmp HC.out (by omega) x1 y1
      have E1 := Lib.hid (And.intro hx1 hy1)
      clear hx1 hy1
      by_cases hv : cf x1 y1 < 0
      · have hd1 : decide (cf x1 y1 < 0) = true := decide_eq_true hv
        go_wp2_with fail
        go_quiet_grown (first | (go_at_fn g; refine Calls.grown_of (hc1 _ _)))
        have S2 : Aside (SWK enc k w0 blk off d (grow (wr.drewN nq) osq)) := S1.out.grown nq osq
        clear l1a l1b hc1 S1
        generalize grow (wr.drewN nq) osq = w2 at S2 ⊢
        clear nq osq
        have hlo : Hid (r y < r d[h]!) := Lib.hid (by have := (CF.out x1 y1).1 hv; rw [E1.out.1, E1.out.2, hym.out] at this; exact this)
        go_wp2
        go_roundg (h - i)
        case measure => omega
        case rel =>
          refine ⟨i, h, rfl, rfl, by omega, by omega, by omega, by omega, S2, Lib.hid ⟨HI.out.1, fun t h1 h2 => ?_⟩⟩
          have := updn.out h t (by omega) h1 (by omega)
          have := hlo.out
          omega
      · have hd1 : decide (cf x1 y1 < 0) = false := decide_eq_false hv
        go_wp2_with fail
        go_quiet_grown (first | (go_at_fn g; refine Calls.grown_of (hc1 _ _)))
        have S2 : Aside (SWK enc k w0 blk off d (grow (wr.drewN nq) osq)) := S1.out.grown nq osq
        clear l1a l1b hc1 S1
        generalize grow (wr.drewN nq) osq = w2 at S2 ⊢
        clear nq osq
        have hlo : Hid (r d[h]! ≤ r y) := Lib.hid (by have h9 : ¬ r x1 < r y1 := fun e => absurd ((CF.out x1 y1).2 e) (by omega); rw [E1.out.1, E1.out.2, hym.out] at h9; omega)
        go_wp2
        go_roundg (j - (h + 1))
        case measure => omega
        case rel =>
          refine ⟨h + 1, j, by go_num, rfl, by omega, by omega, by omega, by omega, S2, Lib.hid ⟨fun t h1 h2 => ?_, HI.out.2⟩⟩
          have := updn.out t h h1 (by omega) (by omega)
          have := hlo.out
          omega
    · obtain rfl : i = j := by omega
      clear hkx hij hlt
      go_wp2
      go_loopg [17] (m - i) (fun kx s13 wr2 => ∃ (t : Nat) (dk : Array α), s13 = .int .i64 ((a + t : Nat) : Int) ∧ i ≤ a + t ∧ a + t ≤ m ∧ a + t ≤ kx + i ∧ dk.size = n ∧ Aside (SWK enc k w0 blk off dk wr2) ∧ Hid (Mv C X D y t dk))
      case atStart => exact ⟨m - a, d, by congr 1; omega, by omega, by omega, by omega, hds, S1, Lib.hid (by unfold Mv; obtain ⟨_, _, ha, hm, hd⟩ := HD.out; rw [hd, show m - a = X.length by omega, List.take_of_length_le (Nat.le_refl _), List.drop_of_length_le (Nat.le_refl _)]; simp)⟩
      case round =>
        clear S1
        obtain ⟨t, dk, rfl, hti, htm, hkx, hdk, S1, HV⟩ := hrel
        obtain ⟨c, hc⟩ : ∃ c, c = a + t := ⟨_, rfl⟩
        rw [← hc]
        have hic : i ≤ c := by omega
        have hcn : c + 1 ≤ n := by omega
        have hmv : i < c → Hid (Mv C X D y (t - 1) (swp dk c (c - 1))) := fun hlt => Lib.hid (by
          obtain ⟨_, _, ha, hm, hd⟩ := HD.out
          obtain ⟨u, rfl⟩ : ∃ u, t = u + 1 := ⟨t - 1, by omega⟩
          rw [show c - 1 = a + u by omega, show c = a + u + 1 by omega]; exact mv_left ha (by omega) HV.out)
        have HMV := Lib.hid hmv
        have Hc := Lib.hid (And.intro hc (And.intro htm hkx))
        clear hmv hc htm hkx hti
        by_cases hlt : i < c
        · have hltz : (i : Int) < (c : Int) := by omega
          go_wp2_with fail
          have ea2 : ((c : Int)).toNat = c := by omega
          have pa2 : (0 : Int) ≤ (c : Int) := by omega
          have ba2 : (c : Int) < (n : Int) := by omega
          have ra2 : IntKind.i64.wrap ((c : Int)) = (c : Int) := by rw [IntKind.wrap_i64]; omega
          have ec2 : ((c : Int) - 1).toNat = c - 1 := by omega
          have pc2 : (0 : Int) ≤ (c : Int) - 1 := by omega
          have bc2 : (c : Int) - 1 < (n : Int) := by omega
          have rc2 : IntKind.i64.wrap ((c : Int) - 1) = (c : Int) - 1 := by rw [IntKind.wrap_i64]; omega
          have S2 : Aside (SWK enc k w0 blk off (swp dk (c) (c - 1)) ((wr.drew.setCells blk (off + (c) * k) (enc dk[c - 1]!)).setCells blk (off + (c - 1) * k) (enc dk[c]!))) := S1.out.swapped R (c) (c - 1) (by omega) (by omega)
          have l2a := S1.out.ld1 R (by omega) P (c) (by omega)
          have l2b := S1.out.ld1 R (by omega) P (c - 1) (by omega)
          have s2a := S1.out.st1 R (by omega) P (c) (by omega) dk[c - 1]!
          have s2b := S1.out.st2 R (by omega) P (c) (c - 1) (by omega) (by omega) dk[c - 1]! dk[c]!
          have n2a : (enc dk[c]!).length = k := R.hk _
          have n2b : (enc dk[c - 1]!).length = k := R.hk _
          generalize enc dk[c]! = cI2 at S2 l2a s2b n2a
          generalize enc dk[c - 1]! = cJ2 at S2 l2b s2a s2b n2b
          clear S1
          go_wp2_with fail
          go_big_region_o
          clear l2a l2b s2a s2b
          generalize (wr.drew.setCells blk (off + (c) * k) cJ2).setCells blk (off + (c - 1) * k) cI2 = w2 at S2 ⊢
          go_wp2
          go_roundg (c - 1 - i)
          case measure => have := Hc.out; omega
          case rel => exact ⟨t - 1, swp dk c (c - 1), by congr 1; have := Hc.out; omega, by have := Hc.out; omega, by have := Hc.out; omega, by have := Hc.out; omega, by rw [size_swp]; exact hdk, S2, HMV.out hlt⟩
        · have hltz : ¬ (i : Int) < (c : Int) := by omega
          go_wp2
          refine bodyPost_ret (v := .tuple #[]) (by simp [results, go_sem]) rfl ?_
          obtain ⟨hdX, hX, ha, hm, hd⟩ := HD.out
          have hc := Hc.out
          refine ⟨rfl, dk, X.take t ++ y :: X.drop t, hdk, by rw [show dk.toList = _ from HV.out]; simp, st_right hX ?_ ?_, S1.out⟩
          · exact take_of_at hdX ha (by omega) (fun s h1 h2 => HI.out.1 s h1 (by omega))
          · exact drop_of_at hdX ha (fun s h1 h2 => HI.out.2 s (by omega) (by omega))
end Go.Proofs.Ythkakikigccaaaa
