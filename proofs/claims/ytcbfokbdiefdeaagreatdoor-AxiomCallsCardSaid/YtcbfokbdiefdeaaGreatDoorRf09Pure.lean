/-
  Words: which numbers of an order were met; what of a candidate may be, part by part; what a mark asks of rules. No condition. (With it: Words: what a candidate that may be tells of each event: its hart, its place, that it may be. No condition.)
  (With it: Proved here: findSides lays what each event does to memory; nothing else that was there is changed. Condition: a view of at most 60 events, nothing known yet.)
  (With it: Proved here: findWriters lays the last one ahead of each event that writes its address; nothing else that was there is changed. Condition: a view of at most 60 events.)
-/
import Derived.Test.YtcbfokbdiefdeaaGreatDoorPpView
import Derived.Test.YtcbfokbdiefdeaaGreatDoorCdNumber
namespace Go.Proofs.YtcbfokbdiefdeaaGreatDoor
set_option linter.unusedVariables false
set_option linter.unusedSimpArgs false
open Go.RowKit
attribute [local go_sem ↓] fold_E fold_SE

def sidesK (c : Cd) (n : Nat) : Nat → Nat → Int := fun m j => if j = 0 ∧ m < n then ((sideE (c.at m).1 : Nat) : Int) else 0
theorem sidesK_zero (c : Cd) : sidesK c 0 = fun _ _ => 0 := by funext m j; unfold sidesK; rw [if_neg (by omega)]
theorem sidesK_next (c : Cd) (n : Nat) (x : Int) (hx : x = ((sideE (c.at n).1 : Nat) : Int)) : updK (sidesK c n) n 0 x = sidesK c (n + 1) := by
  funext m j
  unfold updK sidesK
  by_cases h : m = n ∧ j = 0
  · obtain ⟨rfl, rfl⟩ := h
    rw [if_pos ⟨rfl, rfl⟩, if_pos ⟨rfl, by omega⟩, hx]
  · rw [if_neg h]
    by_cases h2 : j = 0 ∧ m < n
    · rw [if_pos h2, if_pos ⟨h2.1, by omega⟩]
    · rw [if_neg h2, if_neg (by omega)]
theorem sidesK_same (c : Cd) (n : Nat) (hx : sideE (c.at n).1 = 0) : sidesK c n = sidesK c (n + 1) := by
  rw [← sidesK_next c n 0 (by rw [hx]; rfl)]
  funext m j
  unfold updK
  by_cases h : m = n ∧ j = 0
  · obtain ⟨rfl, rfl⟩ := h
    rw [if_pos ⟨rfl, rfl⟩]; unfold sidesK; rw [if_neg (by omega)]
  · rw [if_neg h]
theorem updK_twice (K : Nat → Nat → Int) (n j : Nat) (x y : Int) : updK (updK K n j x) n j y = updK K n j y := by
  funext a b; unfold updK; split <;> rfl
def VwIs (c : Cd) (K : Nat → Nat → Int) (p : Vp) (e : Ending) (w' : World) : Prop := e = .returned (.tuple #[]) ∧ Vw c K p w'
set_option maxRecDepth 100000 in
set_option maxHeartbeats 8000000 in
theorem findSides_v (c : Cd) (p : Vp) (w : World) (h : Vw c (fun _ _ => 0) p w) (hN : c.N ≤ 60) : Calls Tryz.prog 96 #[.pointer (some ⟨p.g, 0, none⟩)] w fun e w' => VwIs c (sidesK c c.N) p e w' := by
  rw [← sidesK_zero c] at h
  have H := Lib.hid h
  clear h
  obtain ⟨b0, b1, b2⟩ := H.out.three
  go_enter Tryz.func96, Tryz.ntmps96
  go_wp2
  clear b0 b1 b2
  go_loopw [9] (fun vi wr => ∃ (n : Nat), n ≤ c.N ∧ vi = .int .i64 n ∧ Hid (Vw c (sidesK c n) p wr)) (fun vi _ => c.N - (intOf vi).toNat)
  case atStart => exact ⟨0, Nat.zero_le _, rfl, H⟩
  case round =>
    obtain ⟨n, hn, rfl, HV⟩ := hrel
    by_cases hlt : n < c.N
    · have hAA := HV.out.hA (by omega)
      have cl := (HV.out.ev n hlt).load
      have hfl := Lib.hid (HV.out.rd n hlt).flat
      obtain ⟨e, he⟩ : ∃ e, Hid ((c.at n).1 = e) := ⟨_, Lib.hid rfl⟩
      rw [he.out] at cl hfl
      rw [hAA]
      have n0 : (0 : Int) ≤ (n : Int) := by omega
      have n1 : (n : Int) < (c.N : Int) := by omega
      obtain ⟨r1, hr1⟩ : ∃ r, Hid (readsE e = r) := ⟨_, Lib.hid rfl⟩
      obtain ⟨r2, hr2⟩ : ∃ r, Hid (writesE e = r) := ⟨_, Lib.hid rfl⟩
      have KR := Lib.hid (fun w0 => Reads_b e r1 hr1.out w0)
      have KW := Lib.hid (fun w0 => Writes_b e r2 hr2.out w0)
      have HS : Hid (sideE (c.at n).1 = (if r1 = true then 2 else 0) + (if r2 = true then 1 else 0)) := Lib.hid (by rw [he.out]; unfold sideE; rw [hr1.out, hr2.out])
      have hgk : p.gk < wr.heap.size := (Array.getElem?_eq_some_iff.1 HV.out.kn).1
      have hne : wr.heap.size ≠ p.gk := by omega
      clear hAA
      go_upto_region 3 with (refine store_ev (EvAt.new zeroEv wr) e hfl.out rfl (.tmp 3) (.tmp 13) rfl rfl rfl ?_; intro w1 D1 ho1 hb1 hz1; have E1 := Lib.hid D1; have B1 := Lib.hid ((box_below wr (.cells #[.int .i64 0, .int .i64 0, .int .i64 0, .int .u64 0, .int .u64 0, .int .u64 0, .bool false, .bool false, .int .i64 0, .int .i64 0, .int .i64 0, .slice none 0 0, .slice none 0 0, .slice none 0 0] 32)).trans hb1); clear D1 ho1 hb1 hz1)
      clear cl
      have V1 := Lib.hid (HV.out.on B1.out)
      have cl := run_LoadE E1.out
      obtain ⟨b0, b1, b2⟩ := V1.out.three
      have o1 : bits BinOp.or IntKind.i64 0 2 = 2 := by kernel_rfl
      have o2 : bits BinOp.or IntKind.i64 2 1 = 3 := by kernel_rfl
      have o3 : bits BinOp.or IntKind.i64 0 1 = 1 := by kernel_rfl
      have K0 : Hid (some (Value.int .i64 (sidesK c n n 0)) = some (Value.int .i64 0)) := Lib.hid (by unfold sidesK; rw [if_neg (by omega)])
      have k0 : w1.cell? ⟨p.gk, n * 7, none⟩ = some (.int .i64 0) := (V1.out.k n 0 hlt (by omega)).trans K0.out
      cases r1 with
      | false =>
        cases r2 with
        | false =>
          have HX : Hid (((sideE (c.at n).1 : Nat) : Int) = 0) := Lib.hid (by rw [HS.out]; rfl)
          go_wp2_with (first | (go_at_call 83; (with_reducible refine (KR.out _).mono ?_); rintro e' w2 ⟨rfl, hb⟩; have V2 := Lib.hid (V1.out.on hb); have E2 := Lib.hid (E1.out.on hb); clear hb b0 b1 b2 k0 cl; obtain ⟨b0, b1, b2⟩ := V2.out.three; have cl := run_LoadE E2.out; have k0 : w2.cell? ⟨p.gk, n * 7, none⟩ = some (.int .i64 0) := (V2.out.k n 0 hlt (by omega)).trans K0.out; have z0 : w2.frozen? ⟨p.gk, n * 7, none⟩ = false := V2.out.free _) | (go_at_call 81; (with_reducible refine (KW.out _).mono ?_); rintro e' w4 ⟨rfl, hb⟩; have V4 := Lib.hid (V2.out.on hb); clear hb b0 b1 b2 k0 cl z0; obtain ⟨b0, b1, b2⟩ := V4.out.three; have k0 : w4.cell? ⟨p.gk, n * 7, none⟩ = some (.int .i64 0) := (V4.out.k n 0 hlt (by omega)).trans K0.out; have z0 : w4.frozen? ⟨p.gk, n * 7, none⟩ = false := V4.out.free _))
          have V5 : Hid (Vw c (sidesK c (n + 1)) p w4) := Lib.hid (by rw [← sidesK_same c n (by have := HX.out; omega)]; exact V4.out)
          go_roundw
          case rel => exact ⟨n + 1, by omega, by go_num, V5⟩
          case measure => simp [intOf]; omega
        | true =>
          have HX : Hid (((sideE (c.at n).1 : Nat) : Int) = 1) := Lib.hid (by rw [HS.out]; rfl)
          go_wp2_with (first | (go_at_call 83; (with_reducible refine (KR.out _).mono ?_); rintro e' w2 ⟨rfl, hb⟩; have V2 := Lib.hid (V1.out.on hb); have E2 := Lib.hid (E1.out.on hb); clear hb b0 b1 b2 k0 cl; obtain ⟨b0, b1, b2⟩ := V2.out.three; have cl := run_LoadE E2.out; have k0 : w2.cell? ⟨p.gk, n * 7, none⟩ = some (.int .i64 0) := (V2.out.k n 0 hlt (by omega)).trans K0.out; have z0 : w2.frozen? ⟨p.gk, n * 7, none⟩ = false := V2.out.free _) | (go_at_call 81; (with_reducible refine (KW.out _).mono ?_); rintro e' w4 ⟨rfl, hb⟩; have V4 := Lib.hid (V2.out.on hb); clear hb b0 b1 b2 k0 cl z0; obtain ⟨b0, b1, b2⟩ := V4.out.three; have k0 : w4.cell? ⟨p.gk, n * 7, none⟩ = some (.int .i64 0) := (V4.out.k n 0 hlt (by omega)).trans K0.out; have z0 : w4.frozen? ⟨p.gk, n * 7, none⟩ = false := V4.out.free _))
          have V5 : Hid (Vw c (sidesK c (n + 1)) p (w4.setCell ⟨p.gk, n * 7, none⟩ (.int .i64 1))) := Lib.hid (by have := V4.out.set n 0 hlt (by omega) 1; rw [sidesK_next c n 1 HX.out.symm] at this; exact this)
          go_roundw
          case rel => exact ⟨n + 1, by omega, by go_num, V5⟩
          case measure => simp [intOf]; omega
      | true =>
        cases r2 with
        | false =>
          have HX : Hid (((sideE (c.at n).1 : Nat) : Int) = 2) := Lib.hid (by rw [HS.out]; rfl)
          go_wp2_with (first | (go_at_call 83; (with_reducible refine (KR.out _).mono ?_); rintro e' w2 ⟨rfl, hb⟩; have V2 := Lib.hid (V1.out.on hb); have E2 := Lib.hid (E1.out.on hb); clear hb b0 b1 b2 k0 cl; obtain ⟨b0, b1, b2⟩ := V2.out.three; have cl := run_LoadE E2.out; have k0 : w2.cell? ⟨p.gk, n * 7, none⟩ = some (.int .i64 0) := (V2.out.k n 0 hlt (by omega)).trans K0.out; have z0 : w2.frozen? ⟨p.gk, n * 7, none⟩ = false := V2.out.free _; have E3 : Hid (EvAt e wr.heap.size (w2.setCell ⟨p.gk, n * 7, none⟩ (.int .i64 2))) := Lib.hid ((Below.heap_setCell w2 ⟨p.gk, n * 7, none⟩ (.int .i64 2) wr.heap.size hne).trans E2.out); have c3 := run_LoadE E3.out; have V3 : Hid (Vw c (updK (sidesK c n) n 0 2) p (w2.setCell ⟨p.gk, n * 7, none⟩ (.int .i64 2))) := Lib.hid (V2.out.set n 0 hlt (by omega) 2)) | (go_at_call 81; (with_reducible refine (KW.out _).mono ?_); rintro e' w4 ⟨rfl, hb⟩; have V4 := Lib.hid (V3.out.on hb); clear hb b0 b1 b2 k0 cl z0 c3; obtain ⟨b0, b1, b2⟩ := V4.out.three; have k0 : w4.cell? ⟨p.gk, n * 7, none⟩ = some (.int .i64 2) := (V4.out.k n 0 hlt (by omega)).trans (by unfold updK; rw [if_pos ⟨rfl, rfl⟩]); have z0 : w4.frozen? ⟨p.gk, n * 7, none⟩ = false := V4.out.free _))
          have V5 : Hid (Vw c (sidesK c (n + 1)) p w4) := Lib.hid (by have := V4.out; rw [sidesK_next c n 2 HX.out.symm] at this; exact this)
          go_roundw
          case rel => exact ⟨n + 1, by omega, by go_num, V5⟩
          case measure => simp [intOf]; omega
        | true =>
          have HX : Hid (((sideE (c.at n).1 : Nat) : Int) = 3) := Lib.hid (by rw [HS.out]; rfl)
          go_wp2_with (first | (go_at_call 83; (with_reducible refine (KR.out _).mono ?_); rintro e' w2 ⟨rfl, hb⟩; have V2 := Lib.hid (V1.out.on hb); have E2 := Lib.hid (E1.out.on hb); clear hb b0 b1 b2 k0 cl; obtain ⟨b0, b1, b2⟩ := V2.out.three; have cl := run_LoadE E2.out; have k0 : w2.cell? ⟨p.gk, n * 7, none⟩ = some (.int .i64 0) := (V2.out.k n 0 hlt (by omega)).trans K0.out; have z0 : w2.frozen? ⟨p.gk, n * 7, none⟩ = false := V2.out.free _; have E3 : Hid (EvAt e wr.heap.size (w2.setCell ⟨p.gk, n * 7, none⟩ (.int .i64 2))) := Lib.hid ((Below.heap_setCell w2 ⟨p.gk, n * 7, none⟩ (.int .i64 2) wr.heap.size hne).trans E2.out); have c3 := run_LoadE E3.out; have V3 : Hid (Vw c (updK (sidesK c n) n 0 2) p (w2.setCell ⟨p.gk, n * 7, none⟩ (.int .i64 2))) := Lib.hid (V2.out.set n 0 hlt (by omega) 2)) | (go_at_call 81; (with_reducible refine (KW.out _).mono ?_); rintro e' w4 ⟨rfl, hb⟩; have V4 := Lib.hid (V3.out.on hb); clear hb b0 b1 b2 k0 cl z0 c3; obtain ⟨b0, b1, b2⟩ := V4.out.three; have k0 : w4.cell? ⟨p.gk, n * 7, none⟩ = some (.int .i64 2) := (V4.out.k n 0 hlt (by omega)).trans (by unfold updK; rw [if_pos ⟨rfl, rfl⟩]); have z0 : w4.frozen? ⟨p.gk, n * 7, none⟩ = false := V4.out.free _))
          have V5 : Hid (Vw c (sidesK c (n + 1)) p (w4.setCell ⟨p.gk, n * 7, none⟩ (.int .i64 3))) := Lib.hid (by have := V4.out.set n 0 hlt (by omega) 3; rw [updK_twice, sidesK_next c n 3 HX.out.symm] at this; exact this)
          go_roundw
          case rel => exact ⟨n + 1, by omega, by go_num, V5⟩
          case measure => simp [intOf]; omega
    · obtain rfl : n = c.N := by omega
      go_wp2
      exact bodyPost_ret (v := .tuple #[]) (by simp [results, Tryz.results96]) rfl ⟨rfl, HV.out⟩
end Go.Proofs.YtcbfokbdiefdeaaGreatDoor
namespace Go.Proofs.YtcbfokbdiefdeaaGreatDoor
set_option linter.unusedVariables false
set_option linter.unusedSimpArgs false
open Go.RowKit Go.Maps
attribute [local go_sem ↓] fold_E fold_SE
attribute [local irreducible] wpStill

theorem Lt.wordN {c : Cd} (h : Lt c) (n : Nat) (hn : n < c.N) : WordE (c.at n).1 := by
  obtain ⟨k, j, hk, hj, rfl⟩ := num_of c.len c.nh n hn
  rw [c.at_is k j hk hj]
  exact h.ew k hk j hj
/-- one more of what is known, for so many events -/
def layK (f : Nat → Int) (j0 n : Nat) (K : Nat → Nat → Int) : Nat → Nat → Int := fun m j => if j = j0 ∧ m < n then f m else K m j
theorem layK_zero (f : Nat → Int) (j0 : Nat) (K : Nat → Nat → Int) : layK f j0 0 K = K := by funext m j; unfold layK; rw [if_neg (by omega)]
theorem layK_next (f : Nat → Int) (j0 n : Nat) (K : Nat → Nat → Int) (x : Int) (hx : x = f n) : updK (layK f j0 n K) n j0 x = layK f j0 (n + 1) K := by
  funext m j
  unfold updK layK
  by_cases h : m = n ∧ j = j0
  · obtain ⟨rfl, rfl⟩ := h
    rw [if_pos ⟨rfl, rfl⟩, if_pos ⟨rfl, by omega⟩, hx]
  · rw [if_neg h]
    by_cases h2 : j = j0 ∧ m < n
    · rw [if_pos h2, if_pos ⟨h2.1, by omega⟩]
    · rw [if_neg h2, if_neg (by omega)]
/-- the last of the first n that writes somewhere, if any does -/
def wrO (c : Cd) (x : Int) : Nat → Option Int
  | 0 => none
  | n + 1 => if writesE (c.at n).1 = true ∧ (c.at n).1.addr = x then some (n : Int) else wrO c x n
theorem wrO_is (c : Cd) (x : Int) : ∀ n, (wrO c x n).getD 0 = ((wrL c x n : Nat) : Int)
  | 0 => rfl
  | n + 1 => by
    unfold wrO wrL
    split
    · rfl
    · exact wrO_is c x n
/-! ### maps of numbers by address -/
abbrev OMi (b n : Nat) (D : DataW Unit) (w : World) : Prop := w.ownsMap Tryz.prog 28 (plainElem (H := Unit) Tryz.prog 3) b n D
theorem zero_i64 (w : World) : (zeroValue 3).run Tryz.prog w = .ok (.int .i64 0) w := by kernel_rfl
theorem OMi.on {b n : Nat} {D : DataW Unit} {w w' : World} (h : OMi b n D w) (hb : Below w.heap.size w w') : OMi b n D w' := by
  obtain ⟨es, clock, h1, h2⟩ := h
  exact ⟨es, clock, (hb.block b (Array.getElem?_eq_some_iff.1 h1).1).trans h1, h2⟩
theorem OMi.lt {b n : Nat} {D : DataW Unit} {w : World} (h : OMi b n D w) : b < w.heap.size := by
  obtain ⟨es, clock, h1, h2⟩ := h
  exact (Array.getElem?_eq_some_iff.1 h1).1
theorem OMi.keep {b n : Nat} {D : DataW Unit} {w w' : World} (h : OMi b n D w) (hb : w'.heap[b]? = w.heap[b]?) : OMi b n D w' := by
  obtain ⟨es, clock, h1, h2⟩ := h
  exact ⟨es, clock, hb.trans h1, h2⟩
theorem OMi.more {b n : Nat} {D : DataW Unit} {w : World} (h : OMi b n D w) : OMi b (n + 1) D w := by
  obtain ⟨es, clock, h1, h2, h3, h4⟩ := h
  exact ⟨es, clock, h1, h2, by omega, h4⟩
structure MetI (f : Int → Option Int) (D : DataW Unit) : Prop where
  map : IsMap D
  at_ : ∀ x v, f x = some v → ∀ zd, D.atKey (.int .u64 x) zd = .lit (.int .i64 v)
  no : ∀ x, f x = none → ∀ zd, D.atKey (.int .u64 x) zd = zd
theorem MetI.start : MetI (fun _ => none) (.map []) := ⟨⟨_, rfl⟩, (fun _ _ h => by cases h), fun _ _ _ => rfl⟩
theorem MetI.put {f : Int → Option Int} {D : DataW Unit} (h : MetI f D) (a v : Int) : MetI (fun x => if a = x then some v else f x) (D.put (.int .u64 a) (.lit (.int .i64 v))) := by
  refine ⟨?_, fun x u hx zd => ?_, fun x hx zd => ?_⟩
  · obtain ⟨l, rfl⟩ := h.map
    exact ⟨_, rfl⟩
  · by_cases ha : a = x
    · subst ha
      rw [if_pos rfl] at hx
      cases hx
      exact atKey_put_same h.map (by unfold WideAt.IsKeyLit; trivial) _ _
    · rw [if_neg ha] at hx
      rw [atKey_put_other (by simpa using fun e => ha e.symm)]
      exact h.at_ x u hx zd
  · by_cases ha : a = x
    · rw [if_pos ha] at hx; cases hx
    · rw [if_neg ha] at hx
      rw [atKey_put_other (by simpa using fun e => ha e.symm)]
      exact h.no x hx zd
theorem MetI.ext {f f2 : Int → Option Int} {D : DataW Unit} (h : MetI f D) (he : ∀ x, f x = f2 x) : MetI f2 D := by
  obtain rfl : f = f2 := funext he
  exact h
theorem look_int {M n : Nat} {D : DataW Unit} {f : Int → Option Int} {x : Int} {w : World} (h : OMi M n D w) (hM : MetI f D) (hwx : (Lit.int .u64 x).wf = true) : (Instr.lookup 94 (.map (some M)) (.int .u64 x) false).run Tryz.prog w = .ok (.int .i64 ((f x).getD 0)) w := by
  obtain ⟨cc, hrun, hat, _⟩ := World.ownsMap.lookup_int h law_u64 Tryz.underlying94 Tryz.underlying3 (zero_i64 _) (keyOf_int_mk Tryz.underlying28 hwx)
  cases hf : f x with
  | some y =>
    rw [hM.at_ x y hf] at hat
    have h3 : y = cc := congrArg (fun d : DataW Unit => match d with | .lit (.int _ z) => z | _ => 0) hat
    rw [Option.getD_some, h3]
    exact hrun
  | none =>
    rw [hM.no x hf] at hat
    have h3 : 0 = cc := congrArg (fun d : DataW Unit => match d with | .lit (.int _ z) => z | _ => 0) hat
    rw [Option.getD_none, h3]
    exact hrun
theorem Vw.put {c : Cd} {K : Nat → Nat → Int} {p : Vp} {w w2 : World} {M : Nat} (h : Vw c K p w) (hg : w.grownBy w2 (some M)) (h1 : M ≠ p.g) (h2 : M ≠ p.gk) (h3 : p.W0.heap.size ≤ M) : Vw c K p w2 :=
  ⟨(hg.block _ (Array.getElem?_eq_some_iff.1 h.box).1 (by simp; omega)).trans h.box, (hg.block _ (Array.getElem?_eq_some_iff.1 h.kn).1 (by simp; omega)).trans h.kn, h.bel.grown hg h.bel.size (fun k hk => by cases hk; exact h3), h.hk, h.hg, h.ne, h.hA, h.ev0, h.rd0, h.lt0, h.fr0⟩
def wrF (c : Cd) (n : Nat) : Int := ((wrL c (c.at n).1.addr n : Nat) : Int)
set_option maxRecDepth 100000 in
set_option maxHeartbeats 8000000 in
theorem findWriters_v (c : Cd) (p : Vp) (w : World) (h : Vw c (sidesK c c.N) p w) (hL : Lt c) : Calls Tryz.prog 97 #[.pointer (some ⟨p.g, 0, none⟩)] w fun e w' => VwIs c (layK (wrF c) 1 c.N (sidesK c c.N)) p e w' := by
  have hN := hL.n
  have HW := Lib.hid (fun n hn => hL.wordN n hn)
  rw [← layK_zero (wrF c) 1 (sidesK c c.N)] at h
  have hM1 := (Array.getElem?_eq_some_iff.1 h.box).1
  have hM2 := (Array.getElem?_eq_some_iff.1 h.kn).1
  have hMb := h.bel.size
  have H := Lib.hid (h.on (box_below w (.map #[] 0)))
  have hmm := @run_makeMap Tryz.prog
  clear h hL
  obtain ⟨b0, b1, b2⟩ := H.out.three
  go_enter Tryz.func97, Tryz.ntmps97
  go_wp2
  clear b0 b1 b2 hmm
  have HH0 := Lib.hid hM1
  have HH1 := Lib.hid hM2
  have HH2 := Lib.hid hMb
  clear hM1 hM2 hMb
  go_loopw [11] (fun vi wr => ∃ (n : Nat) (D : DataW Unit), n ≤ c.N ∧ vi = .int .i64 n ∧ Hid (MetI (fun x => wrO c x n) D) ∧ Hid (OMi w.heap.size n D wr) ∧ Hid (Vw c (layK (wrF c) 1 n (sidesK c c.N)) p wr)) (fun vi _ => c.N - (intOf vi).toNat)
  case atStart => exact ⟨0, _, Nat.zero_le _, rfl, Lib.hid (MetI.start.ext (fun _ => rfl)), Lib.hid (World.ownsMap_made _ _ _ _), H⟩
  case round =>
    obtain ⟨n, D, hn, rfl, hM, hO, HV⟩ := hrel
    by_cases hlt : n < c.N
    · have hAA := HV.out.hA (by omega)
      have V0 := Lib.hid (HV.out.on (Below.refl _ _).drew)
      obtain ⟨b0, b1, b2⟩ := HV.out.three
      rw [hAA] at b0
      have hwd := Lib.hid (HW.out n hlt).1
      have HF : Hid (wrF c n = (wrO c (c.at n).1.addr n).getD 0) := Lib.hid (by unfold wrF; exact (wrO_is c _ n).symm)
      have HNX : Hid (∀ x, wrO c x (n + 1) = if writesE (c.at n).1 = true ∧ (c.at n).1.addr = x then some (n : Int) else wrO c x n) := Lib.hid (fun x => rfl)
      have ca := HV.out.ev n hlt 3 _ rfl
      obtain ⟨x, hx⟩ : ∃ x, Hid ((c.at n).1.addr = x) := ⟨_, Lib.hid rfl⟩
      rw [hx.out] at ca hwd HF HNX
      have n0 : (0 : Int) ≤ (n : Int) := by omega
      have n1 : (n : Int) < (c.N : Int) := by omega
      have k1 := HV.out.k n 1 hlt (by omega)
      have z1 := HV.out.free (n * 7 + 1)
      obtain ⟨r, hr⟩ : ∃ r, Hid (writesE (c.at n).1 = r) := ⟨_, Lib.hid rfl⟩
      rw [hr.out] at HNX
      have hlk := look_int (hO.out.on (Below.refl _ _).drew) hM.out hwd.out
      obtain ⟨v, hv⟩ : ∃ v, Hid ((wrO c x n).getD 0 = v) := ⟨_, Lib.hid rfl⟩
      rw [hv.out] at hlk HF
      have hs0 : Hid (layK (wrF c) 1 (n + 1) (sidesK c c.N) n 0 = ((sideE (c.at n).1 : Nat) : Int)) := Lib.hid (by unfold layK sidesK; rw [if_neg (by omega), if_pos ⟨rfl, hlt⟩])
      have KW := Lib.hid (fun w0 h0 => writes_v c (layK (wrF c) 1 (n + 1) (sidesK c c.N)) p w0 h0 n hlt hs0.out r hr.out)
      have V1 : Hid (Vw c (layK (wrF c) 1 (n + 1) (sidesK c c.N)) p (wr.setCell ⟨p.gk, n * 7 + 1, none⟩ (.int .i64 v)).drew) := Lib.hid (by have := HV.out.set n 1 hlt (by omega) v; rw [layK_next (wrF c) 1 n _ v HF.out.symm] at this; exact this.on (Below.refl _ _).drew)
      have O1 : Hid (OMi w.heap.size n D (wr.setCell ⟨p.gk, n * 7 + 1, none⟩ (.int .i64 v)).drew) := Lib.hid ((hO.out.keep (Below.heap_setCell wr ⟨p.gk, n * 7 + 1, none⟩ _ _ (by have := HH1.out; show w.heap.size ≠ p.gk; omega))).on (Below.refl _ _).drew)
      rw [hAA]
      clear hAA
      go_upto_region 5 with fail
      refine wp_region_still_tail 10 (by kernel_rfl) (by kernel_rfl) ?_
      simp only [List.take_succ_cons, List.take_zero, List.drop_succ_cons, List.drop_zero]
      iterate 7 still_step
      refine wpStill_lookup (.tmp 27) (.tmp 28) _ _ _ (by as_aux_lemma => kernel_rfl) rfl rfl rfl hlk ?_
      simp only [Act.put, List.setIfInBounds_toArray, List.set_cons_succ, List.set_cons_zero]
      iterate 2 still_step
      refine wpStill_nil ?_
      change wpList _ _ _ _ _ (World.drew _)
      have k1d : wr.drew.cell? ⟨p.gk, n * 7 + 1, none⟩ = some (.int .i64 (layK (wrF c) 1 n (sidesK c c.N) n 1)) := k1
      have z1d : wr.drew.frozen? ⟨p.gk, n * 7 + 1, none⟩ = false := z1
      have hwn : (Lit.int .i64 (n : Int)).wf = true := WalkArith.wf_i64 (by omega)
      have hn60 : n < maxLen := by unfold maxLen; omega
      cases r with
      | false =>
        go_wp2_with (go_at_call 116; (with_reducible refine (KW.out _ V1.out).mono ?_); rintro e' w2 ⟨rfl, hb⟩; have V2 := Lib.hid (V1.out.on hb); have O2 := Lib.hid (O1.out.on hb); clear hb b0 b1 b2 k1 z1 k1d z1d ca)
        go_roundw
        case rel => exact ⟨n + 1, D, by omega, by go_num, Lib.hid (hM.out.ext (fun y => by rw [HNX.out y, if_neg (by simp)])), Lib.hid O2.out.more, V2⟩
        case measure => simp [intOf]; omega
      | true =>
        go_wp2_with (first
          | (go_at_call 116; (with_reducible refine (KW.out _ V1.out).mono ?_); rintro e' w2 ⟨rfl, hb⟩; have V2 := Lib.hid (V1.out.on hb); have O2 := Lib.hid (O1.out.on hb); clear hb b0 b1 b2 k1 z1 k1d z1d ca)
          | (at_mapUpdate; refine wpList_mapUpdate_own _ rfl _ _ _ 94 rfl 28 3 law_u64 Tryz.underlying94 _ w.heap.size n _ rfl O2.out hn60 _ _ _ rfl rfl (keyOf_int_mk Tryz.underlying28 hwd.out) _ [] (plainElem_int Tryz.underlying3 hwn) ?_; intro w8 hown1 hgrow1; have O8 := Lib.hid hown1; have V8 := Lib.hid (V2.out.put hgrow1 (by have := HH0.out; omega) (by have := HH1.out; omega) HH2.out); clear hown1 hgrow1))
        go_roundw
        case rel => exact ⟨n + 1, _, by omega, by go_num, Lib.hid ((hM.out.put x n).ext (fun y => by rw [HNX.out y]; simp)), O8, V8⟩
        case measure => simp [intOf]; omega
    · obtain rfl : n = c.N := by omega
      go_wp2
      exact bodyPost_ret (v := .tuple #[]) (by simp [results, Tryz.results97]) rfl ⟨rfl, HV.out⟩
end Go.Proofs.YtcbfokbdiefdeaaGreatDoor
namespace Go.Proofs.YtcbfokbdiefdeaaGreatDoor
set_option linter.unusedVariables false
set_option linter.unusedSimpArgs false
open Go.RowKit

theorem rowL_all {hart : Int} {ev : Nat → Ev} {el : Nat → El} : ∀ (n : Nat), (rowL hart ev el n).isSome = true → ∀ k, k < n → (ev k).hart = hart ∧ (ev k).pos = k ∧ chkE (ev k) (el k) = true
  | 0, _, k, hk => by omega
  | n + 1, h, k, hk => by
    unfold rowL at h
    cases hr : rowL hart ev el n with
    | none => rw [hr] at h; simp at h
    | some last =>
      by_cases hkn : k = n
      · subst hkn
        rw [hr] at h
        simp only [Option.bind_some] at h
        unfold rowStep at h
        by_cases h1 : (ev k).hart ≠ hart
        · rw [if_pos h1] at h; cases h
        rw [if_neg h1] at h
        by_cases h2 : (ev k).pos ≠ k
        · rw [if_pos h2] at h; cases h
        rw [if_neg h2] at h
        by_cases h3 : chkE (ev k) (el k) = false
        · rw [if_pos h3] at h; cases h
        exact ⟨by simpa using h1, by simpa using h2, by simpa using h3⟩
      · exact rowL_all n (by rw [hr]; rfl) k (by omega)
theorem may_row {c : Cd} (hm : c.may = true) (h j : Nat) (hh : h < c.nh) (hj : j < c.len h) : (c.ev h j).hart = h ∧ (c.ev h j).pos = j ∧ chkE (c.ev h j) (c.el h j) = true := by
  have hm2 : (decide (0 < c.nh) && (decide (c.nh ≤ 8) && (decide (c.N ≤ 4096) && (riseL c.fs c.fs.length && (rowsL c c.nh && ((decide (c.fr.length = c.N) && foundL c c.N) && (ordL c c.od.length && decide (countW (waitsL c c.od.length) c.N = 0)))))))) = true := hm
  simp only [Bool.and_eq_true] at hm2
  have hr := all_at _ _ hm2.2.2.2.2.1 h hh
  exact rowL_all _ hr j hj
/-- of a number: whose it is -/
theorem may_num {c : Cd} (hm : c.may = true) (n : Nat) (hn : n < c.N) : ∃ h j, h < c.nh ∧ j < c.len h ∧ n = baseL c.len h + j ∧ c.at n = (c.ev h j, c.el h j) ∧ (c.at n).1.hart = h ∧ (c.at n).1.pos = j ∧ chkE (c.at n).1 (c.at n).2 = true := by
  obtain ⟨h, j, hh, hj, rfl⟩ := num_of c.len c.nh n hn
  have e := c.at_is h j hh hj
  obtain ⟨m1, m2, m3⟩ := may_row hm h j hh hj
  exact ⟨h, j, hh, hj, rfl, e, by rw [e]; exact m1, by rw [e]; exact m2, by rw [e]; exact m3⟩
theorem chk_parts {e : Ev} {l : El} (h : chkE e l = true) : (0 ≤ e.pred ∧ e.pred < 16) ∧ (0 ≤ e.succ ∧ e.succ < 16) := by
  unfold chkE at h
  simp only [Bool.and_eq_true] at h
  exact ⟨withinB_yes h.2.2.2.2.2.1, withinB_yes h.2.2.2.2.2.2.1⟩
theorem chk_kind {e : Ev} {l : El} (h : chkE e l = true) : 1 ≤ e.kind ∧ e.kind ≤ 6 := by
  unfold chkE at h
  simp only [Bool.and_eq_true] at h
  have h1 := h.1
  by_cases hk : 1 ≤ e.kind ∧ e.kind ≤ 6
  · exact hk
  · exfalso
    have h0 : fieldsOf e.kind = 0 := by
      unfold fieldsOf
      repeat (first | rw [if_neg (by omega)] | rfl)
    rw [h0] at h1
    exact absurd h1 (by decide)
theorem and_small : ∀ (x : Fin 16) (s : Fin 4), bits BinOp.and IntKind.i64 ((x.val : Nat) : Int) ((s.val : Nat) : Int) = (((x.val &&& s.val : Nat)) : Int) := by decide +kernel
theorem and_is (x : Int) (hx : 0 ≤ x ∧ x < 16) (s : Nat) (hs : s < 4) : bits BinOp.and IntKind.i64 x (s : Int) = ((x.toNat &&& s : Nat) : Int) := by
  have := and_small ⟨x.toNat, by omega⟩ ⟨s, hs⟩
  simp only at this
  rw [← this]
  congr 1
  omega
theorem meet_is (x : Int) (hx : 0 ≤ x ∧ x < 16) (s : Nat) (hs : s < 4) : ((bits BinOp.and IntKind.i64 x (s : Int)) != 0) = meetS x s := by
  rw [and_is x hx s hs]
  unfold meetS
  by_cases h : (x.toNat &&& s) = 0
  · rw [h]; rfl
  · have h2 : (((x.toNat &&& s : Nat)) : Int) ≠ 0 := by omega
    simp [h]
end Go.Proofs.YtcbfokbdiefdeaaGreatDoor
namespace Go.Proofs.YtcbfokbdiefdeaaGreatDoor
set_option linter.unusedVariables false
set_option linter.unusedSimpArgs false
open Go.RowKit

/-- which numbers were met, so many of the order gone through -/
def seenL (c : Cd) : Nat → Nat → Bool
  | 0, _ => false
  | k + 1, n => seenL c k n || decide ((n : Int) = atI c.od k)
theorem waits_seen (c : Cd) : ∀ (k n : Nat), waitsL c k n = (memE (c.at n).1 && !seenL c k n)
  | 0, n => by simp [waitsL, seenL]
  | k + 1, n => by
    show (waitsL c k n && decide ((n : Int) ≠ atI c.od k)) = (memE (c.at n).1 && !(seenL c k n || decide ((n : Int) = atI c.od k)))
    rw [waits_seen c k n]
    by_cases h : (n : Int) = atI c.od k
    · simp [h]
    · simp [h]
theorem seen_set (c : Cd) (k x n : Nat) (h : atI c.od k = (x : Int)) : seenL c (k + 1) n = if n = x then true else seenL c k n := by
  show (seenL c k n || decide ((n : Int) = atI c.od k)) = _
  rw [h]
  by_cases hn : n = x
  · subst hn; simp
  · rw [if_neg hn]
    have : decide ((n : Int) = (x : Int)) = false := by simp; omega
    rw [this, Bool.or_false]
theorem ord_seen (c : Cd) (k x : Nat) (h : atI c.od k = (x : Int)) (hx : x < c.N) : ordAt c k = (memE (c.at x).1 && !seenL c k x) := by
  rw [ordAt_in c k x h hx, waits_seen]
theorem ord_out (c : Cd) (k : Nat) (h : atI c.od k < 0 ∨ (c.N : Int) ≤ atI c.od k) : ordAt c k = false := by
  refine ordAt_out c k ?_
  unfold withinB
  rcases h with h | h
  · rw [decide_eq_false (by omega)]; rfl
  · rw [decide_eq_false (show ¬ atI c.od k < (c.N : Int) by omega), Bool.and_false]
theorem ord_sum (c : Cd) : ∀ (k : Nat), ordL c k = true → countW (waitsL c k) c.N + k = countW (waitsL c 0) c.N
  | 0, _ => rfl
  | k + 1, h => by
    have h2 : ((List.range (k + 1)).all (ordAt c)) = true := h
    rw [all_succ, Bool.and_eq_true] at h2
    have := ord_sum c k h2.1
    have := ord_step c k h2.2
    omega
theorem ordered_is (c : Cd) (h : ordL c c.od.length = true) : orderedB c = decide ((c.od.length : Int) = (countW (waitsL c 0) c.N : Nat)) := by
  have := ord_sum c c.od.length h
  unfold orderedB
  rw [h, Bool.true_and]
  apply decide_eq_decide.2
  omega
theorem ordered_no (c : Cd) (k : Nat) (hk : k < c.od.length) (h : ordAt c k = false) : orderedB c = false := by
  unfold orderedB
  rw [show ordL c c.od.length = false from all_stop (ordAt c) k c.od.length hk h]
  rfl
/-! ### what may not be -/
theorem may_no_rise {c : Cd} (h : riseL c.fs c.fs.length = false) : c.may = false := by rw [may_is, h]; simp
theorem may_no_few {c : Cd} (h : c.nh < 1) : c.may = false := by rw [may_is, decide_eq_false (show ¬ 0 < c.nh by omega)]; rfl
theorem may_no_many {c : Cd} (h : 8 < c.nh) : c.may = false := by rw [may_is, decide_eq_false (show ¬ c.nh ≤ 8 by omega)]; simp
theorem may_no_row {c : Cd} (k : Nat) (hk : k < c.nh) (h : rowB c k = false) : c.may = false := by
  rw [may_is, show rowsL c c.nh = false from all_stop (rowB c) k c.nh hk h]; simp
theorem may_no_len {c : Cd} (h : c.fr.length ≠ c.N) : c.may = false := by
  rw [may_is]; unfold foundB; rw [decide_eq_false h]; simp
theorem may_no_from {c : Cd} (k : Nat) (hk : k < c.N) (h : findB c k = false) : c.may = false := by
  rw [may_is]; unfold foundB; rw [show foundL c c.N = false from all_stop (findB c) k c.N hk h]; simp
theorem may_no_ord {c : Cd} (h : orderedB c = false) : c.may = false := by rw [may_is, h]; simp
theorem may_yes {c : Cd} (h0 : 0 < c.nh) (h8 : c.nh ≤ 8) (hN : c.N ≤ 60) (hf : riseL c.fs c.fs.length = true) (hr : rowsL c c.nh = true) (hl : c.fr.length = c.N) (hd : foundL c c.N = true) (r : Bool) (ho : orderedB c = r) : c.may = r := by
  rw [may_is, hf, hr]; unfold foundB
  rw [hd, ho, decide_eq_true h0, decide_eq_true h8, decide_eq_true hl, decide_eq_true (show c.N ≤ 4096 by omega)]; rfl
/-! ### marks -/
end Go.Proofs.YtcbfokbdiefdeaaGreatDoor
