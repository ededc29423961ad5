/-
  Proved here: findSides lays what each event does to memory; nothing else that was there is changed. Condition: a view of at most 60 events, nothing known yet.
-/
import Derived.Test.YtgkiaeddlahngaaGreatDoorPpView
namespace Go.Proofs.YtgkiaeddlahngaaGreatDoor
set_option linter.unusedVariables false
set_option linter.unusedSimpArgs false
open Go.RowKit
attribute [local go_sem ↓] fold_E fold_SE

def sidesK (c : Cd) (n : Nat) : Nat → Nat → Int := fun m j => if j = 0 ∧ m < n then ((sideE (c.at m).1 : Nat) : Int) else 0
theorem sidesK_zero (c : Cd) : sidesK c 0 = fun _ _ => 0 := by funext m j; unfold sidesK; rw [if_neg (by omega)]
theorem sidesK_next (c : Cd) (n : Nat) (x : Int) (hx : x = ((sideE (c.at n).1 : Nat) : Int)) : updK (sidesK c n) n 0 x = sidesK c (n + 1) := by
  funext m j
  unfold updK sidesK
  by_cases h : m = n ∧ j = 0
  · obtain ⟨rfl, rfl⟩ := h
    rw [if_pos ⟨rfl, rfl⟩, if_pos ⟨rfl, by omega⟩, hx]
  · rw [if_neg h]
    by_cases h2 : j = 0 ∧ m < n
    · rw [if_pos h2, if_pos ⟨h2.1, by omega⟩]
    · rw [if_neg h2, if_neg (by omega)]
theorem sidesK_same (c : Cd) (n : Nat) (hx : sideE (c.at n).1 = 0) : sidesK c n = sidesK c (n + 1) := by
  rw [← sidesK_next c n 0 (by rw [hx]; rfl)]
  funext m j
  unfold updK
  by_cases h : m = n ∧ j = 0
  · obtain ⟨rfl, rfl⟩ := h
    rw [if_pos ⟨rfl, rfl⟩]; unfold sidesK; rw [if_neg (by omega)]
  · rw [if_neg h]
theorem updK_twice (K : Nat → Nat → Int) (n j : Nat) (x y : Int) : updK (updK K n j x) n j y = updK K n j y := by
  funext a b; unfold updK; split <;> rfl
def VwIs (c : Cd) (K : Nat → Nat → Int) (p : Vp) (e : Ending) (w' : World) : Prop := e = .returned (.tuple #[]) ∧ Vw c K p w'
set_option maxRecDepth 100000 in
set_option maxHeartbeats 8000000 in
theorem findSides_v (c : Cd) (p : Vp) (w : World) (h : Vw c (fun _ _ => 0) p w) (hN : c.N ≤ 60) : Calls Tryz.prog 56 #[.pointer (some ⟨p.g, 0, none⟩)] w fun e w' => VwIs c (sidesK c c.N) p e w' := by
  rw [← sidesK_zero c] at h
  have H := Lib.hid h
  clear h
  obtain ⟨b0, b1, b2⟩ := H.out.three
  go_enter Tryz.func56, Tryz.ntmps56
  go_wp2
  clear b0 b1 b2
  go_loopw [9] (fun vi wr => ∃ (n : Nat), n ≤ c.N ∧ vi = .int .i64 n ∧ Hid (Vw c (sidesK c n) p wr)) (fun vi _ => c.N - (intOf vi).toNat)
  case atStart => exact ⟨0, Nat.zero_le _, rfl, H⟩
  case round =>
    obtain ⟨n, hn, rfl, HV⟩ := hrel
    by_cases hlt : n < c.N
    · have hAA := HV.out.hA (by omega)
      have cl := (HV.out.ev n hlt).load
      have hfl := Lib.hid (HV.out.rd n hlt).flat
      obtain ⟨e, he⟩ : ∃ e, Hid ((c.at n).1 = e) := ⟨_, Lib.hid rfl⟩
      rw [he.out] at cl hfl
      rw [hAA]
      have n0 : (0 : Int) ≤ (n : Int) := by omega
      have n1 : (n : Int) < (c.N : Int) := by omega
      obtain ⟨r1, hr1⟩ : ∃ r, Hid (readsE e = r) := ⟨_, Lib.hid rfl⟩
      obtain ⟨r2, hr2⟩ : ∃ r, Hid (writesE e = r) := ⟨_, Lib.hid rfl⟩
      have KR := Lib.hid (fun w0 => Reads_b e r1 hr1.out w0)
      have KW := Lib.hid (fun w0 => Writes_b e r2 hr2.out w0)
      have HS : Hid (sideE (c.at n).1 = (if r1 = true then 2 else 0) + (if r2 = true then 1 else 0)) := Lib.hid (by rw [he.out]; unfold sideE; rw [hr1.out, hr2.out])
      have hgk : p.gk < wr.heap.size := (Array.getElem?_eq_some_iff.1 HV.out.kn).1
      have hne : wr.heap.size ≠ p.gk := by omega
      clear hAA
      go_upto_region 3 with (refine store_ev (EvAt.new zeroEv wr) e hfl.out rfl (.tmp 3) (.tmp 13) rfl rfl rfl ?_; intro w1 D1 ho1 hb1 hz1; have E1 := Lib.hid D1; have B1 := Lib.hid ((box_below wr (.cells #[.int .i64 0, .int .i64 0, .int .i64 0, .int .u64 0, .int .u64 0, .int .u64 0, .bool false, .bool false, .int .i64 0, .int .i64 0, .int .i64 0, .slice none 0 0, .slice none 0 0, .slice none 0 0] 48)).trans hb1); clear D1 ho1 hb1 hz1)
      clear cl
      have V1 := Lib.hid (HV.out.on B1.out)
      have cl := run_LoadE E1.out
      obtain ⟨b0, b1, b2⟩ := V1.out.three
      have o1 : bits BinOp.or IntKind.i64 0 2 = 2 := by kernel_rfl
      have o2 : bits BinOp.or IntKind.i64 2 1 = 3 := by kernel_rfl
      have o3 : bits BinOp.or IntKind.i64 0 1 = 1 := by kernel_rfl
      have K0 : Hid (some (Value.int .i64 (sidesK c n n 0)) = some (Value.int .i64 0)) := Lib.hid (by unfold sidesK; rw [if_neg (by omega)])
      have k0 : w1.cell? ⟨p.gk, n * 7, none⟩ = some (.int .i64 0) := (V1.out.k n 0 hlt (by omega)).trans K0.out
      cases r1 with
      | false =>
        cases r2 with
        | false =>
          have HX : Hid (((sideE (c.at n).1 : Nat) : Int) = 0) := Lib.hid (by rw [HS.out]; rfl)
          go_wp2_with (first | (go_at_call 84; (with_reducible refine (KR.out _).mono ?_); rintro e' w2 ⟨rfl, hb⟩; have V2 := Lib.hid (V1.out.on hb); have E2 := Lib.hid (E1.out.on hb); clear hb b0 b1 b2 k0 cl; obtain ⟨b0, b1, b2⟩ := V2.out.three; have cl := run_LoadE E2.out; have k0 : w2.cell? ⟨p.gk, n * 7, none⟩ = some (.int .i64 0) := (V2.out.k n 0 hlt (by omega)).trans K0.out; have z0 : w2.frozen? ⟨p.gk, n * 7, none⟩ = false := V2.out.free _) | (go_at_call 85; (with_reducible refine (KW.out _).mono ?_); rintro e' w4 ⟨rfl, hb⟩; have V4 := Lib.hid (V2.out.on hb); clear hb b0 b1 b2 k0 cl z0; obtain ⟨b0, b1, b2⟩ := V4.out.three; have k0 : w4.cell? ⟨p.gk, n * 7, none⟩ = some (.int .i64 0) := (V4.out.k n 0 hlt (by omega)).trans K0.out; have z0 : w4.frozen? ⟨p.gk, n * 7, none⟩ = false := V4.out.free _))
          have V5 : Hid (Vw c (sidesK c (n + 1)) p w4) := Lib.hid (by rw [← sidesK_same c n (by have := HX.out; omega)]; exact V4.out)
          go_roundw
          case rel => exact ⟨n + 1, by omega, by go_num, V5⟩
          case measure => simp [intOf]; omega
        | true =>
          have HX : Hid (((sideE (c.at n).1 : Nat) : Int) = 1) := Lib.hid (by rw [HS.out]; rfl)
          go_wp2_with (first | (go_at_call 84; (with_reducible refine (KR.out _).mono ?_); rintro e' w2 ⟨rfl, hb⟩; have V2 := Lib.hid (V1.out.on hb); have E2 := Lib.hid (E1.out.on hb); clear hb b0 b1 b2 k0 cl; obtain ⟨b0, b1, b2⟩ := V2.out.three; have cl := run_LoadE E2.out; have k0 : w2.cell? ⟨p.gk, n * 7, none⟩ = some (.int .i64 0) := (V2.out.k n 0 hlt (by omega)).trans K0.out; have z0 : w2.frozen? ⟨p.gk, n * 7, none⟩ = false := V2.out.free _) | (go_at_call 85; (with_reducible refine (KW.out _).mono ?_); rintro e' w4 ⟨rfl, hb⟩; have V4 := Lib.hid (V2.out.on hb); clear hb b0 b1 b2 k0 cl z0; obtain ⟨b0, b1, b2⟩ := V4.out.three; have k0 : w4.cell? ⟨p.gk, n * 7, none⟩ = some (.int .i64 0) := (V4.out.k n 0 hlt (by omega)).trans K0.out; have z0 : w4.frozen? ⟨p.gk, n * 7, none⟩ = false := V4.out.free _))
          have V5 : Hid (Vw c (sidesK c (n + 1)) p (w4.setCell ⟨p.gk, n * 7, none⟩ (.int .i64 1))) := Lib.hid (by have := V4.out.set n 0 hlt (by omega) 1; rw [sidesK_next c n 1 HX.out.symm] at this; exact this)
          go_roundw
          case rel => exact ⟨n + 1, by omega, by go_num, V5⟩
          case measure => simp [intOf]; omega
      | true =>
        cases r2 with
        | false =>
          have HX : Hid (((sideE (c.at n).1 : Nat) : Int) = 2) := Lib.hid (by rw [HS.out]; rfl)
          go_wp2_with (first | (go_at_call 84; (with_reducible refine (KR.out _).mono ?_); rintro e' w2 ⟨rfl, hb⟩; have V2 := Lib.hid (V1.out.on hb); have E2 := Lib.hid (E1.out.on hb); clear hb b0 b1 b2 k0 cl; obtain ⟨b0, b1, b2⟩ := V2.out.three; have cl := run_LoadE E2.out; have k0 : w2.cell? ⟨p.gk, n * 7, none⟩ = some (.int .i64 0) := (V2.out.k n 0 hlt (by omega)).trans K0.out; have z0 : w2.frozen? ⟨p.gk, n * 7, none⟩ = false := V2.out.free _; have E3 : Hid (EvAt e wr.heap.size (w2.setCell ⟨p.gk, n * 7, none⟩ (.int .i64 2))) := Lib.hid ((Below.heap_setCell w2 ⟨p.gk, n * 7, none⟩ (.int .i64 2) wr.heap.size hne).trans E2.out); have c3 := run_LoadE E3.out; have V3 : Hid (Vw c (updK (sidesK c n) n 0 2) p (w2.setCell ⟨p.gk, n * 7, none⟩ (.int .i64 2))) := Lib.hid (V2.out.set n 0 hlt (by omega) 2)) | (go_at_call 85; (with_reducible refine (KW.out _).mono ?_); rintro e' w4 ⟨rfl, hb⟩; have V4 := Lib.hid (V3.out.on hb); clear hb b0 b1 b2 k0 cl z0 c3; obtain ⟨b0, b1, b2⟩ := V4.out.three; have k0 : w4.cell? ⟨p.gk, n * 7, none⟩ = some (.int .i64 2) := (V4.out.k n 0 hlt (by omega)).trans (by unfold updK; rw [if_pos ⟨rfl, rfl⟩]); have z0 : w4.frozen? ⟨p.gk, n * 7, none⟩ = false := V4.out.free _))
          have V5 : Hid (Vw c (sidesK c (n + 1)) p w4) := Lib.hid (by have := V4.out; rw [sidesK_next c n 2 HX.out.symm] at this; exact this)
          go_roundw
          case rel => exact ⟨n + 1, by omega, by go_num, V5⟩
          case measure => simp [intOf]; omega
        | true =>
          have HX : Hid (((sideE (c.at n).1 : Nat) : Int) = 3) := Lib.hid (by rw [HS.out]; rfl)
          go_wp2_with (first | (go_at_call 84; (with_reducible refine (KR.out _).mono ?_); rintro e' w2 ⟨rfl, hb⟩; have V2 := Lib.hid (V1.out.on hb); have E2 := Lib.hid (E1.out.on hb); clear hb b0 b1 b2 k0 cl; obtain ⟨b0, b1, b2⟩ := V2.out.three; have cl := run_LoadE E2.out; have k0 : w2.cell? ⟨p.gk, n * 7, none⟩ = some (.int .i64 0) := (V2.out.k n 0 hlt (by omega)).trans K0.out; have z0 : w2.frozen? ⟨p.gk, n * 7, none⟩ = false := V2.out.free _; have E3 : Hid (EvAt e wr.heap.size (w2.setCell ⟨p.gk, n * 7, none⟩ (.int .i64 2))) := Lib.hid ((Below.heap_setCell w2 ⟨p.gk, n * 7, none⟩ (.int .i64 2) wr.heap.size hne).trans E2.out); have c3 := run_LoadE E3.out; have V3 : Hid (Vw c (updK (sidesK c n) n 0 2) p (w2.setCell ⟨p.gk, n * 7, none⟩ (.int .i64 2))) := Lib.hid (V2.out.set n 0 hlt (by omega) 2)) | (go_at_call 85; (with_reducible refine (KW.out _).mono ?_); rintro e' w4 ⟨rfl, hb⟩; have V4 := Lib.hid (V3.out.on hb); clear hb b0 b1 b2 k0 cl z0 c3; obtain ⟨b0, b1, b2⟩ := V4.out.three; have k0 : w4.cell? ⟨p.gk, n * 7, none⟩ = some (.int .i64 2) := (V4.out.k n 0 hlt (by omega)).trans (by unfold updK; rw [if_pos ⟨rfl, rfl⟩]); have z0 : w4.frozen? ⟨p.gk, n * 7, none⟩ = false := V4.out.free _))
          have V5 : Hid (Vw c (sidesK c (n + 1)) p (w4.setCell ⟨p.gk, n * 7, none⟩ (.int .i64 3))) := Lib.hid (by have := V4.out.set n 0 hlt (by omega) 3; rw [updK_twice, sidesK_next c n 3 HX.out.symm] at this; exact this)
          go_roundw
          case rel => exact ⟨n + 1, by omega, by go_num, V5⟩
          case measure => simp [intOf]; omega
    · obtain rfl : n = c.N := by omega
      go_wp2
      exact bodyPost_ret (v := .tuple #[]) (by simp [results, Tryz.results56]) rfl ⟨rfl, HV.out⟩
end Go.Proofs.YtgkiaeddlahngaaGreatDoor
