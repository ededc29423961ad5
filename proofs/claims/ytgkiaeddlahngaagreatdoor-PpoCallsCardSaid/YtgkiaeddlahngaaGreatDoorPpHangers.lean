/-
  Proved here: findHangers lays the first one that hangs on each event by its address; nothing else that was there is changed. Condition: a view of at most 60 events of a candidate that may be.
-/
import Derived.Test.YtgkiaeddlahngaaGreatDoorPpFences
namespace Go.Proofs.YtgkiaeddlahngaaGreatDoor
set_option linter.unusedVariables false
set_option linter.unusedSimpArgs false
open Go.RowKit Go.Maps
attribute [local go_sem ↓] fold_E fold_SE
attribute [local irreducible] wpStill

theorem rises_last : ∀ (l : List Int) (lo : Int), risesFrom lo l = true → ∀ x ∈ l, x ≤ atI l (l.length - 1)
  | [], _, _, x, hx => by simp at hx
  | [y], lo, h, x, hx => by simp at hx; subst hx; simp [atI]
  | y :: z :: r, lo, h, x, hx => by
    simp only [risesFrom, Bool.and_eq_true, decide_eq_true_eq] at h
    have ih := rises_last (z :: r) y (by simp only [risesFrom, Bool.and_eq_true, decide_eq_true_eq]; exact h.2)
    have e : atI (y :: z :: r) ((y :: z :: r).length - 1) = atI (z :: r) ((z :: r).length - 1) := by simp [atI]
    rw [e]
    rcases List.mem_cons.1 hx with rfl | hx
    · have := ih z (by simp); omega
    · exact ih x hx
theorem ahead_in {p : Int} {l : List Int} (h : aheadB p l = true) : ∀ x ∈ l, 0 ≤ x ∧ x < p := by
  unfold aheadB at h
  simp only [Bool.and_eq_true, Bool.or_eq_true, decide_eq_true_eq] at h
  obtain ⟨h1, h2⟩ := h
  intro x hx
  have h3 := rises_lo l (-1) h1 x hx
  rcases h2 with h2 | h2
  · rw [List.length_eq_zero_iff.1 h2] at hx; simp at hx
  · have := rises_last l (-1) h1 x hx
    omega
theorem chk_lists {e : Ev} {l : El} (h : chkE e l = true) : aheadB e.pos l.a = true ∧ aheadB e.pos l.d = true ∧ aheadB e.pos l.y = true := by
  unfold chkE at h
  simp only [Bool.and_eq_true] at h
  have h1 := h.2.2.2.2.2.2.2.2
  unfold aheadAll at h1
  rw [List.all_eq_true] at h1
  exact ⟨h1 0 (by simp), h1 1 (by simp), h1 2 (by simp)⟩
def hanK (c : Cd) (n k : Nat) (K : Nat → Nat → Int) : Nat → Nat → Int := fun m j => if j = 6 ∧ m < c.N then hgP c m n k else K m j
theorem hgL_lt (c : Cd) (a : Int) : ∀ n, 0 ≤ hgL c a n ∧ hgL c a n ≤ (n : Int)
  | 0 => ⟨Int.le_refl _, Int.le_refl _⟩
  | n + 1 => by
    unfold hgL
    have := hgL_lt c a n
    split <;> omega
theorem hanK_zero (c : Cd) (K : Nat → Nat → Int) (h : ∀ m, m < c.N → K m 6 = 0) : hanK c 0 0 K = K := by
  funext m j
  unfold hanK
  by_cases hj : j = 6 ∧ m < c.N
  · rw [if_pos hj, hgP_zero, hj.1, h m hj.2]; rfl
  · rw [if_neg hj]
theorem hanK_row (c : Cd) (n : Nat) (K : Nat → Nat → Int) : hanK c n (c.at n).2.a.length K = hanK c (n + 1) 0 K := by
  funext m j
  unfold hanK
  rw [hgP_all, hgP_zero]
theorem hanK_put (c : Cd) (n k M : Nat) (K : Nat → Nat → Int) (hk : k < (c.at n).2.a.length) (hM : (M : Int) = numAt c n (atI (c.at n).2.a k)) (h0 : hgP c M n k = 0) (hMN : M < c.N) : updK (hanK c n k K) M 6 n = hanK c n (k + 1) K := by
  funext m j
  unfold updK hanK
  by_cases h : m = M ∧ j = 6
  · obtain ⟨rfl, rfl⟩ := h
    rw [if_pos ⟨rfl, rfl⟩, if_pos ⟨rfl, hMN⟩, hgP_next c m n k hk, if_pos ⟨h0, hM⟩]
  · rw [if_neg h]
    by_cases hj : j = 6 ∧ m < c.N
    · rw [if_pos hj, if_pos hj, hgP_next c m n k hk, if_neg (fun e => h ⟨by have := e.2.trans hM.symm; omega, hj.1⟩)]
    · rw [if_neg hj, if_neg hj]
theorem hanK_same (c : Cd) (n k M : Nat) (K : Nat → Nat → Int) (hk : k < (c.at n).2.a.length) (hM : (M : Int) = numAt c n (atI (c.at n).2.a k)) (h0 : hgP c M n k ≠ 0) : hanK c n k K = hanK c n (k + 1) K := by
  funext m j
  unfold hanK
  by_cases hj : j = 6 ∧ m < c.N
  · rw [if_pos hj, if_pos hj, hgP_next c m n k hk, if_neg (fun e => by
      have : m = M := by have := e.2.trans hM.symm; omega
      subst this; exact h0 e.1)]
  · rw [if_neg hj, if_neg hj]
set_option maxRecDepth 100000 in
set_option maxHeartbeats 16000000 in
theorem findHangers_v (c : Cd) (p : Vp) (w : World) (K : Nat → Nat → Int) (hK : ∀ m, m < c.N → K m 6 = 0) (h : Vw c K p w) (hm : c.may = true) (hL : Lt c) :
    Calls Tryz.prog 59 #[.pointer (some ⟨p.g, 0, none⟩)] w fun e w' => VwIs c (hanK c c.N 0 K) p e w' := by
  have hN := hL.n
  have HM := Lib.hid (fun n hn => may_num hm n hn)
  have HS : Hid (∀ n, n < c.N → (c.at n).2.a.length ≤ 60) := Lib.hid (fun n hn => by
    obtain ⟨h, j, hh, hj, rfl⟩ := num_of c.len c.nh n hn
    rw [c.at_is h j hh hj]
    exact ((hL.small h hh).2 j hj).1)
  rw [← hanK_zero c K hK] at h
  have H := Lib.hid h
  clear h hK hm hL
  obtain ⟨b0, b1, b2⟩ := H.out.three
  go_enter Tryz.func59, Tryz.ntmps59
  go_wp2
  clear b0 b1 b2
  go_loopw [12] (fun vi wr => ∃ (n : Nat), n ≤ c.N ∧ vi = .int .i64 n ∧ Hid (Vw c (hanK c n 0 K) p wr)) (fun vi _ => c.N - (intOf vi).toNat)
  case atStart => exact ⟨0, Nat.zero_le _, rfl, H⟩
  case round =>
    obtain ⟨n, hn, rfl, HV⟩ := hrel
    by_cases hlt : n < c.N
    · obtain ⟨hh, j, hhn, hjl, hnb, heq, hhart, hpos, hchk⟩ := HM.out n hlt
      have HCH := Lib.hid (ahead_in (chk_lists hchk).1)
      rw [hpos] at HCH
      have HLen := HS.out n hlt
      obtain ⟨b0, b1, b2⟩ := HV.out.three
      have hAA := HV.out.hA (by omega)
      rw [hAA] at b0
      have n0 : (0 : Int) ≤ (n : Int) := by omega
      have n1 : (n : Int) < (c.N : Int) := by omega
      have e1 : wr.cell? ⟨p.b, p.off + n * 14 + 1, none⟩ = some (.int .i64 (c.at n).1.pos) := HV.out.ev n hlt 1 _ rfl
      rw [hpos] at e1
      have e11 : wr.cell? ⟨p.b, p.off + n * 14 + 11, none⟩ = some (c.at n).1.a := HV.out.ev n hlt 11 _ rfl
      have HRL := Lib.hid (HV.out.rd n hlt).1
      obtain ⟨aL, cL, hsl⟩ := HRL.out.len
      obtain ⟨B, hB⟩ : ∃ B : Nat, baseL c.len hh = B := ⟨_, rfl⟩
      rw [hB] at hnb
      have hw1 : IntKind.i64.wrap ((n : Int) - (j : Int)) = (B : Int) := by rw [IntWalk.i64_in _ (by omega)]; omega
      have HNum : Hid (∀ x, numAt c n x = (B : Int) + x) := Lib.hid (fun x => by unfold numAt; rw [hpos]; omega)
      have hnbh := Lib.hid hnb
      clear hnb
      have hAAh := Lib.hid hAA
      rw [hsl] at e11
      have hslh := Lib.hid hsl
      clear hsl hAA heq hhart hchk hpos hB
      obtain ⟨l, hl⟩ : ∃ l, (c.at n).2.a = l := ⟨_, rfl⟩
      rw [hslh.out] at HRL
      rw [hl] at HRL HCH HLen e11
      rw [hl] at hslh
      have hlh := Lib.hid hl
      clear hl
      go_wp2
      clear e1 e11 b0 b1 b2 hw1
      go_loopw [35] (fun vk wk => ∃ (k : Nat), k ≤ l.length ∧ vk = .int .i64 k ∧ Hid (Vw c (hanK c n k K) p wk)) (fun vk _ => l.length - (intOf vk).toNat)
      case atStart => exact ⟨0, Nat.zero_le _, rfl, HV⟩
      case round =>
        obtain ⟨k, hk, rfl, VK⟩ := hrel
        by_cases hkl : k < l.length
        · have RK := Lib.hid (VK.out.rd n hlt).1
          rw [hslh.out, hlh.out] at RK
          obtain ⟨b0, b1, b2⟩ := VK.out.three
          rw [hAAh.out] at b0
          rcases RK.out with ⟨_, h0⟩ | ⟨bb, oo, cc, e, _, _, _, hcell⟩
          · rw [h0] at hkl; exact absurd hkl (by simp)
          injection e with e1 e2 e3
          subst e1
          have d0 := hcell k hkl
          have hmem : atI l k ∈ l := by unfold atI; rw [List.getD_eq_getElem?_getD, List.getElem?_eq_getElem hkl]; exact List.getElem_mem hkl
          obtain ⟨y0, y1⟩ := HCH.out _ hmem
          have HNx := Lib.hid (HNum.out (atI l k))
          have HKL : Hid (k < (c.at n).2.a.length) := Lib.hid (by rw [hlh.out]; exact hkl)
          have HAt : Hid (atI (c.at n).2.a k = atI l k) := Lib.hid (by rw [hlh.out])
          obtain ⟨x, hx⟩ : ∃ x : Nat, atI l k = (x : Int) := ⟨(atI l k).toNat, by omega⟩
          rw [hx] at d0 y0 y1 HNx HAt
          have hMN : B + x < c.N := by have := hnbh.out; omega
          obtain ⟨M, hM⟩ : ∃ M, B + x = M := ⟨_, rfl⟩
          have hw2 : IntKind.i64.wrap ((B : Int) + (x : Int)) = (M : Int) := by rw [IntWalk.i64_in _ (by omega)]; omega
          have HNM : Hid ((M : Int) = numAt c n (atI (c.at n).2.a k)) := Lib.hid (by rw [HAt.out, HNx.out]; omega)
          rw [hM] at hMN
          have m0 : (0 : Int) ≤ (M : Int) := by omega
          have m1 : (M : Int) < (c.N : Int) := by omega
          have k0 : (0 : Int) ≤ (k : Int) := by omega
          have k1 : (k : Int) < (l.length : Int) := by omega
          have g6 := VK.out.k M 6 hMN (by omega)
          have z6 := VK.out.free (M * 7 + 6)
          have hg : hanK c n k K M 6 = hgP c M n k := by unfold hanK; rw [if_pos ⟨rfl, hMN⟩]
          rw [hg] at g6
          obtain ⟨v, hv⟩ : ∃ v, Hid (hgP c M n k = v) := ⟨_, Lib.hid rfl⟩
          rw [hv.out] at g6
          clear hcell hg hx y0 y1 hM e2 e3 HNx hmem
          by_cases hv0 : v = 0
          · have hvb : (v == 0) = true := by simpa using hv0
            have VP := Lib.hid (VK.out.set M 6 hMN (by omega) (n : Int))
            rw [hanK_put c n k M K HKL.out HNM.out (by rw [hv.out]; exact hv0) hMN] at VP
            clear hv0
            go_wp2
            go_roundw
            case rel => exact ⟨k + 1, by omega, by go_num, VP⟩
            case measure => simp [intOf]; omega
          · have hvb : (v == 0) = false := by simpa using hv0
            have HS2 := Lib.hid (hanK_same c n k M K HKL.out HNM.out (by rw [hv.out]; exact hv0))
            clear hv0
            go_wp2
            go_roundw
            case rel => exact ⟨k + 1, by omega, by go_num, Lib.hid (by rw [← HS2.out]; exact VK.out)⟩
            case measure => simp [intOf]; omega
        · obtain rfl : k = l.length := by omega
          go_wp2
          go_roundw
          case rel => exact ⟨n + 1, by omega, by go_num, Lib.hid (by rw [← hanK_row, hlh.out]; exact VK.out)⟩
          case measure => simp [intOf]; omega
    · obtain rfl : n = c.N := by omega
      go_wp2
      exact bodyPost_ret (v := .tuple #[]) (by simp [results, Tryz.results59]) rfl ⟨rfl, HV.out⟩
end Go.Proofs.YtgkiaeddlahngaaGreatDoor
