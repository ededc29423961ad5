/-
  Proved here: ppo's ahead, first and Rule of any two ints, of any light candidate, may it be or not; nothing that was there is changed. Condition: a light candidate. (With it: Proved here: ppo's Rule answers the first rule of two numbers of which the first stands ahead; nothing that was there is changed. Condition: a light candidate that may be.)
  (With it: Proved here: ppo's ahead and first: the first rule that holds of two numbers; nothing that was there is changed. Condition: two numbers of a light candidate that may be.)
-/
import Derived.Test.YtcbfokbdiefdeaaGreatDoorPpRules2
import Derived.Laws.EntriesVeiled
namespace Go.Proofs.YtcbfokbdiefdeaaGreatDoor
set_option linter.unusedVariables false
set_option linter.unusedSimpArgs false
open Go.RowKit Go.Maps
attribute [local go_sem ↓] fold_E fold_SE
attribute [local irreducible] wpStill

def tabR : Array Value := #[.func (.func 118) #[] #[], .func (.func 119) #[] #[], .func (.func 120) #[] #[], .func (.func 121) #[] #[], .func (.func 122) #[] #[], .func (.func 123) #[] #[], .func (.func 124) #[] #[], .func (.func 125) #[] #[], .func (.func 126) #[] #[], .func (.func 127) #[] #[], .func (.func 128) #[] #[], .func (.func 129) #[] #[], .func (.func 130) #[] #[]]
def tabV : Value := .agg tabR
theorem tabR_at (w : World) : (w.alloc (.cells tabR 129)).heap[w.heap.size]? = some (.cells tabR 129 (0, 0)) := Array.getElem?_push_size
set_option maxRecDepth 100000 in
theorem rules_any (w : World) : Calls Tryz.prog 101 #[] w fun e w' => e = .returned tabV ∧ Below w.heap.size w w' := by
  go_enter Tryz.func101, Tryz.ntmps101
  go_wp2
  exact bodyPost_ret (v := tabV) (results_cell_row Tryz.results101 _ _ _ _ tabR (0, 0) _ rfl (tabR_at w) Tryz.underlying129 rfl (by as_aux_lemma => kernel_rfl)) rfl ⟨rfl, box_below _ _⟩
theorem index_rule0 (w : World) : (Instr.index 129 tabV (.int .i64 0)).run Tryz.prog w = .ok (.func (.func 118) #[] #[]) w := by kernel_rfl
theorem index_rule1 (w : World) : (Instr.index 129 tabV (.int .i64 1)).run Tryz.prog w = .ok (.func (.func 119) #[] #[]) w := by kernel_rfl
theorem index_rule2 (w : World) : (Instr.index 129 tabV (.int .i64 2)).run Tryz.prog w = .ok (.func (.func 120) #[] #[]) w := by kernel_rfl
theorem index_rule3 (w : World) : (Instr.index 129 tabV (.int .i64 3)).run Tryz.prog w = .ok (.func (.func 121) #[] #[]) w := by kernel_rfl
theorem index_rule4 (w : World) : (Instr.index 129 tabV (.int .i64 4)).run Tryz.prog w = .ok (.func (.func 122) #[] #[]) w := by kernel_rfl
theorem index_rule5 (w : World) : (Instr.index 129 tabV (.int .i64 5)).run Tryz.prog w = .ok (.func (.func 123) #[] #[]) w := by kernel_rfl
theorem index_rule6 (w : World) : (Instr.index 129 tabV (.int .i64 6)).run Tryz.prog w = .ok (.func (.func 124) #[] #[]) w := by kernel_rfl
theorem index_rule7 (w : World) : (Instr.index 129 tabV (.int .i64 7)).run Tryz.prog w = .ok (.func (.func 125) #[] #[]) w := by kernel_rfl
theorem index_rule8 (w : World) : (Instr.index 129 tabV (.int .i64 8)).run Tryz.prog w = .ok (.func (.func 126) #[] #[]) w := by kernel_rfl
theorem index_rule9 (w : World) : (Instr.index 129 tabV (.int .i64 9)).run Tryz.prog w = .ok (.func (.func 127) #[] #[]) w := by kernel_rfl
theorem index_rule10 (w : World) : (Instr.index 129 tabV (.int .i64 10)).run Tryz.prog w = .ok (.func (.func 128) #[] #[]) w := by kernel_rfl
theorem index_rule11 (w : World) : (Instr.index 129 tabV (.int .i64 11)).run Tryz.prog w = .ok (.func (.func 129) #[] #[]) w := by kernel_rfl
theorem index_rule12 (w : World) : (Instr.index 129 tabV (.int .i64 12)).run Tryz.prog w = .ok (.func (.func 130) #[] #[]) w := by kernel_rfl

set_option maxRecDepth 100000 in
set_option maxHeartbeats 8000000 in
theorem ahead_v (c : Cd) (p : Vp) (w : World) (h : Vw c (finK c) p w) (hk : ∀ n, n < c.N → 1 ≤ (c.at n).1.kind ∧ (c.at n).1.kind ≤ 6) (a b : Nat) (ha : a < c.N) (hb : b < c.N) (r : Bool) (hr : aheadP c a b = r) : Calls Tryz.prog 100 #[.pointer (some ⟨p.g, 0, none⟩), .int .i64 (a : Int), .int .i64 (b : Int)] w fun e w' => SaysB w r e w' := by
  have V0 := Lib.hid h
  have a0 : decide ((0 : Int) ≤ (a : Int)) = true := by simp
  have x1 : decide ((b : Int) < (c.N : Int)) = true := by simp; omega
  have hN := h.three.1
  obtain ⟨r1, h1⟩ : ∃ r, decide (a < b) = r := ⟨_, rfl⟩
  have hci : decide ((a : Int) < (b : Int)) = decide (a < b) := by simp
  obtain ⟨r2, hr2⟩ : ∃ r, Hid (decide ((c.at a).1.hart = (c.at b).1.hart) = r) := ⟨_, Lib.hid rfl⟩
  obtain ⟨r3, hr3⟩ : ∃ r, Hid (memE (c.at a).1 = r) := ⟨_, Lib.hid rfl⟩
  obtain ⟨r4, hr4⟩ : ∃ r, Hid (memE (c.at b).1 = r) := ⟨_, Lib.hid rfl⟩
  have HR : Hid ((r1 && (r2 && (r3 && r4))) = r) := Lib.hid (by
    rw [← hr, ← h1, ← hci, ← hr2.out, ← hr3.out, ← hr4.out]
    unfold aheadP
    rw [a0, x1]
    simp)
  have K2 := Lib.hid (fun w0 h0 => oneHart_v c (finK c) p w0 h0 a b ha hb r2 hr2.out)
  have K3 := Lib.hid (fun w0 h0 => memory_v c (finK c) p w0 h0 a ha (finK_side c a ha) r3 (by rw [mem_side _ (hk a ha)]; exact hr3.out))
  have K4 := Lib.hid (fun w0 h0 => memory_v c (finK c) p w0 h0 b hb (finK_side c b hb) r4 (by rw [mem_side _ (hk b hb)]; exact hr4.out))
  clear h hr hk ha hci
  cases r1 with
  | false =>
    go_enter Tryz.func100, Tryz.ntmps100
    go_wp2
    go_ret
    exact ⟨by rw [← HR.out]; rfl, Below.refl _ _⟩
  | true =>
    have hab : a < b := by simpa using h1
    cases r2 with
    | false =>
      go_enter Tryz.func100, Tryz.ntmps100
      go_wp2_with (go_at_call 78; (with_reducible refine (K2.out _ V0.out).mono ?_); rintro e' w2 ⟨rfl, hb2⟩; have V2 := Lib.hid (V0.out.on hb2); have L2 := Lib.hid (hb2); clear hb2)
      go_ret
      exact ⟨by rw [← HR.out]; rfl, L2.out⟩
    | true =>
      cases r3 with
      | false =>
        go_enter Tryz.func100, Tryz.ntmps100
        go_wp2_with (first | (go_at_call 78; (with_reducible refine (K2.out _ V0.out).mono ?_); rintro e' w2 ⟨rfl, hb2⟩; have V2 := Lib.hid (V0.out.on hb2); have L2 := Lib.hid (hb2); clear hb2) | (go_at_call 117; (with_reducible refine (K3.out _ V2.out).mono ?_); rintro e' w3 ⟨rfl, hb3⟩; have V3 := Lib.hid (V2.out.on hb3); have L3 := Lib.hid (L2.out.trans (hb3.mono L2.out.size)); clear hb3))
        go_ret
        exact ⟨by rw [← HR.out]; rfl, L3.out⟩
      | true =>
        cases r4
        all_goals
          go_enter Tryz.func100, Tryz.ntmps100
          go_wp2_with (first | (go_at_call 78; (with_reducible refine (K2.out _ V0.out).mono ?_); rintro e' w2 ⟨rfl, hb2⟩; have V2 := Lib.hid (V0.out.on hb2); have L2 := Lib.hid (hb2); clear hb2) | (go_at_call 117; (with_reducible refine (K3.out _ V2.out).mono ?_); rintro e' w3 ⟨rfl, hb3⟩; have V3 := Lib.hid (V2.out.on hb3); have L3 := Lib.hid (L2.out.trans (hb3.mono L2.out.size)); clear hb3) | (go_at_call 117; (with_reducible refine (K4.out _ V3.out).mono ?_); rintro e' w4 ⟨rfl, hb4⟩; have V4 := Lib.hid (V3.out.on hb4); have L4 := Lib.hid (L3.out.trans (hb4.mono L3.out.size)); clear hb4))
          go_ret
          exact ⟨by rw [← HR.out]; rfl, L4.out⟩

def FirstIs (w : World) (n : Nat) (e : Ending) (w' : World) : Prop := e = .returned (.int .i64 (n : Int)) ∧ Below w.heap.size w w'
theorem FirstIs.mk {w w' : World} {n m : Nat} (h : n = m) (hb : Below w.heap.size w w') : FirstIs w n (.returned (.int .i64 (m : Int))) w' := by subst h; exact ⟨rfl, hb⟩
set_option maxRecDepth 100000 in
set_option maxHeartbeats 16000000 in
theorem first_ahead (c : Cd) (p : Vp) (w : World) (h : Vw c (finK c) p w) (hx : Rx c) (hk : ∀ n, n < c.N → 1 ≤ (c.at n).1.kind ∧ (c.at n).1.kind ≤ 6) (a b : Nat) (ha : a < c.N) (hb : b < c.N) (hah : aheadP c a b = true) : Calls Tryz.prog 79 #[.pointer (some ⟨p.g, 0, none⟩), .int .i64 (a : Int), .int .i64 (b : Int)] w fun e w' => FirstIs w (firstL c a b) e w' := by
  have V0 := Lib.hid h
  have HX := Lib.hid hx
  have KA := Lib.hid (fun w0 h0 => ahead_v c p w0 h0 hk a b ha hb true hah)
  have KT := Lib.hid (fun w0 => rules_any w0)
  clear h hx hk hah
  go_enter Tryz.func79, Tryz.ntmps79
  go_wp2_with (first
    | (go_at_call 100; (with_reducible refine (KA.out _ V0.out).mono ?_); rintro e' w1 ⟨rfl, hb1⟩; have V1 := Lib.hid (V0.out.on hb1); have L1 := Lib.hid hb1; clear hb1)
    | (go_at_call 101; (with_reducible refine (KT.out _).mono ?_); rintro e' w2 ⟨rfl, hb2⟩; have V2 := Lib.hid (V1.out.on hb2); have L2 := Lib.hid (L1.out.trans (hb2.mono L1.out.size)); clear hb2))
  go_loopw [15] (fun vi wr => ∃ (k : Nat), k ≤ 13 ∧ vi = .int .i64 k ∧ Hid (firstL c a b = firstFrom (ruleB c a b) k (13 - k)) ∧ Hid (Below w.heap.size w wr) ∧ Hid (Vw c (finK c) p wr)) (fun vi _ => 13 - (intOf vi).toNat)
  case atStart => exact ⟨0, by omega, rfl, Lib.hid rfl, L2, V2⟩
  case round =>
    obtain ⟨k, hk, rfl, HF, LK, VK⟩ := hrel
    have hc : k = 0 ∨ k = 1 ∨ k = 2 ∨ k = 3 ∨ k = 4 ∨ k = 5 ∨ k = 6 ∨ k = 7 ∨ k = 8 ∨ k = 9 ∨ k = 10 ∨ k = 11 ∨ k = 12 ∨ k = 13 := by omega
    rcases hc with rfl | rfl | rfl | rfl | rfl | rfl | rfl | rfl | rfl | rfl | rfl | rfl | rfl | rfl
    · have HF2 : Hid (firstL c a b = if ruleB c a b 0 then 1 else firstFrom (ruleB c a b) 1 12) := Lib.hid (by rw [HF.out]; rfl)
      obtain ⟨r, hr⟩ : ∃ r, Hid (ruleB c a b 0 = r) := ⟨_, Lib.hid rfl⟩
      have KR := Lib.hid (rule_0 c p wr VK.out HX.out a b ha hb r hr.out)
      rw [hr.out] at HF2
      rw [show ((0 : Nat) : Int) = 0 from rfl]
      have hidx := index_rule0
      cases r with
      | false =>
        go_wp2_with (go_at_call 118; (with_reducible refine (KR.out).mono ?_); rintro e' w2 ⟨rfl, hb2⟩; have V2 := Lib.hid (VK.out.on hb2); have L2 := Lib.hid (LK.out.trans (hb2.mono LK.out.size)); clear hb2)
        go_roundw
        case rel => exact ⟨1, by omega, by go_num, HF2, L2, V2⟩
        case measure => simp [intOf]
      | true =>
        go_wp2_with (go_at_call 118; (with_reducible refine (KR.out).mono ?_); rintro e' w2 ⟨rfl, hb2⟩; have V2 := Lib.hid (VK.out.on hb2); have L2 := Lib.hid (LK.out.trans (hb2.mono LK.out.size)); clear hb2)
        go_ret
        exact FirstIs.mk HF2.out L2.out
    · have HF2 : Hid (firstL c a b = if ruleB c a b 1 then 2 else firstFrom (ruleB c a b) 2 11) := Lib.hid (by rw [HF.out]; rfl)
      obtain ⟨r, hr⟩ : ∃ r, Hid (ruleB c a b 1 = r) := ⟨_, Lib.hid rfl⟩
      have KR := Lib.hid (rule_1 c p wr VK.out HX.out a b ha hb r hr.out)
      rw [hr.out] at HF2
      rw [show ((1 : Nat) : Int) = 1 from rfl]
      have hidx := index_rule1
      cases r with
      | false =>
        go_wp2_with (go_at_call 119; (with_reducible refine (KR.out).mono ?_); rintro e' w2 ⟨rfl, hb2⟩; have V2 := Lib.hid (VK.out.on hb2); have L2 := Lib.hid (LK.out.trans (hb2.mono LK.out.size)); clear hb2)
        go_roundw
        case rel => exact ⟨2, by omega, by go_num, HF2, L2, V2⟩
        case measure => simp [intOf]
      | true =>
        go_wp2_with (go_at_call 119; (with_reducible refine (KR.out).mono ?_); rintro e' w2 ⟨rfl, hb2⟩; have V2 := Lib.hid (VK.out.on hb2); have L2 := Lib.hid (LK.out.trans (hb2.mono LK.out.size)); clear hb2)
        go_ret
        exact FirstIs.mk HF2.out L2.out
    · have HF2 : Hid (firstL c a b = if ruleB c a b 2 then 3 else firstFrom (ruleB c a b) 3 10) := Lib.hid (by rw [HF.out]; rfl)
      obtain ⟨r, hr⟩ : ∃ r, Hid (ruleB c a b 2 = r) := ⟨_, Lib.hid rfl⟩
      have KR := Lib.hid (rule_2 c p wr VK.out HX.out a b ha hb r hr.out)
      rw [hr.out] at HF2
      rw [show ((2 : Nat) : Int) = 2 from rfl]
      have hidx := index_rule2
      cases r with
      | false =>
        go_wp2_with (go_at_call 120; (with_reducible refine (KR.out).mono ?_); rintro e' w2 ⟨rfl, hb2⟩; have V2 := Lib.hid (VK.out.on hb2); have L2 := Lib.hid (LK.out.trans (hb2.mono LK.out.size)); clear hb2)
        go_roundw
        case rel => exact ⟨3, by omega, by go_num, HF2, L2, V2⟩
        case measure => simp [intOf]
      | true =>
        go_wp2_with (go_at_call 120; (with_reducible refine (KR.out).mono ?_); rintro e' w2 ⟨rfl, hb2⟩; have V2 := Lib.hid (VK.out.on hb2); have L2 := Lib.hid (LK.out.trans (hb2.mono LK.out.size)); clear hb2)
        go_ret
        exact FirstIs.mk HF2.out L2.out
    · have HF2 : Hid (firstL c a b = if ruleB c a b 3 then 4 else firstFrom (ruleB c a b) 4 9) := Lib.hid (by rw [HF.out]; rfl)
      obtain ⟨r, hr⟩ : ∃ r, Hid (ruleB c a b 3 = r) := ⟨_, Lib.hid rfl⟩
      have KR := Lib.hid (rule_3 c p wr VK.out HX.out a b ha hb r hr.out)
      rw [hr.out] at HF2
      rw [show ((3 : Nat) : Int) = 3 from rfl]
      have hidx := index_rule3
      cases r with
      | false =>
        go_wp2_with (go_at_call 121; (with_reducible refine (KR.out).mono ?_); rintro e' w2 ⟨rfl, hb2⟩; have V2 := Lib.hid (VK.out.on hb2); have L2 := Lib.hid (LK.out.trans (hb2.mono LK.out.size)); clear hb2)
        go_roundw
        case rel => exact ⟨4, by omega, by go_num, HF2, L2, V2⟩
        case measure => simp [intOf]
      | true =>
        go_wp2_with (go_at_call 121; (with_reducible refine (KR.out).mono ?_); rintro e' w2 ⟨rfl, hb2⟩; have V2 := Lib.hid (VK.out.on hb2); have L2 := Lib.hid (LK.out.trans (hb2.mono LK.out.size)); clear hb2)
        go_ret
        exact FirstIs.mk HF2.out L2.out
    · have HF2 : Hid (firstL c a b = if ruleB c a b 4 then 5 else firstFrom (ruleB c a b) 5 8) := Lib.hid (by rw [HF.out]; rfl)
      obtain ⟨r, hr⟩ : ∃ r, Hid (ruleB c a b 4 = r) := ⟨_, Lib.hid rfl⟩
      have KR := Lib.hid (rule_4 c p wr VK.out HX.out a b ha hb r hr.out)
      rw [hr.out] at HF2
      rw [show ((4 : Nat) : Int) = 4 from rfl]
      have hidx := index_rule4
      cases r with
      | false =>
        go_wp2_with (go_at_call 122; (with_reducible refine (KR.out).mono ?_); rintro e' w2 ⟨rfl, hb2⟩; have V2 := Lib.hid (VK.out.on hb2); have L2 := Lib.hid (LK.out.trans (hb2.mono LK.out.size)); clear hb2)
        go_roundw
        case rel => exact ⟨5, by omega, by go_num, HF2, L2, V2⟩
        case measure => simp [intOf]
      | true =>
        go_wp2_with (go_at_call 122; (with_reducible refine (KR.out).mono ?_); rintro e' w2 ⟨rfl, hb2⟩; have V2 := Lib.hid (VK.out.on hb2); have L2 := Lib.hid (LK.out.trans (hb2.mono LK.out.size)); clear hb2)
        go_ret
        exact FirstIs.mk HF2.out L2.out
    · have HF2 : Hid (firstL c a b = if ruleB c a b 5 then 6 else firstFrom (ruleB c a b) 6 7) := Lib.hid (by rw [HF.out]; rfl)
      obtain ⟨r, hr⟩ : ∃ r, Hid (ruleB c a b 5 = r) := ⟨_, Lib.hid rfl⟩
      have KR := Lib.hid (rule_5 c p wr VK.out HX.out a b ha hb r hr.out)
      rw [hr.out] at HF2
      rw [show ((5 : Nat) : Int) = 5 from rfl]
      have hidx := index_rule5
      cases r with
      | false =>
        go_wp2_with (go_at_call 123; (with_reducible refine (KR.out).mono ?_); rintro e' w2 ⟨rfl, hb2⟩; have V2 := Lib.hid (VK.out.on hb2); have L2 := Lib.hid (LK.out.trans (hb2.mono LK.out.size)); clear hb2)
        go_roundw
        case rel => exact ⟨6, by omega, by go_num, HF2, L2, V2⟩
        case measure => simp [intOf]
      | true =>
        go_wp2_with (go_at_call 123; (with_reducible refine (KR.out).mono ?_); rintro e' w2 ⟨rfl, hb2⟩; have V2 := Lib.hid (VK.out.on hb2); have L2 := Lib.hid (LK.out.trans (hb2.mono LK.out.size)); clear hb2)
        go_ret
        exact FirstIs.mk HF2.out L2.out
    · have HF2 : Hid (firstL c a b = if ruleB c a b 6 then 7 else firstFrom (ruleB c a b) 7 6) := Lib.hid (by rw [HF.out]; rfl)
      obtain ⟨r, hr⟩ : ∃ r, Hid (ruleB c a b 6 = r) := ⟨_, Lib.hid rfl⟩
      have KR := Lib.hid (rule_6 c p wr VK.out HX.out a b ha hb r hr.out)
      rw [hr.out] at HF2
      rw [show ((6 : Nat) : Int) = 6 from rfl]
      have hidx := index_rule6
      cases r with
      | false =>
        go_wp2_with (go_at_call 124; (with_reducible refine (KR.out).mono ?_); rintro e' w2 ⟨rfl, hb2⟩; have V2 := Lib.hid (VK.out.on hb2); have L2 := Lib.hid (LK.out.trans (hb2.mono LK.out.size)); clear hb2)
        go_roundw
        case rel => exact ⟨7, by omega, by go_num, HF2, L2, V2⟩
        case measure => simp [intOf]
      | true =>
        go_wp2_with (go_at_call 124; (with_reducible refine (KR.out).mono ?_); rintro e' w2 ⟨rfl, hb2⟩; have V2 := Lib.hid (VK.out.on hb2); have L2 := Lib.hid (LK.out.trans (hb2.mono LK.out.size)); clear hb2)
        go_ret
        exact FirstIs.mk HF2.out L2.out
    · have HF2 : Hid (firstL c a b = if ruleB c a b 7 then 8 else firstFrom (ruleB c a b) 8 5) := Lib.hid (by rw [HF.out]; rfl)
      obtain ⟨r, hr⟩ : ∃ r, Hid (ruleB c a b 7 = r) := ⟨_, Lib.hid rfl⟩
      have KR := Lib.hid (rule_7 c p wr VK.out HX.out a b ha hb r hr.out)
      rw [hr.out] at HF2
      rw [show ((7 : Nat) : Int) = 7 from rfl]
      have hidx := index_rule7
      cases r with
      | false =>
        go_wp2_with (go_at_call 125; (with_reducible refine (KR.out).mono ?_); rintro e' w2 ⟨rfl, hb2⟩; have V2 := Lib.hid (VK.out.on hb2); have L2 := Lib.hid (LK.out.trans (hb2.mono LK.out.size)); clear hb2)
        go_roundw
        case rel => exact ⟨8, by omega, by go_num, HF2, L2, V2⟩
        case measure => simp [intOf]
      | true =>
        go_wp2_with (go_at_call 125; (with_reducible refine (KR.out).mono ?_); rintro e' w2 ⟨rfl, hb2⟩; have V2 := Lib.hid (VK.out.on hb2); have L2 := Lib.hid (LK.out.trans (hb2.mono LK.out.size)); clear hb2)
        go_ret
        exact FirstIs.mk HF2.out L2.out
    · have HF2 : Hid (firstL c a b = if ruleB c a b 8 then 9 else firstFrom (ruleB c a b) 9 4) := Lib.hid (by rw [HF.out]; rfl)
      obtain ⟨r, hr⟩ : ∃ r, Hid (ruleB c a b 8 = r) := ⟨_, Lib.hid rfl⟩
      have KR := Lib.hid (rule_8 c p wr VK.out HX.out a b ha hb r hr.out)
      rw [hr.out] at HF2
      rw [show ((8 : Nat) : Int) = 8 from rfl]
      have hidx := index_rule8
      cases r with
      | false =>
        go_wp2_with (go_at_call 126; (with_reducible refine (KR.out).mono ?_); rintro e' w2 ⟨rfl, hb2⟩; have V2 := Lib.hid (VK.out.on hb2); have L2 := Lib.hid (LK.out.trans (hb2.mono LK.out.size)); clear hb2)
        go_roundw
        case rel => exact ⟨9, by omega, by go_num, HF2, L2, V2⟩
        case measure => simp [intOf]
      | true =>
        go_wp2_with (go_at_call 126; (with_reducible refine (KR.out).mono ?_); rintro e' w2 ⟨rfl, hb2⟩; have V2 := Lib.hid (VK.out.on hb2); have L2 := Lib.hid (LK.out.trans (hb2.mono LK.out.size)); clear hb2)
        go_ret
        exact FirstIs.mk HF2.out L2.out
    · have HF2 : Hid (firstL c a b = if ruleB c a b 9 then 10 else firstFrom (ruleB c a b) 10 3) := Lib.hid (by rw [HF.out]; rfl)
      obtain ⟨r, hr⟩ : ∃ r, Hid (ruleB c a b 9 = r) := ⟨_, Lib.hid rfl⟩
      have KR := Lib.hid (rule_9 c p wr VK.out HX.out a b ha hb r hr.out)
      rw [hr.out] at HF2
      rw [show ((9 : Nat) : Int) = 9 from rfl]
      have hidx := index_rule9
      cases r with
      | false =>
        go_wp2_with (go_at_call 127; (with_reducible refine (KR.out).mono ?_); rintro e' w2 ⟨rfl, hb2⟩; have V2 := Lib.hid (VK.out.on hb2); have L2 := Lib.hid (LK.out.trans (hb2.mono LK.out.size)); clear hb2)
        go_roundw
        case rel => exact ⟨10, by omega, by go_num, HF2, L2, V2⟩
        case measure => simp [intOf]
      | true =>
        go_wp2_with (go_at_call 127; (with_reducible refine (KR.out).mono ?_); rintro e' w2 ⟨rfl, hb2⟩; have V2 := Lib.hid (VK.out.on hb2); have L2 := Lib.hid (LK.out.trans (hb2.mono LK.out.size)); clear hb2)
        go_ret
        exact FirstIs.mk HF2.out L2.out
    · have HF2 : Hid (firstL c a b = if ruleB c a b 10 then 11 else firstFrom (ruleB c a b) 11 2) := Lib.hid (by rw [HF.out]; rfl)
      obtain ⟨r, hr⟩ : ∃ r, Hid (ruleB c a b 10 = r) := ⟨_, Lib.hid rfl⟩
      have KR := Lib.hid (rule_10 c p wr VK.out HX.out a b ha hb r hr.out)
      rw [hr.out] at HF2
      rw [show ((10 : Nat) : Int) = 10 from rfl]
      have hidx := index_rule10
      cases r with
      | false =>
        go_wp2_with (go_at_call 128; (with_reducible refine (KR.out).mono ?_); rintro e' w2 ⟨rfl, hb2⟩; have V2 := Lib.hid (VK.out.on hb2); have L2 := Lib.hid (LK.out.trans (hb2.mono LK.out.size)); clear hb2)
        go_roundw
        case rel => exact ⟨11, by omega, by go_num, HF2, L2, V2⟩
        case measure => simp [intOf]
      | true =>
        go_wp2_with (go_at_call 128; (with_reducible refine (KR.out).mono ?_); rintro e' w2 ⟨rfl, hb2⟩; have V2 := Lib.hid (VK.out.on hb2); have L2 := Lib.hid (LK.out.trans (hb2.mono LK.out.size)); clear hb2)
        go_ret
        exact FirstIs.mk HF2.out L2.out
    · have HF2 : Hid (firstL c a b = if ruleB c a b 11 then 12 else firstFrom (ruleB c a b) 12 1) := Lib.hid (by rw [HF.out]; rfl)
      obtain ⟨r, hr⟩ : ∃ r, Hid (ruleB c a b 11 = r) := ⟨_, Lib.hid rfl⟩
      have KR := Lib.hid (rule_11 c p wr VK.out HX.out a b ha hb r hr.out)
      rw [hr.out] at HF2
      rw [show ((11 : Nat) : Int) = 11 from rfl]
      have hidx := index_rule11
      cases r with
      | false =>
        go_wp2_with (go_at_call 129; (with_reducible refine (KR.out).mono ?_); rintro e' w2 ⟨rfl, hb2⟩; have V2 := Lib.hid (VK.out.on hb2); have L2 := Lib.hid (LK.out.trans (hb2.mono LK.out.size)); clear hb2)
        go_roundw
        case rel => exact ⟨12, by omega, by go_num, HF2, L2, V2⟩
        case measure => simp [intOf]
      | true =>
        go_wp2_with (go_at_call 129; (with_reducible refine (KR.out).mono ?_); rintro e' w2 ⟨rfl, hb2⟩; have V2 := Lib.hid (VK.out.on hb2); have L2 := Lib.hid (LK.out.trans (hb2.mono LK.out.size)); clear hb2)
        go_ret
        exact FirstIs.mk HF2.out L2.out
    · have HF2 : Hid (firstL c a b = if ruleB c a b 12 then 13 else firstFrom (ruleB c a b) 13 0) := Lib.hid (by rw [HF.out]; rfl)
      obtain ⟨r, hr⟩ : ∃ r, Hid (ruleB c a b 12 = r) := ⟨_, Lib.hid rfl⟩
      have KR := Lib.hid (rule_12 c p wr VK.out HX.out a b ha hb r hr.out)
      rw [hr.out] at HF2
      rw [show ((12 : Nat) : Int) = 12 from rfl]
      have hidx := index_rule12
      cases r with
      | false =>
        go_wp2_with (go_at_call 130; (with_reducible refine (KR.out).mono ?_); rintro e' w2 ⟨rfl, hb2⟩; have V2 := Lib.hid (VK.out.on hb2); have L2 := Lib.hid (LK.out.trans (hb2.mono LK.out.size)); clear hb2)
        go_roundw
        case rel => exact ⟨13, by omega, by go_num, HF2, L2, V2⟩
        case measure => simp [intOf]
      | true =>
        go_wp2_with (go_at_call 130; (with_reducible refine (KR.out).mono ?_); rintro e' w2 ⟨rfl, hb2⟩; have V2 := Lib.hid (VK.out.on hb2); have L2 := Lib.hid (LK.out.trans (hb2.mono LK.out.size)); clear hb2)
        go_ret
        exact FirstIs.mk HF2.out L2.out
    · go_wp2
      go_ret
      exact FirstIs.mk HF.out LK.out

end Go.Proofs.YtcbfokbdiefdeaaGreatDoor
namespace Go.Proofs.YtcbfokbdiefdeaaGreatDoor
set_option linter.unusedVariables false
set_option linter.unusedSimpArgs false
open Go.RowKit Go.Maps
attribute [local go_sem ↓] fold_E fold_SE

theorem may_kind {c : Cd} (hm : c.may = true) : ∀ n, n < c.N → 1 ≤ (c.at n).1.kind ∧ (c.at n).1.kind ≤ 6 := fun n hn => by
  obtain ⟨_, _, _, _, _, _, _, _, hk⟩ := may_num hm n hn
  exact chk_kind hk
end Go.Proofs.YtcbfokbdiefdeaaGreatDoor
namespace Go.Proofs.YtcbfokbdiefdeaaGreatDoor
set_option linter.unusedVariables false
set_option linter.unusedSimpArgs false
open Go.RowKit Go.Maps
attribute [local go_sem ↓] fold_E fold_SE

theorem aheadP_in {c : Cd} {a b : Int} (h : aheadP c a b = true) : 0 ≤ a ∧ a < b ∧ b < (c.N : Int) := by
  unfold aheadP at h
  simp only [Bool.and_eq_true, decide_eq_true_eq] at h
  exact ⟨h.1, h.2.1, h.2.2.1⟩
theorem aheadP_out {c : Cd} {a b : Int} (h : ¬ (0 ≤ a ∧ a < b ∧ b < (c.N : Int))) : aheadP c a b = false := by
  cases hr : aheadP c a b with
  | false => rfl
  | true => exact absurd (aheadP_in hr) h
set_option maxRecDepth 100000 in
set_option maxHeartbeats 4000000 in
theorem ahead_any (c : Cd) (p : Vp) (w : World) (h : Vw c (finK c) p w) (hk : ∀ n, n < c.N → 1 ≤ (c.at n).1.kind ∧ (c.at n).1.kind ≤ 6) (a b : Int) (r : Bool) (hr : aheadP c a b = r) : Calls Tryz.prog 100 #[.pointer (some ⟨p.g, 0, none⟩), .int .i64 a, .int .i64 b] w fun e w' => SaysB w r e w' := by
  by_cases h1 : 0 ≤ a ∧ a < b ∧ b < (c.N : Int)
  · obtain ⟨x, rfl⟩ : ∃ x : Nat, a = x := ⟨a.toNat, by omega⟩
    obtain ⟨y, rfl⟩ : ∃ y : Nat, b = y := ⟨b.toNat, by omega⟩
    exact ahead_v c p w h hk x y (by omega) (by omega) r hr
  · have hf := aheadP_out h1
    rw [hr] at hf
    subst hf
    have hN := h.three.1
    clear hr hk h
    by_cases h2 : 0 ≤ a
    · have d1 : decide (0 ≤ a) = true := by simpa using h2
      by_cases h3 : a < b
      · have d2 : decide (a < b) = true := by simpa using h3
        have d3 : decide (b < (c.N : Int)) = false := by simp; omega
        clear h1 h2 h3
        go_enter Tryz.func100, Tryz.ntmps100
        go_wp2
        go_ret
        exact ⟨rfl, Below.refl _ _⟩
      · have d2 : decide (a < b) = false := by simpa using h3
        clear h1 h2 h3
        go_enter Tryz.func100, Tryz.ntmps100
        go_wp2
        go_ret
        exact ⟨rfl, Below.refl _ _⟩
    · have d1 : decide (0 ≤ a) = false := by simpa using h2
      clear h1 h2
      go_enter Tryz.func100, Tryz.ntmps100
      go_wp2
      go_ret
      exact ⟨rfl, Below.refl _ _⟩
set_option maxRecDepth 100000 in
set_option maxHeartbeats 4000000 in
theorem first_any (c : Cd) (p : Vp) (w : World) (h : Vw c (finK c) p w) (hx : Rx c) (hk : ∀ n, n < c.N → 1 ≤ (c.at n).1.kind ∧ (c.at n).1.kind ≤ 6) (a b : Int) : Calls Tryz.prog 79 #[.pointer (some ⟨p.g, 0, none⟩), .int .i64 a, .int .i64 b] w fun e w' => FirstIs w (ruleL c a b) e w' := by
  cases hah : aheadP c a b with
  | true =>
    obtain ⟨h0, h1, h2⟩ := aheadP_in hah
    obtain ⟨x, rfl⟩ : ∃ x : Nat, a = x := ⟨a.toNat, by omega⟩
    obtain ⟨y, rfl⟩ : ∃ y : Nat, b = y := ⟨b.toNat, by omega⟩
    have hz : ruleL c x y = firstL c x y := by unfold ruleL; rw [hah, if_pos rfl, Int.toNat_natCast, Int.toNat_natCast]
    rw [hz]
    exact first_ahead c p w h hx hk x y (by omega) (by omega) hah
  | false =>
    have hz : Hid (ruleL c a b = 0) := Lib.hid (by unfold ruleL; rw [hah]; rfl)
    have V0 := Lib.hid h
    have KA := Lib.hid (fun w0 h0 => ahead_any c p w0 h0 hk a b false hah)
    clear h hx hk hah
    go_enter Tryz.func79, Tryz.ntmps79
    go_wp2_with (go_at_call 100; (with_reducible refine (KA.out _ V0.out).mono ?_); rintro e' w1 ⟨rfl, hb1⟩; have L1 := Lib.hid hb1; clear hb1)
    go_ret
    exact FirstIs.mk (m := 0) hz.out L1.out
/-- a view of none -/
def Ve (g : Nat) (w : World) : Prop := w.heap[g]? = some (.cells #[.slice none 0 0, .slice none 0 0, .slice none 0 0] 111 (0, 0))
theorem Ve.lt {g : Nat} {w : World} (h : Ve g w) : g < w.heap.size := (Array.getElem?_eq_some_iff.1 h).1
theorem Ve.on {g : Nat} {w w' : World} (h : Ve g w) (hb : Below w.heap.size w w') : Ve g w' := (hb.block g h.lt).trans h
theorem Ve.all {g : Nat} {w : World} (h : Ve g w) : w.cell? ⟨g, 0, none⟩ = some (.slice none 0 0) := by rw [cell_of_row w g 0 _ _ _ h]; rfl
def PLookNo (w : World) (e : Ending) (w' : World) : Prop := ∃ g, e = .returned (.tuple #[.pointer (some ⟨g, 0, none⟩), .bool false]) ∧ Ve g w' ∧ Below w.heap.size w w'
set_option maxRecDepth 100000 in
set_option maxHeartbeats 4000000 in
theorem plook_no (c : Cd) (q : Cv) (w : World) (hL : Lt c) (h : CAt c q w) (hm : c.may = false) : Calls Tryz.prog 77 #[cdV c q] w fun e w' => PLookNo w e w' := by
  have KC := Lib.hid (fun w0 h0 => check_c c q w0 hL h0 false hm)
  have S0 := Lib.hid (Lk.start h)
  clear h hL hm
  obtain ⟨u0, u1, u2, u3⟩ := S0.out.box.facts
  go_enter Tryz.func77, Tryz.ntmps77
  go_wp2_with (go_at_call 58; (with_reducible refine (KC.out _ S0.out.at_).mono ?_); rintro e' w1 ⟨rfl, hb⟩; have S1 := Lib.hid (S0.out.on hb); clear hb u0 u1 u2 u3)
  exact bodyPost_ret (v := .tuple #[.pointer (some ⟨w1.heap.size, 0, none⟩), .bool false]) (by simp [results, Tryz.results77]) rfl ⟨w1.heap.size, rfl, Array.getElem?_push_size, S1.out.below.trans ((box_below w1 _).mono S1.out.below.size)⟩
end Go.Proofs.YtcbfokbdiefdeaaGreatDoor
