/-
  Proved here: the document's own eater (layer 2) takes a register, a number, a fence's part, where one stands there. Condition: a text has at most 10000 bytes.
-/
import Derived.Test.YtfgfkpiddlehjaaGreatRef02Digits
import Derived.Test.YtfgfkpiddlehjaaGreatRef02Name
namespace Go.Proofs.YtfgfkpiddlehjaaGreat
set_option linter.unusedVariables false
open Go.RowKit

def PtOk0 (x : Value) (w : World) (e : Ending) (w' : World) : Prop := e = .returned x ∧ Below w.heap.size w w'
def GL : ByteArray := ⟨#[44, 32, 40, 41]⟩
/-- digits, and what is behind them -/
structure Num (D T : List UInt8) : Prop where
  digits : ∀ c ∈ D, digB c = true
  one : 1 ≤ D.length
  nine : D.length ≤ 9
  tail : T = [] ∨ ∃ c r, T = c :: r ∧ inG GL c = true
theorem digB_not (c : UInt8) (h : digB c = true) : inG GL c = false := by
  simp only [digB, Bool.and_eq_true, decide_eq_true_eq] at h
  unfold inG GL
  rw [ByteArray.toList_eq]
  simp
  refine ⟨?_, ?_, ?_, ?_⟩ <;> (intro e; subst e; simp at h)
theorem Num.take {D T : List UInt8} (h : Num D T) : (D ++ T).takeWhile (fun c => !inG GL c) = D := by
  rw [List.takeWhile_append_of_pos (fun c hc => by rw [digB_not c (h.digits c hc)]; rfl)]
  rcases h.tail with rfl | ⟨c, r, rfl, hc⟩
  · simp
  · rw [List.takeWhile_cons, hc]; simp
theorem Num.drop {D T : List UInt8} (h : Num D T) : (D ++ T).dropWhile (fun c => !inG GL c) = T := by
  rw [List.dropWhile_append_of_pos (fun c hc => by rw [digB_not c (h.digits c hc)]; rfl)]
  rcases h.tail with rfl | ⟨c, r, rfl, hc⟩
  · simp
  · rw [List.dropWhile_cons, hc]; simp
def TookOk (n : Nat) (x : Value) (T : List UInt8) (w : World) (e : Ending) (w' : World) : Prop := ∃ R : ByteArray, e = .returned x ∧ R.toList = T ∧ EatAt n R false w' ∧ Oth n w w'
theorem size_list {S : ByteArray} {l : List UInt8} (h : S.toList = l) : S.size = l.length := by rw [← h, ByteArray.toList_eq]; rfl
theorem upTo_num (n : Nat) (S : ByteArray) (D T : List UInt8) (b : Bool) (h : Num D T) (hS : Hid (S.toList = D ++ T)) (hl : S.size ≤ 10000) (w : World) (hE : EatAt n S b w) :
    Calls Tryz.prog 24 #[.pointer (some ⟨n, 0, none⟩), .string ⟨#[44, 32, 40, 41]⟩] w fun e w' => ∃ P R : ByteArray, e = .returned (.string P) ∧ P.toList = D ∧ R.toList = T ∧ EatAt n R b w' ∧ Oth n w w' := by
  refine (eatTo_any n S GL b w hE hl (by decide)).mono ?_
  rintro e w' ⟨P, R, rfl, hP, hR, h1, h2⟩
  rw [hS.out, h.take] at hP
  rw [hS.out, h.drop] at hR
  exact ⟨P, R, rfl, hP, hR, h1, h2⟩
theorem value_num (P : ByteArray) (D T : List UInt8) (v : Nat) (h : Num D T) (hP : Hid (P.toList = D)) (hv : Hid (decV D = v)) (w : World) : Calls Tryz.prog 47 #[.string P] w fun e w' => ValOk v w e w' := by
  have hs := size_list hP.out
  have := value_yes P (by have := h.one; omega) (by have := h.nine; omega) (by rw [hP.out]; exact h.digits) w
  rw [hP.out, hv.out] at this
  exact this
set_option maxRecDepth 100000 in
set_option maxHeartbeats 2000000 in
theorem reg_yes (n : Nat) (S : ByteArray) (D T : List UInt8) (v : Nat) (hv : Hid (decV D = v)) (h : Hid (Num D T)) (hS : Hid (S.toList = 120 :: (D ++ T))) (hl : S.size ≤ 10000) (w : World) (hE : EatAt n S false w) :
    Calls Tryz.prog 27 #[.pointer (some ⟨n, 0, none⟩)] w fun e w' => TookOk n (.int .i64 (v : Int)) T w e w' := by
  have E0 := Lib.hid hE
  have HA : Hid (S.toList = (⟨#[120]⟩ : ByteArray).toList ++ (D ++ T)) := Lib.hid (by rw [hS.out, ByteArray.toList_eq (⟨#[120]⟩ : ByteArray)]; rfl)
  have hlen := size_list hS.out
  simp only [List.length_cons] at hlen
  have hl2 : (D ++ T).length ≤ 10000 := by omega
  clear hE hlen
  go_enter Tryz.func27, Tryz.ntmps27
  go_wp2_with (first
    | (go_at_call 26; (with_reducible refine (eat_yes n S _ false (D ++ T) _ E0.out HA hl).mono ?_); rintro e w1 ⟨R1, rfl, hR, hE, hO⟩; have E1 := Lib.hid hE; have O1 := Lib.hid hO; have Q1 := Lib.hid hR; have hs1 : R1.size ≤ 10000 := (by have := size_list hR; omega); clear hE hO hR)
    | (go_at_call 24; (with_reducible refine (upTo_num n R1 D T false h.out Q1 hs1 _ E1.out).mono ?_); rintro e w2 ⟨P, R2, rfl, hP, hR, hE, hO⟩; have E2 := Lib.hid hE; have O2 := Lib.hid (O1.out.trans hO); have Q2 := Lib.hid hP; have Q3 := Lib.hid hR; clear hE hO hR hP)
    | (go_at_call 47; (with_reducible refine (value_num P D T v h.out Q2 hv _).mono ?_); rintro e w3 ⟨rfl, hb⟩; have E3 := Lib.hid (E2.out.below hb); have O3 := Lib.hid (O2.out.trans (Oth.of hb)); obtain ⟨hz, c0, c1, f0, f1⟩ := E3.out.facts; clear hb))
  go_ret
  exact ⟨R2, rfl, Q3.out, E3.out.bad false, O3.out.trans (Oth.setCell n 1 _ _)⟩
set_option maxRecDepth 100000 in
set_option maxHeartbeats 2000000 in
theorem imm_pos (n : Nat) (S : ByteArray) (D T : List UInt8) (v : Nat) (hv : Hid (decV D = v)) (hv9 : v ≤ 1000000000) (h : Hid (Num D T)) (hS : Hid (S.toList = D ++ T)) (hl : S.size ≤ 10000) (w : World) (hE : EatAt n S false w) :
    Calls Tryz.prog 28 #[.pointer (some ⟨n, 0, none⟩)] w fun e w' => TookOk n (.int .i64 (v : Int)) T w e w' := by
  have E0 := Lib.hid hE
  obtain ⟨hz, c0, c1, f0, f1⟩ := hE.facts
  have h1 : 0 < S.size := by have := size_list hS.out; rw [List.length_append] at this; have := h.out.one; omega
  have h2 : (0 : Int) < (S.size : Int) := by omega
  have hne : ((S[0].toNat : Int) == 45) = false := by
    have hg := getE S 0 h1
    rw [hS.out] at hg
    have hD := h.out.one
    obtain ⟨c, D', rfl⟩ : ∃ c D', D = c :: D' := by cases D with | nil => simp at hD | cons c D' => exact ⟨c, D', rfl⟩
    simp at hg
    have hc := h.out.digits c (by simp)
    simp only [digB, Bool.and_eq_true, decide_eq_true_eq] at hc
    rw [← hg]
    simp; omega
  clear hE
  go_enter Tryz.func28, Tryz.ntmps28
  go_wp2_with (first
    | (go_at_call 24; (with_reducible refine (upTo_num n S D T false h.out hS hl _ E0.out).mono ?_); rintro e w2 ⟨P, R2, rfl, hP, hR, hE, hO⟩; have E2 := Lib.hid hE; have O2 := Lib.hid hO; have Q2 := Lib.hid hP; have Q3 := Lib.hid hR; clear hE hO hR hP hz c0 c1 f0 f1)
    | (go_at_call 47; (with_reducible refine (value_num P D T v h.out Q2 hv _).mono ?_); rintro e w3 ⟨rfl, hb⟩; have E3 := Lib.hid (E2.out.below hb); have O3 := Lib.hid (O2.out.trans (Oth.of hb)); obtain ⟨hz, c0, c1, f0, f1⟩ := E3.out.facts; clear hb))
  go_ret
  exact ⟨R2, rfl, Q3.out, E3.out.bad false, O3.out.trans (Oth.setCell n 1 _ _)⟩
set_option maxRecDepth 100000 in
set_option maxHeartbeats 2000000 in
theorem imm_neg (n : Nat) (S : ByteArray) (D T : List UInt8) (v : Nat) (hv : Hid (decV D = v)) (hv9 : v ≤ 1000000000) (h : Hid (Num D T)) (hS : Hid (S.toList = 45 :: (D ++ T))) (hl : S.size ≤ 10000) (w : World) (hE : EatAt n S false w) :
    Calls Tryz.prog 28 #[.pointer (some ⟨n, 0, none⟩)] w fun e w' => TookOk n (.int .i64 (-(v : Int))) T w e w' := by
  have E0 := Lib.hid hE
  obtain ⟨hz, c0, c1, f0, f1⟩ := hE.facts
  have hlen := size_list hS.out
  simp only [List.length_cons] at hlen
  have h1 : 0 < S.size := by omega
  have h2 : (0 : Int) < (S.size : Int) := by omega
  have h3 : 1 ≤ S.size := by omega
  have hne : ((S[0].toNat : Int) == 45) = true := by
    have hg := getE S 0 h1
    rw [hS.out] at hg
    simp at hg
    rw [← hg]; rfl
  obtain ⟨S1, hS1⟩ : ∃ S1, S.extract 1 S.size = S1 := ⟨_, rfl⟩
  have HS1 : Hid (S1.toList = D ++ T) := Lib.hid (by
    rw [← hS1, ext_toList]
    have : S.size = S.toList.length := by rw [ByteArray.toList_eq]; rfl
    rw [this, List.take_length, hS.out]; rfl)
  have hl1 : S1.size ≤ 10000 := by have := size_list HS1.out; omega
  have E1 := Lib.hid (hE.text S1)
  have O1 := Lib.hid (Oth.setCell n 0 w (.string S1))
  have hm : wrap64 (-1 * (v : Int)) = -(v : Int) := by unfold wrap64; omega
  clear hE hlen
  go_enter Tryz.func28, Tryz.ntmps28
  go_wp2_with (first
    | (go_at_call 24; (with_reducible refine (upTo_num n S1 D T false h.out HS1 hl1 _ E1.out).mono ?_); rintro e w2 ⟨P, R2, rfl, hP, hR, hE, hO⟩; have E2 := Lib.hid hE; have O2 := Lib.hid (O1.out.trans hO); have Q2 := Lib.hid hP; have Q3 := Lib.hid hR; clear hE hO hR hP hz c0 c1 f0 f1)
    | (go_at_call 47; (with_reducible refine (value_num P D T v h.out Q2 hv _).mono ?_); rintro e w3 ⟨rfl, hb⟩; have E3 := Lib.hid (E2.out.below hb); have O3 := Lib.hid (O2.out.trans (Oth.of hb)); obtain ⟨hz, c0, c1, f0, f1⟩ := E3.out.facts; clear hb))
  go_ret
  exact ⟨R2, rfl, Q3.out, E3.out.bad false, O3.out.trans (Oth.setCell n 1 _ _)⟩
/-! ### names -/
theorem names_apart : ∀ j k : Fin 88, j.1 ≠ 0 → nameOf (j.1 : Nat) = nameOf (k.1 : Nat) → j = k := by decide +kernel
theorem name_cmp (N S : ByteArray) (l : List UInt8) (hN : N = ⟨l.toArray⟩) (b : Bool) (hb : (l == S.toList) = b) : (N.toList == S.toList) = b := by
  rw [hN, ByteArray.toList_eq (⟨l.toArray⟩ : ByteArray)]
  simpa using hb
def NamedWay (S : ByteArray) (g k0 : Nat) (w : World) (x : Value) (wr : World) : Prop := ∃ j : Nat, 1 ≤ j ∧ j ≤ k0 ∧ x = .int .i64 j ∧ wr.heap[g]? = some (.cells namesC 9 (0, 0)) ∧ Below w.heap.size w wr
attribute [local irreducible] namesC nameOf
set_option maxRecDepth 100000 in
set_option maxHeartbeats 2000000 in
/-- the first name that it is: k0; 88, if it is none -/
theorem named_at (S : ByteArray) (k0 : Nat) (v : Int) (hv : Hid ((if k0 < 88 then (k0 : Int) else 0) = v)) (hk : 1 ≤ k0 ∧ k0 ≤ 88) (hno : ∀ j, 1 ≤ j → j < k0 → (nameOf (j : Nat) == S.toList) = false) (hyes : k0 < 88 → (nameOf (k0 : Nat) == S.toList) = true) (w : World) :
    Calls Tryz.prog 25 #[.string S] w fun e w' => PtOk0 (.int .i64 v) w e w' := by
  have HN := Lib.hid hno
  have HY := Lib.hid hyes
  clear hno hyes
  go_enter Tryz.func25, Tryz.ntmps25
  go_wp2_with (go_at_call 46; (with_reducible refine (rnames_any _).mono ?_); rintro e w1 ⟨rfl, hr, hb⟩; have HB := Lib.hid hb; have HR := Lib.hid hr; clear hb hr)
  go_loopw [4] (fun x wr => NamedWay S w.heap.size k0 w x wr) (fun x _ => 88 - (intOf x).toNat)
  case atStart => exact ⟨1, by omega, hk.1, rfl, HR.out, HB.out⟩
  case round =>
    obtain ⟨j, hj1, hj2, rfl, hR, hB⟩ := hrel
    have HR1 := Lib.hid hR
    have HB1 := Lib.hid hB
    clear hB
    by_cases h88 : j < 88
    · have hc := (cell_of_row wr _ j _ _ _ hR).trans (names_at j h88)
      have ix := fun n => name_rg j h88 n
      obtain ⟨N, hN⟩ : ∃ N, (⟨(nameOf (j : Nat)).toArray⟩ : ByteArray) = N := ⟨_, rfl⟩
      rw [hN] at hc
      clear hR
      by_cases he : j = k0
      · have hq := name_cmp N S _ hN.symm true (by rw [he]; exact HY.out (by omega))
        have HE := Lib.hid he
        clear he hN
        go_wp2
        go_ret
        have : k0 < 88 := by have := HE.out; omega
        have hvv := hv.out
        rw [if_pos this, ← HE.out] at hvv
        exact ⟨ret_int hvv, HB1.out⟩
      · have hq := name_cmp N S _ hN.symm false (HN.out j hj1 (by omega))
        clear hN
        go_wp2
        go_roundw
        case rel => exact ⟨j + 1, by omega, by omega, by go_num, HR1.out, HB1.out⟩
        case measure => simp [intOf]; omega
    · clear hR
      have e : ¬ k0 < 88 := by omega
      go_wp2
      go_ret
      have hvv := hv.out
      rw [if_neg e] at hvv
      exact ⟨ret_int hvv, HB1.out⟩
end Go.Proofs.YtfgfkpiddlehjaaGreat
