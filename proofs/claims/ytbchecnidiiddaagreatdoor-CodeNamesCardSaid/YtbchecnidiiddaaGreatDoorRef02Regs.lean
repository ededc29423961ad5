/-
  Proved here: the document's own eater (layer 2) takes a register, a number, a fence's part, where one stands there. Condition: a text has at most 10000 bytes.
  (With it: Proved here: what the document's own Name answers of an op (layer 2). No condition.)
-/
import Derived.Test.YtbchecnidiiddaaGreatDoorRef02Form
import Derived.OwnWalk
import Derived.Test.YtbchecnidiiddaaGreatDoorInsnShape
import Derived.Great.BuildSlice
import Derived.Test.YtbchecnidiiddaaGreatDoorRef02Digits
namespace Go.Proofs.YtbchecnidiiddaaGreatDoor
open Go.RowKit
def namesC : Array Value := ((List.range 88).map (fun k : Nat => Value.string ⟨(nameOf (k : Int)).toArray⟩)).toArray
theorem names_at (k : Nat) (h : k < 88) : namesC[k]? = some (.string ⟨(nameOf (k : Int)).toArray⟩) := by
  unfold namesC
  rw [List.getElem?_toArray, List.getElem?_map, List.getElem?_range h]
  rfl
attribute [local irreducible] namesC
set_option maxRecDepth 100000 in
theorem rnames_any (w : World) : Calls Tryz.prog 74 #[] w fun e w' => e = .returned (.slice (some ⟨w.heap.size, 0, none⟩) 88 88) ∧ w'.heap[w.heap.size]? = some (.cells namesC 9 (0, 0)) ∧ Below w.heap.size w w' := by
  have h1 : (Tryz.prog.info? 9).map (·.size) = some 1 := by kernel_rfl
  have h2 : (Tryz.prog.info? 9).bind (·.zero) = some (.string ⟨#[]⟩) := by kernel_rfl
  obtain ⟨ie, hie, hz⟩ := Option.bind_eq_some_iff.1 h2
  have hs : ie.size = 1 := by rw [hie] at h1; simpa using h1
  clear h1 h2
  go_enter Tryz.func74, Tryz.ntmps74
  go_wp2_with (first | (refine wpList_buildSlice rfl 32 9 88 _ rfl namesC ie (.string ⟨#[]⟩) Tryz.underlying32 hie hz (by rw [hs]; decide) (by rw [hs]; decide) (by rw [hs]; kernel_rfl) ?_))
  go_ret
  exact ⟨rfl, Array.getElem?_push_size, (Below.refl _ _).alloc (Nat.le_refl _) _⟩
theorem name_rg (k : Nat) (hk : k < 88) (n : Nat) (w : World) : (Instr.indexAt 32 (.slice (some ⟨n, 0, none⟩) 88 88) (.int .i64 (k : Int))).run Tryz.prog w = .ok (.pointer (some ⟨n, k, none⟩)) w := by
  have h1 : (0 : Int) ≤ k ∧ (k : Int) < 88 := by omega
  simp [Instr.indexAt, go_sem, Tryz.sizeOf9, h1, hk, Addr.add]
  intro h; omega
set_option maxRecDepth 100000 in
theorem rName_some (k : Nat) (hk : k < 88) (hf : formOf (k : Int) ≠ 0) (w : World) : Calls Tryz.prog 78 #[.int .i64 (k : Int)] w fun e w' => e = .returned (.string ⟨(nameOf (k : Int)).toArray⟩) ∧ Below w.heap.size w w' := by
  have b0 : (formOf (k : Int) == 0) = false := by simpa using hf
  have ix := fun n => name_rg k hk n
  clear hf
  go_enter Tryz.func78, Tryz.ntmps78
  go_wp2_with (first | (go_at_call 36; (with_reducible refine (rForm_any _ _).mono ?_); rintro e w' ⟨rfl, rfl⟩) | (go_at_call 74; (with_reducible refine (rnames_any _).mono ?_); rintro e w1 ⟨rfl, hr, hb⟩; have hc := (cell_of_row w1 _ k _ _ _ hr).trans (names_at k hk); have HB := Lib.hid hb; clear hb hr))
  go_ret
  exact ⟨rfl, HB.out⟩
theorem rName_none (op : Int) (hf : formOf op = 0) (w : World) : Calls Tryz.prog 78 #[.int .i64 op] w fun e w' => e = .returned (.string ⟨#[]⟩) ∧ Below w.heap.size w w' := by
  have HF := Lib.hid hf
  clear hf
  go_enter Tryz.func78, Tryz.ntmps78
  go_wp2_with (first | (go_at_call 36; (with_reducible refine (HF.out ▸ rForm_any op _ : Calls Tryz.prog 36 #[.int .i64 op] _ fun e w' => e = .returned (.int .i64 0) ∧ _ = w').mono ?_); rintro e w' ⟨rfl, rfl⟩))
  go_ret
  exact ⟨rfl, Below.refl _ _⟩
theorem rName_any (op : Int) (w : World) : Calls Tryz.prog 78 #[.int .i64 op] w fun e w' => (∃ N, e = .returned (.string N)) ∧ Below w.heap.size w w' := by
  by_cases hf : formOf op = 0
  · exact (rName_none op hf w).mono fun e w' h => ⟨⟨_, h.1⟩, h.2⟩
  · obtain ⟨k, rfl, hk, _⟩ : ∃ k : Nat, op = (k : Int) ∧ k < 88 ∧ k ≠ 0 := by
      rcases (by omega : op < 0 ∨ 88 ≤ op ∨ op = 0 ∨ (0 < op ∧ op < 88)) with h1 | h1 | h1 | h1
      · exact absurd (by unfold formOf; rw [row_none op (Or.inl h1)]; rfl) hf
      · exact absurd (by unfold formOf; rw [row_none op (Or.inr h1)]; rfl) hf
      · subst h1; exact absurd (by decide +kernel) hf
      · exact ⟨op.toNat, by omega, by omega, by omega⟩
    exact (rName_some k hk hf w).mono fun e w' h => ⟨⟨_, h.1⟩, h.2⟩
def ldB (op : Int) : Bool := ([4, 11, 12] : List Int).contains (formOf op) && !(op == 68 || op == 69)
def stB (op : Int) : Bool := ([5, 12] : List Int).contains (formOf op)
def MemPost (op : Int) (w : World) (e : Ending) (w' : World) : Prop := e = .returned (.tuple #[.bool (ldB op), .bool (stB op), .int .i64 (sizeOf' op)]) ∧ Below w.heap.size w w'
end Go.Proofs.YtbchecnidiiddaaGreatDoor
namespace Go.Proofs.YtbchecnidiiddaaGreatDoor
set_option linter.unusedVariables false
open Go.RowKit

def PtOk0 (x : Value) (w : World) (e : Ending) (w' : World) : Prop := e = .returned x ∧ Below w.heap.size w w'
def GL : ByteArray := ⟨#[44, 32, 40, 41]⟩
/-- digits, and what is behind them -/
structure Num (D T : List UInt8) : Prop where
  digits : ∀ c ∈ D, digB c = true
  one : 1 ≤ D.length
  nine : D.length ≤ 9
  tail : T = [] ∨ ∃ c r, T = c :: r ∧ inG GL c = true
theorem digB_not (c : UInt8) (h : digB c = true) : inG GL c = false := by
  simp only [digB, Bool.and_eq_true, decide_eq_true_eq] at h
  unfold inG GL
  rw [ByteArray.toList_eq]
  simp
  refine ⟨?_, ?_, ?_, ?_⟩ <;> (intro e; subst e; simp at h)
theorem Num.take {D T : List UInt8} (h : Num D T) : (D ++ T).takeWhile (fun c => !inG GL c) = D := by
  rw [List.takeWhile_append_of_pos (fun c hc => by rw [digB_not c (h.digits c hc)]; rfl)]
  rcases h.tail with rfl | ⟨c, r, rfl, hc⟩
  · simp
  · rw [List.takeWhile_cons, hc]; simp
theorem Num.drop {D T : List UInt8} (h : Num D T) : (D ++ T).dropWhile (fun c => !inG GL c) = T := by
  rw [List.dropWhile_append_of_pos (fun c hc => by rw [digB_not c (h.digits c hc)]; rfl)]
  rcases h.tail with rfl | ⟨c, r, rfl, hc⟩
  · simp
  · rw [List.dropWhile_cons, hc]; simp
def TookOk (n : Nat) (x : Value) (T : List UInt8) (w : World) (e : Ending) (w' : World) : Prop := ∃ R : ByteArray, e = .returned x ∧ R.toList = T ∧ EatAt n R false w' ∧ Oth n w w'
theorem size_list {S : ByteArray} {l : List UInt8} (h : S.toList = l) : S.size = l.length := by rw [← h, ByteArray.toList_eq]; rfl
theorem upTo_num (n : Nat) (S : ByteArray) (D T : List UInt8) (b : Bool) (h : Num D T) (hS : Hid (S.toList = D ++ T)) (hl : S.size ≤ 10000) (w : World) (hE : EatAt n S b w) :
    Calls Tryz.prog 34 #[.pointer (some ⟨n, 0, none⟩), .string ⟨#[44, 32, 40, 41]⟩] w fun e w' => ∃ P R : ByteArray, e = .returned (.string P) ∧ P.toList = D ∧ R.toList = T ∧ EatAt n R b w' ∧ Oth n w w' := by
  refine (eatTo_any n S GL b w hE hl (by decide)).mono ?_
  rintro e w' ⟨P, R, rfl, hP, hR, h1, h2⟩
  rw [hS.out, h.take] at hP
  rw [hS.out, h.drop] at hR
  exact ⟨P, R, rfl, hP, hR, h1, h2⟩
theorem value_num (P : ByteArray) (D T : List UInt8) (v : Nat) (h : Num D T) (hP : Hid (P.toList = D)) (hv : Hid (decV D = v)) (w : World) : Calls Tryz.prog 75 #[.string P] w fun e w' => ValOk v w e w' := by
  have hs := size_list hP.out
  have := value_yes P (by have := h.one; omega) (by have := h.nine; omega) (by rw [hP.out]; exact h.digits) w
  rw [hP.out, hv.out] at this
  exact this
set_option maxRecDepth 100000 in
set_option maxHeartbeats 2000000 in
theorem reg_yes (n : Nat) (S : ByteArray) (D T : List UInt8) (v : Nat) (hv : Hid (decV D = v)) (h : Hid (Num D T)) (hS : Hid (S.toList = 120 :: (D ++ T))) (hl : S.size ≤ 10000) (w : World) (hE : EatAt n S false w) :
    Calls Tryz.prog 38 #[.pointer (some ⟨n, 0, none⟩)] w fun e w' => TookOk n (.int .i64 (v : Int)) T w e w' := by
  have E0 := Lib.hid hE
  have HA : Hid (S.toList = (⟨#[120]⟩ : ByteArray).toList ++ (D ++ T)) := Lib.hid (by rw [hS.out, ByteArray.toList_eq (⟨#[120]⟩ : ByteArray)]; rfl)
  have hlen := size_list hS.out
  simp only [List.length_cons] at hlen
  have hl2 : (D ++ T).length ≤ 10000 := by omega
  clear hE hlen
  go_enter Tryz.func38, Tryz.ntmps38
  go_wp2_with (first
    | (go_at_call 37; (with_reducible refine (eat_yes n S _ false (D ++ T) _ E0.out HA hl).mono ?_); rintro e w1 ⟨R1, rfl, hR, hE, hO⟩; have E1 := Lib.hid hE; have O1 := Lib.hid hO; have Q1 := Lib.hid hR; have hs1 : R1.size ≤ 10000 := (by have := size_list hR; omega); clear hE hO hR)
    | (go_at_call 34; (with_reducible refine (upTo_num n R1 D T false h.out Q1 hs1 _ E1.out).mono ?_); rintro e w2 ⟨P, R2, rfl, hP, hR, hE, hO⟩; have E2 := Lib.hid hE; have O2 := Lib.hid (O1.out.trans hO); have Q2 := Lib.hid hP; have Q3 := Lib.hid hR; clear hE hO hR hP)
    | (go_at_call 75; (with_reducible refine (value_num P D T v h.out Q2 hv _).mono ?_); rintro e w3 ⟨rfl, hb⟩; have E3 := Lib.hid (E2.out.below hb); have O3 := Lib.hid (O2.out.trans (Oth.of hb)); obtain ⟨hz, c0, c1, f0, f1⟩ := E3.out.facts; clear hb))
  go_ret
  exact ⟨R2, rfl, Q3.out, E3.out.bad false, O3.out.trans (Oth.setCell n 1 _ _)⟩
set_option maxRecDepth 100000 in
set_option maxHeartbeats 2000000 in
theorem imm_pos (n : Nat) (S : ByteArray) (D T : List UInt8) (v : Nat) (hv : Hid (decV D = v)) (hv9 : v ≤ 1000000000) (h : Hid (Num D T)) (hS : Hid (S.toList = D ++ T)) (hl : S.size ≤ 10000) (w : World) (hE : EatAt n S false w) :
    Calls Tryz.prog 39 #[.pointer (some ⟨n, 0, none⟩)] w fun e w' => TookOk n (.int .i64 (v : Int)) T w e w' := by
  have E0 := Lib.hid hE
  obtain ⟨hz, c0, c1, f0, f1⟩ := hE.facts
  have h1 : 0 < S.size := by have := size_list hS.out; rw [List.length_append] at this; have := h.out.one; omega
  have h2 : (0 : Int) < (S.size : Int) := by omega
  have hne : ((S[0].toNat : Int) == 45) = false := by
    have hg := getE S 0 h1
    rw [hS.out] at hg
    have hD := h.out.one
    obtain ⟨c, D', rfl⟩ : ∃ c D', D = c :: D' := by cases D with | nil => simp at hD | cons c D' => exact ⟨c, D', rfl⟩
    simp at hg
    have hc := h.out.digits c (by simp)
    simp only [digB, Bool.and_eq_true, decide_eq_true_eq] at hc
    rw [← hg]
    simp; omega
  clear hE
  go_enter Tryz.func39, Tryz.ntmps39
  go_wp2_with (first
    | (go_at_call 34; (with_reducible refine (upTo_num n S D T false h.out hS hl _ E0.out).mono ?_); rintro e w2 ⟨P, R2, rfl, hP, hR, hE, hO⟩; have E2 := Lib.hid hE; have O2 := Lib.hid hO; have Q2 := Lib.hid hP; have Q3 := Lib.hid hR; clear hE hO hR hP hz c0 c1 f0 f1)
    | (go_at_call 75; (with_reducible refine (value_num P D T v h.out Q2 hv _).mono ?_); rintro e w3 ⟨rfl, hb⟩; have E3 := Lib.hid (E2.out.below hb); have O3 := Lib.hid (O2.out.trans (Oth.of hb)); obtain ⟨hz, c0, c1, f0, f1⟩ := E3.out.facts; clear hb))
  go_ret
  exact ⟨R2, rfl, Q3.out, E3.out.bad false, O3.out.trans (Oth.setCell n 1 _ _)⟩
set_option maxRecDepth 100000 in
set_option maxHeartbeats 2000000 in
theorem imm_neg (n : Nat) (S : ByteArray) (D T : List UInt8) (v : Nat) (hv : Hid (decV D = v)) (hv9 : v ≤ 1000000000) (h : Hid (Num D T)) (hS : Hid (S.toList = 45 :: (D ++ T))) (hl : S.size ≤ 10000) (w : World) (hE : EatAt n S false w) :
    Calls Tryz.prog 39 #[.pointer (some ⟨n, 0, none⟩)] w fun e w' => TookOk n (.int .i64 (-(v : Int))) T w e w' := by
  have E0 := Lib.hid hE
  obtain ⟨hz, c0, c1, f0, f1⟩ := hE.facts
  have hlen := size_list hS.out
  simp only [List.length_cons] at hlen
  have h1 : 0 < S.size := by omega
  have h2 : (0 : Int) < (S.size : Int) := by omega
  have h3 : 1 ≤ S.size := by omega
  have hne : ((S[0].toNat : Int) == 45) = true := by
    have hg := getE S 0 h1
    rw [hS.out] at hg
    simp at hg
    rw [← hg]; rfl
  obtain ⟨S1, hS1⟩ : ∃ S1, S.extract 1 S.size = S1 := ⟨_, rfl⟩
  have HS1 : Hid (S1.toList = D ++ T) := Lib.hid (by
    rw [← hS1, ext_toList]
    have : S.size = S.toList.length := by rw [ByteArray.toList_eq]; rfl
    rw [this, List.take_length, hS.out]; rfl)
  have hl1 : S1.size ≤ 10000 := by have := size_list HS1.out; omega
  have E1 := Lib.hid (hE.text S1)
  have O1 := Lib.hid (Oth.setCell n 0 w (.string S1))
  have hm : wrap64 (-1 * (v : Int)) = -(v : Int) := by unfold wrap64; omega
  clear hE hlen
  go_enter Tryz.func39, Tryz.ntmps39
  go_wp2_with (first
    | (go_at_call 34; (with_reducible refine (upTo_num n S1 D T false h.out HS1 hl1 _ E1.out).mono ?_); rintro e w2 ⟨P, R2, rfl, hP, hR, hE, hO⟩; have E2 := Lib.hid hE; have O2 := Lib.hid (O1.out.trans hO); have Q2 := Lib.hid hP; have Q3 := Lib.hid hR; clear hE hO hR hP hz c0 c1 f0 f1)
    | (go_at_call 75; (with_reducible refine (value_num P D T v h.out Q2 hv _).mono ?_); rintro e w3 ⟨rfl, hb⟩; have E3 := Lib.hid (E2.out.below hb); have O3 := Lib.hid (O2.out.trans (Oth.of hb)); obtain ⟨hz, c0, c1, f0, f1⟩ := E3.out.facts; clear hb))
  go_ret
  exact ⟨R2, rfl, Q3.out, E3.out.bad false, O3.out.trans (Oth.setCell n 1 _ _)⟩
/-! ### names -/
theorem names_apart : ∀ j k : Fin 88, j.1 ≠ 0 → nameOf (j.1 : Nat) = nameOf (k.1 : Nat) → j = k := by decide +kernel
theorem name_cmp (N S : ByteArray) (l : List UInt8) (hN : N = ⟨l.toArray⟩) (b : Bool) (hb : (l == S.toList) = b) : (N.toList == S.toList) = b := by
  rw [hN, ByteArray.toList_eq (⟨l.toArray⟩ : ByteArray)]
  simpa using hb
def NamedWay (S : ByteArray) (g k0 : Nat) (w : World) (x : Value) (wr : World) : Prop := ∃ j : Nat, 1 ≤ j ∧ j ≤ k0 ∧ x = .int .i64 j ∧ wr.heap[g]? = some (.cells namesC 9 (0, 0)) ∧ Below w.heap.size w wr
attribute [local irreducible] namesC nameOf
set_option maxRecDepth 100000 in
set_option maxHeartbeats 2000000 in
/-- the first name that it is: k0; 88, if it is none -/
theorem named_at (S : ByteArray) (k0 : Nat) (v : Int) (hv : Hid ((if k0 < 88 then (k0 : Int) else 0) = v)) (hk : 1 ≤ k0 ∧ k0 ≤ 88) (hno : ∀ j, 1 ≤ j → j < k0 → (nameOf (j : Nat) == S.toList) = false) (hyes : k0 < 88 → (nameOf (k0 : Nat) == S.toList) = true) (w : World) :
    Calls Tryz.prog 35 #[.string S] w fun e w' => PtOk0 (.int .i64 v) w e w' := by
  have HN := Lib.hid hno
  have HY := Lib.hid hyes
  clear hno hyes
  go_enter Tryz.func35, Tryz.ntmps35
  go_wp2_with (go_at_call 74; (with_reducible refine (rnames_any _).mono ?_); rintro e w1 ⟨rfl, hr, hb⟩; have HB := Lib.hid hb; have HR := Lib.hid hr; clear hb hr)
  go_loopw [4] (fun x wr => NamedWay S w.heap.size k0 w x wr) (fun x _ => 88 - (intOf x).toNat)
  case atStart => exact ⟨1, by omega, hk.1, rfl, HR.out, HB.out⟩
  case round =>
    obtain ⟨j, hj1, hj2, rfl, hR, hB⟩ := hrel
    have HR1 := Lib.hid hR
    have HB1 := Lib.hid hB
    clear hB
    by_cases h88 : j < 88
    · have hc := (cell_of_row wr _ j _ _ _ hR).trans (names_at j h88)
      have ix := fun n => name_rg j h88 n
      obtain ⟨N, hN⟩ : ∃ N, (⟨(nameOf (j : Nat)).toArray⟩ : ByteArray) = N := ⟨_, rfl⟩
      rw [hN] at hc
      clear hR
      by_cases he : j = k0
      · have hq := name_cmp N S _ hN.symm true (by rw [he]; exact HY.out (by omega))
        have HE := Lib.hid he
        clear he hN
        go_wp2
        go_ret
        have : k0 < 88 := by have := HE.out; omega
        have hvv := hv.out
        rw [if_pos this, ← HE.out] at hvv
        exact ⟨ret_int hvv, HB1.out⟩
      · have hq := name_cmp N S _ hN.symm false (HN.out j hj1 (by omega))
        clear hN
        go_wp2
        go_roundw
        case rel => exact ⟨j + 1, by omega, by omega, by go_num, HR1.out, HB1.out⟩
        case measure => simp [intOf]; omega
    · clear hR
      have e : ¬ k0 < 88 := by omega
      go_wp2
      go_ret
      have hvv := hv.out
      rw [if_neg e] at hvv
      exact ⟨ret_int hvv, HB1.out⟩
end Go.Proofs.YtbchecnidiiddaaGreatDoor
