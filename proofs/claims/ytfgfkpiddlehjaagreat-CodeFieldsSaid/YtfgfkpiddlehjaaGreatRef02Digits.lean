/-
  Proved here: the document's own digits, registers and numbers (layer 2), told as texts. No condition beside their kinds.
-/
import Derived.Test.YtfgfkpiddlehjaaGreatRef02Eat
import Derived.Lib.ItoaLen
namespace Go.Proofs.YtfgfkpiddlehjaaGreat
set_option linter.unusedVariables false
open Go.RowKit

theorem digit_str (n : Nat) (h : n < 10) : (⟨#[48, 49, 50, 51, 52, 53, 54, 55, 56, 57]⟩ : ByteArray).extract n (n + 1) = ⟨(Lib.decDigits n).toArray⟩ := by
  have : ∀ k : Fin 10, ((⟨#[48, 49, 50, 51, 52, 53, 54, 55, 56, 57]⟩ : ByteArray).extract k.1 (k.1 + 1)).data = (Lib.decDigits k.1).toArray := by decide +kernel
  have := this ⟨n, h⟩
  exact ByteArray.ext this
theorem dec_size (n : Nat) (h : n < 18446744073709551616) : (⟨(Lib.decDigits n).toArray⟩ : ByteArray).size ≤ 20 := by
  show (Lib.decDigits n).toArray.size ≤ 20
  rw [List.size_toArray, Lib.decDigits_length]
  exact Lib.nDigits_le20 n h
set_option maxRecDepth 100000 in
set_option maxHeartbeats 1000000 in
theorem digits_any : ∀ (n : Nat), n < 18446744073709551616 → ∀ (w : World), Calls Tryz.prog 79 #[.int .u64 (n : Int)] w fun e w' => e = .returned (.string ⟨(Lib.decDigits n).toArray⟩) ∧ w = w' := by
  intro n
  induction n using Nat.strongRecOn with
  | _ n ih =>
    intro hn w
    by_cases h : 9 < n
    · have d1 : decide ((9 : Int) < (n : Int)) = true := by simp; omega
      have i1 := ih (n / 10) (by omega) (by omega)
      have i2 := ih (n % 10) (by omega) (by omega)
      have hq : (n : Int) / 10 = ((n / 10 : Nat) : Int) := by omega
      have hr : (n : Int) % 10 = ((n % 10 : Nat) : Int) := by omega
      rw [← hq] at i1
      rw [← hr] at i2
      have I1 := Lib.hid i1
      have I2 := Lib.hid i2
      have HS : Hid ((⟨(Lib.decDigits (n / 10)).toArray⟩ : ByteArray) ++ ⟨(Lib.decDigits (n % 10)).toArray⟩ = ⟨(Lib.decDigits n).toArray⟩) := Lib.hid (by
        refine ByteArray.ext ?_
        rw [ByteArray.data_append]
        show (Lib.decDigits (n / 10)).toArray ++ (Lib.decDigits (n % 10)).toArray = _
        rw [Lib.decDigits_one (show n % 10 < 10 by omega)]
        conv => rhs; rw [Lib.decDigits, dif_neg (by omega)]
        simp)
      have ha := run_string_add_sum (P := Tryz.prog) w ⟨(Lib.decDigits (n / 10)).toArray⟩ ⟨(Lib.decDigits (n % 10)).toArray⟩ (by have h1 := dec_size (n / 10) (by omega); have h2 := dec_size (n % 10) (by omega); omega)
      rw [HS.out] at ha
      clear ih i1 i2 h hq hr
      go_enter Tryz.func79, Tryz.ntmps79
      go_wp2_with (first | (go_at_call 79; (with_reducible refine (I1.out _).mono ?_); rintro e w1 ⟨rfl, rfl⟩) | (go_at_call 79; (with_reducible refine (I2.out _).mono ?_); rintro e w1 ⟨rfl, rfl⟩))
      go_ret
      exact ⟨rfl, rfl⟩
    · have hw1 : IntKind.u64.wrap ((n : Int) + 1) = (n : Int) + 1 := by rw [IntKind.wrap_u64]; omega
      have hw2 : (n : Int) + 1 ≤ 10 := by omega
      have hw3 : (n : Int) ≤ (n : Int) + 1 := by omega
      have d1 : decide ((9 : Int) < (n : Int)) = false := by simp; omega
      have HS := Lib.hid (digit_str n (by omega))
      clear ih h
      go_enter Tryz.func79, Tryz.ntmps79
      go_wp2
      go_ret
      rw [← HS.out]
      exact ⟨rfl, rfl⟩
theorem digits_e (n : Nat) (h : n < 18446744073709551616) (s : ByteArray) (hs : Hid ((⟨(Lib.decDigits n).toArray⟩ : ByteArray) = s)) (w : World) : Calls Tryz.prog 79 #[.int .u64 (n : Int)] w fun e w' => e = .returned (.string s) ∧ w = w' := by
  rw [← hs.out]; exact digits_any n h w
def xL (n : Nat) : List UInt8 := 120 :: Lib.decDigits n
def sgL (v : Int) : List UInt8 := if v < 0 then 45 :: Lib.decDigits v.natAbs else Lib.decDigits v.toNat
theorem cons_size (c : UInt8) (n : Nat) (h : n < 18446744073709551616) : (⟨#[c]⟩ : ByteArray).size + (⟨(Lib.decDigits n).toArray⟩ : ByteArray).size ≤ 9223372036854775807 := by
  have := dec_size n h
  have e : (⟨#[c]⟩ : ByteArray).size = 1 := rfl
  omega
theorem cons_app (c : UInt8) (l : List UInt8) : (⟨#[c]⟩ : ByteArray) ++ ⟨l.toArray⟩ = ⟨(c :: l).toArray⟩ := by
  refine ByteArray.ext ?_
  rw [ByteArray.data_append]
  simp
set_option maxRecDepth 100000 in
set_option maxHeartbeats 1000000 in
theorem x_any (n : Nat) (h : n < 9223372036854775808) (s : ByteArray) (hs : Hid (s.toList = xL n)) (w : World) : Calls Tryz.prog 50 #[.int .i64 (n : Int)] w fun e w' => e = .returned (.string s) ∧ w = w' := by
  obtain ⟨t, ht⟩ : ∃ t, (⟨(Lib.decDigits n).toArray⟩ : ByteArray) = t := ⟨_, rfl⟩
  have HT := Lib.hid ht
  have hu : IntKind.u64.wrap (n : Int) = (n : Int) := by rw [IntKind.wrap_u64]; omega
  have hn : n < 18446744073709551616 := by omega
  have ha := run_string_add_sum (P := Tryz.prog) w ⟨#[120]⟩ t (by rw [← ht]; exact cons_size 120 n hn)
  have e : (⟨#[120]⟩ : ByteArray) ++ t = s := by
    rw [← ht, cons_app]
    refine ByteArray.ext ?_
    have := hs.out
    rw [ByteArray.toList_eq] at this
    unfold xL at this
    rw [← this]
  rw [e] at ha
  clear ht e
  go_enter Tryz.func50, Tryz.ntmps50
  go_wp2_with (go_at_call 79; (with_reducible refine (digits_e n hn t HT _).mono ?_); rintro e w1 ⟨rfl, rfl⟩)
  go_ret
  exact ⟨rfl, rfl⟩
set_option maxRecDepth 100000 in
set_option maxHeartbeats 1000000 in
theorem signed_pos (n : Nat) (h : n < 9223372036854775808) (s : ByteArray) (hs : Hid (s.toList = Lib.decDigits n)) (w : World) : Calls Tryz.prog 51 #[.int .i64 (n : Int)] w fun e w' => e = .returned (.string s) ∧ w = w' := by
  have HT : Hid ((⟨(Lib.decDigits n).toArray⟩ : ByteArray) = s) := Lib.hid (by
    refine ByteArray.ext ?_
    have := hs.out
    rw [ByteArray.toList_eq] at this
    rw [← this])
  have hu : IntKind.u64.wrap (n : Int) = (n : Int) := by rw [IntKind.wrap_u64]; omega
  have hn : n < 18446744073709551616 := by omega
  have h0 : decide ((n : Int) < 0) = false := by simp
  go_enter Tryz.func51, Tryz.ntmps51
  go_wp2_with (go_at_call 79; (with_reducible refine (digits_e n hn s HT _).mono ?_); rintro e w1 ⟨rfl, rfl⟩)
  go_ret
  exact ⟨rfl, rfl⟩
set_option maxRecDepth 100000 in
set_option maxHeartbeats 1000000 in
theorem signed_neg (n : Nat) (h0 : 0 < n) (h : n < 9223372036854775808) (V : Int) (hV : V = -(n : Int)) (s : ByteArray) (hs : Hid (s.toList = 45 :: Lib.decDigits n)) (w : World) : Calls Tryz.prog 51 #[.int .i64 V] w fun e w' => e = .returned (.string s) ∧ w = w' := by
  obtain ⟨t, ht⟩ : ∃ t, (⟨(Lib.decDigits n).toArray⟩ : ByteArray) = t := ⟨_, rfl⟩
  have HT := Lib.hid ht
  have hu : IntKind.u64.wrap (n : Int) = (n : Int) := by rw [IntKind.wrap_u64]; omega
  have hu2 : wrap64 (-V) = (n : Int) := by unfold wrap64; omega
  have hn : n < 18446744073709551616 := by omega
  have hd : V < 0 := by omega
  have ha := run_string_add_sum (P := Tryz.prog) w ⟨#[45]⟩ t (by rw [← ht]; exact cons_size 45 n hn)
  have e : (⟨#[45]⟩ : ByteArray) ++ t = s := by
    rw [← ht, cons_app]
    refine ByteArray.ext ?_
    have := hs.out
    rw [ByteArray.toList_eq] at this
    rw [← this]
  rw [e] at ha
  clear ht e hV
  go_enter Tryz.func51, Tryz.ntmps51
  go_wp2_with (go_at_call 79; (with_reducible refine (digits_e n hn t HT _).mono ?_); rintro e w1 ⟨rfl, rfl⟩)
  go_ret
  exact ⟨rfl, rfl⟩
/-! ### a number is read -/
def digB (c : UInt8) : Bool := decide (48 ≤ c.toNat) && decide (c.toNat ≤ 57)
def decV (l : List UInt8) : Nat := l.foldl (fun n c => n * 10 + (c.toNat - 48)) 0
theorem decV_snoc (l : List UInt8) (c : UInt8) : decV (l ++ [c]) = decV l * 10 + (c.toNat - 48) := by unfold decV; rw [List.foldl_append]; rfl
theorem decV_lt (l : List UInt8) (h : ∀ c ∈ l, digB c = true) : decV l < 10 ^ l.length := by
  have key : ∀ (l : List UInt8) (a k : Nat), a < 10 ^ k → (∀ c ∈ l, digB c = true) → l.foldl (fun n c => n * 10 + (c.toNat - 48)) a < 10 ^ (k + l.length) := by
    intro l
    induction l with
    | nil => intro a k h _; exact h
    | cons c l ih =>
      intro a k h hd
      rw [List.foldl_cons]
      have hc := hd c (by simp)
      simp only [digB, Bool.and_eq_true, decide_eq_true_eq] at hc
      have := ih (a * 10 + (c.toNat - 48)) (k + 1) (by rw [Nat.pow_succ]; omega) (fun x hx => hd x (by simp [hx]))
      rw [List.length_cons]
      have e : k + (l.length + 1) = k + 1 + l.length := by omega
      rw [e]; exact this
  have := key l 0 0 (by decide) h
  rw [Nat.zero_add] at this
  exact this
def ValOk (v : Nat) (w : World) (e : Ending) (w' : World) : Prop := e = .returned (.tuple #[.int .i64 (v : Int), .bool true]) ∧ Below w.heap.size w w'
def ValWay (S : ByteArray) (w : World) (x y : Value) (wr : World) : Prop := ∃ k : Nat, k ≤ S.size ∧ x = .int .i64 k ∧ y = .int .i64 (decV (S.toList.take k) : Nat) ∧ Below w.heap.size w wr
set_option maxRecDepth 100000 in
set_option maxHeartbeats 2000000 in
theorem value_yes (S : ByteArray) (h1 : 1 ≤ S.size) (h9 : S.size ≤ 9) (hd : ∀ c ∈ S.toList, digB c = true) (w : World) : Calls Tryz.prog 47 #[.string S] w fun e w' => ValOk (decV S.toList) w e w' := by
  have d1 : decide ((S.size : Int) < 1) = false := by simp; omega
  have d2 : decide ((9 : Int) < (S.size : Int)) = false := by simp; omega
  have HD := Lib.hid hd
  clear hd
  go_enter Tryz.func47, Tryz.ntmps47
  go_wp2
  clear d1 d2
  go_loopw [4, 5] (fun y x wr => ValWay S w x y wr) (fun _ x _ => S.size - (intOf x).toNat)
  case atStart => exact ⟨0, Nat.zero_le _, rfl, rfl, Below.refl _ _⟩
  case round =>
    obtain ⟨k, hk, rfl, rfl, hB⟩ := hrel
    have B1 := Lib.hid hB
    clear hB
    have hl : S.toList.length = S.size := by rw [ByteArray.toList_eq]; rfl
    have hv := decV_lt (S.toList.take k) (fun c hc => HD.out c (List.mem_of_mem_take hc))
    have hlen : (S.toList.take k).length = k := by rw [List.length_take]; omega
    rw [hlen] at hv
    have hp : 10 ^ k ≤ 10 ^ 9 := Nat.pow_le_pow_right (by omega) (by omega)
    have hv9 : decV (S.toList.take k) < 1000000000 := Nat.lt_of_lt_of_le hv hp
    clear hv hp hlen
    by_cases hlt : k < S.size
    · have hc := HD.out S[k] (List.mem_of_getElem? (getE S k hlt))
      simp only [digB, Bool.and_eq_true, decide_eq_true_eq] at hc
      have e1 : decide ((S[k].toNat : Int) < 48) = false := by simp; omega
      have e2 : decide ((57 : Int) < (S[k].toNat : Int)) = false := by simp; omega
      have e3 : IntKind.u8.wrap ((S[k].toNat : Int) - 48) = (S[k].toNat : Int) - 48 := by rw [IntKind.wrap_u8]; omega
      have HS : Hid ((decV (S.toList.take k) : Int) * 10 + ((S[k].toNat : Int) - 48) = (decV (S.toList.take (k + 1)) : Nat)) := Lib.hid (by
        have h2 := getE S k hlt
        have h3 : S.toList.take (k + 1) = S.toList.take k ++ [S[k]] := by
          rw [List.take_add_one, h2]; rfl
        rw [h3, decV_snoc]; omega)
      have e4 : (S[k].toNat : Int) - 48 ≤ 9 := by omega
      have e5 : 0 ≤ (S[k].toNat : Int) - 48 := by omega
      clear hc hl
      go_wp2
      go_roundw
      case rel => exact ⟨k + 1, by omega, by go_num, by rw [← HS.out], B1.out⟩
      case measure => simp [intOf]; omega
    · have e : S.toList.take k = S.toList := List.take_of_length_le (by omega)
      clear hl
      go_wp2
      go_ret2
      rw [e]
      exact ⟨rfl, B1.out⟩
end Go.Proofs.YtfgfkpiddlehjaaGreat
