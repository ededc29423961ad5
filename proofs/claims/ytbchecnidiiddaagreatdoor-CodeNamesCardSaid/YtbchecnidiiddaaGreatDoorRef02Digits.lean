/-
  Proved here: the document's own digits, registers and numbers (layer 2), told as texts. No condition beside their kinds.
  (With it: Proved here: the document's own eater (layer 2) takes what stands there, and tells what stands ahead of a sign. Condition: a text has at most 10000 bytes.)
-/
import Derived.Test.YtbchecnidiiddaaGreatDoorCodeNumber
import Derived.Test.YtbchecnidiiddaaGreatDoorRef02Check
import Derived.Deep.QuietTactic
import Derived.BigQuiet
import Derived.LoopTactic
import Derived.StillTailTactics
import Derived.Lib.ItoaLen
namespace Go.Proofs.YtbchecnidiiddaaGreatDoor
set_option linter.unusedVariables false
open Go.RowKit

def EatAt (n : Nat) (s : ByteArray) (b : Bool) (w : World) : Prop := w.heap[n]? = some (.cells #[.string s, .bool b] 96 (0, 0))
theorem EatAt.facts {n : Nat} {s : ByteArray} {b : Bool} {w : World} (h : EatAt n s b w) : n < w.heap.size ∧ w.cell? ⟨n, 0, none⟩ = some (.string s) ∧ w.cell? ⟨n, 1, none⟩ = some (.bool b) ∧ w.frozen? ⟨n, 0, none⟩ = false ∧ w.frozen? ⟨n, 1, none⟩ = false := by
  unfold EatAt at h
  exact ⟨(Array.getElem?_eq_some_iff.1 h).1, by simp [World.cell?, h], by simp [World.cell?, h], by simp [World.frozen?, h], by simp [World.frozen?, h]⟩
theorem EatAt.oth {n r : Nat} {s : ByteArray} {b : Bool} {w w' : World} (h : EatAt n s b w) (ho : Oth r w w') (hn : n ≠ r) : EatAt n s b w' := (ho.2.2.2.2 n h.facts.1 hn).trans h
theorem EatAt.below {n : Nat} {s : ByteArray} {b : Bool} {w w' : World} (h : EatAt n s b w) (hb : Below w.heap.size w w') : EatAt n s b w' := (hb.block n h.facts.1).trans h
theorem EatAt.text {n : Nat} {s : ByteArray} {b : Bool} {w : World} (h : EatAt n s b w) (t : ByteArray) : EatAt n t b (w.setCell ⟨n, 0, none⟩ (.string t)) := heap_set _ h
theorem EatAt.bad {n : Nat} {s : ByteArray} {b : Bool} {w : World} (h : EatAt n s b w) (c : Bool) : EatAt n s c (w.setCell ⟨n, 1, none⟩ (.bool c)) := heap_set _ h
theorem ext_toList (s : ByteArray) (i j : Nat) : (s.extract i j).toList = (s.toList.take j).drop i := by
  rw [ByteArray.toList_eq, ByteArray.toList_eq, ByteArray.data_extract, Array.toList_extract, List.extract_eq_take_drop, List.drop_take]
/-- just that, where it stands there -/
def AteOk (n : Nat) (r : List UInt8) (b : Bool) (w : World) (e : Ending) (w' : World) : Prop := ∃ R : ByteArray, e = .returned (.tuple #[]) ∧ R.toList = r ∧ EatAt n R b w' ∧ Oth n w w'
set_option maxRecDepth 100000 in
set_option maxHeartbeats 1000000 in
theorem eat_yes (n : Nat) (S p : ByteArray) (b : Bool) (r : List UInt8) (w : World) (h : EatAt n S b w) (hs : Hid (S.toList = p.toList ++ r)) (hl : S.size ≤ 10000) :
    Calls Tryz.prog 37 #[.pointer (some ⟨n, 0, none⟩), .string p] w fun e w' => AteOk n r b w e w' := by
  have hsz : S.size = p.size + r.length := by
    have := congrArg List.length hs.out
    rw [List.length_append, ByteArray.toList_eq, ByteArray.toList_eq] at this
    exact this
  have d1 : decide ((S.size : Int) < (p.size : Int)) = false := by simp; omega
  have d2 : (S.extract 0 p.size).toList = p.toList := by
    rw [ext_toList, hs.out]
    have : p.size = p.toList.length := by rw [ByteArray.toList_eq]; rfl
    rw [this]; simp
  have d3 : ((S.extract 0 p.size).toList == p.toList) = true := by rw [d2]; simp
  have HQ : Hid ((S.extract p.size S.size).toList = r) := Lib.hid (by
    rw [ext_toList, hs.out]
    have h1 : p.size = p.toList.length := by rw [ByteArray.toList_eq]; rfl
    have h2 : S.size = (p.toList ++ r).length := by rw [← hs.out, ByteArray.toList_eq]; rfl
    rw [h1, h2, List.take_length, List.drop_left])
  obtain ⟨hz, c0, c1, f0, f1⟩ := h.facts
  have H := Lib.hid h
  have hp : p.size ≤ S.size := by omega
  clear h d2 hsz
  go_enter Tryz.func37, Tryz.ntmps37
  go_wp2
  go_end0
  exact ⟨_, rfl, HQ.out, H.out.text _, Oth.setCell n 0 w _⟩
/-! ### up to a sign -/
def inG (G : ByteArray) (c : UInt8) : Bool := G.toList.contains c
theorem getE (S : ByteArray) (k : Nat) (h : k < S.size) : S.toList[k]? = some S[k] := by
  rw [ByteArray.toList_eq]
  show S.data.toList[k]? = _
  rw [Array.getElem?_toList, Array.getElem?_eq_getElem h]
  rfl
def UpWay (n : Nat) (S G : ByteArray) (b : Bool) (w : World) (x : Value) (wr : World) : Prop := ∃ i : Nat, i ≤ S.size ∧ x = .int .i64 i ∧ (∀ j, ∀ hj : j < S.size, j < i → inG G S[j] = false) ∧ EatAt n S b wr ∧ Oth n w wr
def UpIn (n : Nat) (S G : ByteArray) (i : Nat) (hi : i < S.size) (b : Bool) (w : World) (y : Value) (wr : World) : Prop := ∃ k : Nat, k ≤ G.size ∧ y = .int .i64 k ∧ (∀ j, ∀ hj : j < G.size, j < k → G[j] ≠ S[i]) ∧ EatAt n S b wr ∧ Oth n w wr
def UpOk (n : Nat) (S G : ByteArray) (b : Bool) (w : World) (e : Ending) (w' : World) : Prop :=
  ∃ P R : ByteArray, e = .returned (.string P) ∧ P.toList = S.toList.takeWhile (fun c => !inG G c) ∧ R.toList = S.toList.dropWhile (fun c => !inG G c) ∧ EatAt n R b w' ∧ Oth n w w'
theorem span_at (S G : ByteArray) (i : Nat) (hi : i < S.size) (h : ∀ j, ∀ hj : j < S.size, j < i → inG G S[j] = false) (hc : inG G S[i] = true) :
    (S.extract 0 i).toList = S.toList.takeWhile (fun c => !inG G c) ∧ (S.extract i S.size).toList = S.toList.dropWhile (fun c => !inG G c) := by
  have hl : S.toList.length = S.size := by rw [ByteArray.toList_eq]; rfl
  have e : S.toList = S.toList.take i ++ S.toList.drop i := (List.take_append_drop i _).symm
  have hall : ∀ c ∈ S.toList.take i, (!inG G c) = true := by
    intro c hc
    obtain ⟨j, hj, rfl⟩ := List.getElem_of_mem hc
    have hj2 : j < i := by rw [List.length_take] at hj; omega
    have : (S.toList.take i)[j] = S[j]'(by omega) := by
      rw [List.getElem_take]
      have := getE S j (by omega)
      rw [List.getElem?_eq_getElem (by omega)] at this
      exact Option.some.inj this
    rw [this, h j (by omega) hj2]; rfl
  have hd : S.toList.drop i = S[i] :: S.toList.drop (i + 1) := by
    have := getE S i hi
    rw [List.drop_eq_getElem_cons (by omega)]
    rw [List.getElem?_eq_getElem (by omega)] at this
    rw [Option.some.inj this]
  have h1 : S.toList.takeWhile (fun c => !inG G c) = S.toList.take i := by
    conv => lhs; rw [e]
    rw [List.takeWhile_append_of_pos hall, hd, List.takeWhile_cons, hc]; simp
  have h2 : S.toList.dropWhile (fun c => !inG G c) = S.toList.drop i := by
    conv => lhs; rw [e]
    rw [List.dropWhile_append_of_pos hall, hd, List.dropWhile_cons, hc]; simp
  rw [h1, h2, ext_toList, ext_toList]
  refine ⟨by simp, ?_⟩
  rw [← hl, List.take_length]
theorem span_no (S G : ByteArray) (h : ∀ j, ∀ hj : j < S.size, inG G S[j] = false) :
    S.toList = S.toList.takeWhile (fun c => !inG G c) ∧ (⟨#[]⟩ : ByteArray).toList = S.toList.dropWhile (fun c => !inG G c) := by
  have hl : S.toList.length = S.size := by rw [ByteArray.toList_eq]; rfl
  have hall : ∀ c ∈ S.toList, (!inG G c) = true := by
    intro c hc
    obtain ⟨j, hj, rfl⟩ := List.getElem_of_mem hc
    have := getE S j (by omega)
    rw [List.getElem?_eq_getElem hj] at this
    rw [Option.some.inj this, h j (by omega)]; rfl
  have h1 := List.takeWhile_append_of_pos (l₂ := []) hall
  have h2 := List.dropWhile_append_of_pos (l₂ := []) hall
  rw [List.append_nil, List.takeWhile_nil, List.append_nil] at h1
  rw [List.append_nil, List.dropWhile_nil] at h2
  refine ⟨h1.symm, ?_⟩
  rw [h2, ByteArray.toList_eq]
set_option maxRecDepth 100000 in
set_option maxHeartbeats 2000000 in
theorem eatTo_any (n : Nat) (S G : ByteArray) (b : Bool) (w : World) (h : EatAt n S b w) (hl : S.size ≤ 10000) (hg : G.size ≤ 10) :
    Calls Tryz.prog 34 #[.pointer (some ⟨n, 0, none⟩), .string G] w fun e w' => UpOk n S G b w e w' := by
  have H0 := Lib.hid h
  clear h
  go_enter Tryz.func34, Tryz.ntmps34
  go_wp2
  go_loopw [5] (fun x wr => UpWay n S G b w x wr) (fun x _ => S.size - (intOf x).toNat)
  case atStart => exact ⟨0, Nat.zero_le _, rfl, fun j _ h => absurd h (Nat.not_lt_zero _), H0.out, Oth.refl _ _⟩
  case round =>
    obtain ⟨i, hi, rfl, hn, hE, hO⟩ := hrel
    have E1 := Lib.hid hE
    have O1 := Lib.hid hO
    have N1 := Lib.hid hn
    obtain ⟨hz, c0, c1, f0, f1⟩ := hE.facts
    clear hE hO hn
    by_cases hlt : i < S.size
    · go_wp2
      clear hz c0 c1 f0 f1
      go_loopw [6] (fun y wr => UpIn n S G i hlt b w y wr) (fun y _ => G.size - (intOf y).toNat)
      case atStart => exact ⟨0, Nat.zero_le _, rfl, fun j _ h => absurd h (Nat.not_lt_zero _), E1.out, O1.out⟩
      case round =>
        obtain ⟨k, hk, rfl, hm, hE, hO⟩ := hrel
        have E2 := Lib.hid hE
        have O2 := Lib.hid hO
        have N2 := Lib.hid hm
        obtain ⟨hz, c0, c1, f0, f1⟩ := hE.facts
        clear hE hO hm
        by_cases hkt : k < G.size
        · by_cases hc : ((S[i].toNat : Int) == (G[k].toNat : Int)) = true
          · have HC : Hid (inG G S[i] = true) := Lib.hid (by
              have e : S[i] = G[k] := UInt8.toNat_inj.1 (by have := eq_of_beq hc; omega)
              unfold inG; rw [e]
              have := List.mem_of_getElem? (getE G k hkt)
              simpa using this)
            have HS := Lib.hid (span_at S G i hlt N1.out HC.out)
            go_wp2
            go_quiet (fail)
            go_wp2
            go_ret
            exact ⟨_, _, rfl, HS.out.1, HS.out.2, E2.out.text _, O2.out.trans (Oth.setCell n 0 wr _)⟩
          · have hc2 : ((S[i].toNat : Int) == (G[k].toNat : Int)) = false := by simpa using hc
            have HC : Hid (G[k] ≠ S[i]) := Lib.hid (fun h => hc (by rw [h]; simp))
            clear hc
            go_wp2
            go_quiet (fail)
            go_wp2
            go_roundw
            case rel =>
              refine ⟨k + 1, by omega, by go_num, ?_, E2.out, O2.out⟩
              intro j hj hjk
              by_cases e : j = k
              · subst e; exact HC.out
              · exact N2.out j hj (by omega)
            case measure => simp [intOf]; omega
        · have HC : Hid (inG G S[i] = false) := Lib.hid (by
            unfold inG
            rw [Bool.eq_false_iff]
            intro hh
            have hm : S[i] ∈ G.toList := by simpa using hh
            obtain ⟨j, hj, e⟩ := List.getElem_of_mem hm
            have hjs : j < G.size := by have : G.toList.length = G.size := (by rw [ByteArray.toList_eq]; rfl); omega
            have h2 := getE G j hjs
            rw [List.getElem?_eq_getElem hj] at h2
            exact N2.out j hjs (by omega) ((Option.some.inj h2).symm.trans e))
          go_wp2
          go_roundw
          case rel =>
            refine ⟨i + 1, by omega, by go_num, ?_, E2.out, O2.out⟩
            intro j hj hjk
            by_cases e : j = i
            · subst e; exact HC.out
            · exact N1.out j hj (by omega)
          case measure => simp [intOf]; omega
    · have HS := Lib.hid (span_no S G (fun j hj => N1.out j hj (by omega)))
      go_wp2
      go_ret
      exact ⟨_, _, rfl, HS.out.1, HS.out.2, E1.out.text _, O1.out.trans (Oth.setCell n 0 _ _)⟩
end Go.Proofs.YtbchecnidiiddaaGreatDoor
namespace Go.Proofs.YtbchecnidiiddaaGreatDoor
set_option linter.unusedVariables false
open Go.RowKit

theorem digit_str (n : Nat) (h : n < 10) : (⟨#[48, 49, 50, 51, 52, 53, 54, 55, 56, 57]⟩ : ByteArray).extract n (n + 1) = ⟨(Lib.decDigits n).toArray⟩ := by
  have : ∀ k : Fin 10, ((⟨#[48, 49, 50, 51, 52, 53, 54, 55, 56, 57]⟩ : ByteArray).extract k.1 (k.1 + 1)).data = (Lib.decDigits k.1).toArray := by decide +kernel
  have := this ⟨n, h⟩
  exact ByteArray.ext this
theorem dec_size (n : Nat) (h : n < 18446744073709551616) : (⟨(Lib.decDigits n).toArray⟩ : ByteArray).size ≤ 20 := by
  show (Lib.decDigits n).toArray.size ≤ 20
  rw [List.size_toArray, Lib.decDigits_length]
  exact Lib.nDigits_le20 n h
set_option maxRecDepth 100000 in
set_option maxHeartbeats 1000000 in
theorem digits_any : ∀ (n : Nat), n < 18446744073709551616 → ∀ (w : World), Calls Tryz.prog 104 #[.int .u64 (n : Int)] w fun e w' => e = .returned (.string ⟨(Lib.decDigits n).toArray⟩) ∧ w = w' := by
  intro n
  induction n using Nat.strongRecOn with
  | _ n ih =>
    intro hn w
    by_cases h : 9 < n
    · have d1 : decide ((9 : Int) < (n : Int)) = true := by simp; omega
      have i1 := ih (n / 10) (by omega) (by omega)
      have i2 := ih (n % 10) (by omega) (by omega)
      have hq : (n : Int) / 10 = ((n / 10 : Nat) : Int) := by omega
      have hr : (n : Int) % 10 = ((n % 10 : Nat) : Int) := by omega
      rw [← hq] at i1
      rw [← hr] at i2
      have I1 := Lib.hid i1
      have I2 := Lib.hid i2
      have HS : Hid ((⟨(Lib.decDigits (n / 10)).toArray⟩ : ByteArray) ++ ⟨(Lib.decDigits (n % 10)).toArray⟩ = ⟨(Lib.decDigits n).toArray⟩) := Lib.hid (by
        refine ByteArray.ext ?_
        rw [ByteArray.data_append]
        show (Lib.decDigits (n / 10)).toArray ++ (Lib.decDigits (n % 10)).toArray = _
        rw [Lib.decDigits_one (show n % 10 < 10 by omega)]
        conv => rhs; rw [Lib.decDigits, dif_neg (by omega)]
        simp)
      have ha := run_string_add_sum (P := Tryz.prog) w ⟨(Lib.decDigits (n / 10)).toArray⟩ ⟨(Lib.decDigits (n % 10)).toArray⟩ (by have h1 := dec_size (n / 10) (by omega); have h2 := dec_size (n % 10) (by omega); omega)
      rw [HS.out] at ha
      clear ih i1 i2 h hq hr
      go_enter Tryz.func104, Tryz.ntmps104
      go_wp2_with (first | (go_at_call 104; (with_reducible refine (I1.out _).mono ?_); rintro e w1 ⟨rfl, rfl⟩) | (go_at_call 104; (with_reducible refine (I2.out _).mono ?_); rintro e w1 ⟨rfl, rfl⟩))
      go_ret
      exact ⟨rfl, rfl⟩
    · have hw1 : IntKind.u64.wrap ((n : Int) + 1) = (n : Int) + 1 := by rw [IntKind.wrap_u64]; omega
      have hw2 : (n : Int) + 1 ≤ 10 := by omega
      have hw3 : (n : Int) ≤ (n : Int) + 1 := by omega
      have d1 : decide ((9 : Int) < (n : Int)) = false := by simp; omega
      have HS := Lib.hid (digit_str n (by omega))
      clear ih h
      go_enter Tryz.func104, Tryz.ntmps104
      go_wp2
      go_ret
      rw [← HS.out]
      exact ⟨rfl, rfl⟩
theorem digits_e (n : Nat) (h : n < 18446744073709551616) (s : ByteArray) (hs : Hid ((⟨(Lib.decDigits n).toArray⟩ : ByteArray) = s)) (w : World) : Calls Tryz.prog 104 #[.int .u64 (n : Int)] w fun e w' => e = .returned (.string s) ∧ w = w' := by
  rw [← hs.out]; exact digits_any n h w
def xL (n : Nat) : List UInt8 := 120 :: Lib.decDigits n
def sgL (v : Int) : List UInt8 := if v < 0 then 45 :: Lib.decDigits v.natAbs else Lib.decDigits v.toNat
theorem cons_size (c : UInt8) (n : Nat) (h : n < 18446744073709551616) : (⟨#[c]⟩ : ByteArray).size + (⟨(Lib.decDigits n).toArray⟩ : ByteArray).size ≤ 9223372036854775807 := by
  have := dec_size n h
  have e : (⟨#[c]⟩ : ByteArray).size = 1 := rfl
  omega
theorem cons_app (c : UInt8) (l : List UInt8) : (⟨#[c]⟩ : ByteArray) ++ ⟨l.toArray⟩ = ⟨(c :: l).toArray⟩ := by
  refine ByteArray.ext ?_
  rw [ByteArray.data_append]
  simp
set_option maxRecDepth 100000 in
set_option maxHeartbeats 1000000 in
theorem x_any (n : Nat) (h : n < 9223372036854775808) (s : ByteArray) (hs : Hid (s.toList = xL n)) (w : World) : Calls Tryz.prog 79 #[.int .i64 (n : Int)] w fun e w' => e = .returned (.string s) ∧ w = w' := by
  obtain ⟨t, ht⟩ : ∃ t, (⟨(Lib.decDigits n).toArray⟩ : ByteArray) = t := ⟨_, rfl⟩
  have HT := Lib.hid ht
  have hu : IntKind.u64.wrap (n : Int) = (n : Int) := by rw [IntKind.wrap_u64]; omega
  have hn : n < 18446744073709551616 := by omega
  have ha := run_string_add_sum (P := Tryz.prog) w ⟨#[120]⟩ t (by rw [← ht]; exact cons_size 120 n hn)
  have e : (⟨#[120]⟩ : ByteArray) ++ t = s := by
    rw [← ht, cons_app]
    refine ByteArray.ext ?_
    have := hs.out
    rw [ByteArray.toList_eq] at this
    unfold xL at this
    rw [← this]
  rw [e] at ha
  clear ht e
  go_enter Tryz.func79, Tryz.ntmps79
  go_wp2_with (go_at_call 104; (with_reducible refine (digits_e n hn t HT _).mono ?_); rintro e w1 ⟨rfl, rfl⟩)
  go_ret
  exact ⟨rfl, rfl⟩
set_option maxRecDepth 100000 in
set_option maxHeartbeats 1000000 in
theorem signed_pos (n : Nat) (h : n < 9223372036854775808) (s : ByteArray) (hs : Hid (s.toList = Lib.decDigits n)) (w : World) : Calls Tryz.prog 80 #[.int .i64 (n : Int)] w fun e w' => e = .returned (.string s) ∧ w = w' := by
  have HT : Hid ((⟨(Lib.decDigits n).toArray⟩ : ByteArray) = s) := Lib.hid (by
    refine ByteArray.ext ?_
    have := hs.out
    rw [ByteArray.toList_eq] at this
    rw [← this])
  have hu : IntKind.u64.wrap (n : Int) = (n : Int) := by rw [IntKind.wrap_u64]; omega
  have hn : n < 18446744073709551616 := by omega
  have h0 : decide ((n : Int) < 0) = false := by simp
  go_enter Tryz.func80, Tryz.ntmps80
  go_wp2_with (go_at_call 104; (with_reducible refine (digits_e n hn s HT _).mono ?_); rintro e w1 ⟨rfl, rfl⟩)
  go_ret
  exact ⟨rfl, rfl⟩
set_option maxRecDepth 100000 in
set_option maxHeartbeats 1000000 in
theorem signed_neg (n : Nat) (h0 : 0 < n) (h : n < 9223372036854775808) (V : Int) (hV : V = -(n : Int)) (s : ByteArray) (hs : Hid (s.toList = 45 :: Lib.decDigits n)) (w : World) : Calls Tryz.prog 80 #[.int .i64 V] w fun e w' => e = .returned (.string s) ∧ w = w' := by
  obtain ⟨t, ht⟩ : ∃ t, (⟨(Lib.decDigits n).toArray⟩ : ByteArray) = t := ⟨_, rfl⟩
  have HT := Lib.hid ht
  have hu : IntKind.u64.wrap (n : Int) = (n : Int) := by rw [IntKind.wrap_u64]; omega
  have hu2 : wrap64 (-V) = (n : Int) := by unfold wrap64; omega
  have hn : n < 18446744073709551616 := by omega
  have hd : V < 0 := by omega
  have ha := run_string_add_sum (P := Tryz.prog) w ⟨#[45]⟩ t (by rw [← ht]; exact cons_size 45 n hn)
  have e : (⟨#[45]⟩ : ByteArray) ++ t = s := by
    rw [← ht, cons_app]
    refine ByteArray.ext ?_
    have := hs.out
    rw [ByteArray.toList_eq] at this
    rw [← this]
  rw [e] at ha
  clear ht e hV
  go_enter Tryz.func80, Tryz.ntmps80
  go_wp2_with (go_at_call 104; (with_reducible refine (digits_e n hn t HT _).mono ?_); rintro e w1 ⟨rfl, rfl⟩)
  go_ret
  exact ⟨rfl, rfl⟩
/-! ### a number is read -/
def digB (c : UInt8) : Bool := decide (48 ≤ c.toNat) && decide (c.toNat ≤ 57)
def decV (l : List UInt8) : Nat := l.foldl (fun n c => n * 10 + (c.toNat - 48)) 0
theorem decV_snoc (l : List UInt8) (c : UInt8) : decV (l ++ [c]) = decV l * 10 + (c.toNat - 48) := by unfold decV; rw [List.foldl_append]; rfl
theorem decV_lt (l : List UInt8) (h : ∀ c ∈ l, digB c = true) : decV l < 10 ^ l.length := by
  have key : ∀ (l : List UInt8) (a k : Nat), a < 10 ^ k → (∀ c ∈ l, digB c = true) → l.foldl (fun n c => n * 10 + (c.toNat - 48)) a < 10 ^ (k + l.length) := by
    intro l
    induction l with
    | nil => intro a k h _; exact h
    | cons c l ih =>
      intro a k h hd
      rw [List.foldl_cons]
      have hc := hd c (by simp)
      simp only [digB, Bool.and_eq_true, decide_eq_true_eq] at hc
      have := ih (a * 10 + (c.toNat - 48)) (k + 1) (by rw [Nat.pow_succ]; omega) (fun x hx => hd x (by simp [hx]))
      rw [List.length_cons]
      have e : k + (l.length + 1) = k + 1 + l.length := by omega
      rw [e]; exact this
  have := key l 0 0 (by decide) h
  rw [Nat.zero_add] at this
  exact this
def ValOk (v : Nat) (w : World) (e : Ending) (w' : World) : Prop := e = .returned (.tuple #[.int .i64 (v : Int), .bool true]) ∧ Below w.heap.size w w'
def ValWay (S : ByteArray) (w : World) (x y : Value) (wr : World) : Prop := ∃ k : Nat, k ≤ S.size ∧ x = .int .i64 k ∧ y = .int .i64 (decV (S.toList.take k) : Nat) ∧ Below w.heap.size w wr
set_option maxRecDepth 100000 in
set_option maxHeartbeats 2000000 in
theorem value_yes (S : ByteArray) (h1 : 1 ≤ S.size) (h9 : S.size ≤ 9) (hd : ∀ c ∈ S.toList, digB c = true) (w : World) : Calls Tryz.prog 75 #[.string S] w fun e w' => ValOk (decV S.toList) w e w' := by
  have d1 : decide ((S.size : Int) < 1) = false := by simp; omega
  have d2 : decide ((9 : Int) < (S.size : Int)) = false := by simp; omega
  have HD := Lib.hid hd
  clear hd
  go_enter Tryz.func75, Tryz.ntmps75
  go_wp2
  clear d1 d2
  go_loopw [4, 5] (fun y x wr => ValWay S w x y wr) (fun _ x _ => S.size - (intOf x).toNat)
  case atStart => exact ⟨0, Nat.zero_le _, rfl, rfl, Below.refl _ _⟩
  case round =>
    obtain ⟨k, hk, rfl, rfl, hB⟩ := hrel
    have B1 := Lib.hid hB
    clear hB
    have hl : S.toList.length = S.size := by rw [ByteArray.toList_eq]; rfl
    have hv := decV_lt (S.toList.take k) (fun c hc => HD.out c (List.mem_of_mem_take hc))
    have hlen : (S.toList.take k).length = k := by rw [List.length_take]; omega
    rw [hlen] at hv
    have hp : 10 ^ k ≤ 10 ^ 9 := Nat.pow_le_pow_right (by omega) (by omega)
    have hv9 : decV (S.toList.take k) < 1000000000 := Nat.lt_of_lt_of_le hv hp
    clear hv hp hlen
    by_cases hlt : k < S.size
    · have hc := HD.out S[k] (List.mem_of_getElem? (getE S k hlt))
      simp only [digB, Bool.and_eq_true, decide_eq_true_eq] at hc
      have e1 : decide ((S[k].toNat : Int) < 48) = false := by simp; omega
      have e2 : decide ((57 : Int) < (S[k].toNat : Int)) = false := by simp; omega
      have e3 : IntKind.u8.wrap ((S[k].toNat : Int) - 48) = (S[k].toNat : Int) - 48 := by rw [IntKind.wrap_u8]; omega
      have HS : Hid ((decV (S.toList.take k) : Int) * 10 + ((S[k].toNat : Int) - 48) = (decV (S.toList.take (k + 1)) : Nat)) := Lib.hid (by
        have h2 := getE S k hlt
        have h3 : S.toList.take (k + 1) = S.toList.take k ++ [S[k]] := by
          rw [List.take_add_one, h2]; rfl
        rw [h3, decV_snoc]; omega)
      have e4 : (S[k].toNat : Int) - 48 ≤ 9 := by omega
      have e5 : 0 ≤ (S[k].toNat : Int) - 48 := by omega
      clear hc hl
      go_wp2
      go_roundw
      case rel => exact ⟨k + 1, by omega, by go_num, by rw [← HS.out], B1.out⟩
      case measure => simp [intOf]; omega
    · have e : S.toList.take k = S.toList := List.take_of_length_le (by omega)
      clear hl
      go_wp2
      go_ret2
      rw [e]
      exact ⟨rfl, B1.out⟩
end Go.Proofs.YtbchecnidiiddaaGreatDoor
