/-
  Proved here: the document's own eater (layer 2) at texts that are written out. Condition: a text has at most 10000 bytes.
  (With it: Proved here: the document's own parts of a fence (layer 2), told and taken. Condition: a text has at most 10000 bytes.)
-/
import Derived.Test.YtbchecnidiiddaaGreatDoorRef02Regs
import Derived.LoopN
namespace Go.Proofs.YtbchecnidiiddaaGreatDoor
set_option linter.unusedVariables false
open Go.RowKit

def iorw : ByteArray := ⟨#[105, 111, 114, 119]⟩
def bitF (n i : Nat) : Bool := (n >>> (3 - i)) % 2 == 1
def preL (n k : Nat) : List UInt8 := ((List.range k).filter (fun i => bitF n i)).map (fun i => [105, 111, 114, 119].getD i 0)
def partsL (n : Nat) : List UInt8 := if preL n 4 = [] then [48] else preL n 4
theorem bits_at : ∀ n : Fin 16, ∀ i : Fin 4, (partI (U (BitVec.ofNat 64 n.1)) (3 - ((i.1 : Nat) : Int)) 1 == 1) = bitF n.1 i.1 := by decide +kernel
theorem wrap_at (n : Nat) : IntKind.u64.wrap (n : Int) = U (BitVec.ofNat 64 n) := by rw [wrapU, BitVec.ofInt_natCast]
theorem pre_yes (n k : Nat) (hk : k < 4) (h : bitF n k = true) : preL n (k + 1) = preL n k ++ ((iorw.extract k (k + 1)).toList) := by
  unfold preL
  rw [List.range_succ, List.filter_append, List.map_append]
  simp only [List.filter_cons, h, List.filter_nil, if_true]
  have : ∀ j : Fin 4, [([105, 111, 114, 119] : List UInt8).getD j.1 0] = (iorw.toList.take (j.1 + 1)).drop j.1 := by
    intro j
    unfold iorw
    rw [ByteArray.toList_eq]
    revert j; decide
  rw [ext_toList, ← this ⟨k, hk⟩]; rfl
theorem pre_no (n k : Nat) (h : bitF n k = false) : preL n (k + 1) = preL n k := by
  unfold preL
  rw [List.range_succ, List.filter_append, List.map_append]
  simp [h]
theorem pre_len (n k : Nat) : (preL n k).length ≤ k := by
  unfold preL
  rw [List.length_map]
  exact Nat.le_trans (List.length_filter_le _ _) (by simp)
def PWay (n : Nat) (x y : Value) : Prop := ∃ k : Nat, k ≤ 4 ∧ x = .int .i64 k ∧ ∃ T : ByteArray, y = .string T ∧ T.toList = preL n k
theorem toList_app (a b : ByteArray) : (a ++ b).toList = a.toList ++ b.toList := by
  rw [ByteArray.toList_eq, ByteArray.toList_eq, ByteArray.toList_eq, ByteArray.data_append, Array.toList_append]
def StrOk (l : List UInt8) (w : World) (e : Ending) (w' : World) : Prop := ∃ T : ByteArray, e = .returned (.string T) ∧ T.toList = l ∧ w = w'
set_option maxRecDepth 100000 in
set_option maxHeartbeats 2000000 in
theorem parts16 (n : Nat) (hn : n < 16) (w : World) : Calls Tryz.prog 76 #[.int .i64 (n : Int)] w fun e w' => StrOk (partsL n) w e w' := by
  have hu := wrap_at n
  go_enter Tryz.func76, Tryz.ntmps76
  go_wp2
  go_loop [3, 4] (fun y x => PWay n x y) (fun _ x => 4 - (intOf x).toNat)
  case atStart => exact ⟨0, Nat.zero_le _, rfl, ⟨#[]⟩, rfl, by rw [ByteArray.toList_eq]; rfl⟩
  case round =>
    obtain ⟨k, hk, rfl, T, rfl, hT⟩ := hrel
    have HT := Lib.hid hT
    have hsz : T.size ≤ 4 := by have := size_list hT; have := pre_len n k; omega
    clear hT
    by_cases h4 : k < 4
    · have hb := bits_at ⟨n, hn⟩ ⟨k, h4⟩
      simp only at hb
      cases hc : bitF n k
      · rw [hc] at hb
        have HP := Lib.hid (pre_no n k hc)
        clear hc
        go_wp2_with (go_at_call 101; (with_reducible refine (refPart_any _ _ _ _).mono ?_); rintro e w1 ⟨rfl, rfl⟩)
        go_round
        case rel => exact ⟨k + 1, by omega, by go_num, T, rfl, by rw [HP.out]; exact HT.out⟩
        case measure => simp [intOf]; omega
      · rw [hc] at hb
        have HP := Lib.hid (pre_yes n k h4 hc)
        have hq1 : (k : Int) + 1 ≤ 4 := by omega
        have hq2 : (k : Int) ≤ (k : Int) + 1 := by omega
        obtain ⟨T2, hT2⟩ : ∃ T2, T ++ iorw.extract k (k + 1) = T2 := ⟨_, rfl⟩
        have hx : (iorw.extract k (k + 1)).size ≤ 4 := by
          have : ∀ j : Fin 4, ((⟨#[105, 111, 114, 119]⟩ : ByteArray).extract j.1 (j.1 + 1)).data.size ≤ 4 := by decide +kernel
          exact this ⟨k, h4⟩
        have ha := run_string_add_sum (P := Tryz.prog) w T (iorw.extract k (k + 1)) (by omega)
        rw [hT2] at ha
        unfold iorw at ha
        have HT2 : Hid (T2.toList = preL n (k + 1)) := Lib.hid (by rw [← hT2, toList_app, HT.out, HP.out])
        clear hc hT2 hx
        go_wp2_with (go_at_call 101; (with_reducible refine (refPart_any _ _ _ _).mono ?_); rintro e w1 ⟨rfl, rfl⟩)
        go_round
        case rel => exact ⟨k + 1, by omega, by go_num, T2, rfl, HT2.out⟩
        case measure => simp [intOf]; omega
    · have e : k = 4 := by omega
      have HE := Lib.hid e
      clear e
      cases hp : preL n 4 with
      | nil =>
        have hq : (T.toList == []) = true := by have := HT.out; rw [HE.out, hp] at this; rw [this]; rfl
        have HPL : Hid (partsL n = [48]) := Lib.hid (by unfold partsL; rw [if_pos hp])
        clear hp
        go_wp2
        go_ret
        exact ⟨_, rfl, by rw [HPL.out, ByteArray.toList_eq], rfl⟩
      | cons c l =>
        have hq : (T.toList == []) = false := by have := HT.out; rw [HE.out, hp] at this; rw [this]; rfl
        have HPL : Hid (partsL n = T.toList) := Lib.hid (by unfold partsL; rw [if_neg (by rw [hp]; simp), HT.out, HE.out])
        clear hp
        go_wp2
        go_ret
        exact ⟨_, rfl, HPL.out.symm, rfl⟩
theorem parts_free : ∀ n : Fin 16, ∀ c ∈ partsL n.1, c = 48 ∨ c = 105 ∨ c = 111 ∨ c = 114 ∨ c = 119 := by decide +kernel
theorem parts_apart : ∀ j n : Fin 16, partsL j.1 = partsL n.1 → j = n := by decide +kernel
theorem parts_not (n : Nat) (hn : n < 16) (c : UInt8) (h : c ∈ partsL n) : inG GL c = false := by
  unfold inG GL
  rw [ByteArray.toList_eq]
  rcases parts_free ⟨n, hn⟩ c h with rfl | rfl | rfl | rfl | rfl <;> decide
theorem upTo_part (m : Nat) (S : ByteArray) (n : Nat) (hn : n < 16) (T : List UInt8) (hT : T = [] ∨ ∃ c r, T = c :: r ∧ inG GL c = true) (b : Bool) (hS : Hid (S.toList = partsL n ++ T)) (hl : S.size ≤ 10000) (w : World) (hE : EatAt m S b w) :
    Calls Tryz.prog 34 #[.pointer (some ⟨m, 0, none⟩), .string ⟨#[44, 32, 40, 41]⟩] w fun e w' => ∃ P R : ByteArray, e = .returned (.string P) ∧ P.toList = partsL n ∧ R.toList = T ∧ EatAt m R b w' ∧ Oth m w w' := by
  refine (eatTo_any m S GL b w hE hl (by decide)).mono ?_
  rintro e w' ⟨P, R, rfl, hP, hR, h1, h2⟩
  have ht : (partsL n ++ T).takeWhile (fun c => !inG GL c) = partsL n := by
    rw [List.takeWhile_append_of_pos (fun c hc => by rw [parts_not n hn c hc]; rfl)]
    rcases hT with rfl | ⟨c, r, rfl, hc⟩
    · simp
    · rw [List.takeWhile_cons, hc]; simp
  have hd : (partsL n ++ T).dropWhile (fun c => !inG GL c) = T := by
    rw [List.dropWhile_append_of_pos (fun c hc => by rw [parts_not n hn c hc]; rfl)]
    rcases hT with rfl | ⟨c, r, rfl, hc⟩
    · simp
    · rw [List.dropWhile_cons, hc]; simp
  rw [hS.out, ht] at hP
  rw [hS.out, hd] at hR
  exact ⟨P, R, rfl, hP, hR, h1, h2⟩
def PtWay (m n : Nat) (R : ByteArray) (w : World) (x : Value) (wr : World) : Prop := ∃ k : Nat, k ≤ n ∧ x = .int .i64 k ∧ EatAt m R false wr ∧ Oth m w wr
set_option maxRecDepth 100000 in
set_option maxHeartbeats 2000000 in
theorem part_yes (m : Nat) (S : ByteArray) (n : Nat) (hn : n < 16) (T : List UInt8) (hT : T = [] ∨ ∃ c r, T = c :: r ∧ inG GL c = true) (hS : Hid (S.toList = partsL n ++ T)) (hl : S.size ≤ 10000) (w : World) (hE : EatAt m S false w) :
    Calls Tryz.prog 40 #[.pointer (some ⟨m, 0, none⟩)] w fun e w' => TookOk m (.int .i64 (n : Int)) T w e w' := by
  have HU := Lib.hid (fun w0 (h : EatAt m S false w0) => upTo_part m S n hn T hT false hS hl w0 h)
  have E0 := Lib.hid hE
  clear hE hT
  go_enter Tryz.func40, Tryz.ntmps40
  go_wp2_with (go_at_call 34; (with_reducible refine (HU.out _ E0.out).mono ?_); rintro e w1 ⟨P, R, rfl, hP, hR, hE, hO⟩; have HP := Lib.hid hP; have HR := Lib.hid hR; have E1 := Lib.hid hE; have O1 := Lib.hid hO; clear hP hR hE hO)
  go_loopw [4] (fun x wr => PtWay m n R w x wr) (fun x _ => 16 - (intOf x).toNat)
  case atStart => exact ⟨0, Nat.zero_le _, rfl, E1.out, O1.out⟩
  case round =>
    obtain ⟨k, hk, rfl, hE, hO⟩ := hrel
    have E2 := Lib.hid hE
    have O2 := Lib.hid hO
    have h16 : k < 16 := by omega
    clear hE hO
    by_cases he : k = n
    · have HE := Lib.hid he
      clear he
      go_wp2_with (go_at_call 76; (with_reducible refine (parts16 k h16 _).mono ?_); rintro e w2 ⟨T2, rfl, hT2, rfl⟩; have hq : (T2.toList == P.toList) = true := (by rw [hT2, HP.out, HE.out]; simp); clear hT2)
      go_ret
      exact ⟨R, ret_int (by rw [HE.out]), HR.out, E2.out, O2.out⟩
    · have hne : ¬ partsL k = partsL n := fun h => he (by have := parts_apart ⟨k, h16⟩ ⟨n, hn⟩ h; simpa using this)
      have HNE := Lib.hid hne
      have hlt : k < n := by omega
      clear hne he
      go_wp2_with (go_at_call 76; (with_reducible refine (parts16 k h16 _).mono ?_); rintro e w2 ⟨T2, rfl, hT2, rfl⟩; have hq : (T2.toList == P.toList) = false := (by rw [hT2, HP.out]; simpa using HNE.out); clear hT2)
      go_round
      case rel => exact ⟨k + 1, by omega, by go_num, E2.out, O2.out⟩
      case measure => simp [intOf]; omega
end Go.Proofs.YtbchecnidiiddaaGreatDoor
namespace Go.Proofs.YtbchecnidiiddaaGreatDoor
set_option linter.unusedVariables false
open Go.RowKit

theorem lit_list (l : List UInt8) : (⟨l.toArray⟩ : ByteArray).toList = l := by rw [ByteArray.toList_eq]
theorem lit_of {P : ByteArray} {l : List UInt8} (h : P.toList = l) : P = ⟨l.toArray⟩ := by
  refine ByteArray.ext ?_
  rw [ByteArray.toList_eq] at h
  rw [← h]
theorem lit_size (l : List UInt8) : (⟨l.toArray⟩ : ByteArray).size = l.length := by show l.toArray.size = _; simp
def LitOk (n : Nat) (x : Value) (r : List UInt8) (w : World) (e : Ending) (w' : World) : Prop := e = .returned x ∧ EatAt n ⟨r.toArray⟩ false w' ∧ Oth n w w'
theorem eat_lit (n : Nat) (s p r : List UInt8) (h : Hid (s = p ++ r ∧ s.length ≤ 10000)) (w : World) (hE : EatAt n ⟨s.toArray⟩ false w) : Calls Tryz.prog 37 #[.pointer (some ⟨n, 0, none⟩), .string ⟨p.toArray⟩] w fun e w' => LitOk n (.tuple #[]) r w e w' := by
  refine (eat_yes n _ _ false r w hE (Lib.hid (by rw [lit_list, lit_list]; exact h.out.1)) (by rw [lit_size]; exact h.out.2)).mono ?_
  rintro e w' ⟨R, rfl, hR, hE2, hO⟩
  rw [lit_of hR] at hE2
  exact ⟨rfl, hE2, hO⟩
theorem upTo_lit (n : Nat) (s g p r : List UInt8) (h : Hid (s.takeWhile (fun c => !g.contains c) = p ∧ s.dropWhile (fun c => !g.contains c) = r ∧ s.length ≤ 10000 ∧ g.length ≤ 10)) (w : World) (hE : EatAt n ⟨s.toArray⟩ false w) : Calls Tryz.prog 34 #[.pointer (some ⟨n, 0, none⟩), .string ⟨g.toArray⟩] w fun e w' => LitOk n (.string ⟨p.toArray⟩) r w e w' := by
  refine (eatTo_any n _ ⟨g.toArray⟩ false w hE (by rw [lit_size]; exact h.out.2.2.1) (by rw [lit_size]; exact h.out.2.2.2)).mono ?_
  rintro e w' ⟨P, R, rfl, hP, hR, hE2, hO⟩
  unfold inG at hP hR
  rw [lit_list g, lit_list s, h.out.1] at hP
  rw [lit_list g, lit_list s, h.out.2.1] at hR
  rw [lit_of hR] at hE2
  rw [lit_of hP]
  exact ⟨rfl, hE2, hO⟩
theorem num_of (D T : List UInt8) (h : (D.all digB && decide (1 ≤ D.length) && decide (D.length ≤ 9) && (match T with | [] => true | c :: _ => [44, 32, 40, 41].contains c)) = true) : Num D T := by
  simp only [Bool.and_eq_true, List.all_eq_true, decide_eq_true_eq] at h
  refine ⟨h.1.1.1, h.1.1.2, h.1.2, ?_⟩
  cases T with
  | nil => exact .inl rfl
  | cons c r => exact .inr ⟨c, r, rfl, by unfold inG GL; rw [ByteArray.toList_eq]; exact h.2⟩
def NumH (D T : List UInt8) (v : Nat) (n : Nat) : Bool := (D.all digB && decide (1 ≤ D.length) && decide (D.length ≤ 9) && (match T with | [] => true | c :: _ => [44, 32, 40, 41].contains c)) && decide (decV D = v) && decide (v ≤ 1000000000) && decide (n ≤ 10000)
theorem reg_lit (n : Nat) (D T : List UInt8) (v : Nat) (V : Int) (hV : Hid (V = (v : Int))) (h : Hid (NumH D T v (D ++ T).length = true)) (w : World) (s : List UInt8) (hs : Hid (s = 120 :: (D ++ T) ∧ s.length ≤ 10000)) (hE : EatAt n ⟨s.toArray⟩ false w) : Calls Tryz.prog 38 #[.pointer (some ⟨n, 0, none⟩)] w fun e w' => LitOk n (.int .i64 V) T w e w' := by
  have hh := h.out
  unfold NumH at hh
  rw [Bool.and_eq_true, Bool.and_eq_true, Bool.and_eq_true] at hh
  simp only [decide_eq_true_eq] at hh
  refine (reg_yes n _ D T v (Lib.hid hh.1.1.2) (Lib.hid (num_of D T hh.1.1.1)) (Lib.hid (by rw [lit_list]; exact hs.out.1)) (by rw [lit_size]; exact hs.out.2) w hE).mono ?_
  rintro e w' ⟨R, rfl, hR, hE2, hO⟩
  rw [lit_of hR] at hE2
  exact ⟨by rw [hV.out], hE2, hO⟩
theorem immp_lit (n : Nat) (D T : List UInt8) (v : Nat) (V : Int) (hV : Hid (V = (v : Int))) (h : Hid (NumH D T v (D ++ T).length = true)) (w : World) (s : List UInt8) (hs : Hid (s = D ++ T ∧ s.length ≤ 10000)) (hE : EatAt n ⟨s.toArray⟩ false w) : Calls Tryz.prog 39 #[.pointer (some ⟨n, 0, none⟩)] w fun e w' => LitOk n (.int .i64 V) T w e w' := by
  have hh := h.out
  unfold NumH at hh
  rw [Bool.and_eq_true, Bool.and_eq_true, Bool.and_eq_true] at hh
  simp only [decide_eq_true_eq] at hh
  refine (imm_pos n _ D T v (Lib.hid hh.1.1.2) hh.1.2 (Lib.hid (num_of D T hh.1.1.1)) (Lib.hid (by rw [lit_list]; exact hs.out.1)) (by rw [lit_size]; exact hs.out.2) w hE).mono ?_
  rintro e w' ⟨R, rfl, hR, hE2, hO⟩
  rw [lit_of hR] at hE2
  exact ⟨by rw [hV.out], hE2, hO⟩
theorem immn_lit (n : Nat) (D T : List UInt8) (v : Nat) (V : Int) (hV : Hid (V = -(v : Int))) (h : Hid (NumH D T v (D ++ T).length = true)) (w : World) (s : List UInt8) (hs : Hid (s = 45 :: (D ++ T) ∧ s.length ≤ 10000)) (hE : EatAt n ⟨s.toArray⟩ false w) : Calls Tryz.prog 39 #[.pointer (some ⟨n, 0, none⟩)] w fun e w' => LitOk n (.int .i64 V) T w e w' := by
  have hh := h.out
  unfold NumH at hh
  rw [Bool.and_eq_true, Bool.and_eq_true, Bool.and_eq_true] at hh
  simp only [decide_eq_true_eq] at hh
  refine (imm_neg n _ D T v (Lib.hid hh.1.1.2) hh.1.2 (Lib.hid (num_of D T hh.1.1.1)) (Lib.hid (by rw [lit_list]; exact hs.out.1)) (by rw [lit_size]; exact hs.out.2) w hE).mono ?_
  rintro e w' ⟨R, rfl, hR, hE2, hO⟩
  rw [lit_of hR] at hE2
  exact ⟨by rw [hV.out], hE2, hO⟩
theorem part_lit (m n : Nat) (V : Int) (hV : Hid (V = (n : Int))) (T s : List UInt8) (h : Hid (n < 16 ∧ s = partsL n ++ T ∧ s.length ≤ 10000 ∧ (match T with | [] => true | c :: _ => [44, 32, 40, 41].contains c) = true)) (w : World) (hE : EatAt m ⟨s.toArray⟩ false w) : Calls Tryz.prog 40 #[.pointer (some ⟨m, 0, none⟩)] w fun e w' => LitOk m (.int .i64 V) T w e w' := by
  obtain ⟨h1, h2, h3, h4⟩ := h.out
  refine (part_yes m _ n h1 T (by cases T with | nil => exact .inl rfl | cons c r => exact .inr ⟨c, r, rfl, by unfold inG GL; rw [ByteArray.toList_eq]; exact h4⟩) (Lib.hid (by rw [lit_list]; exact h2)) (by rw [lit_size]; exact h3) w hE).mono ?_
  rintro e w' ⟨R, rfl, hR, hE2, hO⟩
  rw [lit_of hR] at hE2
  exact ⟨by rw [hV.out], hE2, hO⟩
theorem named_lit (s : List UInt8) (k0 : Nat) (V : Int) (h : Hid (((List.range 88).all (fun j => j == 0 || decide (k0 ≤ j) || !(nameOf (j : Nat) == s)) && (decide (k0 = 88) || nameOf (k0 : Nat) == s) && decide (1 ≤ k0) && decide (k0 ≤ 88) && decide ((if k0 < 88 then (k0 : Int) else 0) = V)) = true)) (w : World) : Calls Tryz.prog 35 #[.string ⟨s.toArray⟩] w fun e w' => PtOk0 (.int .i64 V) w e w' := by
  have hh := h.out
  rw [Bool.and_eq_true, Bool.and_eq_true, Bool.and_eq_true, Bool.and_eq_true] at hh
  obtain ⟨⟨⟨⟨h1, h2⟩, h3⟩, h4⟩, h5⟩ := hh
  simp only [decide_eq_true_eq] at h3 h4 h5
  refine named_at ⟨s.toArray⟩ k0 V (Lib.hid h5) ⟨h3, h4⟩ (fun j hj1 hj2 => ?_) (fun h88 => ?_) w
  · rw [List.all_eq_true] at h1
    have := h1 j (by simp; omega)
    rw [lit_list]
    simp only [Bool.or_eq_true, beq_iff_eq, decide_eq_true_eq, Bool.not_eq_true'] at this
    rcases this with (h | h) | h
    · omega
    · omega
    · exact h
  · rw [lit_list]
    rw [Bool.or_eq_true] at h2
    rcases h2 with h2 | h2
    · have := of_decide_eq_true h2; omega
    · exact h2
theorem x_lit (n : Nat) (V : Int) (hV : Hid (V = (n : Int) ∧ n < 9223372036854775808)) (s : List UInt8) (hs : Hid (s = xL n)) (w : World) : Calls Tryz.prog 79 #[.int .i64 V] w fun e w' => e = .returned (.string ⟨s.toArray⟩) ∧ w = w' := by
  rw [hV.out.1]
  exact x_any n hV.out.2 ⟨s.toArray⟩ (Lib.hid (by rw [lit_list]; exact hs.out)) w
theorem sgp_lit (n : Nat) (V : Int) (hV : Hid (V = (n : Int) ∧ n < 9223372036854775808)) (s : List UInt8) (hs : Hid (s = Lib.decDigits n)) (w : World) : Calls Tryz.prog 80 #[.int .i64 V] w fun e w' => e = .returned (.string ⟨s.toArray⟩) ∧ w = w' := by
  rw [hV.out.1]
  exact signed_pos n hV.out.2 ⟨s.toArray⟩ (Lib.hid (by rw [lit_list]; exact hs.out)) w
theorem sgn_lit (n : Nat) (V : Int) (hV : Hid (V = -(n : Int) ∧ 0 < n ∧ n < 9223372036854775808)) (s : List UInt8) (hs : Hid (s = 45 :: Lib.decDigits n)) (w : World) : Calls Tryz.prog 80 #[.int .i64 V] w fun e w' => e = .returned (.string ⟨s.toArray⟩) ∧ w = w' :=
  signed_neg n hV.out.2.1 hV.out.2.2 V hV.out.1 ⟨s.toArray⟩ (Lib.hid (by rw [lit_list]; exact hs.out)) w
theorem name_lit (k : Nat) (V : Int) (s : List UInt8) (h : Hid (V = (k : Int) ∧ k < 88 ∧ formOf (k : Int) ≠ 0 ∧ nameOf (k : Int) = s)) (w : World) : Calls Tryz.prog 78 #[.int .i64 V] w fun e w' => e = .returned (.string ⟨s.toArray⟩) ∧ Below w.heap.size w w' := by
  obtain ⟨h1, h2, h3, h4⟩ := h.out
  rw [h1]
  have := rName_some k h2 h3 w
  rw [h4] at this
  exact this
theorem parts_lit (n : Nat) (V : Int) (s : List UInt8) (h : Hid (V = (n : Int) ∧ n < 16 ∧ partsL n = s)) (w : World) : Calls Tryz.prog 76 #[.int .i64 V] w fun e w' => e = .returned (.string ⟨s.toArray⟩) ∧ w = w' := by
  obtain ⟨h1, h2, h3⟩ := h.out
  rw [h1]
  refine (parts16 n h2 w).mono ?_
  rintro e w' ⟨T, rfl, hT, rfl⟩
  rw [h3] at hT
  rw [lit_of hT]
  exact ⟨rfl, rfl⟩
theorem form_lit (op f : Int) (h : Hid (formOf op = f)) (w : World) : Calls Tryz.prog 36 #[.int .i64 op] w fun e w' => e = .returned (.int .i64 f) ∧ w = w' := by
  rw [← h.out]; exact rForm_any op w
theorem rCheck_ins (i : Ins) (k : Bool) (hb : Hid (i.ok = k)) (h : Hid (-9223372036854775808 ≤ i.imm ∧ i.imm ≤ 9223372036854775807)) (w : World) : Calls Tryz.prog 77 #[i.V] w fun e w' => e = .returned (.int .i64 (errI k)) ∧ Below w.heap.size w w' := by
  obtain ⟨v, hv⟩ := wf_S (a := i.imm) (by have h1 := h.out.1; have h2 := h.out.2; simp [Lit.wf, IntKind.min, IntKind.max, IntKind.signed, IntKind.bits]; omega)
  have H := rCheck_any i.op i.rd i.rs1 i.rs2 v i.aq i.rl i.pred i.succ w
  rw [← hv] at H
  have e : Ins.ok ⟨i.op, i.rd, i.rs1, i.rs2, i.imm, i.aq, i.rl, i.pred, i.succ⟩ = k := hb.out
  rw [e] at H
  exact H
theorem rCheck_no (i : Ins) (hb : Hid (i.ok = false)) (h : Hid (-9223372036854775808 ≤ i.imm ∧ i.imm ≤ 9223372036854775807)) (w : World) : Calls Tryz.prog 77 #[i.V] w fun e w' => e = .returned (.int .i64 2) ∧ Below w.heap.size w w' := rCheck_ins i false hb h w
theorem rCheck_ok (i : Ins) (hb : Hid (i.ok = true)) (h : Hid (-9223372036854775808 ≤ i.imm ∧ i.imm ≤ 9223372036854775807)) (w : World) : Calls Tryz.prog 77 #[i.V] w fun e w' => e = .returned (.int .i64 0) ∧ Below w.heap.size w w' := rCheck_ins i true hb h w
end Go.Proofs.YtbchecnidiiddaaGreatDoor
