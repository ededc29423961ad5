/-
  Proved here: the document's Line of chapter 11: the text of a judgement that ours writes, whatever its numbers; nothing that was there is changed. Condition: numbers of 64 bits.
-/
import Derived.Test.YtcbfokbdiefdeaaGreatDoorAxDoor
import Derived.Lib.ItoaLen
import Derived.Laws.Concat
namespace Go.Proofs.YtcbfokbdiefdeaaGreatDoor
set_option linter.unusedVariables false
set_option linter.unusedSimpArgs false
open Go.RowKit Go.Maps
attribute [local go_sem ↓] fold_E fold_SE fold_SJ
attribute [local irreducible] wpStill

theorem digit_str (n : Nat) (h : n < 10) : (⟨#[48, 49, 50, 51, 52, 53, 54, 55, 56, 57]⟩ : ByteArray).extract n (n + 1) = ⟨(Lib.decDigits n).toArray⟩ := by
  have : ∀ k : Fin 10, ((⟨#[48, 49, 50, 51, 52, 53, 54, 55, 56, 57]⟩ : ByteArray).extract k.1 (k.1 + 1)).data = (Lib.decDigits k.1).toArray := by decide +kernel
  have := this ⟨n, h⟩
  exact ByteArray.ext this
theorem dec_size (n : Nat) (h : n < 18446744073709551616) : (⟨(Lib.decDigits n).toArray⟩ : ByteArray).size ≤ 20 := by
  show (Lib.decDigits n).toArray.size ≤ 20
  rw [List.size_toArray, Lib.decDigits_length]
  exact Lib.nDigits_le20 n h
set_option maxRecDepth 100000 in
set_option maxHeartbeats 1000000 in
theorem rwhole_any : ∀ (n : Nat), n < 18446744073709551616 → ∀ (w : World), Calls Tryz.prog 68 #[.int .u64 (n : Int)] w fun e w' => e = .returned (.string ⟨(Lib.decDigits n).toArray⟩) ∧ w = w' := by
  intro n
  induction n using Nat.strongRecOn with
  | _ n ih =>
    intro hn w
    by_cases h : 9 < n
    · have d1 : decide ((9 : Int) < (n : Int)) = true := by simp; omega
      have i1 := ih (n / 10) (by omega) (by omega)
      have i2 := ih (n % 10) (by omega) (by omega)
      have hq : (n : Int) / 10 = ((n / 10 : Nat) : Int) := by omega
      have hr : (n : Int) % 10 = ((n % 10 : Nat) : Int) := by omega
      rw [← hq] at i1
      rw [← hr] at i2
      have I1 := Lib.hid i1
      have I2 := Lib.hid i2
      have HS : Hid ((⟨(Lib.decDigits (n / 10)).toArray⟩ : ByteArray) ++ ⟨(Lib.decDigits (n % 10)).toArray⟩ = ⟨(Lib.decDigits n).toArray⟩) := Lib.hid (by
        refine ByteArray.ext ?_
        rw [ByteArray.data_append]
        show (Lib.decDigits (n / 10)).toArray ++ (Lib.decDigits (n % 10)).toArray = _
        rw [Lib.decDigits_one (show n % 10 < 10 by omega)]
        conv => rhs; rw [Lib.decDigits, dif_neg (by omega)]
        simp)
      have ha := run_string_add_sum (P := Tryz.prog) w ⟨(Lib.decDigits (n / 10)).toArray⟩ ⟨(Lib.decDigits (n % 10)).toArray⟩ (by have h1 := dec_size (n / 10) (by omega); have h2 := dec_size (n % 10) (by omega); omega)
      rw [HS.out] at ha
      clear ih i1 i2 h hq hr
      go_enter Tryz.func68, Tryz.ntmps68
      go_wp2_with (first | (go_at_call 68; (with_reducible refine (I1.out _).mono ?_); rintro e w1 ⟨rfl, rfl⟩) | (go_at_call 68; (with_reducible refine (I2.out _).mono ?_); rintro e w1 ⟨rfl, rfl⟩))
      go_ret
      exact ⟨rfl, rfl⟩
    · have hw1 : IntKind.u64.wrap ((n : Int) + 1) = (n : Int) + 1 := by rw [IntKind.wrap_u64]; omega
      have hw2 : (n : Int) + 1 ≤ 10 := by omega
      have hw3 : (n : Int) ≤ (n : Int) + 1 := by omega
      have d1 : decide ((9 : Int) < (n : Int)) = false := by simp; omega
      have HS := Lib.hid (digit_str n (by omega))
      clear ih h
      go_enter Tryz.func68, Tryz.ntmps68
      go_wp2
      go_ret
      rw [← HS.out]
      exact ⟨rfl, rfl⟩
theorem rwhole_e (n : Nat) (h : n < 18446744073709551616) (s : ByteArray) (hs : Hid ((⟨(Lib.decDigits n).toArray⟩ : ByteArray) = s)) (w : World) : Calls Tryz.prog 68 #[.int .u64 (n : Int)] w fun e w' => e = .returned (.string s) ∧ w = w' := by
  rw [← hs.out]; exact rwhole_any n h w
theorem cons_size (c : UInt8) (n : Nat) (h : n < 18446744073709551616) : (⟨#[c]⟩ : ByteArray).size + (⟨(Lib.decDigits n).toArray⟩ : ByteArray).size ≤ 9223372036854775807 := by
  have := dec_size n h
  have e : (⟨#[c]⟩ : ByteArray).size = 1 := rfl
  omega
theorem cons_app (c : UInt8) (l : List UInt8) : (⟨#[c]⟩ : ByteArray) ++ ⟨l.toArray⟩ = ⟨(c :: l).toArray⟩ := by
  refine ByteArray.ext ?_
  rw [ByteArray.data_append]
  simp
set_option maxRecDepth 100000 in
set_option maxHeartbeats 1000000 in
theorem rdigits_any (x : Int) (hx : -9223372036854775808 ≤ x ∧ x ≤ 9223372036854775807) (s : ByteArray) (hs : Hid (s = ⟨(Lib.itoa x).toArray⟩)) (w : World) : Calls Tryz.prog 48 #[.int .i64 x] w fun e w' => e = .returned (.string s) ∧ w = w' := by
  by_cases h0 : x < 0
  · obtain ⟨n, hn⟩ : ∃ n : Nat, x = -(n : Int) := ⟨x.natAbs, by omega⟩
    have hp : 0 < n := by omega
    have hb : n < 18446744073709551616 := by omega
    have hb2 : n ≤ 9223372036854775808 := by omega
    obtain ⟨t, ht⟩ : ∃ t, (⟨(Lib.decDigits n).toArray⟩ : ByteArray) = t := ⟨_, rfl⟩
    have HT := Lib.hid ht
    obtain ⟨m, hm⟩ : ∃ m, wrap64 (-x) = m := ⟨_, rfl⟩
    have hu : IntKind.u64.wrap m = (n : Int) := by rw [IntKind.wrap_u64, ← hm]; unfold wrap64; omega
    have ha := run_string_add_sum (P := Tryz.prog) w ⟨#[45]⟩ t (by rw [← ht]; exact cons_size 45 n hb)
    have e : (⟨#[45]⟩ : ByteArray) ++ t = s := by
      rw [hs.out, ← ht, cons_app, hn, Lib.itoa_neg n hp]
    rw [e] at ha
    have d0 : decide (x < 0) = true := by simpa using h0
    clear ht e hn hs hp hx hb2
    go_enter Tryz.func48, Tryz.ntmps48
    go_wp2_with (go_at_call 68; (with_reducible refine (rwhole_e n hb t HT _).mono ?_); rintro e w1 ⟨rfl, rfl⟩)
    go_ret
    exact ⟨rfl, rfl⟩
  · obtain ⟨n, rfl⟩ : ∃ n : Nat, x = (n : Int) := ⟨x.toNat, by omega⟩
    have HT : Hid ((⟨(Lib.decDigits n).toArray⟩ : ByteArray) = s) := Lib.hid (by rw [hs.out, Lib.itoa_nonneg])
    have hu : IntKind.u64.wrap (n : Int) = (n : Int) := by rw [IntKind.wrap_u64]; omega
    have hb : n < 18446744073709551616 := by omega
    have d0 : decide ((n : Int) < 0) = false := by simp
    clear hs h0 hx
    go_enter Tryz.func48, Tryz.ntmps48
    go_wp2_with (go_at_call 68; (with_reducible refine (rwhole_e n hb s HT _).mono ?_); rintro e w1 ⟨rfl, rfl⟩)
    go_ret
    exact ⟨rfl, rfl⟩
theorem lits11_at {w : World} {o : Obj} (k : Nat) (v : Value) (hv : (#[.string ⟨#[111, 116, 104, 101, 114]⟩, .string ⟨#[102, 111, 114, 109]⟩, .string ⟨#[111, 114, 100, 101, 114]⟩, .string ⟨#[118, 97, 108, 117, 101]⟩, .string ⟨#[112, 97, 105, 114]⟩] : Array Value)[k]? = some v) : (((w.alloc o).alloc (.cells #[.string ⟨#[111, 116, 104, 101, 114]⟩, .string ⟨#[102, 111, 114, 109]⟩, .string ⟨#[111, 114, 100, 101, 114]⟩, .string ⟨#[118, 97, 108, 117, 101]⟩, .string ⟨#[112, 97, 105, 114]⟩] 9)).drew).cell? ⟨w.heap.size + 1, k, none⟩ = some v := by
  have h := Array.getElem?_push_size (xs := (w.alloc o).heap) (x := ((.cells #[.string ⟨#[111, 116, 104, 101, 114]⟩, .string ⟨#[102, 111, 114, 109]⟩, .string ⟨#[111, 114, 100, 101, 114]⟩, .string ⟨#[118, 97, 108, 117, 101]⟩, .string ⟨#[112, 97, 105, 114]⟩] 9) : Obj))
  have e : (w.alloc o).heap.size = w.heap.size + 1 := by simp
  rw [e] at h
  rw [cell_of_row _ (w.heap.size + 1) k _ _ _ h]
  exact hv
theorem add_is {x y z : ByteArray} (h : x ++ y = z) (hs : x.size + y.size ≤ 9223372036854775807) (W : World) : (Op.stringOp .add x y).run Tryz.prog W = .ok (.string z) W := by
  rw [run_string_add_sum W x y hs, h]
theorem itoa_size (x : Int) (hx : -9223372036854775808 ≤ x ∧ x ≤ 9223372036854775807) : (⟨(Lib.itoa x).toArray⟩ : ByteArray).size ≤ 21 := by
  show (Lib.itoa x).toArray.size ≤ 21
  rw [List.size_toArray]
  exact Lib.itoa_length_le x hx.1 hx.2
set_option maxRecDepth 100000 in
set_option maxHeartbeats 16000000 in
theorem rLine_any (o : Bool) (y a b : Int) (w : World) (ha : -9223372036854775808 ≤ a ∧ a ≤ 9223372036854775807) (hb : -9223372036854775808 ≤ b ∧ b ≤ 9223372036854775807) : Calls Tryz.prog 20 #[.agg #[.bool o, .int .i64 y, .int .i64 a, .int .i64 b]] w fun e w' => TextIsL w (lineL o y a b) e w' := by
  have J0 : Hid (JBox ⟨o, y, a, b⟩ w.heap.size (w.alloc (.cells #[.bool o, .int .i64 y, .int .i64 a, .int .i64 b] 37))) := Lib.hid Array.getElem?_push_size
  have B0 := Lib.hid (box_below w (.cells #[.bool o, .int .i64 y, .int .i64 a, .int .i64 b] 37))
  cases o with
  | true =>
    have B1 := Lib.hid (B0.out.trans ((box_below _ (.cells #[.string ⟨#[111, 116, 104, 101, 114]⟩, .string ⟨#[102, 111, 114, 109]⟩, .string ⟨#[111, 114, 100, 101, 114]⟩, .string ⟨#[118, 97, 108, 117, 101]⟩, .string ⟨#[112, 97, 105, 114]⟩] 9)).mono B0.out.size))
    obtain ⟨u0, u1, u2, u3⟩ := J0.out.facts
    clear ha hb
    go_enter Tryz.func20, Tryz.ntmps20
    go_wp2
    go_ret
    exact ⟨rfl, B1.out⟩
  | false =>
    obtain ⟨sa, hsa⟩ : ∃ s : ByteArray, s = ⟨(Lib.itoa a).toArray⟩ := ⟨_, rfl⟩
    obtain ⟨sb, hsb⟩ : ∃ s : ByteArray, s = ⟨(Lib.itoa b).toArray⟩ := ⟨_, rfl⟩
    have KA := Lib.hid (fun w0 => rdigits_any a ha sa (Lib.hid hsa) w0)
    have KB := Lib.hid (fun w0 => rdigits_any b hb sb (Lib.hid hsb) w0)
    have za := itoa_size a ha
    have zb := itoa_size b hb
    rw [← hsa] at za
    rw [← hsb] at zb
    have ONE : (⟨#[32]⟩ : ByteArray).size = 1 := rfl
    have H4 : Hid (∀ r : ByteArray, r.size ≤ 5 → nameS y = r → ∃ x1 x2 x3 x4 : ByteArray, (∀ W, (Op.stringOp .add r ⟨#[32]⟩).run Tryz.prog W = .ok (.string x1) W) ∧ (∀ W, (Op.stringOp .add x1 sa).run Tryz.prog W = .ok (.string x2) W) ∧ (∀ W, (Op.stringOp .add x2 ⟨#[32]⟩).run Tryz.prog W = .ok (.string x3) W) ∧ (∀ W, (Op.stringOp .add x3 sb).run Tryz.prog W = .ok (.string x4) W) ∧ Hid (x4 = ⟨(lineL false y a b).toArray⟩)) := Lib.hid (fun r hr hn => ⟨_, _, _, _, add_is rfl (by omega), add_is rfl (by rw [ByteArray.size_append]; omega), add_is rfl (by rw [ByteArray.size_append, ByteArray.size_append]; omega), add_is rfl (by rw [ByteArray.size_append, ByteArray.size_append, ByteArray.size_append]; omega), Lib.hid (by
      rw [lineL_no, hn, hsa, hsb]
      refine ByteArray.ext ?_
      simp only [ByteArray.data_append]
      refine Array.ext' ?_
      simp)⟩)
    have B1 := Lib.hid (B0.out.trans ((box_below _ (.cells #[.string ⟨#[111, 116, 104, 101, 114]⟩, .string ⟨#[102, 111, 114, 109]⟩, .string ⟨#[111, 114, 100, 101, 114]⟩, .string ⟨#[118, 97, 108, 117, 101]⟩, .string ⟨#[112, 97, 105, 114]⟩] 9)).mono B0.out.size))
    have B2 := Lib.hid (B1.out.trans ((Below.refl _ _).drew.mono B1.out.size))
    have J2 := Lib.hid ((J0.out.on (box_below _ (.cells #[.string ⟨#[111, 116, 104, 101, 114]⟩, .string ⟨#[102, 111, 114, 109]⟩, .string ⟨#[111, 114, 100, 101, 114]⟩, .string ⟨#[118, 97, 108, 117, 101]⟩, .string ⟨#[112, 97, 105, 114]⟩] 9))).on (Below.refl _ _).drew)
    obtain ⟨u0, u1, u2, u3⟩ := J0.out.facts
    clear ha hb za zb hsa hsb
    by_cases h1 : y = 1
    · subst h1
      obtain ⟨x1, x2, x3, x4, a1, a2, a3, a4, HE⟩ := H4.out ⟨#[102, 111, 114, 109]⟩ (by decide) (by rfl)
      go_enter Tryz.func20, Tryz.ntmps20
      go_wp2_with fail
      go_region_held3 (fun w9 => w9.cell? ⟨w.heap.size, 2, none⟩ = some (.int .i64 a) ∧ w9.cell? ⟨w.heap.size, 3, none⟩ = some (.int .i64 b) ∧ w9.cell? ⟨w.heap.size + 1, 1, none⟩ = some (.string ⟨#[102, 111, 114, 109]⟩)) (exact ⟨J2.out.facts.2.2.1, J2.out.facts.2.2.2, lits11_at 1 _ rfl⟩)
        ((first
          | (go_at_call 48; (with_reducible refine (KA.out _).mono ?_); rintro e' w10 ⟨rfl, rfl⟩)
          | (go_at_call 48; (with_reducible refine (KB.out _).mono ?_); rintro e' w10 ⟨rfl, rfl⟩)))
      go_wp2_with fail
      go_ret
      exact ⟨by rw [HE.out]; rfl, B2.out⟩
    by_cases h2 : y = 2
    · subst h2
      obtain ⟨x1, x2, x3, x4, a1, a2, a3, a4, HE⟩ := H4.out ⟨#[111, 114, 100, 101, 114]⟩ (by decide) (by rfl)
      go_enter Tryz.func20, Tryz.ntmps20
      go_wp2_with fail
      go_region_held3 (fun w9 => w9.cell? ⟨w.heap.size, 2, none⟩ = some (.int .i64 a) ∧ w9.cell? ⟨w.heap.size, 3, none⟩ = some (.int .i64 b) ∧ w9.cell? ⟨w.heap.size + 1, 2, none⟩ = some (.string ⟨#[111, 114, 100, 101, 114]⟩)) (exact ⟨J2.out.facts.2.2.1, J2.out.facts.2.2.2, lits11_at 2 _ rfl⟩)
        ((first
          | (go_at_call 48; (with_reducible refine (KA.out _).mono ?_); rintro e' w10 ⟨rfl, rfl⟩)
          | (go_at_call 48; (with_reducible refine (KB.out _).mono ?_); rintro e' w10 ⟨rfl, rfl⟩)))
      go_wp2_with fail
      go_ret
      exact ⟨by rw [HE.out]; rfl, B2.out⟩
    by_cases h3 : y = 3
    · subst h3
      obtain ⟨x1, x2, x3, x4, a1, a2, a3, a4, HE⟩ := H4.out ⟨#[118, 97, 108, 117, 101]⟩ (by decide) (by rfl)
      go_enter Tryz.func20, Tryz.ntmps20
      go_wp2_with fail
      go_region_held3 (fun w9 => w9.cell? ⟨w.heap.size, 2, none⟩ = some (.int .i64 a) ∧ w9.cell? ⟨w.heap.size, 3, none⟩ = some (.int .i64 b) ∧ w9.cell? ⟨w.heap.size + 1, 3, none⟩ = some (.string ⟨#[118, 97, 108, 117, 101]⟩)) (exact ⟨J2.out.facts.2.2.1, J2.out.facts.2.2.2, lits11_at 3 _ rfl⟩)
        ((first
          | (go_at_call 48; (with_reducible refine (KA.out _).mono ?_); rintro e' w10 ⟨rfl, rfl⟩)
          | (go_at_call 48; (with_reducible refine (KB.out _).mono ?_); rintro e' w10 ⟨rfl, rfl⟩)))
      go_wp2_with fail
      go_ret
      exact ⟨by rw [HE.out]; rfl, B2.out⟩
    by_cases h4 : y = 4
    · subst h4
      obtain ⟨x1, x2, x3, x4, a1, a2, a3, a4, HE⟩ := H4.out ⟨#[112, 97, 105, 114]⟩ (by decide) (by rfl)
      go_enter Tryz.func20, Tryz.ntmps20
      go_wp2_with fail
      go_region_held3 (fun w9 => w9.cell? ⟨w.heap.size, 2, none⟩ = some (.int .i64 a) ∧ w9.cell? ⟨w.heap.size, 3, none⟩ = some (.int .i64 b) ∧ w9.cell? ⟨w.heap.size + 1, 4, none⟩ = some (.string ⟨#[112, 97, 105, 114]⟩)) (exact ⟨J2.out.facts.2.2.1, J2.out.facts.2.2.2, lits11_at 4 _ rfl⟩)
        ((first
          | (go_at_call 48; (with_reducible refine (KA.out _).mono ?_); rintro e' w10 ⟨rfl, rfl⟩)
          | (go_at_call 48; (with_reducible refine (KB.out _).mono ?_); rintro e' w10 ⟨rfl, rfl⟩)))
      go_wp2_with fail
      go_ret
      exact ⟨by rw [HE.out]; rfl, B2.out⟩
    by_cases h5 : y < 1
    · have d0 : decide (1 ≤ y) = false := by simp; omega
      have d1 : decide (y ≥ 1) = false := by simp; omega
      obtain ⟨x1, x2, x3, x4, a1, a2, a3, a4, HE⟩ := H4.out ⟨#[111, 116, 104, 101, 114]⟩ (by decide) (by unfold nameS; rw [if_neg h1, if_neg h2, if_neg h3, if_neg h4])
      go_enter Tryz.func20, Tryz.ntmps20
      go_wp2_with fail
      go_region_held3 (fun w9 => w9.cell? ⟨w.heap.size, 2, none⟩ = some (.int .i64 a) ∧ w9.cell? ⟨w.heap.size, 3, none⟩ = some (.int .i64 b) ∧ w9.cell? ⟨w.heap.size + 1, 0, none⟩ = some (.string ⟨#[111, 116, 104, 101, 114]⟩)) (exact ⟨J2.out.facts.2.2.1, J2.out.facts.2.2.2, lits11_at 0 _ rfl⟩)
        ((first
          | (go_at_call 48; (with_reducible refine (KA.out _).mono ?_); rintro e' w10 ⟨rfl, rfl⟩)
          | (go_at_call 48; (with_reducible refine (KB.out _).mono ?_); rintro e' w10 ⟨rfl, rfl⟩)))
      go_wp2_with fail
      go_ret
      exact ⟨by rw [HE.out]; rfl, B2.out⟩
    · have d0 : decide (1 ≤ y) = true := by simp; omega
      have d1 : decide (y ≤ 4) = false := by simp; omega
      have d2 : decide (y ≥ 1) = true := by simp; omega
      obtain ⟨x1, x2, x3, x4, a1, a2, a3, a4, HE⟩ := H4.out ⟨#[111, 116, 104, 101, 114]⟩ (by decide) (by unfold nameS; rw [if_neg h1, if_neg h2, if_neg h3, if_neg h4])
      go_enter Tryz.func20, Tryz.ntmps20
      go_wp2_with fail
      go_region_held3 (fun w9 => w9.cell? ⟨w.heap.size, 2, none⟩ = some (.int .i64 a) ∧ w9.cell? ⟨w.heap.size, 3, none⟩ = some (.int .i64 b) ∧ w9.cell? ⟨w.heap.size + 1, 0, none⟩ = some (.string ⟨#[111, 116, 104, 101, 114]⟩)) (exact ⟨J2.out.facts.2.2.1, J2.out.facts.2.2.2, lits11_at 0 _ rfl⟩)
        ((first
          | (go_at_call 48; (with_reducible refine (KA.out _).mono ?_); rintro e' w10 ⟨rfl, rfl⟩)
          | (go_at_call 48; (with_reducible refine (KB.out _).mono ?_); rintro e' w10 ⟨rfl, rfl⟩)))
      go_wp2_with fail
      go_ret
      exact ⟨by rw [HE.out]; rfl, B2.out⟩
end Go.Proofs.YtcbfokbdiefdeaaGreatDoor
