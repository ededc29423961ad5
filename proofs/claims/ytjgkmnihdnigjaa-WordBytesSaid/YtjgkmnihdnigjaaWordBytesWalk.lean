/-
  Proved here: the law WordBytes returns true at every word, every number of bytes and every row of bytes, and writes nothing that was there. Conditions: what the slice reads as is a row of bytes.
-/
import Derived.Test.YtjgkmnihdnigjaaWordTexts
import Derived.RegionTactic
import Derived.ChangeAlike
import Derived.Deep.RegionWith
import Derived.Deep.QuietTactic
import Derived.BigQuiet
import Derived.IntWalk
namespace Go.Proofs.Ytjgkmnihdnigjaa
open Go.RowKit

/-! ### bytes as words -/
theorem of_bytes (x : BitVec 64) (k : Nat) (hk : k ≤ 8) : ofI (bytesL (U x) k) k = lowI (U x) (8 * (k : Int)) := by
  rw [ofI_U _ (bytesL_is x k), lowI_U, ck_in _ (by omega) (by omega)]
  refine congrArg U ?_
  apply bits_ext
  intro i hi
  have ek : (8 * (k : Int)).toNat = 8 * k := by omega
  rw [ek, bit_of _ (bytesL_is x k) _ _ hi, bit_low]
  by_cases h : i / 8 < k
  · have h2 : i < 8 * k := by omega
    rw [bytesL_get _ _ _ h, byteB_I x _ _ (by omega), show i / 8 * 8 + i % 8 = i by omega]
    simp [h, h2]
  · have h2 : ¬ i < 8 * k := by omega
    simp [h, h2]
theorem byte_of (xs : List Int) (hx : ∀ i, IsByte (xs.getD i 0)) (k i : Nat) (hk : k ≤ 8) (hi : i < k) : byteI (ofI xs k) i = xs.getD i 0 := by
  rw [ofI_U xs hx]
  have h1 := byte_U (byteI_is (ofB xs k) i)
  rw [h1, byte_U (hx i)]
  refine congrArg U ?_
  apply bits_ext
  intro b hb
  by_cases h : b < 8
  · rw [byteB_I _ _ _ h, bit_of xs hx _ _ (by omega), show (i * 8 + b) / 8 = i by omega, show (i * 8 + b) % 8 = b by omega]
    simp [hi]
  · rw [byte_high (byteI_is _ _) b (by omega), byte_high (hx i) b (by omega)]
theorem bytes_of (xs : List Int) (hx : ∀ i, IsByte (xs.getD i 0)) (k : Nat) (hk : k ≤ 8) (hl : k ≤ xs.length) : bytesL (ofI xs k) k = xs.take k := by
  apply List.ext_getElem
  · rw [bytesL_len, List.length_take]; omega
  · intro i h1 h2
    rw [bytesL_len] at h1
    have e1 : (bytesL (ofI xs k) k)[i] = byteI (ofI xs k) i := by simp [bytesL]
    rw [e1, byte_of xs hx k i hk h1]
    simp [List.getD, show i < xs.length by omega]

/-! ### contracts with named results -/
theorem Part_same (x f n : Int) (w : World) : Calls Try.prog 19 #[.int .u64 x, .int .i64 f, .int .i64 n] w fun e w' => e = .returned (.int .u64 (partI x f n)) ∧ w' = w :=
  (Part_any x f n w).mono fun _ _ h => ⟨h.1, h.2.symm⟩
def MadeRow (w w' : World) (e : Ending) (x : Int) (k : Nat) : Prop :=
  ∃ b, e = .returned (.slice (some ⟨b, 0, none⟩) k k) ∧ (∀ i, i < k → w'.cell? ⟨b, i, none⟩ = some (.int .u8 (byteI x i))) ∧ RowAt w' (some ⟨b, 0, none⟩) (bytesL x k) ∧ Below w.heap.size w w'
theorem Bytes_row {x n : Int} {k : Nat} (hk : Hid (cl n 8 = (k : Int))) (w : World) : Calls Try.prog 12 #[.int .u64 x, .int .i64 n] w fun e w' => MadeRow w w' e x k := by
  refine (Bytes_any x n w).mono ?_
  rintro e w' ⟨he, hw⟩
  have e1 : (cl n 8).toNat = k := by rw [hk.out, Int.toNat_natCast]
  rw [e1] at he hw
  subst hw
  have hc : ∀ i, i < k → (w.alloc (.cells (rowA x k k) 5)).cell? ⟨w.heap.size, i, none⟩ = some (.int .u8 (byteI x i)) := by
    intro i hi
    rw [World.cell?_alloc_new, rowA_full]
    simp [bytesL, hi]
  refine ⟨w.heap.size, he, hc, fun _ => ⟨w.heap.size, 0, rfl, ?_⟩, (Below.refl _ _).alloc (Nat.le_refl _) _⟩
  intro i hi
  rw [bytesL_len] at hi
  rw [Nat.zero_add, hc i hi, bytesL_get _ _ _ hi]
theorem Of_is {w : World} {a : Option Addr} {cap l : Nat} {xs : List Int} {r : Int} (hr : Hid (RowAt w a xs)) (hl : Hid (l = xs.length)) (hm : l ≤ 100) (hx : Hid (∀ i, IsByte (xs.getD i 0))) (h : Hid (ofI xs (cl l 8).toNat = r)) :
    Calls Try.prog 13 #[.slice a l cap] w fun e w' => e = .returned (.int .u64 r) ∧ w = w' := by
  have := hl.out
  subst this
  rw [← h.out]
  exact Of_any a cap xs w hr.out (by unfold maxLen; omega) hx.out
theorem Of_later {w0 w : World} {a : Option Addr} {cap l : Nat} {xs : List Int} {r : Int} (hr : Hid (RowAt w0 a xs)) (hb : Hid (Below w0.heap.size w0 w)) (hl : Hid (l = xs.length)) (hm : l ≤ 100) (hx : Hid (∀ i, IsByte (xs.getD i 0))) (h : Hid (ofI xs (cl l 8).toNat = r)) :
    Calls Try.prog 13 #[.slice a l cap] w fun e w' => e = .returned (.int .u64 r) ∧ w = w' :=
  Of_is (Lib.hid (row_later hr.out hb.out (row_lt hr.out))) hl hm hx h
/-- Bytes of r, which come out as L -/
theorem Bytes_text {r n : Int} {k : Nat} {L : List Int} (hn : Hid (cl n 8 = (k : Int))) (hL : Hid (bytesL r k = L)) (w : World) :
    Calls Try.prog 12 #[.int .u64 r, .int .i64 n] w fun e w' => ∃ a cap, e = .returned (.slice a k cap) ∧ (∀ w2, Below w'.heap.size w' w2 → (convert 26 9 (.slice a k cap)).run Try.prog w2 = .ok (.string (strOfNums L)) w2) ∧ Below w.heap.size w w' := by
  refine (Bytes_texts r n w).mono ?_
  rintro e w' ⟨a, cap, he, hc, hb⟩
  have e1 : (cl n 8).toNat = k := by rw [hn.out, Int.toNat_natCast]
  rw [e1] at he hc
  rw [bytesL_len] at he hc
  rw [hL.out] at hc
  exact ⟨a, cap, he, hc, hb⟩
theorem conv_take {w : World} {a : Option Addr} {xs : List Int} (hr : RowAt w a xs) (cap k : Nat) (hk : k ≤ xs.length) :
    (convert 26 9 (.slice a k cap)).run Try.prog w = .ok (.string (strOfNums (xs.take k))) w := by
  have hr2 : RowAt w a (xs.take k) := by
    intro hne
    obtain ⟨b, off, e, hc⟩ := hr (by intro e; rw [e] at hne; simp at hne)
    refine ⟨b, off, e, fun i hi => ?_⟩
    rw [List.length_take] at hi
    rw [hc i (by omega)]
    simp [List.getD, show i < k by omega]
  have h := conv_row hr2 cap
  rw [List.length_take, Nat.min_eq_left hk] at h
  exact h

set_option maxRecDepth 100000 in
set_option maxHeartbeats 4000000 in
theorem bytes_s (x n : BitVec 64) (a : Option Addr) (cap l : Nat) (xs : List Int) (w : World) (HR : Hid (RowAt w a xs)) (HL : Hid (l = xs.length)) (hm : l ≤ 100) (hcap : l ≤ cap) (hl8 : l ≤ 8)
    (HX : Hid (∀ i, IsByte (xs.getD i 0))) :
    Calls Try.prog 7 #[.int .u64 (U x), .int .i64 (S n), .slice a l cap] w fun e w' => e = .returned (.bool true) ∧ Below w.heap.size w w' := by
  obtain ⟨j, hj, hj'⟩ := pick_is (S n) 9 (by omega)
  have HJ := Lib.hid hj
  clear hj
  have ln := S_lo n
  have hn := S_hi n
  have HC := Lib.hid (cl_in (j : Int) 8 (by omega) (by omega))
  have HO := Lib.hid (show ofI (bytesL (U x) j) (cl (j : Int) 8).toNat = lowI (U x) (8 * (j : Int)) by rw [HC.out, Int.toNat_natCast]; exact of_bytes x j (by omega))
  have HLB := Lib.hid (bytesL_len (U x) j).symm
  have HXB := Lib.hid (bytesL_is x j)
  have HC2 := Lib.hid (show (cl (l : Int) 8).toNat = l by rw [cl_in _ _ (by omega) (by omega), Int.toNat_natCast])
  have HC3 := Lib.hid (show cl (l : Int) 8 = (l : Int) from cl_in _ _ (by omega) (by omega))
  have HO2 := Lib.hid (show ofI xs (cl (l : Int) 8).toNat = ofI xs l by rw [HC2.out])
  have HT := Lib.hid (bytes_of xs HX.out l (by omega) (by rw [← HL.out]; omega))
  go_enter Try.func7, Try.ntmps7
  go_wp2_with (first | (go_at_call 9; (with_reducible refine (lives_any _).mono ?_); rintro e w' ⟨rfl, rfl⟩) | (go_at_call 29; (with_reducible refine (Pick_hid HJ (by omega) (by omega) (by omega) _).mono ?_); rintro e w' ⟨rfl, rfl⟩) | (go_at_call 12; (with_reducible refine (Bytes_row HC _).mono ?_); rintro e w1 ⟨b, rfl, hc, hr1, hb1⟩; have HCL := Lib.hid hc; have HR1 := Lib.hid hr1; have HB1 := Lib.hid hb1; clear hc hr1 hb1) | (go_at_call 13; (with_reducible refine (Of_is HR1 HLB (by omega) HXB HO).mono ?_); rintro e w' ⟨rfl, rfl⟩) | (go_at_call 11; (with_reducible refine (Low_any _ _ _).mono ?_); rintro e w' ⟨rfl, rfl⟩))
  go_loopw [8] (fun i wr => ∃ i' m : Nat, i' ≤ j ∧ i = .int .i64 i' ∧ wr = w1.drewN m) (fun i _ => j - (intOf i).toNat)
  case atStart => exact ⟨0, 0, by omega, rfl, rfl⟩
  case round =>
    obtain ⟨i, m, hi, rfl, hwr⟩ := hrel
    by_cases hlt : i < j
    · have hcell : wr.cell? ⟨b, i, none⟩ = some (.int .u8 (byteI (U x) i)) := by rw [hwr, World.cell?_drewN]; exact HCL.out i hlt
      have HW := Lib.hid hwr
      clear hwr
      have e9 : IntKind.u64.wrap (byteI (U x) i) = byteI (U x) i := by rw [byte_U (byteI_is x i), wrapU_U, ← byte_U (byteI_is x i)]
      have hp : (byteI (U x) i != partI (U x) (8 * (i : Int)) 8) = false := by rw [part_byte x i (by omega)]; simp
      have hb0 := (byteI_is x i).1
      have hb1 := (byteI_is x i).2
      have e8 : IntKind.i64.wrap (8 * (i : Int)) = 8 * (i : Int) := IntWalk.i64_in _ (by omega)
      have i0 : (0 : Int) ≤ (i : Int) := by omega
      have i1 : (i : Int) < (j : Int) := by omega
      go_wp2_with (fail)
      go_quiet ((go_at_call 19; exact Calls.quiet_of_same (Part_same _ _ _ _)))
      clear e8 e9
      go_wp2_with (fail)
      go_roundw
      case rel => exact ⟨i + 1, _, by omega, by go_num, by rw [HW.out, World.drewN_drewN]⟩
      case measure => simp [intOf]; omega
    · have HB2 := Lib.hid (show Below w.heap.size w wr by rw [hwr]; exact below_drewN HB1.out m)
      clear hwr
      go_wp2_with (fail)
      clear HCL HR1 HB1 HLB HXB HO HC HJ ln hn
      have hcv : ∀ w3, Hid (Below w.heap.size w w3) → (convert 26 9 (.slice a l cap)).run Try.prog w3 = .ok (.string (strOfNums (xs.take l))) w3 := fun w3 h => conv_take (row_later HR.out h.out (row_lt HR.out)) cap l (by rw [← HL.out]; omega)
      have HD := Lib.hid (show Below w.heap.size w wr.drew from HB2.out.drew)
      have hcd := hcv wr.drew HD
      go_region_with (first | (go_at_call 13; (with_reducible refine (Of_later HR HD HL hm HX HO2).mono ?_); rintro e w' ⟨rfl, rfl⟩) | (go_at_call 12; (with_reducible refine (Bytes_text HC3 HT _).mono ?_); rintro e w3 ⟨a3, c3, rfl, hc3, hb3⟩; have hr3 := Below.refl w3.heap.size w3; have HB3 := Lib.hid (below_three HD.out hb3); have hcd3 := hcv w3 HB3))
      all_goals
        go_wp2
        go_ret
        exact ⟨rfl, HB3.out⟩

set_option maxRecDepth 100000 in
set_option maxHeartbeats 4000000 in
theorem bytes_l (x n : BitVec 64) (a : Option Addr) (cap l : Nat) (xs : List Int) (w : World) (HR : Hid (RowAt w a xs)) (HL : Hid (l = xs.length)) (hm : l ≤ 100) (hcap : l ≤ cap) (hl8 : 8 < l)
    (HX : Hid (∀ i, IsByte (xs.getD i 0))) :
    Calls Try.prog 7 #[.int .u64 (U x), .int .i64 (S n), .slice a l cap] w fun e w' => e = .returned (.bool true) ∧ Below w.heap.size w w' := by
  obtain ⟨j, hj, hj'⟩ := pick_is (S n) 9 (by omega)
  have HJ := Lib.hid hj
  clear hj
  have ln := S_lo n
  have hn := S_hi n
  have HC := Lib.hid (cl_in (j : Int) 8 (by omega) (by omega))
  have HO := Lib.hid (show ofI (bytesL (U x) j) (cl (j : Int) 8).toNat = lowI (U x) (8 * (j : Int)) by rw [HC.out, Int.toNat_natCast]; exact of_bytes x j (by omega))
  have HLB := Lib.hid (bytesL_len (U x) j).symm
  have HXB := Lib.hid (bytesL_is x j)
  have HC2 := Lib.hid (show (cl (l : Int) 8).toNat = 8 by unfold cl; rw [if_neg (by omega), if_pos (by omega)]; rfl)
  have HC3 := Lib.hid (show cl 8 8 = ((8 : Nat) : Int) by decide +kernel)
  have HO2 := Lib.hid (show ofI xs (cl (l : Int) 8).toNat = ofI xs 8 by rw [HC2.out])
  have HT := Lib.hid (bytes_of xs HX.out 8 (by omega) (by rw [← HL.out]; omega))
  go_enter Try.func7, Try.ntmps7
  go_wp2_with (first | (go_at_call 9; (with_reducible refine (lives_any _).mono ?_); rintro e w' ⟨rfl, rfl⟩) | (go_at_call 29; (with_reducible refine (Pick_hid HJ (by omega) (by omega) (by omega) _).mono ?_); rintro e w' ⟨rfl, rfl⟩) | (go_at_call 12; (with_reducible refine (Bytes_row HC _).mono ?_); rintro e w1 ⟨b, rfl, hc, hr1, hb1⟩; have HCL := Lib.hid hc; have HR1 := Lib.hid hr1; have HB1 := Lib.hid hb1; clear hc hr1 hb1) | (go_at_call 13; (with_reducible refine (Of_is HR1 HLB (by omega) HXB HO).mono ?_); rintro e w' ⟨rfl, rfl⟩) | (go_at_call 11; (with_reducible refine (Low_any _ _ _).mono ?_); rintro e w' ⟨rfl, rfl⟩))
  go_loopw [8] (fun i wr => ∃ i' m : Nat, i' ≤ j ∧ i = .int .i64 i' ∧ wr = w1.drewN m) (fun i _ => j - (intOf i).toNat)
  case atStart => exact ⟨0, 0, by omega, rfl, rfl⟩
  case round =>
    obtain ⟨i, m, hi, rfl, hwr⟩ := hrel
    by_cases hlt : i < j
    · have hcell : wr.cell? ⟨b, i, none⟩ = some (.int .u8 (byteI (U x) i)) := by rw [hwr, World.cell?_drewN]; exact HCL.out i hlt
      have HW := Lib.hid hwr
      clear hwr
      have e9 : IntKind.u64.wrap (byteI (U x) i) = byteI (U x) i := by rw [byte_U (byteI_is x i), wrapU_U, ← byte_U (byteI_is x i)]
      have hp : (byteI (U x) i != partI (U x) (8 * (i : Int)) 8) = false := by rw [part_byte x i (by omega)]; simp
      have hb0 := (byteI_is x i).1
      have hb1 := (byteI_is x i).2
      have e8 : IntKind.i64.wrap (8 * (i : Int)) = 8 * (i : Int) := IntWalk.i64_in _ (by omega)
      have i0 : (0 : Int) ≤ (i : Int) := by omega
      have i1 : (i : Int) < (j : Int) := by omega
      go_wp2_with (fail)
      go_quiet ((go_at_call 19; exact Calls.quiet_of_same (Part_same _ _ _ _)))
      clear e8 e9
      go_wp2_with (fail)
      go_roundw
      case rel => exact ⟨i + 1, _, by omega, by go_num, by rw [HW.out, World.drewN_drewN]⟩
      case measure => simp [intOf]; omega
    · have HB2 := Lib.hid (show Below w.heap.size w wr by rw [hwr]; exact below_drewN HB1.out m)
      clear hwr
      go_wp2_with (fail)
      clear HCL HR1 HB1 HLB HXB HO HC HJ ln hn
      have hcv : ∀ w3, Hid (Below w.heap.size w w3) → (convert 26 9 (.slice a 8 cap)).run Try.prog w3 = .ok (.string (strOfNums (xs.take 8))) w3 := fun w3 h => conv_take (row_later HR.out h.out (row_lt HR.out)) cap 8 (by rw [← HL.out]; omega)
      have HD := Lib.hid (show Below w.heap.size w wr.drew from HB2.out.drew)
      have hcd := hcv wr.drew HD
      go_region_with (first | (go_at_call 13; (with_reducible refine (Of_later HR HD HL hm HX HO2).mono ?_); rintro e w' ⟨rfl, rfl⟩) | (go_at_call 12; (with_reducible refine (Bytes_text HC3 HT _).mono ?_); rintro e w3 ⟨a3, c3, rfl, hc3, hb3⟩; have hr3 := Below.refl w3.heap.size w3; have HB3 := Lib.hid (below_three HD.out hb3); have hcd3 := hcv w3 HB3))
      all_goals
        go_wp2
        go_ret
        exact ⟨rfl, HB3.out⟩

theorem bytes_big (x n : BitVec 64) (a : Option Addr) (cap l : Nat) (w : World) (hm : l ≤ 9223372036854775807) (hbig : 100 < l) :
    Calls Try.prog 7 #[.int .u64 (U x), .int .i64 (S n), .slice a l cap] w fun e w' => e = .returned (.bool true) ∧ Below w.heap.size w w' := by
  go_enter Try.func7, Try.ntmps7
  go_wp2_with (go_at_call 9; (with_reducible refine (lives_any _).mono ?_); rintro e w' ⟨rfl, rfl⟩)
  go_ret
  exact ⟨rfl, Below.refl _ _⟩
theorem bytes_any (x n : BitVec 64) (a : Option Addr) (cap : Nat) (xs : List Int) (w : World) (hr : RowAt w a xs) (hm : xs.length ≤ maxLen) (hcap : xs.length ≤ cap) (hx : ∀ i, IsByte (xs.getD i 0)) :
    Calls Try.prog 7 #[.int .u64 (U x), .int .i64 (S n), .slice a xs.length cap] w fun e w' => e = .returned (.bool true) ∧ Below w.heap.size w w' := by
  by_cases hbig : 100 < xs.length
  · exact bytes_big x n a cap xs.length w (by unfold maxLen at hm; omega) hbig
  · by_cases h8 : xs.length ≤ 8
    · exact bytes_s x n a cap xs.length xs w (Lib.hid hr) (Lib.hid rfl) (by omega) hcap h8 (Lib.hid hx)
    · exact bytes_l x n a cap xs.length xs w (Lib.hid hr) (Lib.hid rfl) (by omega) hcap (by omega) (Lib.hid hx)
end Go.Proofs.Ytjgkmnihdnigjaa
