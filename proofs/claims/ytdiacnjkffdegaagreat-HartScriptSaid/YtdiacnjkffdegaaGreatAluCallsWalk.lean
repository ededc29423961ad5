/-
  Proved here: the law AluCalls returns true at every op and every two words, and what was there is as it was. No condition.
-/
import Derived.Test.YtdiacnjkffdegaaGreatAluDo
import Derived.Test.YtdiacnjkffdegaaGreatAluRefOps
namespace Go.Proofs.YtdiacnjkffdegaaGreat
open Go.RowKit
/-! ### what Do, Takes, Amo answer of every op -/
def doX (op : Int) (a b : BitVec 64) : Int := if op = 1 then U (doV 1 a b) else if plainI op = 0 then 0 else U (doV (plainI op).toNat a b)
def doE (op : Int) : Int := if op = 1 then 0 else if plainI op = 0 then 2 else 0
def tkX (op : Int) (a b : BitVec 64) : Bool := if 5 ≤ op ∧ op ≤ 10 then brV op.toNat a b else false
def tkE (op : Int) : Int := if 5 ≤ op ∧ op ≤ 10 then 0 else 2
def amX (op : Int) (a b : BitVec 64) : Int := if 70 ≤ op ∧ op ≤ 78 then U (sh (amV (op.toNat + 9) (sh a) (sh b))) else if 79 ≤ op ∧ op ≤ 87 then U (amV op.toNat a b) else 0
def amE (op : Int) : Int := if 70 ≤ op ∧ op ≤ 87 then 0 else 2
theorem plain_own (k : Nat) (h1 : 35 ≤ k) (h2 : k ≤ 62) : plainI k = k := by unfold plainI; rw [if_pos (by omega)]
theorem plain_own' (k : Nat) (h1 : 35 ≤ k) (h2 : k ≤ 62) : plainI k = k := plain_own k h1 h2
theorem plain_rng (op : Int) (h : plainI op ≠ 0) : ∃ k : Nat, plainI op = k ∧ 35 ≤ k ∧ k ≤ 62 := by
  by_cases h1 : 35 ≤ op ∧ op ≤ 62
  · refine ⟨op.toNat, ?_, by omega, by omega⟩
    unfold plainI; rw [if_pos h1]; omega
  · unfold plainI at h ⊢; rw [if_neg h1] at h ⊢
    by_cases h0 : op < 0
    · rw [if_pos h0] at h; exact absurd rfl h
    · rw [if_neg h0] at h ⊢
      by_cases h2 : op.toNat < 35
      · have t : ∀ j : Fin 35, plainL.getD j.val 0 ≠ 0 → plainL.getD j.val 0 = ((plainL.getD j.val 0).toNat : Int) ∧ 35 ≤ (plainL.getD j.val 0).toNat ∧ (plainL.getD j.val 0).toNat ≤ 62 := by decide +kernel
        have := t ⟨op.toNat, h2⟩ h
        exact ⟨_, this.1, this.2⟩
      · rw [List.getD_eq_getElem?_getD, List.getElem?_eq_none (by show 35 ≤ op.toNat; omega)] at h; exact absurd rfl h
theorem do_at (op : Int) (a b : BitVec 64) : (op = 1 ∧ doX op a b = U (doV 1 a b) ∧ doE op = 0) ∨ (∃ k : Nat, plainI op = k ∧ 35 ≤ k ∧ k ≤ 62 ∧ op ≠ 1 ∧ doX op a b = U (doV k a b) ∧ doE op = 0) ∨ (plainI op = 0 ∧ op ≠ 1 ∧ doX op a b = 0 ∧ doE op = 2) := by
  by_cases h1 : op = 1
  · refine .inl ⟨h1, ?_, ?_⟩
    · unfold doX; rw [if_pos h1]
    · unfold doE; rw [if_pos h1]
  · by_cases h2 : plainI op = 0
    · refine .inr (.inr ⟨h2, h1, ?_, ?_⟩)
      · unfold doX; rw [if_neg h1, if_pos h2]
      · unfold doE; rw [if_neg h1, if_pos h2]
    · obtain ⟨k, hk, h3, h4⟩ := plain_rng op h2
      refine .inr (.inl ⟨k, hk, h3, h4, h1, ?_, ?_⟩)
      · unfold doX; rw [if_neg h1, if_neg h2, hk]; rfl
      · unfold doE; rw [if_neg h1, if_neg h2]
theorem pDo_any (op : Int) (a b : BitVec 64) (w : World) : Calls Tryz.prog 70 #[.int .i64 op, .int .u64 (U a), .int .u64 (U b)] w fun e w' => e = .returned (.tuple #[.int .u64 (doX op a b), .int .i64 (doE op)]) ∧ Below w.heap.size w w' := by
  rcases do_at op a b with ⟨h, hx, he⟩ | ⟨k, hk, h1, h2, _, hx, he⟩ | ⟨h0, h1, hx, he⟩
  · rw [hx, he, h]; exact Do_lui 1 rfl a b w
  · rw [hx, he]; exact Do_own op k a b hk h1 h2 w
  · rw [hx, he]
    by_cases h : op < 0 ∨ 62 < op
    · exact Do_out op a b h w
    · obtain ⟨k, rfl⟩ : ∃ k : Nat, op = k := ⟨op.toNat, by omega⟩
      have h35 : k < 35 := by
        by_cases h3 : k < 35
        · exact h3
        · rw [plain_own k (by omega) (by omega)] at h0; omega
      exact Do_nil k a b h0 (by omega) h35 w
theorem rlong_any (k : Nat) (hk : k = 35 ∨ k = 36 ∨ k = 37 ∨ k = 38 ∨ k = 39 ∨ k = 40 ∨ k = 41 ∨ k = 42 ∨ k = 43 ∨ k = 44 ∨ k = 50 ∨ k = 51 ∨ k = 52 ∨ k = 53 ∨ k = 54 ∨ k = 55 ∨ k = 56 ∨ k = 57) (a b : BitVec 64) (w : World) : Calls Tryz.prog 37 #[.int .i64 (k : Int), .int .u64 (U a), .int .u64 (U b)] w fun e w' => e = .returned (.int .u64 (U (doV k a b))) ∧ Below w.heap.size w w' := by
  rcases hk with rfl | rfl | rfl | rfl | rfl | rfl | rfl | rfl | rfl | rfl | rfl | rfl | rfl | rfl | rfl | rfl | rfl | rfl
  · exact r_35 a b w
  · exact r_36 a b w
  · exact r_37 a b w
  · exact r_38 a b w
  · exact r_39 a b w
  · exact r_40 a b w
  · exact r_41 a b w
  · exact r_42 a b w
  · exact r_43 a b w
  · exact r_44 a b w
  · exact r_50 a b w
  · exact r_51 a b w
  · exact r_52 a b w
  · exact r_53 a b w
  · exact r_54 a b w
  · by_cases h : b = 0
    · exact r_55z a b h w
    · exact r_55n a b h w
  · exact r_56 a b w
  · by_cases h : b = 0
    · exact r_57z a b h w
    · exact r_57n a b h w
theorem rshort_any (k : Nat) (hk : k = 45 ∨ k = 46 ∨ k = 47 ∨ k = 48 ∨ k = 49 ∨ k = 58 ∨ k = 59 ∨ k = 60 ∨ k = 61 ∨ k = 62) (a b : BitVec 64) (w : World) : Calls Tryz.prog 36 #[.int .i64 (k : Int), .int .u64 (U a), .int .u64 (U b)] w fun e w' => e = .returned (.int .u64 (U (doV k a b))) ∧ Below w.heap.size w w' := by
  rcases hk with rfl | rfl | rfl | rfl | rfl | rfl | rfl | rfl | rfl | rfl
  · exact r_45 a b w
  · exact r_46 a b w
  · exact r_47 a b w
  · exact r_48 a b w
  · exact r_49 a b w
  · exact r_58 a b w
  · exact r_59 a b w
  · by_cases h : lo b = 0
    · exact r_60z a b h w
    · exact r_60n a b h w
  · exact r_61 a b w
  · by_cases h : lo b = 0
    · exact r_62z a b h w
    · exact r_62n a b h w
theorem rdo_zero (op : Int) (a b : BitVec 64) (h1 : op ≠ 1) (hk : plainI op = 0) (w : World) : Calls Tryz.prog 18 #[.int .i64 op, .int .u64 (U a), .int .u64 (U b)] w fun e w' => e = .returned (.tuple #[.int .u64 0, .int .i64 2]) ∧ Below w.heap.size w w' := by
  have HB := Lib.hid (Below.refl w.heap.size w)
  have c1 : (op == 1) = false := by simpa using h1
  have HP := Lib.hid (show ∀ w, Calls Tryz.prog 35 #[.int .i64 op] w fun e w' => e = .returned (.int .i64 0) ∧ w = w' from hk ▸ rplain_any op)
  clear h1 hk
  go_enter Tryz.func18, Tryz.ntmps18
  go_wp2_with (first | (go_at_call 35; (with_reducible refine (HP.out _).mono ?_); rintro e w' ⟨rfl, rfl⟩))
  go_ret2
  exact ⟨rfl, HB.out⟩
theorem rdo_A (op : Int) (a b : BitVec 64) (k : Nat) (h1 : op ≠ 1) (hk : plainI op = k) (k45 : 45 ≤ k) (k49 : k ≤ 49) (w : World) : Calls Tryz.prog 18 #[.int .i64 op, .int .u64 (U a), .int .u64 (U b)] w fun e w' => e = .returned (.tuple #[.int .u64 (U (doV k a b)), .int .i64 0]) ∧ Below w.heap.size w w' := by
  have HB := Lib.hid (Below.refl w.heap.size w)
  have c1 : (op == 1) = false := by simpa using h1
  have HP := Lib.hid (show ∀ w, Calls Tryz.prog 35 #[.int .i64 op] w fun e w' => e = .returned (.int .i64 (k : Int)) ∧ w = w' from hk ▸ rplain_any op)
  have c2 : ((k : Int) == 0) = false := by simp; omega
  have d1 : decide (45 ≤ (k : Int)) = true := decide_eq_true (by omega)
  have d2 : decide ((k : Int) ≤ 49) = true := decide_eq_true (by omega)
  have HS := Lib.hid (rshort_any k (by omega) a b)
  clear h1 hk k45 k49
  go_enter Tryz.func18, Tryz.ntmps18
  go_wp2_with (first | (go_at_call 35; (with_reducible refine (HP.out _).mono ?_); rintro e w' ⟨rfl, rfl⟩) | (go_at_call 36; (with_reducible refine (HS.out _).mono ?_); rintro e w' ⟨rfl, hb⟩; have HB := Lib.hid (HB.out.trans (hb.mono HB.out.size)); clear hb))
  go_ret2
  exact ⟨rfl, HB.out⟩
theorem rdo_B (op : Int) (a b : BitVec 64) (k : Nat) (h1 : op ≠ 1) (hk : plainI op = k) (k58 : 58 ≤ k) (k62 : k ≤ 62) (w : World) : Calls Tryz.prog 18 #[.int .i64 op, .int .u64 (U a), .int .u64 (U b)] w fun e w' => e = .returned (.tuple #[.int .u64 (U (doV k a b)), .int .i64 0]) ∧ Below w.heap.size w w' := by
  have HB := Lib.hid (Below.refl w.heap.size w)
  have c1 : (op == 1) = false := by simpa using h1
  have HP := Lib.hid (show ∀ w, Calls Tryz.prog 35 #[.int .i64 op] w fun e w' => e = .returned (.int .i64 (k : Int)) ∧ w = w' from hk ▸ rplain_any op)
  have c2 : ((k : Int) == 0) = false := by simp; omega
  have d1 : decide (45 ≤ (k : Int)) = true := decide_eq_true (by omega)
  have d2 : decide ((k : Int) ≤ 49) = false := decide_eq_false (by omega)
  have d3 : decide (58 ≤ (k : Int)) = true := decide_eq_true (by omega)
  have HS := Lib.hid (rshort_any k (by omega) a b)
  clear h1 hk k58 k62
  go_enter Tryz.func18, Tryz.ntmps18
  go_wp2_with (first | (go_at_call 35; (with_reducible refine (HP.out _).mono ?_); rintro e w' ⟨rfl, rfl⟩) | (go_at_call 36; (with_reducible refine (HS.out _).mono ?_); rintro e w' ⟨rfl, hb⟩; have HB := Lib.hid (HB.out.trans (hb.mono HB.out.size)); clear hb))
  go_ret2
  exact ⟨rfl, HB.out⟩
theorem rdo_C (op : Int) (a b : BitVec 64) (k : Nat) (h1 : op ≠ 1) (hk : plainI op = k) (k50 : 50 ≤ k) (k57 : k ≤ 57) (w : World) : Calls Tryz.prog 18 #[.int .i64 op, .int .u64 (U a), .int .u64 (U b)] w fun e w' => e = .returned (.tuple #[.int .u64 (U (doV k a b)), .int .i64 0]) ∧ Below w.heap.size w w' := by
  have HB := Lib.hid (Below.refl w.heap.size w)
  have c1 : (op == 1) = false := by simpa using h1
  have HP := Lib.hid (show ∀ w, Calls Tryz.prog 35 #[.int .i64 op] w fun e w' => e = .returned (.int .i64 (k : Int)) ∧ w = w' from hk ▸ rplain_any op)
  have c2 : ((k : Int) == 0) = false := by simp; omega
  have d1 : decide (45 ≤ (k : Int)) = true := decide_eq_true (by omega)
  have d2 : decide ((k : Int) ≤ 49) = false := decide_eq_false (by omega)
  have d3 : decide (58 ≤ (k : Int)) = false := decide_eq_false (by omega)
  have HS := Lib.hid (rlong_any k (by omega) a b)
  clear h1 hk k50 k57
  go_enter Tryz.func18, Tryz.ntmps18
  go_wp2_with (first | (go_at_call 35; (with_reducible refine (HP.out _).mono ?_); rintro e w' ⟨rfl, rfl⟩) | (go_at_call 37; (with_reducible refine (HS.out _).mono ?_); rintro e w' ⟨rfl, hb⟩; have HB := Lib.hid (HB.out.trans (hb.mono HB.out.size)); clear hb))
  go_ret2
  exact ⟨rfl, HB.out⟩
theorem rdo_D (op : Int) (a b : BitVec 64) (k : Nat) (h1 : op ≠ 1) (hk : plainI op = k) (k35 : 35 ≤ k) (k44 : k ≤ 44) (w : World) : Calls Tryz.prog 18 #[.int .i64 op, .int .u64 (U a), .int .u64 (U b)] w fun e w' => e = .returned (.tuple #[.int .u64 (U (doV k a b)), .int .i64 0]) ∧ Below w.heap.size w w' := by
  have HB := Lib.hid (Below.refl w.heap.size w)
  have c1 : (op == 1) = false := by simpa using h1
  have HP := Lib.hid (show ∀ w, Calls Tryz.prog 35 #[.int .i64 op] w fun e w' => e = .returned (.int .i64 (k : Int)) ∧ w = w' from hk ▸ rplain_any op)
  have c2 : ((k : Int) == 0) = false := by simp; omega
  have d1 : decide (45 ≤ (k : Int)) = false := decide_eq_false (by omega)
  have d3 : decide (58 ≤ (k : Int)) = false := decide_eq_false (by omega)
  have HS := Lib.hid (rlong_any k (by omega) a b)
  clear h1 hk k35 k44
  go_enter Tryz.func18, Tryz.ntmps18
  go_wp2_with (first | (go_at_call 35; (with_reducible refine (HP.out _).mono ?_); rintro e w' ⟨rfl, rfl⟩) | (go_at_call 37; (with_reducible refine (HS.out _).mono ?_); rintro e w' ⟨rfl, hb⟩; have HB := Lib.hid (HB.out.trans (hb.mono HB.out.size)); clear hb))
  go_ret2
  exact ⟨rfl, HB.out⟩
theorem rdo_lui (op : Int) (a b : BitVec 64) (h1 : op = 1) (w : World) : Calls Tryz.prog 18 #[.int .i64 op, .int .u64 (U a), .int .u64 (U b)] w fun e w' => e = .returned (.tuple #[.int .u64 (U (doV 1 a b)), .int .i64 0]) ∧ Below w.heap.size w w' := by
  have HB := Lib.hid (Below.refl w.heap.size w)
  subst h1
  have t : IntKind.u64.wrap (U b * 4096) = U (b <<< 12) := shl_U b 12
  go_enter Tryz.func18, Tryz.ntmps18
  go_wp2_with (first | (go_at_call 34; (with_reducible refine (rshort_U _ _).mono ?_); rintro e w' ⟨rfl, rfl⟩))
  go_ret2
  exact ⟨rfl, HB.out⟩
theorem rDo_any (op : Int) (a b : BitVec 64) (w : World) : Calls Tryz.prog 18 #[.int .i64 op, .int .u64 (U a), .int .u64 (U b)] w fun e w' => e = .returned (.tuple #[.int .u64 (doX op a b), .int .i64 (doE op)]) ∧ Below w.heap.size w w' := by
  rcases do_at op a b with ⟨h, hx, he⟩ | ⟨k, hk, h1, h2, h3, hx, he⟩ | ⟨h0, h1, hx, he⟩
  · rw [hx, he]; exact rdo_lui op a b h w
  · rw [hx, he]
    by_cases k45 : k < 45
    · exact rdo_D op a b k h3 hk h1 (by omega) w
    · by_cases k50 : k < 50
      · exact rdo_A op a b k h3 hk (by omega) (by omega) w
      · by_cases k58 : k < 58
        · exact rdo_C op a b k h3 hk (by omega) (by omega) w
        · exact rdo_B op a b k h3 hk (by omega) h2 w
  · rw [hx, he]; exact rdo_zero op a b h1 h0 w
theorem pTakes_any (op : Int) (a b : BitVec 64) (w : World) : Calls Tryz.prog 71 #[.int .i64 op, .int .u64 (U a), .int .u64 (U b)] w fun e w' => e = .returned (.tuple #[.bool (tkX op a b), .int .i64 (tkE op)]) ∧ Below w.heap.size w w' := by
  unfold tkX tkE
  by_cases h : 5 ≤ op ∧ op ≤ 10
  · obtain ⟨k, rfl⟩ : ∃ k : Nat, op = k := ⟨op.toNat, by omega⟩
    rw [if_pos h, if_pos h]; exact Takes_hit k a b (by omega) (by omega) w
  · rw [if_neg h, if_neg h]
    by_cases h0 : op < 0 ∨ 10 < op
    · exact Takes_out op a b h0 w
    · obtain ⟨k, rfl⟩ : ∃ k : Nat, op = k := ⟨op.toNat, by omega⟩
      exact Takes_nil k a b (by omega) w
theorem tup_bool {p q : Bool} (h : p = q) : Ending.returned (.tuple #[.bool p, .int .i64 0]) = .returned (.tuple #[.bool q, .int .i64 0]) := by rw [h]
theorem tup_int {p q : Int} (h : p = q) : Ending.returned (.tuple #[.int .u64 p, .int .i64 0]) = .returned (.tuple #[.int .u64 q, .int .i64 0]) := by rw [h]
theorem rtk_5 (a b : BitVec 64) (w : World) : Calls Tryz.prog 39 #[.int .i64 5, .int .u64 (U a), .int .u64 (U b)] w fun e w' => e = .returned (.tuple #[.bool (a == b), .int .i64 0]) ∧ w = w' := by
  have e1 := wrapS_U a
  have e2 := wrapS_U b
  go_enter Tryz.func39, Tryz.ntmps39
  go_wp2
  go_ret2
  exact ⟨tup_bool (by rw [eqb_U]), rfl⟩
theorem rtk_6 (a b : BitVec 64) (w : World) : Calls Tryz.prog 39 #[.int .i64 6, .int .u64 (U a), .int .u64 (U b)] w fun e w' => e = .returned (.tuple #[.bool (a != b), .int .i64 0]) ∧ w = w' := by
  have e1 := wrapS_U a
  have e2 := wrapS_U b
  go_enter Tryz.func39, Tryz.ntmps39
  go_wp2
  go_ret2
  exact ⟨tup_bool (show (!(U a == U b)) = !(a == b) by rw [eqb_U]), rfl⟩
theorem rtk_7 (a b : BitVec 64) (w : World) : Calls Tryz.prog 39 #[.int .i64 7, .int .u64 (U a), .int .u64 (U b)] w fun e w' => e = .returned (.tuple #[.bool (decide (S a < S b)), .int .i64 0]) ∧ w = w' := by
  have e1 := wrapS_U a
  have e2 := wrapS_U b
  go_enter Tryz.func39, Tryz.ntmps39
  go_wp2
  go_ret2
  exact ⟨tup_bool (rfl), rfl⟩
theorem rtk_8 (a b : BitVec 64) (w : World) : Calls Tryz.prog 39 #[.int .i64 8, .int .u64 (U a), .int .u64 (U b)] w fun e w' => e = .returned (.tuple #[.bool (decide (S b ≤ S a)), .int .i64 0]) ∧ w = w' := by
  have e1 := wrapS_U a
  have e2 := wrapS_U b
  go_enter Tryz.func39, Tryz.ntmps39
  go_wp2
  go_ret2
  exact ⟨tup_bool (rfl), rfl⟩
theorem rtk_9 (a b : BitVec 64) (w : World) : Calls Tryz.prog 39 #[.int .i64 9, .int .u64 (U a), .int .u64 (U b)] w fun e w' => e = .returned (.tuple #[.bool (decide (U a < U b)), .int .i64 0]) ∧ w = w' := by
  have e1 := wrapS_U a
  have e2 := wrapS_U b
  go_enter Tryz.func39, Tryz.ntmps39
  go_wp2
  go_ret2
  exact ⟨tup_bool (rfl), rfl⟩
theorem rtk_10 (a b : BitVec 64) (w : World) : Calls Tryz.prog 39 #[.int .i64 10, .int .u64 (U a), .int .u64 (U b)] w fun e w' => e = .returned (.tuple #[.bool (decide (U b ≤ U a)), .int .i64 0]) ∧ w = w' := by
  have e1 := wrapS_U a
  have e2 := wrapS_U b
  go_enter Tryz.func39, Tryz.ntmps39
  go_wp2
  go_ret2
  exact ⟨tup_bool (rfl), rfl⟩
theorem rtk_not (op : Int) (a b : BitVec 64) (h : ¬ (5 ≤ op ∧ op ≤ 10)) (w : World) : Calls Tryz.prog 39 #[.int .i64 op, .int .u64 (U a), .int .u64 (U b)] w fun e w' => e = .returned (.tuple #[.bool false, .int .i64 2]) ∧ w = w' := by
  have n5 : (op == 5) = false := by simp; omega
  have n6 : (op == 6) = false := by simp; omega
  have n7 : (op == 7) = false := by simp; omega
  have n8 : (op == 8) = false := by simp; omega
  have n9 : (op == 9) = false := by simp; omega
  have n10 : (op == 10) = false := by simp; omega
  clear h
  go_enter Tryz.func39, Tryz.ntmps39
  go_wp2
  go_ret2
  exact ⟨rfl, rfl⟩
theorem same_below {f : Nat} {args : Array Value} {w : World} {v : Value} (h : Calls Tryz.prog f args w fun e w' => e = .returned v ∧ w = w') : Calls Tryz.prog f args w fun e w' => e = .returned v ∧ Below w.heap.size w w' :=
  h.mono fun _ _ ⟨h1, h2⟩ => ⟨h1, h2 ▸ Below.refl _ _⟩
theorem rTakes_any (op : Int) (a b : BitVec 64) (w : World) : Calls Tryz.prog 39 #[.int .i64 op, .int .u64 (U a), .int .u64 (U b)] w fun e w' => e = .returned (.tuple #[.bool (tkX op a b), .int .i64 (tkE op)]) ∧ Below w.heap.size w w' := by
  refine same_below ?_
  unfold tkX tkE
  by_cases h : 5 ≤ op ∧ op ≤ 10
  · rw [if_pos h, if_pos h]
    have hd : op = 5 ∨ op = 6 ∨ op = 7 ∨ op = 8 ∨ op = 9 ∨ op = 10 := by omega
    rcases hd with rfl | rfl | rfl | rfl | rfl | rfl
    · exact rtk_5 a b w
    · exact rtk_6 a b w
    · exact rtk_7 a b w
    · exact rtk_8 a b w
    · exact rtk_9 a b w
    · exact rtk_10 a b w
  · rw [if_neg h, if_neg h]; exact rtk_not op a b h w
theorem am_eq_79 (a b : BitVec 64) : amV 79 a b = b := rfl
theorem am_eq_80 (a b : BitVec 64) : amV 80 a b = a + b := rfl
theorem am_eq_81 (a b : BitVec 64) : amV 81 a b = a ^^^ b := rfl
theorem am_eq_82 (a b : BitVec 64) : amV 82 a b = a &&& b := rfl
theorem am_eq_83 (a b : BitVec 64) : amV 83 a b = a ||| b := rfl
theorem am_eq_84 (a b : BitVec 64) : amV 84 a b = minSV a b := rfl
theorem am_eq_85 (a b : BitVec 64) : amV 85 a b = maxSV a b := rfl
theorem am_eq_86 (a b : BitVec 64) : amV 86 a b = minUV a b := rfl
theorem am_eq_87 (a b : BitVec 64) : amV 87 a b = maxUV a b := rfl
end Go.Proofs.YtdiacnjkffdegaaGreat
