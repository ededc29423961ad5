/-
  Proved here: the package code's Word and Insn answer the word of an instruction, the instruction of a word, and write nothing that was there. Condition: one goroutine.
  (With it: Plain facts on words of instructions, bit by bit: which bits a field is, so which bits may differ where one field is another one. No condition beside that a number is of 64 bits; no Go text is named.)
-/
import Derived.Test.YtbchecnidiiddaaGreatDoorCodePlain
import Derived.Test.YtbchecnidiiddaaGreatDoorCodeInsn
namespace Go.Proofs.YtbchecnidiiddaaGreatDoor

theorem word_bit (i : Ins) (j : Nat) (hj : j < 64) : (wordL i).getLsbD j = match srcF (kindsF (formN i.op)) j with | some (k, x) => (valK k i).getLsbD x | none => (bareP (codeOf i.op.toNat)).getLsbD j := bit_fold i _ _ j hj
theorem word_at (i : Ins) (j k x : Nat) (hj : j < 64) (h : srcF (kindsF (formN i.op)) j = some (k, x)) : (wordL i).getLsbD j = (valK k i).getLsbD x := by
  rw [word_bit i j hj, h]
/-- of two of one op: a bit of a field that both have alike is alike -/
theorem word_same (i o : Ins) (hop : o.op = i.op) (j : Nat) (hj : j < 64) (h : ∀ k x, srcF (kindsF (formN i.op)) j = some (k, x) → valK k o = valK k i) : (wordL o).getLsbD j = (wordL i).getLsbD j := by
  rw [word_bit o j hj, word_bit i j hj, hop]
  cases he : srcF (kindsF (formN i.op)) j with
  | none => rfl
  | some p =>
    obtain ⟨k, x⟩ := p
    show (valK k o).getLsbD x = (valK k i).getLsbD x
    rw [h k x he]
/-- bits that are not one of these hang on no field of these kinds -/
def farB (f : Nat) (K : Nat → Bool) (M : Nat → Bool) : Bool := (List.range 64).all fun j => M j || (match srcF (kindsF f) j with | some (k, _) => !K k | none => true)
theorem far_at {f : Nat} {K M : Nat → Bool} (h : farB f K M = true) {j k x : Nat} (hj : j < 64) (hm : M j = false) (hs : srcF (kindsF f) j = some (k, x)) : K k = false := by
  unfold farB at h
  rw [List.all_eq_true] at h
  have := h j (List.mem_range.2 hj)
  rw [hm, hs] at this
  simpa using this
def isIn (a n j : Nat) : Bool := decide (a ≤ j) && decide (j < a + n)
theorem far_rd : ∀ f : Fin 13, farB f.1 (fun k => k == 0) (isIn 7 5) = true := by decide +kernel
theorem far_rs1 : ∀ f : Fin 13, farB f.1 (fun k => k == 1) (isIn 15 5) = true := by decide +kernel
theorem far_rs2 : ∀ f : Fin 13, farB f.1 (fun k => k == 2) (isIn 20 5) = true := by decide +kernel
theorem far_aq : ∀ f : Fin 13, farB f.1 (fun k => k == 11) (isIn 26 1) = true := by decide +kernel
/-- the bits of a form's number -/
def immM (f : Nat) : Nat :=
  match f with
  | 1 => 0xfffff000 | 2 => 0xfffff000 | 3 => 0xfff00000 | 4 => 0xfff00000 | 5 => 0xfe000f80 | 6 => 0xfe000f80 | 7 => 0x03f00000 | _ => 0
theorem far_imm : ∀ f : Fin 13, farB f.1 (fun k => decide (3 ≤ k) && decide (k ≤ 8)) (fun j => (immM f.1).testBit j) = true := by decide +kernel
/-- where a register's bits are -/
def regAt (f k a n : Nat) : Bool := !(kindsF f).contains k || (List.range n).all fun x => decide (srcF (kindsF f) (a + x) = some (k, x))
theorem at_rd : ∀ f : Fin 13, regAt f.1 0 7 5 = true := by decide +kernel
theorem at_rs1 : ∀ f : Fin 13, regAt f.1 1 15 5 = true := by decide +kernel
theorem at_aq : ∀ f : Fin 13, regAt f.1 11 26 1 = true := by decide +kernel
theorem reg_at {f k a n x : Nat} (h : regAt f k a n = true) (hk : k ∈ kindsF f) (hx : x < n) : srcF (kindsF f) (a + x) = some (k, x) := by
  unfold regAt at h
  have : (kindsF f).contains k = true := by simpa using hk
  rw [this, Bool.not_true, Bool.false_or, List.all_eq_true] at h
  simpa using h x (List.mem_range.2 hx)
theorem form13 (i : Ins) (h : May i) : formN i.op < 13 := by have := formN_in i h; omega
/-- the lowest two bits -/
def lowB (op : Nat) : Bool := decide (srcF (kindsF (formN op)) 0 = none) && decide (srcF (kindsF (formN op)) 1 = none) && (bareP (codeOf op)).getLsbD 0 && (bareP (codeOf op)).getLsbD 1
theorem low_all : ∀ op : Fin 88, op.1 ≠ 0 → lowB op.1 = true := by decide +kernel
theorem low_word (i : Ins) (h : May i) : (wordL i).getLsbD 0 = true ∧ (wordL i).getLsbD 1 = true := by
  obtain ⟨k, hk, h1, h2⟩ := op_form i h
  have hl := low_all k hk
  unfold lowB at hl
  rw [← h1] at hl
  simp only [Bool.and_eq_true, decide_eq_true_eq] at hl
  rw [word_bit i 0 (by omega), word_bit i 1 (by omega), hl.1.1.1, hl.1.1.2, h2]
  exact ⟨hl.1.2, hl.2⟩

/-! ### what the law asks, on bit vectors -/
theorem andNot_zero {a b m : BitVec 64} (h : ∀ j, j < 64 → m.getLsbD j = false → b.getLsbD j = a.getLsbD j) : (a ^^^ b) &&& ~~~m = 0 := by
  refine bits_ext fun j hj => ?_
  rw [BitVec.getLsbD_and, BitVec.getLsbD_xor, BitVec.getLsbD_not]
  cases hm : m.getLsbD j
  · rw [h j hj hm]; simp
  · simp
/-- another Rd: its five bits alone -/
theorem rd_far (i : Ins) (h : May i) (r : Int) : (wordL i ^^^ wordL { i with rd := r }) &&& ~~~(BitVec.ofNat 64 3968) = 0 := by
  refine andNot_zero fun j hj hm => word_same i { i with rd := r } rfl j hj fun k x hs => ?_
  have hM : isIn 7 5 j = false := by
    have : ∀ j : Fin 64, (BitVec.ofNat 64 3968).getLsbD j.1 = isIn 7 5 j.1 := by decide +kernel
    rw [← this ⟨j, hj⟩]; exact hm
  have := far_at (far_rd ⟨formN i.op, form13 i h⟩) hj hM hs
  have hk : k ≠ 0 := by simpa using this
  unfold valK
  split <;> first | rfl | (exact absurd rfl hk)
theorem rs1_far (i : Ins) (h : May i) (r : Int) : (wordL i ^^^ wordL { i with rs1 := r }) &&& ~~~(BitVec.ofNat 64 1015808) = 0 := by
  refine andNot_zero fun j hj hm => word_same i { i with rs1 := r } rfl j hj fun k x hs => ?_
  have hM : isIn 15 5 j = false := by
    have : ∀ j : Fin 64, (BitVec.ofNat 64 1015808).getLsbD j.1 = isIn 15 5 j.1 := by decide +kernel
    rw [← this ⟨j, hj⟩]; exact hm
  have := far_at (far_rs1 ⟨formN i.op, form13 i h⟩) hj hM hs
  have hk : k ≠ 1 := by simpa using this
  unfold valK
  split <;> first | rfl | (exact absurd rfl hk)
theorem rs2_far (i : Ins) (h : May i) (r : Int) : (wordL i ^^^ wordL { i with rs2 := r }) &&& ~~~(BitVec.ofNat 64 32505856) = 0 := by
  refine andNot_zero fun j hj hm => word_same i { i with rs2 := r } rfl j hj fun k x hs => ?_
  have hM : isIn 20 5 j = false := by
    have : ∀ j : Fin 64, (BitVec.ofNat 64 32505856).getLsbD j.1 = isIn 20 5 j.1 := by decide +kernel
    rw [← this ⟨j, hj⟩]; exact hm
  have := far_at (far_rs2 ⟨formN i.op, form13 i h⟩) hj hM hs
  have hk : k ≠ 2 := by simpa using this
  unfold valK
  split <;> first | rfl | (exact absurd rfl hk)
theorem imm_far (i : Ins) (h : May i) (n : Int) : (wordL i ^^^ wordL { i with imm := n }) &&& ~~~(BitVec.ofNat 64 (immM (formN i.op))) = 0 := by
  refine andNot_zero fun j hj hm => word_same i { i with imm := n } rfl j hj fun k x hs => ?_
  have hM : (immM (formN i.op)).testBit j = false := by
    rw [BitVec.getLsbD_ofNat] at hm
    simpa [hj] using hm
  have := far_at (far_imm ⟨formN i.op, form13 i h⟩) hj hM hs
  have hk : ¬ (3 ≤ k ∧ k ≤ 8) := by simpa using this
  have hl : k ≤ 12 := by
    have key : ∀ f : Fin 13, ((List.range 64).all fun j => match srcF (kindsF f.1) j with | some (k, _) => decide (k ≤ 12) | none => true) = true := by decide +kernel
    have := key ⟨formN i.op, form13 i h⟩
    rw [List.all_eq_true] at this
    have := this j (List.mem_range.2 hj)
    simp only at this
    rw [hs] at this
    simpa using this
  have hc : k = 0 ∨ k = 1 ∨ k = 2 ∨ k = 9 ∨ k = 10 ∨ k = 11 ∨ k = 12 := by omega
  rcases hc with rfl | rfl | rfl | rfl | rfl | rfl | rfl <;> rfl
/-- a register that there is stands in its five bits -/
theorem rd_in (i : Ins) (hf : 0 ∈ kindsF (formN i.op)) (h : May i) : part (wordL i) 7 5 = B i.rd := by
  refine bits_ext fun j hj => ?_
  rw [bit_part]
  by_cases h5 : j < 5
  · rw [word_at i (7 + j) 0 j (by omega) (reg_at (at_rd ⟨formN i.op, form13 i h⟩) hf h5)]
    simp [h5, valK]
  · rw [bit_small i.rd 5 j h.rd.1 (by have := h.rd.2.1; omega) (by omega)]
    simp [h5]
theorem rs1_in (i : Ins) (hf : 1 ∈ kindsF (formN i.op)) (h : May i) : part (wordL i) 15 5 = B i.rs1 := by
  refine bits_ext fun j hj => ?_
  rw [bit_part]
  by_cases h5 : j < 5
  · rw [word_at i (15 + j) 1 j (by omega) (reg_at (at_rs1 ⟨formN i.op, form13 i h⟩) hf h5)]
    simp [h5, valK]
  · rw [bit_small i.rs1 5 j h.rs1.1 (by have := h.rs1.2.1; omega) (by omega)]
    simp [h5]
/-- another Rd, Rs1 is read where it stands -/
theorem rd_else (i : Ins) (r : Int) (h : Fair i) (hx : Fair { i with rd := r }) (hr : r ≠ i.rd) : part (wordL { i with rd := r }) 7 5 = B r := by
  refine rd_in { i with rd := r } ?_ hx.may
  show 0 ∈ kindsF (formN i.op)
  by_cases hm : 0 ∈ kindsF (formN i.op)
  · exact hm
  · exfalso
    have h1 := (back_of i h).rd0 hm
    have h2 : r = 0 := (back_of _ hx).rd0 hm
    exact hr (h2.trans h1.symm)
theorem rs1_else (i : Ins) (r : Int) (h : Fair i) (hx : Fair { i with rs1 := r }) (hr : r ≠ i.rs1) : part (wordL { i with rs1 := r }) 15 5 = B r := by
  refine rs1_in { i with rs1 := r } ?_ hx.may
  show 1 ∈ kindsF (formN i.op)
  by_cases hm : 1 ∈ kindsF (formN i.op)
  · exact hm
  · exfalso
    have h1 := (back_of i h).rs10 hm
    have h2 : r = 0 := (back_of _ hx).rs10 hm
    exact hr (h2.trans h1.symm)
/-- the other mark: one bit -/
theorem aq_else (i : Ins) (h : Fair i) (hx : Fair { i with aq := !i.aq }) : wordL i ^^^ wordL { i with aq := !i.aq } = BitVec.ofNat 64 67108864 := by
  have hm : 11 ∈ kindsF (formN i.op) := by
    by_cases hm : 11 ∈ kindsF (formN i.op)
    · exact hm
    · exfalso
      have h1 := ((back_of i h).marks0 hm).1
      have h2 : (!i.aq) = false := ((back_of _ hx).marks0 hm).1
      rw [h1] at h2; exact absurd h2 (by decide)
  refine bits_ext fun j hj => ?_
  rw [BitVec.getLsbD_xor]
  have hc : ∀ j : Fin 64, (BitVec.ofNat 64 67108864).getLsbD j.1 = isIn 26 1 j.1 := by decide +kernel
  rw [hc ⟨j, hj⟩]
  simp only
  cases hM : isIn 26 1 j
  · have := word_same i { i with aq := !i.aq } rfl j hj (fun k x hs => by
      have := far_at (far_aq ⟨formN i.op, form13 i h.may⟩) hj hM hs
      have hk : k ≠ 11 := by simpa using this
      unfold valK
      split <;> first | rfl | (exact absurd rfl hk))
    rw [this]; simp
  · have hj26 : j = 26 := by unfold isIn at hM; simp at hM; omega
    subst hj26
    have hs := reg_at (x := 0) (at_aq ⟨formN i.op, form13 i h.may⟩) hm (by omega)
    rw [word_at i 26 11 0 (by omega) hs, word_at { i with aq := !i.aq } 26 11 0 (by omega) hs]
    show ((flagV i.aq).getLsbD 0 ^^ (flagV (!i.aq)).getLsbD 0) = true
    cases i.aq <;> decide
/-- unlike ones have unlike words -/
theorem word_inj (i o : Ins) (h : Fair i) (ho : Fair o) (he : wordL i = wordL o) : i = o := by
  have := read_word i h
  rw [he, read_word o ho] at this
  exact this.symm
/-! ### words of 32 bits, in the walk's spelling -/
theorem wrap32 (b : BitVec 64) (h : b.toNat < 4294967296) : IntKind.u32.wrap (U b) = U b := by
  unfold U; rw [IntKind.wrap_u32]; omega
theorem ofInt32 (b : BitVec 64) : BitVec.ofInt 32 (U b) = b.setWidth 32 := by
  unfold U
  rw [BitVec.ofInt_natCast]
  apply BitVec.eq_of_toNat_eq
  rw [BitVec.toNat_ofNat, BitVec.toNat_setWidth]
theorem toNat32 (b : BitVec 32) : ((b.toNat : Int)) = U (b.setWidth 64) := by
  unfold U
  rw [BitVec.toNat_setWidth]
  have := b.isLt
  rw [Nat.mod_eq_of_lt (by omega)]
theorem lt32 (b : BitVec 32) : (b.setWidth 64).toNat < 4294967296 := by
  rw [BitVec.toNat_setWidth]
  have := b.isLt
  omega
theorem wide_of {a : BitVec 32} {b : BitVec 64} (hb : b.toNat < 4294967296) (h : a = b.setWidth 32) : a.setWidth 64 = b := by
  subst h
  apply BitVec.eq_of_toNat_eq
  rw [BitVec.toNat_setWidth, BitVec.toNat_setWidth]
  omega
theorem xor_32 (a b : BitVec 64) (ha : a.toNat < 4294967296) (hb : b.toNat < 4294967296) : bits .xor .u32 (U a) (U b) = U (a ^^^ b) := by
  show IntKind.u32.wrap ((BitVec.ofInt 32 (U a) ^^^ BitVec.ofInt 32 (U b)).toNat : Int) = _
  rw [toNat32, wrap32 _ (lt32 _), ofInt32, ofInt32]
  refine congrArg U (wide_of ?_ ?_)
  · rw [BitVec.toNat_xor]; exact Nat.xor_lt_two_pow (n := 32) ha hb
  · rw [BitVec.setWidth_xor]
theorem and_32 (a b : BitVec 64) (ha : a.toNat < 4294967296) : bits .and .u32 (U a) (U b) = U (a &&& b) := by
  show IntKind.u32.wrap ((BitVec.ofInt 32 (U a) &&& BitVec.ofInt 32 (U b)).toNat : Int) = _
  rw [toNat32, wrap32 _ (lt32 _), ofInt32, ofInt32]
  refine congrArg U (wide_of ?_ ?_)
  · rw [BitVec.toNat_and]; exact Nat.lt_of_le_of_lt Nat.and_le_left ha
  · rw [BitVec.setWidth_and]
theorem andNot_32 (a b : BitVec 64) (ha : a.toNat < 4294967296) : bits .andNot .u32 (U a) (U b) = U (a &&& ~~~b) := by
  show IntKind.u32.wrap ((BitVec.ofInt 32 (U a) &&& ~~~BitVec.ofInt 32 (U b)).toNat : Int) = _
  rw [toNat32, wrap32 _ (lt32 _), ofInt32, ofInt32]
  refine congrArg U (wide_of ?_ ?_)
  · rw [BitVec.toNat_and]; exact Nat.lt_of_le_of_lt Nat.and_le_left ha
  · refine BitVec.eq_of_getLsbD_eq fun j hj => ?_
    simp [hj]
end Go.Proofs.YtbchecnidiiddaaGreatDoor
namespace Go.Proofs.YtbchecnidiiddaaGreatDoor
set_option linter.unusedVariables false
open Go.RowKit

def I64 (x : Int) : Prop := -9223372036854775808 ≤ x ∧ x ≤ 9223372036854775807
theorem good_word (i : Ins) (hk : i.ok = true) (hI : I64 i.imm) : goodW (wordL i) = true ∧ readW (wordL i) = i := by
  have hf : Fair i := ⟨may_of i hk, hI.1, hI.2⟩
  have hr := read_word i hf
  refine ⟨?_, hr⟩
  unfold goodW
  rw [hr, hk]
  simp
def Ret2 (x y : Value) (w : World) (e : Ending) (w' : World) : Prop := e = .returned (.tuple #[x, y]) ∧ Below w.heap.size w w'
abbrev ZB : Obj := .cells #[.int .u32 0, .int .i32 0, .int .u32 0, .map none] 49
theorem book_new1 (w : World) (A : Obj) : BookOk (w.heap.size + 1) ((w.alloc A).alloc ZB) := by
  have h := heap_new (w.alloc A) ZB
  simp only [World.size_alloc] at h
  exact .inl ⟨_, h⟩
theorem book_end1 {w w' : World} {A : Obj} (h : Oth (w.heap.size + 1) ((w.alloc A).alloc ZB) w') : Below w.heap.size w w' :=
  (((Below.refl _ _).alloc (Nat.le_refl _) A).alloc (by simp) ZB).trans (h.below (by omega) (by simp; omega))
set_option maxRecDepth 100000 in
set_option maxHeartbeats 1000000 in
theorem Word_yes (i : Ins) (hk : Hid (i.ok = true)) (hI : Hid (I64 i.imm)) (x : Int) (hx : Hid (U (wordL i) = x)) (w : World) : Calls Tryz.prog 21 #[i.V] w fun e w' => Ret2 (.int .u32 x) (.int .i64 0) w e w' := by
  have h0 : -9223372036854775808 ≤ i.imm := hI.out.1
  have h1 : i.imm ≤ 9223372036854775807 := hI.out.2
  have hk2 := hk.out
  have HB := Lib.hid (book_new1 w (.cells (insCells i) 23))
  go_enter Tryz.func21, Tryz.ntmps21
  go_wp2_with (go_at_call 16; (with_reducible refine (word_yes (w.heap.size + 1) i hk2 h0 h1 _ HB.out).mono ?_); rintro e w1 ⟨rfl, -, hO⟩; have O1 := Lib.hid hO; clear hO)
  go_ret2
  exact ⟨by rw [← hx.out]; rfl, book_end1 O1.out⟩
set_option maxRecDepth 100000 in
set_option maxHeartbeats 1000000 in
theorem Word_no (i : Ins) (hk : Hid (i.ok = false)) (w : World) : Calls Tryz.prog 21 #[i.V] w fun e w' => Ret2 (.int .u32 0) (.int .i64 2) w e w' := by
  have hk2 := hk.out
  have HB := Lib.hid (book_new1 w (.cells (insCells i) 23))
  go_enter Tryz.func21, Tryz.ntmps21
  go_wp2_with (go_at_call 16; (with_reducible refine (word_no (w.heap.size + 1) i hk2 _ HB.out).mono ?_); rintro e w1 ⟨rfl, -, hO⟩; have O1 := Lib.hid hO; clear hO)
  go_ret2
  exact ⟨rfl, book_end1 O1.out⟩
/-- behind the book's insn: the result's box -/
theorem box_kept (w w' : World) (h : Oth (w.heap.size + 1) ((w.alloc (.cells #[.int .i64 0, .int .i64 0, .int .i64 0, .int .i64 0, .int .i64 0, .bool false, .bool false, .int .i64 0, .int .i64 0] 23)).alloc ZB) w') : InsAt (Ins.none 0) w.heap.size w' := by
  have hb := one_box (w.alloc (.cells #[.int .i64 0, .int .i64 0, .int .i64 0, .int .i64 0, .int .i64 0, .bool false, .bool false, .int .i64 0, .int .i64 0] 23)) ZB
  exact ((ins_none_new 0 w).below hb (by simp)).oth h (by omega)
theorem oth_self (n : Nat) (W : World) (j : Ins) : Oth n W (stored W n j) := by
  unfold stored
  exact ((((((((Oth.setCell _ _ _ _).trans (Oth.setCell _ _ _ _)).trans (Oth.setCell _ _ _ _)).trans (Oth.setCell _ _ _ _)).trans (Oth.setCell _ _ _ _)).trans (Oth.setCell _ _ _ _)).trans (Oth.setCell _ _ _ _)).trans (Oth.setCell _ _ _ _)).trans (Oth.setCell _ _ _ _)
set_option maxRecDepth 100000 in
set_option maxHeartbeats 2000000 in
theorem Insn_at (b : BitVec 64) (i : Ins) (x : Int) (h : Hid ((if goodW b then readW b else Ins.none 0) = i ∧ (if goodW b then 0 else 4) = x)) (w : World) : Calls Tryz.prog 4 #[.int .u32 (U b)] w fun e w' => Ret2 i.V (.int .i64 x) w e w' := by
  have HB := Lib.hid (book_new1 w (.cells #[.int .i64 0, .int .i64 0, .int .i64 0, .int .i64 0, .int .i64 0, .bool false, .bool false, .int .i64 0, .int .i64 0] 23))
  have K := insn_any (w.heap.size + 1) b _ HB.out
  rw [h.out.1, h.out.2] at K
  have HK := Lib.hid K
  clear K
  go_enter Tryz.func4, Tryz.ntmps4
  go_wp2_with (go_at_call 9; (with_reducible refine HK.out.mono ?_); rintro e w1 ⟨rfl, -, hO⟩; have O1 := Lib.hid hO; have C1 := Lib.hid (box_kept w w1 hO); obtain ⟨hr0, r0, r1, r2, r3, r4, r5, r6, r7, r8⟩ := C1.out.facts; have hrf := loose_of C1.out; clear hO)
  refine bodyPost_ret (results_cell_tmp rfl rfl (ins_load (ins_stored C1.out i))) rfl ⟨rfl, ?_⟩
  exact (book_end1 O1.out).trans ((oth_self _ _ i).below (Nat.le_refl _) (book_end1 O1.out).size)
theorem Insn_yes (b : BitVec 64) (i : Ins) (hg : Hid (goodW b = true)) (hr : Hid (readW b = i)) (w : World) : Calls Tryz.prog 4 #[.int .u32 (U b)] w fun e w' => Ret2 i.V (.int .i64 0) w e w' :=
  Insn_at b i 0 (Lib.hid (by rw [hg.out, if_pos rfl, if_pos rfl]; exact ⟨hr.out, rfl⟩)) w
theorem Insn_no (b : BitVec 64) (hg : Hid (goodW b = false)) (w : World) : Calls Tryz.prog 4 #[.int .u32 (U b)] w fun e w' => Ret2 (Ins.none 0).V (.int .i64 4) w e w' :=
  Insn_at b (Ins.none 0) 4 (Lib.hid (by rw [hg.out]; exact ⟨rfl, rfl⟩)) w
end Go.Proofs.YtbchecnidiiddaaGreatDoor
