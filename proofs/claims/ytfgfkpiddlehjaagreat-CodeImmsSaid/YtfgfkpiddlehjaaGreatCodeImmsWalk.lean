/-
  Proved here: the law CodeImms answers true, and writes nothing that was there. Conditions: both numbers are of 64 bits; one goroutine.
-/
import Derived.Test.YtfgfkpiddlehjaaGreatCodeLives
import Derived.Test.YtfgfkpiddlehjaaGreatInsnStand
import Derived.Deep.DeepCutAuto
namespace Go.Proofs.YtfgfkpiddlehjaaGreat
set_option linter.unusedVariables false
open Go.RowKit

/-- the two boxes: the argument, and one like it with another number -/
structure Imm2 (i o : Ins) (y : Nat) (w W : World) : Prop where
  one : InsAt i w.heap.size W
  two : InsAt o y W
  below : Below w.heap.size w W
theorem Imm2.on {i o : Ins} {y : Nat} {w W W2 : World} (h : Imm2 i o y w W) (hb : Below W.heap.size W W2) : Imm2 i o y w W2 :=
  ⟨h.one.below hb h.one.facts.1, h.two.below hb h.two.facts.1, h.below.trans (hb.mono h.below.size)⟩
theorem imm2_of {i : Ins} {w W : World} (h : Stand i w W) (n : Int) : Imm2 i ⟨i.op, i.rd, i.rs1, i.rs2, n, i.aq, i.rl, i.pred, i.succ⟩ W.heap.size w (W.alloc (.cells #[.int .i64 i.op, .int .i64 i.rd, .int .i64 i.rs1, .int .i64 i.rs2, .int .i64 n, .bool i.aq, .bool i.rl, .int .i64 i.pred, .int .i64 i.succ] 23)) :=
  let h2 := h.on (one_box W _)
  ⟨h2.ins, ins_new ⟨i.op, i.rd, i.rs1, i.rs2, n, i.aq, i.rl, i.pred, i.succ⟩ W, h2.below⟩
theorem ok_form (i : Ins) (h : i.ok = true) : 1 ≤ formN i.op ∧ formN i.op ≤ 12 ∧ formOf i.op = (formN i.op : Int) := formN_in i (may_of i h)
theorem imm_lt (f : Nat) (h : f ≤ 12) : (BitVec.ofNat 64 (immM f)).toNat < 4294967296 := by
  have : ∀ f : Fin 13, (BitVec.ofNat 64 (immM f.1)).toNat < 4294967296 := by decide +kernel
  exact this ⟨f, by omega⟩
theorem lit_imm (f : Nat) (h : f ≤ 12) : ((immM f : Nat) : Int) = U (BitVec.ofNat 64 (immM f)) := by
  have : ∀ f : Fin 13, ((immM f.1 : Nat) : Int) = U (BitVec.ofNat 64 (immM f.1)) := by decide +kernel
  exact this ⟨f, by omega⟩
theorem imm_facts (i o : Ins) (n X Y : Int) (hk : i.ok = true) (hk2 : o.ok = true) (hi : I64 i.imm) (hn : I64 n) (ho : (⟨i.op, i.rd, i.rs1, i.rs2, n, i.aq, i.rl, i.pred, i.succ⟩ : Ins) = o) (hX : U (wordL i) = X) (hY : U (wordL o) = Y) :
    ∃ C : Int, bits .xor .u32 X Y = C ∧ bits .andNot .u32 C ((immM (formN i.op) : Nat) : Int) = 0 := by
  have h1 := word_lt i (may_of i hk)
  have h2 := word_lt o (may_of o hk2)
  refine ⟨U (wordL i ^^^ wordL o), ?_, ?_⟩
  · rw [← hX, ← hY, xor_32 _ _ h1 h2]
  · have hf := (ok_form i hk).2.1
    rw [lit_imm _ hf, andNot_32 _ _ (by rw [BitVec.toNat_xor]; exact Nat.xor_lt_two_pow (n := 32) h1 h2)]
    have := imm_far i (may_of i hk) n
    rw [← ho]
    show U ((wordL i ^^^ wordL { i with imm := n }) &&& ~~~(BitVec.ofNat 64 (immM (formN i.op)))) = 0
    rw [this]; rfl
theorem imm_eq (i o : Ins) (n X Y : Int) (hk : i.ok = true) (hk2 : o.ok = true) (hi : I64 i.imm) (hn : I64 n) (ho : (⟨i.op, i.rd, i.rs1, i.rs2, n, i.aq, i.rl, i.pred, i.succ⟩ : Ins) = o) (hX : U (wordL i) = X) (hY : U (wordL o) = Y) :
    (i.imm = n → (X == Y) = true) ∧ (¬ i.imm = n → (X == Y) = false) := by
  constructor
  · intro h
    have : i = o := by rw [← ho, ← h]
    rw [← hX, ← hY, this]; simp
  · intro h
    have : ¬ X = Y := fun e => h (by
      have h2 : o.imm = n := by rw [← ho]
      have := word_inj i o ⟨may_of i hk, hi.1, hi.2⟩ ⟨may_of o hk2, by rw [h2]; exact hn.1, by rw [h2]; exact hn.2⟩ (U_inj (hX.trans (e.trans hY.symm)))
      rw [this, h2])
    simpa using this
set_option maxRecDepth 100000 in
set_option maxHeartbeats 8000000 in
theorem codeImms_any (i : Ins) (hi : I64 i.imm) (n : Int) (hn : I64 n) (w : World) :
    Calls Tryz.prog 5 #[i.V, .int .i64 n] w fun e w' => e = .returned (.bool true) ∧ Below w.heap.size w w' := by
  have HI := Lib.hid hi
  have HN := Lib.hid hn
  have S0 := Lib.hid (Stand.start i w)
  clear hi hn
  go_enter Tryz.func5, Tryz.ntmps5
  go_upto_region 3 with (go_at_call 6; (with_reducible refine (lives_any _).mono ?_); rintro e w1 ⟨rfl, hb⟩; have S1 := Lib.hid (S0.out.on hb); clear hb)
  obtain ⟨-, a0, a1, a2, a3, a4, a5, a6, a7, a8⟩ := S1.out.ins.facts
  go_upto_region 5 with fail
  have T1 := Lib.hid (imm2_of S1.out n)
  clear a0 a1 a2 a3 a4 a5 a6 a7 a8
  obtain ⟨y, hy⟩ : ∃ y, Hid (w1.heap.size = y) := ⟨_, Lib.hid rfl⟩
  obtain ⟨W, hW⟩ : ∃ W, Hid ((w1.alloc (.cells #[.int .i64 i.op, .int .i64 i.rd, .int .i64 i.rs1, .int .i64 i.rs2, .int .i64 n, .bool i.aq, .bool i.rl, .int .i64 i.pred, .int .i64 i.succ] 23)) = W) := ⟨_, Lib.hid rfl⟩
  rw [hW.out] at T1 ⊢
  rw [hy.out] at T1 ⊢
  clear hy hW S1
  obtain ⟨o, ho⟩ : ∃ o : Ins, Hid ((⟨i.op, i.rd, i.rs1, i.rs2, n, i.aq, i.rl, i.pred, i.succ⟩ : Ins) = o) := ⟨_, Lib.hid rfl⟩
  have hon : o.imm = n := by rw [← ho.out]
  have hop : o.op = i.op := by rw [← ho.out]
  have HO2 : Hid (I64 o.imm) := Lib.hid (by rw [hon]; exact HN.out)
  have HON := Lib.hid hon
  have HOP := Lib.hid hop
  clear hon hop
  rw [ho.out] at T1
  obtain ⟨-, a0, a1, a2, a3, a4, a5, a6, a7, a8⟩ := T1.out.one.facts
  cases hk : i.ok
  · have HK := Lib.hid hk
    clear hk
    cases hk2 : o.ok
    · have HO := Lib.hid hk2
      clear hk2
      go_wp2_with (first
        | (go_at_call 8; (with_reducible refine (Word_no i HK _).mono ?_); rintro e w2 ⟨rfl, hb⟩; have T2 := Lib.hid (T1.out.on hb); clear hb T1 a0 a1 a2 a3 a4 a5 a6 a7 a8; obtain ⟨-, a0, a1, a2, a3, a4, a5, a6, a7, a8⟩ := T2.out.two.facts)
        | (go_at_call 8; (with_reducible refine (Word_no o HO _).mono ?_); rintro e w3 ⟨rfl, hb⟩; have T3 := Lib.hid (T2.out.on hb); clear hb))
      go_ret
      exact ⟨rfl, T3.out.below⟩
    · have HO := Lib.hid hk2
      obtain ⟨Y, hY⟩ : ∃ Y, U (wordL o) = Y := ⟨_, rfl⟩
      have HWO := Lib.hid hY
      clear hk2 hY
      go_wp2_with (first
        | (go_at_call 8; (with_reducible refine (Word_no i HK _).mono ?_); rintro e w2 ⟨rfl, hb⟩; have T2 := Lib.hid (T1.out.on hb); clear hb T1 a0 a1 a2 a3 a4 a5 a6 a7 a8; obtain ⟨-, a0, a1, a2, a3, a4, a5, a6, a7, a8⟩ := T2.out.two.facts)
        | (go_at_call 8; (with_reducible refine (Word_yes o HO HO2 _ HWO _).mono ?_); rintro e w3 ⟨rfl, hb⟩; have T3 := Lib.hid (T2.out.on hb); clear hb))
      go_ret
      exact ⟨rfl, T3.out.below⟩
  · have HK := Lib.hid hk
    have HMAY := Lib.hid (may_of i hk)
    obtain ⟨X, hX⟩ : ∃ X, U (wordL i) = X := ⟨_, rfl⟩
    have HWI := Lib.hid hX
    clear hX
    cases hk2 : o.ok
    · have HO := Lib.hid hk2
      clear hk hk2
      go_wp2_with (first
        | (go_at_call 8; (with_reducible refine (Word_yes i HK HI _ HWI _).mono ?_); rintro e w2 ⟨rfl, hb⟩; have T2 := Lib.hid (T1.out.on hb); clear hb T1 a0 a1 a2 a3 a4 a5 a6 a7 a8; obtain ⟨-, a0, a1, a2, a3, a4, a5, a6, a7, a8⟩ := T2.out.two.facts)
        | (go_at_call 8; (with_reducible refine (Word_no o HO _).mono ?_); rintro e w3 ⟨rfl, hb⟩; have T3 := Lib.hid (T2.out.on hb); clear hb))
      go_ret
      exact ⟨rfl, T3.out.below⟩
    · have HO := Lib.hid hk2
      obtain ⟨Y, hY⟩ : ∃ Y, U (wordL o) = Y := ⟨_, rfl⟩
      have HWO := Lib.hid hY
      obtain ⟨C, hC1, hC2⟩ := imm_facts i o n X Y hk hk2 HI.out HN.out ho.out HWI.out hY
      have HC := Lib.hid (imm_eq i o n X Y hk hk2 HI.out HN.out ho.out HWI.out hY)
      have hform := (ok_form i hk).2.2
      have hf1 := (ok_form i hk).1
      have hf2 := (ok_form i hk).2.1
      obtain ⟨f, hf⟩ : ∃ f : Nat, formN i.op = f := ⟨_, rfl⟩
      rw [hf] at hform hf1 hf2 hC2
      have HF := Lib.hid hform
      have HC2 := Lib.hid hC2
      clear hk hk2 hY hform hC2 hf
      go_upto_block 0 with (first
        | (go_at_call 8; (with_reducible refine (Word_yes i HK HI _ HWI _).mono ?_); rintro e w2 ⟨rfl, hb⟩; have T2 := Lib.hid (T1.out.on hb); clear hb T1 a0 a1 a2 a3 a4 a5 a6 a7 a8; obtain ⟨-, a0, a1, a2, a3, a4, a5, a6, a7, a8⟩ := T2.out.two.facts)
        | (go_at_call 8; (with_reducible refine (Word_yes o HO HO2 _ HWO _).mono ?_); rintro e w3 ⟨rfl, hb⟩; have T3 := Lib.hid (T2.out.on hb); clear hb a0 a1 a2 a3 a4 a5 a6 a7 a8; obtain ⟨-, a0, a1, a2, a3, a4, a5, a6, a7, a8⟩ := T3.out.one.facts)
        | (go_at_call 11; (with_reducible refine (form_lit i.op _ HF _).mono ?_); rintro e w4 ⟨rfl, rfl⟩))
      go_cut [10] (fun t wx => t = .int .u32 (immM f : Nat) ∧ wx = w3)
      case first =>
        obtain ⟨F, hFF⟩ : ∃ F, (f : Int) = F := ⟨_, rfl⟩
        rcases (show f = 1 ∨ f = 2 ∨ f = 3 ∨ f = 4 ∨ f = 5 ∨ f = 6 ∨ f = 7 ∨ f = 8 ∨ f = 9 ∨ f = 10 ∨ f = 11 ∨ f = 12 by omega) with rfl | rfl | rfl | rfl | rfl | rfl | rfl | rfl | rfl | rfl | rfl | rfl
        all_goals
          go_wp2
          go_meet
          exact ⟨rfl, rfl⟩
      case rest =>
        obtain ⟨rfl, rfl⟩ := hcut
        have hC3 := HC2.out
        by_cases hin : i.imm = n
        · have hq : (X == Y) = true := HC.out.1 hin
          have hq2 : (i.imm == n) = true := by simpa using hin
          clear hin
          go_wp2
          go_ret
          exact ⟨rfl, T3.out.below⟩
        · have hq : (X == Y) = false := HC.out.2 hin
          have hq2 : (i.imm == n) = false := by simpa using hin
          clear hin
          go_wp2
          go_ret
          exact ⟨rfl, T3.out.below⟩
end Go.Proofs.YtfgfkpiddlehjaaGreat
