/-
  Proved here: the law HartJumps returns true at every hart, instruction, and what was found; what was there is as it was. Condition: the numbers are of 64 bits.
-/
import Derived.Test.YtlilbfjicgchkaaGreatHartJumpsA
import Derived.Test.YtlilbfjicgchkaaGreatHartJumpsB
import Derived.Test.YtlilbfjicgchkaaGreatHartJumpsC
import Derived.Test.YtlilbfjicgchkaaGreatHartJumpsD
namespace Go.Proofs.YtlilbfjicgchkaaGreat
open Go.RowKit
set_option maxHeartbeats 2000000 in
set_option maxRecDepth 100000 in
theorem jumps_chk (op d a b : Int) (v : BitVec 64) (aq rl : Bool) (p q : Int) (found : BitVec 64) (won : Bool) (h : Ha) (w : World) (m : Int) (hm : ¬ m = 0) (hm2 : (m != 0) = true)
    (HC : Hid (∀ w, Calls Tryz.prog 7 #[h.V] w fun e w' => e = .returned (.int .i64 m) ∧ Below w.heap.size w w')) :
    Calls Tryz.prog 5 #[h.V, insV op d a b (S v) aq rl p q, .int .u64 (U found), .bool won] w fun e w' => e = .returned (.bool true) ∧ Below w.heap.size w w' := by
  have HS0 := Lib.hid (StJ.start h #[.int .i64 op, .int .i64 d, .int .i64 a, .int .i64 b, .int .i64 (S v), .bool aq, .bool rl, .int .i64 p, .int .i64 q] w)
  go_enter Tryz.func5, Tryz.ntmps5
  go_wp2_with (first | (go_at_call 6; (with_reducible refine (lives_any _).mono ?_); rintro e w1 ⟨rfl, hb⟩; have HS1 := Lib.hid (HS0.out.on hb); clear hb) | (refine load_ha row_hart HS1.out.1 rfl _ rfl rfl ?_) | (go_at_call 7; (with_reducible refine (HC.out _).mono ?_); rintro e w2 ⟨rfl, hb⟩; have HS2 := Lib.hid (HS1.out.on hb); clear hb))
  go_ret
  exact ⟨rfl, HS2.out.2.2.1⟩
set_option maxHeartbeats 2000000 in
set_option maxRecDepth 100000 in
theorem jumps_bad (op d a b : Int) (v : BitVec 64) (aq rl : Bool) (p q : Int) (found : BitVec 64) (won : Bool) (h : Ha) (w : World) (he0 : h.e = 0)
    (HC : Hid (∀ w, Calls Tryz.prog 7 #[h.V] w fun e w' => e = .returned (.int .i64 0) ∧ Below w.heap.size w w'))
    (HR : Hid (∀ w, Calls Tryz.prog 8 #[insV op d a b (S v) aq rl p q] w fun e w' => e = .returned (.int .i64 2) ∧ Below w.heap.size w w')) :
    Calls Tryz.prog 5 #[h.V, insV op d a b (S v) aq rl p q, .int .u64 (U found), .bool won] w fun e w' => e = .returned (.bool true) ∧ Below w.heap.size w w' := by
  have HS0 := Lib.hid (StJ.start h #[.int .i64 op, .int .i64 d, .int .i64 a, .int .i64 b, .int .i64 (S v), .bool aq, .bool rl, .int .i64 p, .int .i64 q] w)
  have HE0 := Lib.hid he0
  clear he0
  go_enter Tryz.func5, Tryz.ntmps5
  go_wp2_with (first | (go_at_call 6; (with_reducible refine (lives_any _).mono ?_); rintro e w1 ⟨rfl, hb⟩; have HS1 := Lib.hid (HS0.out.on hb); clear hb) | (refine load_ha row_hart HS1.out.1 rfl _ rfl rfl ?_) | (go_at_call 7; (with_reducible refine (HC.out _).mono ?_); rintro e w2 ⟨rfl, hb⟩; have HS2 := Lib.hid (HS1.out.on hb); clear hb; have hz2 := HS2.out.2.2.2; have hy2 : w.heap.size < w2.heap.size := Nat.lt_of_succ_lt hz2; have c0 := HS2.out.cell 0; have c1 := HS2.out.cell 1; have c2 := HS2.out.cell 2; have c3 := HS2.out.cell 3; have c4 := HS2.out.cell 4; have c5 := HS2.out.cell 5; have c6 := HS2.out.cell 6; have c7 := HS2.out.cell 7; have c8 := HS2.out.cell 8; have he := HS2.out.1.c33; rw [HE0.out] at he; simp only [List.getElem?_toArray, List.getElem?_cons_zero, List.getElem?_cons_succ] at c0 c1 c2 c3 c4 c5 c6 c7 c8) | (go_at_call 8; (with_reducible refine (HR.out _).mono ?_); rintro e w3 ⟨rfl, hb⟩; have HS3 := Lib.hid (HS2.out.on hb); clear hb))
  go_ret
  exact ⟨rfl, HS3.out.2.2.1⟩
/-! ### what a step comes to -/
theorem putX_e (h : Ha) (d : Nat) (x : BitVec 64) : (h.putX d x).e = h.e := by unfold Ha.putX; split <;> rfl
theorem putX_pc (h : Ha) (d : Nat) (x : BitVec 64) : (h.putX d x).pc = h.pc := by unfold Ha.putX; split <;> rfl
theorem putX_x (h : Ha) (d : Nat) (hd : d < 32) (x : BitVec 64) (h0 : d ≠ 0) : (h.putX d x).x d = x := by
  unfold Ha.putX
  rw [if_neg h0]
  unfold Ha.atX Ha.x
  simp only
  rw [List.getD_eq_getElem?_getD, List.getElem?_set_self (by rw [h.len]; exact hd)]
  rfl
theorem ask_jump (h : Ha) (op : Int) (a : Nat) (v : BitVec 64) (ho : 3 ≤ op ∧ op ≤ 10) : askE h op a v = none := by
  have t : ∀ k : Fin 88, 3 ≤ k.1 ∧ k.1 ≤ 10 → formOf (k.1 : Nat) = 2 ∨ formOf (k.1 : Nat) = 3 ∨ formOf (k.1 : Nat) = 6 := by decide +kernel
  have := t ⟨op.toNat, by omega⟩ (by simp only; omega)
  simp only [show ((op.toNat : Nat) : Int) = op by omega] at this
  unfold askE
  rw [if_neg (by omega), if_neg (by omega)]
theorem ask_how (h : Ha) (op : Int) (a : Nat) (v : BitVec 64) (how : Int) (c : BitVec 64) (hs : askE h op a v = some (how, c)) : 1 ≤ how ∧ how ≤ 5 := by
  unfold askE accE sysE at hs
  repeat' split at hs
  all_goals first
    | (simp only [Option.some.injEq, Prod.mk.injEq] at hs; obtain ⟨rfl, _⟩ := hs; omega)
    | (cases hs)
theorem tk_in (op : Int) (a b : BitVec 64) (h : tkX op a b = true) : 5 ≤ op ∧ op ≤ 10 ∧ tkE op = 0 := by
  unfold tkX at h
  by_cases c : 5 ≤ op ∧ op ≤ 10
  · refine ⟨c.1, c.2, ?_⟩
    unfold tkE
    rw [if_pos c]
  · rw [if_neg c] at h; cases h
theorem tk_out (op : Int) (a b : BitVec 64) (h : op < 5) : tkX op a b = false ∧ tkE op = 2 := by
  unfold tkX tkE
  rw [if_neg (by omega), if_neg (by omega)]
  exact ⟨rfl, rfl⟩
theorem jumps_ok (op : Int) (d a b : Nat) (hd : d < 32) (ha : a < 32) (hb : b < 32) (v : BitVec 64) (aq rl : Bool) (p q : Int) (found : BitVec 64) (won : Bool) (h : Ha) (w : World) (hc : h.chk = 0) (hk : Ins.ok ⟨op, d, a, b, S v, aq, rl, p, q⟩ = true) :
    Calls Tryz.prog 5 #[h.V, insV op d a b (S v) aq rl p q, .int .u64 (U found), .bool won] w fun e w' => e = .returned (.bool true) ∧ Below w.heap.size w w' := by
  have hm : mayH h ⟨op, d, a, b, S v, aq, rl, p, q⟩ = 0 := by unfold mayH; rw [if_pos hc, hk]; rfl
  have HC := Lib.hid (fun w => (show Calls Tryz.prog 7 #[h.V] w fun e w' => e = .returned (.int .i64 0) ∧ Below w.heap.size w w' from hc ▸ hCheck_any h w))
  have HR := Lib.hid (fun w => (show Calls Tryz.prog 8 #[insV op d a b (S v) aq rl p q] w fun e w' => e = .returned (.int .i64 0) ∧ Below w.heap.size w w' from by
    have := rCheck_any op d a b v aq rl p q w
    rw [hk] at this
    exact this))
  have he0 := chk_zero hc
  have HX : ∀ x, stepHa h op d a b v found won = x → Hid (∀ w, Calls Tryz.prog 12 #[h.V, insV op d a b (S v) aq rl p q, .int .u64 (U found), .bool won] w fun e w' => e = .returned (.tuple #[x.V, .int .i64 0]) ∧ Below w.heap.size w w') :=
    fun x hx => Lib.hid (fun w => hx ▸ Step_any op d a b hd ha hb v aq rl p q found won h w hm)
  have fetched : 3 ≤ op ∧ op ≤ 10 → fetchH h op a b v = true → stepHa h op d a b v found won = (h.atE 6).atCode 0 := by
    intro ho hf
    unfold stepHa doE5
    rw [ask_jump h op a v ho, hf]
    rfl
  have landed : 3 ≤ op ∧ op ≤ 10 → fetchH h op a b v = false → stepHa h op d a b v found won = doneH h op d a b v found won := by
    intro ho hf
    unfold stepHa doE5
    rw [ask_jump h op a v ho, hf]
    rfl
  have de : (doneH h op d a b v found won).e = 0 := by unfold doneH; rw [putX_e]; exact he0
  have dpc : (doneH h op d a b v found won).pc = toH h op a b v := by unfold doneH; rw [putX_pc]; rfl
  by_cases o4 : op = 4
  · subst o4
    have tk := tk_out 4 (h.x a) (h.x b) (by omega)
    have tt : toH h 4 a b v = evenV (h.x a + v) := by unfold toH; rw [if_pos rfl]
    cases hal : al4 (evenV (h.x a + v)) with
    | false =>
      have hf : fetchH h 4 a b v = true := by unfold fetchH jumpH; rw [tt, hal]; rfl
      exact jumps_jalrf 4 d a b ha hb v aq rl p q found won h _ w HC HR (HX _ (fetched (by omega) hf)) he0 rfl rfl tk.1 tk.2 hal rfl rfl rfl
    | true =>
      have hf : fetchH h 4 a b v = false := by unfold fetchH; rw [tt, hal]; simp
      by_cases d0 : d = 0
      · exact jumps_jalr0 4 d a b ha hb v aq rl p q found won h _ w HC HR (HX _ (landed (by omega) hf)) he0 rfl rfl tk.1 tk.2 hal de (dpc.trans tt) (by simp [d0])
      · exact jumps_jalr1 4 d a b ha hb v aq rl p q found won h _ w HC HR (HX _ (landed (by omega) hf)) he0 rfl rfl tk.1 tk.2 hal de (dpc.trans tt) hd (by simp [d0]) (by unfold doneH; rw [putX_x _ d hd _ d0]; rfl)
  · by_cases o3 : op = 3
    · subst o3
      have tk := tk_out 3 (h.x a) (h.x b) (by omega)
      have tt : toH h 3 a b v = h.pc + v := by unfold toH; rw [if_neg (by omega), if_pos (Or.inl rfl)]
      cases hal : al4 (h.pc + v) with
      | false =>
        have hf : fetchH h 3 a b v = true := by unfold fetchH jumpH; rw [tt, hal]; rfl
        exact jumps_jalf 3 d a b ha hb v aq rl p q found won h _ w HC HR (HX _ (fetched (by omega) hf)) he0 rfl rfl tk.1 tk.2 hal rfl rfl rfl
      | true =>
        have hf : fetchH h 3 a b v = false := by unfold fetchH; rw [tt, hal]; simp
        by_cases d0 : d = 0
        · exact jumps_jal0 3 d a b ha hb v aq rl p q found won h _ w HC HR (HX _ (landed (by omega) hf)) he0 rfl rfl tk.1 tk.2 hal de (dpc.trans tt) (by simp [d0])
        · exact jumps_jal1 3 d a b ha hb v aq rl p q found won h _ w HC HR (HX _ (landed (by omega) hf)) he0 rfl rfl tk.1 tk.2 hal de (dpc.trans tt) hd (by simp [d0]) (by unfold doneH; rw [putX_x _ d hd _ d0]; rfl)
    · have n1 : (op == 3) = false := by simpa using o3
      have n2 : (op == 4) = false := by simpa using o4
      cases ht : tkX op (h.x a) (h.x b) with
      | true =>
        have tk := tk_in op _ _ ht
        have tt : toH h op a b v = h.pc + v := by unfold toH; rw [if_neg o4, if_pos (Or.inr ht)]
        cases hal : al4 (h.pc + v) with
        | false =>
          have hf : fetchH h op a b v = true := by unfold fetchH jumpH; rw [tt, hal, ht]; simp
          exact jumps_takenf op d a b ha hb v aq rl p q found won h _ w HC HR (HX _ (fetched (by omega) hf)) he0 n1 n2 ht tk.2.2 hal rfl rfl rfl
        | true =>
          have hf : fetchH h op a b v = false := by unfold fetchH; rw [tt, hal]; simp
          exact jumps_taken op d a b ha hb v aq rl p q found won h _ w HC HR (HX _ (landed (by omega) hf)) he0 n1 n2 ht tk.2.2 hal de (dpc.trans tt)
      | false =>
        have tt : toH h op a b v = h.pc + 4 := by unfold toH; rw [if_neg o4, if_neg (by rw [ht]; simp [o3])]
        have hf : fetchH h op a b v = false := by unfold fetchH jumpH; rw [ht, decide_eq_false (by omega : ¬ (op = 4 ∨ op = 3))]; rfl
        cases hs : askE h op a v with
        | none =>
          have hx : stepHa h op d a b v found won = doneH h op d a b v found won := by unfold stepHa doE5; rw [hs, hf]; rfl
          exact jumps_none op d a b ha hb v aq rl p q found won h _ w HC HR (HX _ hx) he0 n1 n2 ht de (dpc.trans tt)
        | some z =>
          obtain ⟨how, c⟩ := z
          have hr := ask_how h op a v how c hs
          have hx : stepHa h op d a b v found won = (h.atE how).atCode c := by unfold stepHa doE5; rw [hs]
          exact jumps_ended op d a b ha hb v aq rl p q found won h _ w HC HR (HX _ hx) he0 n1 n2 ht (by show (how == 0) = false; simp; omega) (by show (how == 6) = false; simp; omega) rfl
theorem jumps_any (op rd rs1 rs2 : Int) (v : BitVec 64) (aq rl : Bool) (p q : Int) (found : BitVec 64) (won : Bool) (h : Ha) (w : World) :
    Calls Tryz.prog 5 #[h.V, insV op rd rs1 rs2 (S v) aq rl p q, .int .u64 (U found), .bool won] w fun e w' => e = .returned (.bool true) ∧ Below w.heap.size w w' := by
  by_cases hc : h.chk = 0
  · have HC := Lib.hid (fun w => (show Calls Tryz.prog 7 #[h.V] w fun e w' => e = .returned (.int .i64 0) ∧ Below w.heap.size w w' from hc ▸ hCheck_any h w))
    cases hk : Ins.ok ⟨op, rd, rs1, rs2, S v, aq, rl, p, q⟩ with
    | false =>
      refine jumps_bad op rd rs1 rs2 v aq rl p q found won h w (chk_zero hc) HC (Lib.hid fun w => ?_)
      have := rCheck_any op rd rs1 rs2 v aq rl p q w
      rw [hk] at this
      exact this
    | true =>
      have hm := may_of _ hk
      have h1 := hm.rd
      have h2 := hm.rs1
      have h3 := hm.rs2
      simp only at h1 h2 h3
      obtain ⟨d, rfl⟩ : ∃ d : Nat, rd = d := ⟨rd.toNat, by omega⟩
      obtain ⟨a, rfl⟩ : ∃ a : Nat, rs1 = a := ⟨rs1.toNat, by omega⟩
      obtain ⟨b, rfl⟩ : ∃ b : Nat, rs2 = b := ⟨rs2.toNat, by omega⟩
      exact jumps_ok op d a b (by omega) (by omega) (by omega) v aq rl p q found won h w hc hk
  · exact jumps_chk op rd rs1 rs2 v aq rl p q found won h w h.chk hc (by simpa using hc) (Lib.hid fun w => hCheck_any h w)
end Go.Proofs.YtlilbfjicgchkaaGreat
