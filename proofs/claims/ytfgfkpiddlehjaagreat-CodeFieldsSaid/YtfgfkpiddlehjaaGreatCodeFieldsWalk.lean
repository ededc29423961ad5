/-
  Proved here: the law CodeFields answers true, and writes nothing that was there. Conditions: the numbers are of 64 bits; one goroutine.
-/
import Derived.Test.YtfgfkpiddlehjaaGreatCodeLives
import Derived.Test.YtfgfkpiddlehjaaGreatCodePick
import Derived.Test.YtfgfkpiddlehjaaGreatInsnStand
import Derived.Deep.DeepCutAuto
import Derived.Deep.RegionHeld3
namespace Go.Proofs.YtfgfkpiddlehjaaGreat
set_option linter.unusedVariables false
open Go.RowKit

/-- three boxes that hold one instruction, beside the argument's -/
structure Fd (i x y z : Ins) (p q s : Nat) (w W : World) : Prop where
  arg : InsAt i w.heap.size W
  at1 : InsAt x p W
  at2 : InsAt y q W
  at3 : InsAt z s W
  below : Below w.heap.size w W
  ne : p ≠ q ∧ p ≠ s ∧ q ≠ s ∧ w.heap.size < p ∧ w.heap.size < q ∧ w.heap.size < s
theorem Fd.on {i x y z : Ins} {p q s : Nat} {w W W2 : World} (h : Fd i x y z p q s w W) (hb : Below W.heap.size W W2) : Fd i x y z p q s w W2 :=
  ⟨h.arg.below hb h.arg.facts.1, h.at1.below hb h.at1.facts.1, h.at2.below hb h.at2.facts.1, h.at3.below hb h.at3.facts.1, h.below.trans (hb.mono h.below.size), h.ne⟩
abbrev AI (i : Ins) : Obj := .cells (insCells i) 23
theorem at_three (i : Ins) (W : World) (p : Nat) (h : W.heap.size ≤ p ∧ p < W.heap.size + 3) : InsAt i p (((W.alloc (AI i)).alloc (AI i)).alloc (AI i)).drew := by
  have h1 := ins_new i W
  have h2 := ins_new i (W.alloc (AI i))
  have h3 := ins_new i ((W.alloc (AI i)).alloc (AI i))
  simp only [World.size_alloc] at h2 h3
  obtain rfl | rfl | rfl : p = W.heap.size ∨ p = W.heap.size + 1 ∨ p = W.heap.size + 1 + 1 := by omega
  · exact (h1.alloc _).alloc _
  · exact h2.alloc _
  · exact h3
theorem fd_of {i : Ins} {w W : World} (h : Stand i w W) (p q s : Nat) (hp : W.heap.size ≤ p ∧ p < W.heap.size + 3) (hq : W.heap.size ≤ q ∧ q < W.heap.size + 3) (hs : W.heap.size ≤ s ∧ s < W.heap.size + 3) (hn : p ≠ q ∧ p ≠ s ∧ q ≠ s) : Fd i i i i p q s w (((W.alloc (AI i)).alloc (AI i)).alloc (AI i)).drew := by
  have hb : Below W.heap.size W (((W.alloc (AI i)).alloc (AI i)).alloc (AI i)).drew := ((((Below.refl _ _).alloc (Nat.le_refl _) _).alloc (by simp) _).alloc (by simp; omega) _).drew
  have hl := h.ins.facts.1
  have h2 := h.on hb
  exact ⟨h2.ins, at_three i W p hp, at_three i W q hq, at_three i W s hs, h2.below, hn.1, hn.2.1, hn.2.2, by omega, by omega, by omega⟩
theorem fd_set {i : Ins} {p q s : Nat} {w W : World} (h : Fd i i i i p q s w W) (r : Int) : Fd i { i with rd := r } { i with rs1 := r } { i with rs2 := r } p q s w (((W.setCell ⟨p, 1, none⟩ (.int .i64 r)).setCell ⟨q, 2, none⟩ (.int .i64 r)).setCell ⟨s, 3, none⟩ (.int .i64 r)) := by
  obtain ⟨n1, n2, n3, l1, l2, l3⟩ := h.ne
  have far : ∀ {j : Ins} {n m k : Nat} {V : World} {v : Value}, InsAt j n V → n ≠ m → InsAt j n (V.setCell ⟨m, k, none⟩ v) := fun h hn => (heap_far _ hn).trans h
  exact ⟨far (far (far h.arg (by omega)) (by omega)) (by omega), far (far (h.at1.rd r) n1) n2, far ((far h.at2 (Ne.symm n1)).rs1 r) n3, (far (far h.at3 (Ne.symm n2)) (Ne.symm n3)).rs2 r,
    ((h.below.setCell (by show w.heap.size ≤ p; omega) _).setCell (by show w.heap.size ≤ q; omega) _).setCell (by show w.heap.size ≤ s; omega) _, h.ne⟩
/-- what Word answers, in letters -/
theorem Word_at (i : Ins) (hI : Hid (I64 i.imm)) (A E : Int) (h : Hid ((if i.ok = true then U (wordL i) else 0) = A ∧ (if i.ok = true then (0 : Int) else 2) = E)) (w : World) : Calls Tryz.prog 8 #[i.V] w fun e w' => Ret2 (.int .u32 A) (.int .i64 E) w e w' := by
  have h1 := h.out.1
  have h2 := h.out.2
  cases hk : i.ok
  · rw [hk, if_neg (by decide)] at h1 h2
    rw [← h1, ← h2]
    exact Word_no i (Lib.hid hk) w
  · rw [hk, if_pos rfl] at h1 h2
    rw [← h2]
    exact Word_yes i (Lib.hid hk) hI A (Lib.hid h1) w
theorem err_of {i : Ins} {A E : Int} (h : (if i.ok = true then U (wordL i) else 0) = A ∧ (if i.ok = true then (0 : Int) else 2) = E) : (i.ok = true ∧ U (wordL i) = A ∧ (E == 0) = true ∧ (E != 0) = false) ∨ ((E == 0) = false ∧ (E != 0) = true) := by
  cases hk : i.ok
  · rw [hk, if_neg (by decide), if_neg (by decide)] at h
    rw [← h.2]
    exact .inr ⟨by decide, by decide⟩
  · rw [hk, if_pos rfl, if_pos rfl] at h
    rw [← h.2]
    exact .inl ⟨rfl, h.1, by decide, by decide⟩
theorem and_31 (b : BitVec 64) (k : Nat) (r : Int) (hb : b.toNat < 4294967296) (hr : 0 ≤ r ∧ r < 32) (h : part b k 5 = B r) : bits .and .u32 (U b / 2 ^ k) 31 = r := by
  have e31 : (31 : Int) = U (ones 5) := by decide +kernel
  rw [shr_U, e31, and_32 _ _ (by rw [BitVec.toNat_ushiftRight, Nat.shiftRight_eq_div_pow]; exact Nat.lt_of_le_of_lt (Nat.div_le_self _ _) hb)]
  show U (part b k 5) = r
  rw [h]
  unfold U B
  rw [BitVec.toNat_ofInt]
  omega
theorem far_val {a b : BitVec 64} (ha : a.toNat < 4294967296) (hb : b.toNat < 4294967296) (m : Nat) (M : Int) (hM : M = U (BitVec.ofNat 64 m)) (h : (a ^^^ b) &&& ~~~(BitVec.ofNat 64 m) = 0) (X A : Int) (hX : U a = X) (hA : U b = A) : ∃ C, bits .xor .u32 X A = C ∧ bits .andNot .u32 C M = 0 := by
  refine ⟨U (a ^^^ b), ?_, ?_⟩
  · rw [← hX, ← hA, xor_32 _ _ ha hb]
  · rw [hM, andNot_32 _ _ (by rw [BitVec.toNat_xor]; exact Nat.xor_lt_two_pow (n := 32) ha hb), h]; rfl
theorem aq_val (i : Ins) (X A E : Int) (hk : i.ok = true) (hI : I64 i.imm) (hX : U (wordL i) = X) (h : (if (⟨i.op, i.rd, i.rs1, i.rs2, i.imm, !i.aq, i.rl, i.pred, i.succ⟩ : Ins).ok = true then U (wordL ⟨i.op, i.rd, i.rs1, i.rs2, i.imm, !i.aq, i.rl, i.pred, i.succ⟩) else 0) = A ∧ (if (⟨i.op, i.rd, i.rs1, i.rs2, i.imm, !i.aq, i.rl, i.pred, i.succ⟩ : Ins).ok = true then (0 : Int) else 2) = E) :
    ((E != 0) = false ∧ bits .xor .u32 X A = 67108864) ∨ (E != 0) = true := by
  rcases err_of h with ⟨k, u, -, e⟩ | ⟨-, e⟩
  · refine .inl ⟨e, ?_⟩
    have h1 := word_lt i (may_of i hk)
    have h2 := word_lt _ (may_of _ k)
    rw [← hX, ← u, xor_32 _ _ h1 h2]
    have := aq_else i ⟨may_of i hk, hI.1, hI.2⟩ ⟨may_of _ k, hI.1, hI.2⟩
    rw [show wordL i ^^^ wordL ⟨i.op, i.rd, i.rs1, i.rs2, i.imm, !i.aq, i.rl, i.pred, i.succ⟩ = BitVec.ofNat 64 67108864 from this]
    decide +kernel
  · exact .inr e
theorem low3 (i : Ins) (h : May i) (X : Int) (hX : U (wordL i) = X) : bits .and .u32 X 3 = 3 := by
  have e3 : (3 : Int) = U (BitVec.ofNat 64 3) := by decide +kernel
  rw [← hX, e3, and_32 _ _ (word_lt i h)]
  refine congrArg U (bits_ext fun j hj => ?_)
  obtain ⟨l0, l1⟩ := low_word i h
  rw [BitVec.getLsbD_and]
  have hc : ∀ j : Fin 64, (BitVec.ofNat 64 3).getLsbD j.1 = (decide (j.1 = 0) || decide (j.1 = 1)) := by decide +kernel
  rw [hc ⟨j, hj⟩]
  simp only
  by_cases e0 : j = 0
  · subst e0; rw [l0]; rfl
  · by_cases e1 : j = 1
    · subst e1; rw [l1]; rfl
    · rw [decide_eq_false e0, decide_eq_false e1]; simp
theorem InsAt.far {i : Ins} {n p j : Nat} {v : Value} {W : World} (h : InsAt i n W) (hn : n ≠ p) : InsAt i n (W.setCell ⟨p, j, none⟩ v) := (heap_far v hn).trans h
theorem InsAt.drew {i : Ins} {n : Nat} {W : World} (h : InsAt i n W) : InsAt i n W.drew := h
theorem ins9 {i : Ins} {n : Nat} {w' : World} (h : InsAt i n w') : w'.cell? ⟨n, 0, none⟩ = some (.int .i64 i.op) ∧ w'.cell? ⟨n, 1, none⟩ = some (.int .i64 i.rd) ∧ w'.cell? ⟨n, 2, none⟩ = some (.int .i64 i.rs1) ∧ w'.cell? ⟨n, 3, none⟩ = some (.int .i64 i.rs2) ∧ w'.cell? ⟨n, 4, none⟩ = some (.int .i64 i.imm) ∧ w'.cell? ⟨n, 5, none⟩ = some (.bool i.aq) ∧ w'.cell? ⟨n, 6, none⟩ = some (.bool i.rl) ∧ w'.cell? ⟨n, 7, none⟩ = some (.int .i64 i.pred) ∧ w'.cell? ⟨n, 8, none⟩ = some (.int .i64 i.succ) := h.facts.2
set_option maxRecDepth 100000 in
set_option maxHeartbeats 8000000 in
theorem codeFields_any (i : Ins) (hi : I64 i.imm) (r0 : Int) (hr : I64 r0) (w : World) :
    Calls Tryz.prog 4 #[i.V, .int .i64 r0] w fun e w' => e = .returned (.bool true) ∧ Below w.heap.size w w' := by
  have HI := Lib.hid hi
  have h1 : -9223372036854775808 ≤ r0 := hr.1
  have h2 : r0 ≤ 9223372036854775807 := hr.2
  obtain ⟨r, hr1⟩ : ∃ r, pickI r0 32 = r := ⟨_, rfl⟩
  have hr2 : 0 ≤ r ∧ r < 32 := by rw [← hr1]; unfold pickI; rw [if_neg (by omega)]; omega
  have HP := Lib.hid (fun w0 => Pick_any r0 32 h1 h2 (by omega) w0)
  rw [hr1] at HP
  have S0 := Lib.hid (Stand.start i w)
  clear hi h1 h2 hr1 hr
  go_enter Tryz.func4, Tryz.ntmps4
  go_upto_region 3 with (go_at_call 6; (with_reducible refine (lives_any _).mono ?_); rintro e w1 ⟨rfl, hb⟩; have S1 := Lib.hid (S0.out.on hb); clear hb)
  obtain ⟨-, a0, a1, a2, a3, a4, a5, a6, a7, a8⟩ := S1.out.ins.facts
  cases hk : i.ok
  · have HK := Lib.hid hk
    clear hk
    go_wp2_with (go_at_call 8; (with_reducible refine (Word_no i HK _).mono ?_); rintro e w2 ⟨rfl, hb⟩; have S2 := Lib.hid (S1.out.on hb); clear hb)
    go_ret
    exact ⟨rfl, S2.out.below⟩
  · have HK := Lib.hid hk
    obtain ⟨X, hX⟩ : ∃ X, U (wordL i) = X := ⟨_, rfl⟩
    have HWI := Lib.hid hX
    clear hX hk
    go_upto_region 7 with (first
      | (go_at_call 8; (with_reducible refine (Word_yes i HK HI _ HWI _).mono ?_); rintro e w2 ⟨rfl, hb⟩; have S2 := Lib.hid (S1.out.on hb); clear hb a0 a1 a2 a3 a4 a5 a6 a7 a8)
      | (go_at_call 10; (with_reducible refine (HP.out _).mono ?_); rintro e w3 ⟨rfl, rfl⟩))
    obtain ⟨hz, a0, a1, a2, a3, a4, a5, a6, a7, a8⟩ := S2.out.ins.facts
    go_cut [7, 8, 9] (fun t u v W => ∃ p q s, t = .pointer (some ⟨p, 0, none⟩) ∧ u = .pointer (some ⟨q, 0, none⟩) ∧ v = .pointer (some ⟨s, 0, none⟩) ∧ Hid (Fd i i i i p q s w W))
    case first =>
      go_region_held3 (fun w' => w'.cell? ⟨w.heap.size, 0, none⟩ = some (.int .i64 i.op) ∧ w'.cell? ⟨w.heap.size, 1, none⟩ = some (.int .i64 i.rd) ∧ w'.cell? ⟨w.heap.size, 2, none⟩ = some (.int .i64 i.rs1) ∧ w'.cell? ⟨w.heap.size, 3, none⟩ = some (.int .i64 i.rs2) ∧ w'.cell? ⟨w.heap.size, 4, none⟩ = some (.int .i64 i.imm) ∧ w'.cell? ⟨w.heap.size, 5, none⟩ = some (.bool i.aq) ∧ w'.cell? ⟨w.heap.size, 6, none⟩ = some (.bool i.rl) ∧ w'.cell? ⟨w.heap.size, 7, none⟩ = some (.int .i64 i.pred) ∧ w'.cell? ⟨w.heap.size, 8, none⟩ = some (.int .i64 i.succ))
        (first | exact ⟨a0, a1, a2, a3, a4, a5, a6, a7, a8⟩ | (refine ins9 ?_; (repeat first | exact S2.out.ins | with_reducible refine InsAt.alloc ?_ _ | with_reducible refine InsAt.drew ?_ | with_reducible refine InsAt.far ?_ (by first | omega | (simp; omega)))))
        (fail)
      all_goals
        go_wp2_with fail
        go_meet
        exact ⟨_, _, _, rfl, rfl, rfl, Lib.hid (fd_of S2.out _ _ _ (by omega) (by omega) (by omega) (by omega))⟩
    case rest =>
      obtain ⟨p, q, s, rfl, rfl, rfl, F0⟩ := hcut
      have L1 := loose_of F0.out.at1
      have L2 := loose_of F0.out.at2
      have L3 := loose_of F0.out.at3
      obtain ⟨lp, b0, b1, b2, b3, b4, b5, b6, b7, b8⟩ := F0.out.at1.facts
      obtain ⟨lq, c0, c1, c2, c3, c4, c5, c6, c7, c8⟩ := F0.out.at2.facts
      obtain ⟨ls, d0, d1, d2, d3, d4, d5, d6, d7, d8⟩ := F0.out.at3.facts
      obtain ⟨n1, n2, n3, n4, n5, n6⟩ := F0.out.ne
      clear hz a0 a1 a2 a3 a4 a5 a6 a7 a8
      go_upto_region 9 with fail
      have G0 := Lib.hid (fd_set F0.out r)
      obtain ⟨V, hV⟩ : ∃ V, Hid (((wc.setCell ⟨p, 1, none⟩ (.int .i64 r)).setCell ⟨q, 2, none⟩ (.int .i64 r)).setCell ⟨s, 3, none⟩ (.int .i64 r) = V) := ⟨_, Lib.hid rfl⟩
      rw [hV.out] at G0 ⊢
      clear hV F0 L1 L2 L3 lp b0 b1 b2 b3 b4 b5 b6 b7 b8 lq c0 c1 c2 c3 c4 c5 c6 c7 c8 ls d0 d1 d2 d3 d4 d5 d6 d7 d8
      obtain ⟨x, hx⟩ : ∃ x : Ins, Hid (({ i with rd := r } : Ins) = x) := ⟨_, Lib.hid rfl⟩
      obtain ⟨y, hy⟩ : ∃ y : Ins, Hid (({ i with rs1 := r } : Ins) = y) := ⟨_, Lib.hid rfl⟩
      obtain ⟨z, hz⟩ : ∃ z : Ins, Hid (({ i with rs2 := r } : Ins) = z) := ⟨_, Lib.hid rfl⟩
      rw [hx.out, hy.out, hz.out] at G0
      have x_I : Hid (I64 x.imm) := Lib.hid (by rw [← hx.out]; exact HI.out)
      have y_I : Hid (I64 y.imm) := Lib.hid (by rw [← hy.out]; exact HI.out)
      have z_I : Hid (I64 z.imm) := Lib.hid (by rw [← hz.out]; exact HI.out)
      obtain ⟨A1, E1, x_H⟩ : ∃ A E, Hid ((if x.ok = true then U (wordL x) else 0) = A ∧ (if x.ok = true then (0 : Int) else 2) = E) := ⟨_, _, Lib.hid ⟨rfl, rfl⟩⟩
      obtain ⟨A2, E2, y_H⟩ : ∃ A E, Hid ((if y.ok = true then U (wordL y) else 0) = A ∧ (if y.ok = true then (0 : Int) else 2) = E) := ⟨_, _, Lib.hid ⟨rfl, rfl⟩⟩
      obtain ⟨A3, E3, z_H⟩ : ∃ A E, Hid ((if z.ok = true then U (wordL z) else 0) = A ∧ (if z.ok = true then (0 : Int) else 2) = E) := ⟨_, _, Lib.hid ⟨rfl, rfl⟩⟩
      obtain ⟨-, a0, a1, a2, a3, a4, a5, a6, a7, a8⟩ := G0.out.at1.facts
      go_upto_region 12 with (first
        | (go_at_call 8; (with_reducible refine (Word_at x x_I A1 E1 x_H _).mono ?_); rintro e vG1 ⟨rfl, hb⟩; have G1 := Lib.hid (G0.out.on hb); clear hb; clear a0 a1 a2 a3 a4 a5 a6 a7 a8; obtain ⟨-, a0, a1, a2, a3, a4, a5, a6, a7, a8⟩ := G1.out.at2.facts)
        | (go_at_call 8; (with_reducible refine (Word_at y y_I A2 E2 y_H _).mono ?_); rintro e vG2 ⟨rfl, hb⟩; have G2 := Lib.hid (G1.out.on hb); clear hb; clear a0 a1 a2 a3 a4 a5 a6 a7 a8; obtain ⟨-, a0, a1, a2, a3, a4, a5, a6, a7, a8⟩ := G2.out.at3.facts)
        | (go_at_call 8; (with_reducible refine (Word_at z z_I A3 E3 z_H _).mono ?_); rintro e vG3 ⟨rfl, hb⟩; have G3 := Lib.hid (G2.out.on hb); clear hb; clear a0 a1 a2 a3 a4 a5 a6 a7 a8; obtain ⟨-, a0, a1, a2, a3, a4, a5, a6, a7, a8⟩ := G3.out.arg.facts))
      have hmay : May i := may_of i HK.out
      have hlow : bits .and .u32 X 3 = 3 := low3 i hmay X HWI.out
      have K1 : Hid (((E1 == 0) = true ∧ (x.ok = true ∧ U (wordL x) = A1) ∧ ∃ C, bits .xor .u32 X A1 = C ∧ bits .andNot .u32 C 3968 = 0) ∨ (E1 == 0) = false) := Lib.hid (by
        rcases err_of x_H.out with ⟨k, u, e, -⟩ | ⟨e, -⟩
        · exact .inl ⟨e, ⟨k, u⟩, far_val (word_lt i hmay) (word_lt x (may_of x k)) 3968 3968 (by decide +kernel) (by rw [← hx.out]; exact rd_far i hmay r) X A1 HWI.out u⟩
        · exact .inr e)
      have K2 : Hid (((E2 == 0) = true ∧ (y.ok = true ∧ U (wordL y) = A2) ∧ ∃ C, bits .xor .u32 X A2 = C ∧ bits .andNot .u32 C 1015808 = 0) ∨ (E2 == 0) = false) := Lib.hid (by
        rcases err_of y_H.out with ⟨k, u, e, -⟩ | ⟨e, -⟩
        · exact .inl ⟨e, ⟨k, u⟩, far_val (word_lt i hmay) (word_lt y (may_of y k)) 1015808 1015808 (by decide +kernel) (by rw [← hy.out]; exact rs1_far i hmay r) X A2 HWI.out u⟩
        · exact .inr e)
      have K3 : Hid (((E3 == 0) = true ∧ ∃ C, bits .xor .u32 X A3 = C ∧ bits .andNot .u32 C 32505856 = 0) ∨ (E3 == 0) = false) := Lib.hid (by
        rcases err_of z_H.out with ⟨k, u, e, -⟩ | ⟨e, -⟩
        · exact .inl ⟨e, far_val (word_lt i hmay) (word_lt z (may_of z k)) 32505856 32505856 (by decide +kernel) (by rw [← hz.out]; exact rs2_far i hmay r) X A3 HWI.out u⟩
        · exact .inr e)
      have N1 : Hid ((E1 == 0) = false ∨ ((E1 == 0) = true ∧ (r != i.rd) = false) ∨ ((E1 == 0) = true ∧ (r != i.rd) = true ∧ bits .and .u32 (A1 / 128) 31 = r)) := Lib.hid (by
        rcases err_of x_H.out with ⟨k, u, e, -⟩ | ⟨e, -⟩
        · by_cases h : r = i.rd
          · exact .inr (.inl ⟨e, by simp [h]⟩)
          · refine .inr (.inr ⟨e, by simpa using h, ?_⟩)
            rw [← u]
            refine and_31 (wordL x) 7 r (word_lt x (may_of x k)) hr2 ?_
            have hfx : Fair x := ⟨may_of x k, x_I.out.1, x_I.out.2⟩
            rw [← hx.out] at hfx ⊢
            exact rd_else i r ⟨hmay, HI.out.1, HI.out.2⟩ hfx h
        · exact .inl e)
      have N2 : Hid ((E2 == 0) = false ∨ ((E2 == 0) = true ∧ (r != i.rs1) = false) ∨ ((E2 == 0) = true ∧ (r != i.rs1) = true ∧ bits .and .u32 (A2 / 32768) 31 = r)) := Lib.hid (by
        rcases err_of y_H.out with ⟨k, u, e, -⟩ | ⟨e, -⟩
        · by_cases h : r = i.rs1
          · exact .inr (.inl ⟨e, by simp [h]⟩)
          · refine .inr (.inr ⟨e, by simpa using h, ?_⟩)
            rw [← u]
            refine and_31 (wordL y) 15 r (word_lt y (may_of y k)) hr2 ?_
            have hfy : Fair y := ⟨may_of y k, y_I.out.1, y_I.out.2⟩
            rw [← hy.out] at hfy ⊢
            exact rs1_else i r ⟨hmay, HI.out.1, HI.out.2⟩ hfy h
        · exact .inl e)
      have HMAY := Lib.hid hmay
      clear hmay
      go_cut [89] (fun t wx => t = .bool false ∧ vG3 = wx)
      case first =>
        obtain ⟨e1, -, C1, h1a, h1b⟩ | e1 := K1.out
        all_goals obtain ⟨e2, -, C2, h2a, h2b⟩ | e2 := K2.out
        all_goals obtain ⟨e3, C3, h3a, h3b⟩ | e3 := K3.out
        all_goals
          go_wp2_with fail
          go_meet
          exact ⟨rfl, rfl⟩
      case rest =>
        obtain ⟨rfl, rfl⟩ := hcut
        go_upto_region 14 with fail
        have hwr : IntKind.u32.wrap r = r := by rw [IntKind.wrap_u32]; omega
        go_cut [123] (fun t wx => t = .bool false ∧ vG3 = wx)
        case first =>
          obtain e1 | ⟨e1, m1⟩ | ⟨e1, m1, s1⟩ := N1.out
          all_goals obtain e2 | ⟨e2, m2⟩ | ⟨e2, m2, s2⟩ := N2.out
          all_goals
            go_wp2_with fail
            go_meet
            exact ⟨rfl, rfl⟩
        case rest =>
          obtain ⟨rfl, rfl⟩ := hcut
          clear hwr
          obtain ⟨A4, E4, u_H⟩ : ∃ A E, Hid ((if (⟨i.op, i.rd, i.rs1, i.rs2, i.imm, !i.aq, i.rl, i.pred, i.succ⟩ : Ins).ok = true then U (wordL ⟨i.op, i.rd, i.rs1, i.rs2, i.imm, !i.aq, i.rl, i.pred, i.succ⟩) else 0) = A ∧ (if (⟨i.op, i.rd, i.rs1, i.rs2, i.imm, !i.aq, i.rl, i.pred, i.succ⟩ : Ins).ok = true then (0 : Int) else 2) = E) := ⟨_, _, Lib.hid ⟨rfl, rfl⟩⟩
          have u_I : Hid (I64 (⟨i.op, i.rd, i.rs1, i.rs2, i.imm, !i.aq, i.rl, i.pred, i.succ⟩ : Ins).imm) := Lib.hid HI.out
          have K4 : Hid (((E4 != 0) = false ∧ bits .xor .u32 X A4 = 67108864) ∨ (E4 != 0) = true) := Lib.hid (aq_val i X A4 E4 HK.out HI.out HWI.out u_H.out)
          go_upto_region 19 with (go_at_call 8; (with_reducible refine (Word_at (⟨i.op, i.rd, i.rs1, i.rs2, i.imm, !i.aq, i.rl, i.pred, i.succ⟩ : Ins) u_I A4 E4 u_H _).mono ?_); rintro e w9 ⟨rfl, hb⟩; have G9 := Lib.hid ((G3.out.on (one_box _ _)).on hb); clear hb)
          obtain ⟨e4, s4⟩ | e4 := K4.out
          all_goals
            go_wp2_with fail
            go_ret
            exact ⟨rfl, G9.out.below⟩
end Go.Proofs.YtfgfkpiddlehjaaGreat
