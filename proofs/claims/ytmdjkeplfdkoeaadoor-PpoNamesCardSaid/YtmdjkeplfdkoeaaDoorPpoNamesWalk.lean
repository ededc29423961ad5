/-
  Proved here: the law PpoNames answers true; nothing that was there is changed. Condition: the table of zero bits as the library lays it.
-/
import Derived.Test.YtmdjkeplfdkoeaaDoorPpPairs
import Derived.Test.YtmdjkeplfdkoeaaDoorPpWhole
import Derived.Test.YtmdjkeplfdkoeaaDoorPpHolds
import Derived.Test.YtmdjkeplfdkoeaaDoorPpLives
namespace Go.Proofs.YtmdjkeplfdkoeaaDoor
set_option linter.unusedVariables false
set_option linter.unusedSimpArgs false
open Go.RowKit Go.Maps
attribute [local go_sem ↓] fold_E fold_SE

def pF2 : Ev := ⟨0, 1, 6, 0, 0, 0, false, false, 2, 2, 0, .slice none 0 0, .slice none 0 0, .slice none 0 0⟩
/-- a candidate of nothing -/
def cE : Cd := ⟨0, fun _ => 0, fun _ _ => zeroEv, fun _ _ => nilL, [], [], []⟩
def qE : Cv := ⟨none, 0, none, 0, none, 0, none, 0⟩
theorem cE_lt : Lt cE where
  ew := fun h hh => absurd hh (by show ¬ h < 0; omega)
  nh := Nat.zero_le _
  n := Nat.zero_le _
  small := fun h hh => absurd hh (by show ¬ h < 0; omega)
  fs := Nat.zero_le _
  fr := Nat.zero_le _
  od := Nat.zero_le _
  fw := fun j hj => absurd hj (by show ¬ j < 0; omega)
theorem cE_may : cE.may = false := by decide +kernel
theorem cE_rule : ruleW cE 0 1 = 0 := by decide +kernel
theorem cE_full : fullW cE = false := by decide +kernel
theorem nC2_rule : ruleW (pC [pF2]) 0 2 = 0 := by decide +kernel
theorem nC1_rule01 : ruleW (pC [pF]) 0 1 = 0 := by decide +kernel
theorem nC1_rule20 : ruleW (pC [pF]) 2 0 = 0 := by decide +kernel
theorem nC1_rule09 : ruleW (pC [pF]) 0 9 = 0 := by decide +kernel
theorem nC1_full : fullW (pC [pF]) = true := by decide +kernel
theorem nC0_full : fullW (pC []) = false := by decide +kernel
theorem nC1_whole02 : wholeW (pC [pF]) 0 2 = true := by decide +kernel
theorem nC1_whole01 : wholeW (pC [pF]) 0 1 = false := by decide +kernel
theorem nC1_holds4 : holdsW (pC [pF]) 0 2 4 = true := by decide +kernel
theorem nC1_holds14 : holdsW (pC [pF]) 0 2 14 = false := by decide +kernel
theorem nC1_pairs : pairsW (pC [pF]) = [(0, 2)] := by decide +kernel
theorem nC1_lt : Lt (pC [pF]) := pC_lt [pF] (by simp) (fun e he => by rw [List.mem_singleton] at he; subst he; exact ⟨by decide, by decide⟩)
theorem nC2_lt : Lt (pC [pF2]) := pC_lt [pF2] (by simp) (fun e he => by rw [List.mem_singleton] at he; subst he; exact ⟨by decide, by decide⟩)
theorem nC0_lt : Lt (pC []) := pC_lt [] (by simp) (fun e he => by simp at he)
theorem cE_at (w : World) : CAt cE qE w := ⟨.inl ⟨EmptyS.nil, rfl⟩, .inl rfl, Nat.le_refl _, ReadsI.nil w, ReadsI.nil w⟩
theorem fence2_any (w : World) : Calls Tryd.prog 5 #[.int .i64 2, .int .i64 2] w fun e w' => e = .returned (.slice (some ⟨w.heap.size, 0, none⟩) 1 1) ∧ w'.heap[w.heap.size]? = some (.cells pF2.row.toArray 42 (0, 0)) ∧ Below w.heap.size w w' := by
  go_enter Tryd.func5, Tryd.ntmps5
  go_wp2
  go_ret
  exact ⟨rfl, Array.getElem?_push_size, box_below _ _⟩
theorem bt2 {w : World} {g : Nat} (h : w.heap[g]? = some (.cells pF2.row.toArray 42 (0, 0))) : Bt [pF2] (some ⟨g, 0, none⟩) 1 w :=
  ⟨by simp, .inr ⟨_, rfl, fun i u hu => by
    rw [Addr.add_lit, Nat.zero_add, cell_of_row w g i _ _ _ h]
    unfold flat at hu
    rw [List.flatMap_cons, List.flatMap_nil, List.append_nil] at hu
    simpa using hu⟩, fun e he => by
    rw [List.mem_singleton] at he
    subst he
    exact ⟨rfl, rfl, rfl, by decide⟩⟩
/-- the walk's state: the candidate in its box, what was there -/
structure Nw (q : Cv) (gB gl : Nat) (w0 w : World) : Prop where
  at_ : CAt (pC [pF]) q w
  box : CdAt (pC [pF]) q gB w
  bel : Below w0.heap.size w0 w
  l0 : w.cell? ⟨gl, 0, none⟩ = some (.int .i64 0)
  l1 : w.cell? ⟨gl, 1, none⟩ = some (.int .i64 2)
  gl : gl < w.heap.size
theorem Nw.on {q : Cv} {gB gl : Nat} {w0 w w' : World} (h : Nw q gB gl w0 w) (hb : Below w.heap.size w w') : Nw q gB gl w0 w' :=
  ⟨h.at_.below hb, (hb.block gB h.box.lt).trans h.box, h.bel.trans (hb.mono h.bel.size), (hb.cell (p := ⟨gl, 0, none⟩) h.gl).trans h.l0, (hb.cell (p := ⟨gl, 1, none⟩) h.gl).trans h.l1, Nat.lt_of_lt_of_le h.gl hb.size⟩
theorem pairs_one (q : Cv) (w : World) (h : CAt (pC [pF]) q w) : Calls Tryd.prog 6 #[cdV (pC [pF]) q] w fun e w' => ∃ g cap, e = .returned (.slice (some ⟨g, 0, none⟩) 1 cap) ∧ w'.cell? ⟨g, 0, none⟩ = some (.int .i64 0) ∧ w'.cell? ⟨g, 1, none⟩ = some (.int .i64 2) ∧ g < w'.heap.size ∧ Below w.heap.size w w' := by
  refine (Pairs_any (pC [pF]) q w nC1_lt h).mono ?_
  rintro e w' ⟨v, n, rfl, hn, ⟨base, hb, ho⟩, hbel⟩
  rw [nC1_pairs] at hn ho
  obtain rfl : n = 1 := hn.symm
  obtain ⟨g, cap, rfl⟩ := ownsRow_succ ho
  have h0 := ho.cellAt 0 (by omega)
  have h1 := ho.cellAt 1 (by omega)
  exact ⟨g, cap, rfl, h0, h1, (ho.lt g rfl).2, hbel⟩
set_option maxRecDepth 100000 in
set_option maxHeartbeats 8000000 in
theorem ppoNames_any (w : World) (hT : TabT w) : Calls Tryd.prog 3 #[] w fun e w' => SameOk w true e w' := by
  have HT := Lib.hid hT
  have KF := Lib.hid (fun w0 => fence_any w0)
  have K1 := Lib.hid (fun g w0 (h0 : w0.heap[g]? = some (.cells pF.row.toArray 42 (0, 0))) => (show Calls Tryd.prog 4 #[.slice (some ⟨g, 0, none⟩) 1 1] w0 fun e w' => ∃ q, e = .returned (cdV (pC [pF]) q) ∧ CAt (pC [pF]) q w' ∧ Below w0.heap.size w0 w' from pex_any [pF] (some ⟨g, 0, none⟩) 1 w0 (bt1 h0)))
  have KP := Lib.hid (fun q w0 h0 => pairs_one q w0 h0)
  have KV := Lib.hid (fun w0 => plives_any w0)
  have hEq : ∀ W, (Op.equalIn 10000 33 (.agg #[.int .i64 0, .int .i64 2]) (.agg #[.int .i64 0, .int .i64 2])).run Tryd.prog W = .ok true W := fun _ => by kernel_rfl
  have KF2 := Lib.hid (fun w0 => fence2_any w0)
  have K0 := Lib.hid (fun w0 => (show Calls Tryd.prog 4 #[.slice none 0 0] w0 fun e w' => ∃ q, e = .returned (cdV (pC []) q) ∧ CAt (pC []) q w' ∧ Below w0.heap.size w0 w' from pex_any [] none 0 w0 (bt0 w0)))
  have K2 := Lib.hid (fun g w0 (h0 : w0.heap[g]? = some (.cells pF2.row.toArray 42 (0, 0))) => (show Calls Tryd.prog 4 #[.slice (some ⟨g, 0, none⟩) 1 1] w0 fun e w' => ∃ q, e = .returned (cdV (pC [pF2]) q) ∧ CAt (pC [pF2]) q w' ∧ Below w0.heap.size w0 w' from pex_any [pF2] (some ⟨g, 0, none⟩) 1 w0 (bt2 h0)))
  have R2 := Lib.hid (fun q w0 (h0 : CAt (pC [pF2]) q w0) => (show Calls Tryd.prog 8 #[cdV (pC [pF2]) q, .int .i64 0, .int .i64 2] w0 fun e w' => FirstIs w0 0 e w' from by
    have := Rule_any (pC [pF2]) q w0 nC2_lt h0 0 2
    rw [nC2_rule] at this
    exact this))
  have R01 := Lib.hid (fun q w0 (h0 : CAt (pC [pF]) q w0) => (show Calls Tryd.prog 8 #[cdV (pC [pF]) q, .int .i64 0, .int .i64 1] w0 fun e w' => FirstIs w0 0 e w' from by
    have := Rule_any (pC [pF]) q w0 nC1_lt h0 0 1
    rw [nC1_rule01] at this
    exact this))
  have R20 := Lib.hid (fun q w0 (h0 : CAt (pC [pF]) q w0) => (show Calls Tryd.prog 8 #[cdV (pC [pF]) q, .int .i64 2, .int .i64 0] w0 fun e w' => FirstIs w0 0 e w' from by
    have := Rule_any (pC [pF]) q w0 nC1_lt h0 2 0
    rw [nC1_rule20] at this
    exact this))
  have R09 := Lib.hid (fun q w0 (h0 : CAt (pC [pF]) q w0) => (show Calls Tryd.prog 8 #[cdV (pC [pF]) q, .int .i64 0, .int .i64 9] w0 fun e w' => FirstIs w0 0 e w' from by
    have := Rule_any (pC [pF]) q w0 nC1_lt h0 0 9
    rw [nC1_rule09] at this
    exact this))
  have RE := Lib.hid (fun w0 => (show Calls Tryd.prog 8 #[.agg #[.slice none 0 0, .slice none 0 0, .slice none 0 0, .slice none 0 0], .int .i64 0, .int .i64 1] w0 fun e w' => FirstIs w0 0 e w' from by
    have := Rule_any cE qE w0 cE_lt (cE_at w0) 0 1
    rw [cE_rule] at this
    exact this))
  have UE := Lib.hid (fun w0 => (show Calls Tryd.prog 9 #[.agg #[.slice none 0 0, .slice none 0 0, .slice none 0 0, .slice none 0 0]] w0 fun e w' => SaysB w0 false e w' from Full_any cE qE w0 cE_lt (cE_at w0) false cE_full))
  have U1 := Lib.hid (fun q w0 (h0 : CAt (pC [pF]) q w0) => Full_any (pC [pF]) q w0 nC1_lt h0 true nC1_full)
  have U0 := Lib.hid (fun q w0 (h0 : CAt (pC []) q w0) => Full_any (pC []) q w0 nC0_lt h0 false nC0_full)
  have W02 := Lib.hid (fun q w0 (h0 : CAt (pC [pF]) q w0) (hT : TabT w0) => Whole_any (pC [pF]) q w0 nC1_lt h0 hT 0 2 true nC1_whole02)
  have W01 := Lib.hid (fun q w0 (h0 : CAt (pC [pF]) q w0) (hT : TabT w0) => Whole_any (pC [pF]) q w0 nC1_lt h0 hT 0 1 false nC1_whole01)
  have H4 := Lib.hid (fun q w0 (h0 : CAt (pC [pF]) q w0) => Holds_any (pC [pF]) q w0 nC1_lt h0 0 2 4 true nC1_holds4)
  have H14 := Lib.hid (fun q w0 (h0 : CAt (pC [pF]) q w0) => Holds_any (pC [pF]) q w0 nC1_lt h0 0 2 14 false nC1_holds14)
  clear hT
  go_enter Tryd.func3, Tryd.ntmps3
  go_upto_region 2 with (first
    | (go_at_call 5; (with_reducible refine (KF.out _).mono ?_); rintro e' w1 ⟨rfl, hc, hb⟩; have C1 := Lib.hid hc; have L1 := Lib.hid hb; clear hc hb)
    | (go_at_call 4; (with_reducible refine (K1.out _ _ C1.out).mono ?_); rintro e' w2 ⟨q, rfl, hc, hb⟩; have C2 := Lib.hid hc; have L2 := Lib.hid (L1.out.trans (hb.mono L1.out.size)); clear hc hb))
  have S2 : Hid (CAt (pC [pF]) q (w2.alloc (.cells #[.slice q.aF (pC [pF]).fs.length q.cF, .slice q.aH (pC [pF]).nh q.cH, .slice q.aR (pC [pF]).fr.length q.cR, .slice q.aO (pC [pF]).od.length q.cO] 26))) := Lib.hid (C2.out.below (box_below w2 _))
  have X2 : Hid (CdAt (pC [pF]) q w2.heap.size (w2.alloc (.cells #[.slice q.aF (pC [pF]).fs.length q.cF, .slice q.aH (pC [pF]).nh q.cH, .slice q.aR (pC [pF]).fr.length q.cR, .slice q.aO (pC [pF]).od.length q.cO] 26))) := Lib.hid Array.getElem?_push_size
  have B2 : Hid (Below w.heap.size w (w2.alloc (.cells #[.slice q.aF (pC [pF]).fs.length q.cF, .slice q.aH (pC [pF]).nh q.cH, .slice q.aR (pC [pF]).fr.length q.cR, .slice q.aO (pC [pF]).od.length q.cO] 26))) := Lib.hid (L2.out.trans ((box_below w2 _).mono L2.out.size))
  go_name_world W2 hW2
  rw [hW2] at S2 X2 B2
  clear hW2 C1 L1 C2 L2 KF K1
  obtain ⟨u0, u1, u2, u3⟩ := X2.out.facts
  go_upto_region 3 with (go_at_call 6; (with_reducible refine (KP.out q _ S2.out).mono ?_); rintro e' w3 ⟨gl, cap, rfl, h0, h1, hl, hb⟩; have S : Hid (Nw q w2.heap.size gl w w3) := Lib.hid ⟨S2.out.below hb, (hb.block _ X2.out.lt).trans X2.out, B2.out.trans (hb.mono B2.out.size), h0, h1, hl⟩; clear h0 h1 hl hb u0 u1 u2 u3)
  clear S2 X2 B2 KP
  obtain ⟨u0, u1, u2, u3⟩ := S.out.box.facts
  go_wp2_with (first
    | (go_at_call 7; (with_reducible refine (KV.out _).mono ?_); rintro e' wk ⟨rfl, hb⟩; have l0' := ((S.out.on hb).l0); have l1' := ((S.out.on hb).l1); replace S := Lib.hid (S.out.on hb); clear hb u0 u1 u2 u3; obtain ⟨u0, u1, u2, u3⟩ := S.out.box.facts)
    | (go_at_call 5; (with_reducible refine (KF2.out _).mono ?_); rintro e' wk ⟨rfl, hc, hb⟩; have C5 := Lib.hid hc; clear hc; replace S := Lib.hid (S.out.on hb); clear hb u0 u1 u2 u3; obtain ⟨u0, u1, u2, u3⟩ := S.out.box.facts)
    | (go_at_call 4; (with_reducible refine (K2.out _ _ C5.out).mono ?_); rintro e' wk ⟨q2, rfl, hc, hb⟩; have C6 := Lib.hid hc; clear hc; replace S := Lib.hid (S.out.on hb); clear hb u0 u1 u2 u3; obtain ⟨u0, u1, u2, u3⟩ := S.out.box.facts)
    | (go_at_call 8; (with_reducible refine (R2.out q2 _ C6.out).mono ?_); rintro e' wk ⟨rfl, hb⟩; replace S := Lib.hid (S.out.on hb); clear hb u0 u1 u2 u3; obtain ⟨u0, u1, u2, u3⟩ := S.out.box.facts)
    | (go_at_call 8; (with_reducible refine (R01.out q _ S.out.at_).mono ?_); rintro e' wk ⟨rfl, hb⟩; replace S := Lib.hid (S.out.on hb); clear hb u0 u1 u2 u3; obtain ⟨u0, u1, u2, u3⟩ := S.out.box.facts)
    | (go_at_call 8; (with_reducible refine (R20.out q _ S.out.at_).mono ?_); rintro e' wk ⟨rfl, hb⟩; replace S := Lib.hid (S.out.on hb); clear hb u0 u1 u2 u3; obtain ⟨u0, u1, u2, u3⟩ := S.out.box.facts)
    | (go_at_call 8; (with_reducible refine (R09.out q _ S.out.at_).mono ?_); rintro e' wk ⟨rfl, hb⟩; replace S := Lib.hid (S.out.on hb); clear hb u0 u1 u2 u3; obtain ⟨u0, u1, u2, u3⟩ := S.out.box.facts)
    | (go_at_call 8; (with_reducible refine (RE.out _).mono ?_); rintro e' wk ⟨rfl, hb⟩; replace S := Lib.hid (S.out.on hb); clear hb u0 u1 u2 u3; obtain ⟨u0, u1, u2, u3⟩ := S.out.box.facts)
    | (go_at_call 9; (with_reducible refine (U1.out q _ S.out.at_).mono ?_); rintro e' wk ⟨rfl, hb⟩; replace S := Lib.hid (S.out.on hb); clear hb u0 u1 u2 u3; obtain ⟨u0, u1, u2, u3⟩ := S.out.box.facts)
    | (go_at_call 4; (with_reducible refine (K0.out _).mono ?_); rintro e' wk ⟨q0, rfl, hc, hb⟩; have C7 := Lib.hid hc; clear hc; replace S := Lib.hid (S.out.on hb); clear hb u0 u1 u2 u3; obtain ⟨u0, u1, u2, u3⟩ := S.out.box.facts)
    | (go_at_call 9; (with_reducible refine (U0.out q0 _ C7.out).mono ?_); rintro e' wk ⟨rfl, hb⟩; replace S := Lib.hid (S.out.on hb); clear hb u0 u1 u2 u3; obtain ⟨u0, u1, u2, u3⟩ := S.out.box.facts)
    | (go_at_call 10; (with_reducible refine (W02.out q _ S.out.at_ (HT.out.on S.out.bel)).mono ?_); rintro e' wk ⟨rfl, hb⟩; replace S := Lib.hid (S.out.on hb); clear hb u0 u1 u2 u3; obtain ⟨u0, u1, u2, u3⟩ := S.out.box.facts)
    | (go_at_call 10; (with_reducible refine (W01.out q _ S.out.at_ (HT.out.on S.out.bel)).mono ?_); rintro e' wk ⟨rfl, hb⟩; replace S := Lib.hid (S.out.on hb); clear hb u0 u1 u2 u3; obtain ⟨u0, u1, u2, u3⟩ := S.out.box.facts)
    | (go_at_call 11; (with_reducible refine (H4.out q _ S.out.at_).mono ?_); rintro e' wk ⟨rfl, hb⟩; replace S := Lib.hid (S.out.on hb); clear hb u0 u1 u2 u3; obtain ⟨u0, u1, u2, u3⟩ := S.out.box.facts)
    | (go_at_call 11; (with_reducible refine (H14.out q _ S.out.at_).mono ?_); rintro e' wk ⟨rfl, hb⟩; replace S := Lib.hid (S.out.on hb); clear hb u0 u1 u2 u3; obtain ⟨u0, u1, u2, u3⟩ := S.out.box.facts)
    | (go_at_call 9; (with_reducible refine (UE.out _).mono ?_); rintro e' wk ⟨rfl, hb⟩; replace S := Lib.hid (S.out.on hb); clear hb u0 u1 u2 u3; obtain ⟨u0, u1, u2, u3⟩ := S.out.box.facts))

  go_ret
  exact ⟨rfl, S.out.bel⟩
end Go.Proofs.YtmdjkeplfdkoeaaDoor
