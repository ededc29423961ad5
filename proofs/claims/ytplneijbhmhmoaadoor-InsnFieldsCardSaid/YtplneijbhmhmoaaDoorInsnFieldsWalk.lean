/-
  Proved here: the law InsnFields returns true at every instruction and every number, and writes nothing that was there. Condition: the table of powers of ten reads as the library lays it.
-/
import Derived.Test.YtplneijbhmhmoaaDoorInsnReads
import Derived.Test.YtplneijbhmhmoaaDoorInsnFour
import Derived.Test.YtplneijbhmhmoaaDoorInsnTables
import Derived.Deep.RegionHeld3
import Derived.Deep.DeepCutAuto
import Derived.Deep.CutBlock
import Derived.StillTailTactics
import Derived.Deep.QuietTactic
import Derived.BigQuiet
namespace Go.Proofs.YtplneijbhmhmoaaDoor
open Go.RowKit
theorem Writes_no (i : Ins) (hb : Hid (i.ok = false)) (w : World) : Calls Tryd.prog 16 #[i.V] w fun e w' => e = .returned (.int .i64 0) ∧ Below w.heap.size w w' := by
  have h := Writes_any i w
  rw [show writesI i = 0 from by unfold writesI; rw [hb.out]; rfl] at h; exact h
theorem Writes_ok (i : Ins) (hb : Hid (i.ok = true)) (w : World) : Calls Tryd.prog 16 #[i.V] w fun e w' => e = .returned (.int .i64 i.rd) ∧ Below w.heap.size w w' := by
  have h := Writes_any i w
  rw [show writesI i = i.rd from by unfold writesI; rw [hb.out]; rfl] at h; exact h
set_option maxRecDepth 100000 in
set_option maxHeartbeats 4000000 in
theorem fields_no (i : Ins) (r : Int) (hb : i.ok = false) (w : World) (ht : Tab w) :
    Calls Tryd.prog 5 #[i.V, .int .i64 r] w fun e w' => e = .returned (.bool true) ∧ Below w.heap.size w w' := by
  have HN := Lib.hid hb
  have HT := Lib.hid (TabB.of ht)
  have HS0 := Lib.hid (Stand.start i w)
  clear hb ht
  go_enter Tryd.func5, Tryd.ntmps5
  go_wp2_with (first
    | (go_at_call 7; (with_reducible refine (lives_any _ (Stand.tab HS0.out HT)).mono ?_); rintro e w1 ⟨rfl, hb1⟩; have HS1 := Lib.hid (Stand.on HS0.out hb1); clear hb1; obtain ⟨hz, c0, c1, c2, c3, c4, c5, c6, c7, c8⟩ := InsAt.facts (Stand.ins HS1.out))
    | (go_at_call 9; (with_reducible refine (Check_no i HN _).mono ?_); rintro e w2 ⟨rfl, hb2⟩; have HS2 := Lib.hid (Stand.on HS1.out hb2); clear hb2; obtain ⟨hz, c0, c1, c2, c3, c4, c5, c6, c7, c8⟩ := InsAt.facts (Stand.ins HS2.out))
    | (go_at_call 16; (with_reducible refine (Writes_no i HN _).mono ?_); rintro e w3 ⟨rfl, hb3⟩; have HS3 := Lib.hid (Stand.on HS2.out hb3); clear hb3; obtain ⟨hz, c0, c1, c2, c3, c4, c5, c6, c7, c8⟩ := InsAt.facts (Stand.ins HS3.out))
    | (go_at_call 17; (with_reducible refine (Reads_no i HN _).mono ?_); rintro e w4 ⟨rfl, hb4⟩; have HS4 := Lib.hid (Stand.on HS3.out hb4); clear hb4))
  go_ret
  exact ⟨rfl, Stand.below HS4.out⟩
theorem keep_ad {X : World} {o : Obj} {a : Addr} {v : Value} (h : X.drew.cell? a = some v) : (X.alloc o).drew.cell? a = some v := Lib.cell?_alloc_some _ h
/-- four boxes that hold the instruction, behind the argument's own -/
def Four (i : Ins) (w wx : World) (p q r s : Nat) : Prop := (w.heap.size < p ∧ w.heap.size < q ∧ w.heap.size < r ∧ w.heap.size < s) ∧ (p ≠ q ∧ p ≠ r ∧ p ≠ s ∧ q ≠ r ∧ q ≠ s ∧ r ≠ s) ∧ InsAt i p wx ∧ InsAt i q wx ∧ InsAt i r wx ∧ InsAt i s wx
theorem Four.facts {i : Ins} {w wx : World} {p q r s : Nat} (h : Four i w wx p q r s) : InsAt i p wx ∧ InsAt i q wx ∧ InsAt i r wx ∧ InsAt i s wx := h.2.2
theorem Four.apart {i : Ins} {w wx : World} {p q r s : Nat} (h : Four i w wx p q r s) : p ≠ q ∧ p ≠ r ∧ p ≠ s ∧ q ≠ r ∧ q ≠ s ∧ r ≠ s := h.2.1
theorem loose_of {i : Ins} {n : Nat} {w : World} (h : InsAt i n w) (j : Nat) : w.frozen? ⟨n, j, none⟩ = false := by unfold InsAt at h; simp [World.frozen?, h]
theorem store_facts {i : Ins} {n : Nat} {w : World} (h : InsAt i n w) : n < w.heap.size ∧ w.cell? ⟨n, 1, none⟩ = some (.int .i64 i.rd) ∧ w.frozen? ⟨n, 1, none⟩ = false ∧ w.cell? ⟨n, 2, none⟩ = some (.int .i64 i.rs1) ∧ w.frozen? ⟨n, 2, none⟩ = false ∧ w.cell? ⟨n, 3, none⟩ = some (.int .i64 i.rs2) ∧ w.frozen? ⟨n, 3, none⟩ = false ∧ w.cell? ⟨n, 7, none⟩ = some (.int .i64 i.pred) ∧ w.frozen? ⟨n, 7, none⟩ = false := by
  obtain ⟨hz, c0, c1, c2, c3, c4, c5, c6, c7, c8⟩ := InsAt.facts h
  exact ⟨hz, c1, loose_of h 1, c2, loose_of h 2, c3, loose_of h 3, c7, loose_of h 7⟩
theorem heap_set {w : World} {n j : Nat} {cs : Array Value} {t : TypeId} (v : Value) (h : w.heap[n]? = some (.cells cs t (0, 0))) : (w.setCell ⟨n, j, none⟩ v).heap[n]? = some (.cells (cs.setIfInBounds j v) t (0, 0)) := by
  obtain ⟨hlt, hk⟩ := Array.getElem?_eq_some_iff.1 h
  show (w.heap.modify n _)[n]? = _
  rw [Array.getElem?_eq_getElem (by rw [Array.size_modify]; exact hlt), Array.getElem_modify_self, hk]
  rfl
theorem heap_far {w : World} {n m j : Nat} (v : Value) (h : n ≠ m) : (w.setCell ⟨m, j, none⟩ v).heap[n]? = w.heap[n]? := Below.heap_setCell _ _ _ n h
theorem InsAt.far {i : Ins} {n m j : Nat} {w : World} (h : InsAt i n w) (v : Value) (hn : n ≠ m) : InsAt i n (w.setCell ⟨m, j, none⟩ v) := (heap_far v hn).trans h
theorem InsAt.rd {i : Ins} {n : Nat} {w : World} (h : InsAt i n w) (x : Int) : InsAt { i with rd := x } n (w.setCell ⟨n, 1, none⟩ (.int .i64 x)) := heap_set _ h
theorem InsAt.rs1 {i : Ins} {n : Nat} {w : World} (h : InsAt i n w) (x : Int) : InsAt { i with rs1 := x } n (w.setCell ⟨n, 2, none⟩ (.int .i64 x)) := heap_set _ h
theorem InsAt.rs2 {i : Ins} {n : Nat} {w : World} (h : InsAt i n w) (x : Int) : InsAt { i with rs2 := x } n (w.setCell ⟨n, 3, none⟩ (.int .i64 x)) := heap_set _ h
theorem InsAt.pred {i : Ins} {n : Nat} {w : World} (h : InsAt i n w) (x : Int) : InsAt { i with pred := x } n (w.setCell ⟨n, 7, none⟩ (.int .i64 x)) := heap_set _ h
theorem InsAt.aq {i : Ins} {n : Nat} {w : World} (h : InsAt i n w) (b : Bool) : InsAt { i with aq := b } n (w.setCell ⟨n, 5, none⟩ (.bool b)) := heap_set _ h
theorem Stand.far {i : Ins} {w w1 : World} {m j : Nat} (h : Stand i w w1) (v : Value) (hn : w.heap.size < m) : Stand i w (w1.setCell ⟨m, j, none⟩ v) :=
  ⟨h.1.far v (by omega), h.2.setCell (p := ⟨m, j, none⟩) (Nat.le_of_lt hn) v⟩
/-- the four with a field each that may not be -/
def Bad (i : Ins) (w wd : World) (p q r s : Nat) (k : Int) : Prop := Stand i w wd ∧ InsAt { i with rd := 32 + k } p wd ∧ InsAt { i with rs1 := -1 - k } q wd ∧ InsAt { i with rs2 := 32 } r wd ∧ InsAt { i with pred := 16 } s wd
theorem Four.bad {i : Ins} {w wc : World} {p q r s : Nat} (h : Four i w wc p q r s) (hs : Stand i w wc) (k : Int) :
    Bad i w ((((wc.setCell ⟨p, 1, none⟩ (.int .i64 (32 + k))).setCell ⟨q, 2, none⟩ (.int .i64 (-1 - k))).setCell ⟨r, 3, none⟩ (.int .i64 32)).setCell ⟨s, 7, none⟩ (.int .i64 16)) p q r s k := by
  obtain ⟨⟨lp, lq, lr, ls⟩, ⟨npq, npr, nps, nqr, nqs, nrs⟩, hp, hq, hr, hss⟩ := h
  exact ⟨(((hs.far _ lp).far _ lq).far _ lr).far _ ls, (((hp.rd _).far _ npq).far _ npr).far _ nps, (((hq.far _ (Ne.symm npq)).rs1 _).far _ nqr).far _ nqs,
    (((hr.far _ (Ne.symm npr)).far _ (Ne.symm nqr)).rs2 _).far _ nrs, (((hss.far _ (Ne.symm nps)).far _ (Ne.symm nqs)).far _ (Ne.symm nrs)).pred _⟩
theorem Bad.on {i : Ins} {w wd w' : World} {p q r s : Nat} {k : Int} (h : Bad i w wd p q r s k) (hb : Below wd.heap.size wd w') : Bad i w w' p q r s k :=
  ⟨h.1.on hb, h.2.1.below hb (InsAt.facts h.2.1).1, h.2.2.1.below hb (InsAt.facts h.2.2.1).1, h.2.2.2.1.below hb (InsAt.facts h.2.2.2.1).1, h.2.2.2.2.below hb (InsAt.facts h.2.2.2.2).1⟩
theorem Bad.stand {i : Ins} {w wd : World} {p q r s : Nat} {k : Int} (h : Bad i w wd p q r s k) : Stand i w wd := h.1
theorem Bad.a {i : Ins} {w wd : World} {p q r s : Nat} {k : Int} (h : Bad i w wd p q r s k) : InsAt ⟨i.op, 32 + k, i.rs1, i.rs2, i.imm, i.aq, i.rl, i.pred, i.succ⟩ p wd := h.2.1
theorem Bad.b {i : Ins} {w wd : World} {p q r s : Nat} {k : Int} (h : Bad i w wd p q r s k) : InsAt ⟨i.op, i.rd, -1 - k, i.rs2, i.imm, i.aq, i.rl, i.pred, i.succ⟩ q wd := h.2.2.1
theorem Bad.c {i : Ins} {w wd : World} {p q r s : Nat} {k : Int} (h : Bad i w wd p q r s k) : InsAt ⟨i.op, i.rd, i.rs1, 32, i.imm, i.aq, i.rl, i.pred, i.succ⟩ r wd := h.2.2.2.1
theorem Bad.d {i : Ins} {w wd : World} {p q r s : Nat} {k : Int} (h : Bad i w wd p q r s k) : InsAt ⟨i.op, i.rd, i.rs1, i.rs2, i.imm, i.aq, i.rl, 16, i.succ⟩ s wd := h.2.2.2.2
theorem no_rd (i : Ins) (k : Int) (h0 : 0 ≤ k) : (Ins.mk i.op (32 + k) i.rs1 i.rs2 i.imm i.aq i.rl i.pred i.succ).ok = false := by
  cases h : (Ins.mk i.op (32 + k) i.rs1 i.rs2 i.imm i.aq i.rl i.pred i.succ).ok with
  | false => rfl
  | true => have := (may_of _ h).rd; simp only at this; omega
theorem no_rs1 (i : Ins) (k : Int) (h0 : 0 ≤ k) : (Ins.mk i.op i.rd (-1 - k) i.rs2 i.imm i.aq i.rl i.pred i.succ).ok = false := by
  cases h : (Ins.mk i.op i.rd (-1 - k) i.rs2 i.imm i.aq i.rl i.pred i.succ).ok with
  | false => rfl
  | true => have := (may_of _ h).rs1; simp only at this; omega
theorem no_rs2 (i : Ins) : (Ins.mk i.op i.rd i.rs1 32 i.imm i.aq i.rl i.pred i.succ).ok = false := by
  cases h : (Ins.mk i.op i.rd i.rs1 32 i.imm i.aq i.rl i.pred i.succ).ok with
  | false => rfl
  | true => have := (may_of _ h).rs2; simp only at this; omega
theorem no_pred (i : Ins) : (Ins.mk i.op i.rd i.rs1 i.rs2 i.imm i.aq i.rl 16 i.succ).ok = false := by
  cases h : (Ins.mk i.op i.rd i.rs1 i.rs2 i.imm i.aq i.rl 16 i.succ).ok with
  | false => rfl
  | true => have := (may_of _ h).pred; simp only at this; omega
/-- the one with its mark turned, beside the argument -/
def EAt (i : Ins) (w wx : World) (e : Nat) : Prop := InsAt ⟨i.op, i.rd, i.rs1, i.rs2, i.imm, !i.aq, i.rl, i.pred, i.succ⟩ e wx ∧ Stand i w wx
theorem EAt.new {i : Ins} {w w8 : World} (h : Stand i w w8) : EAt i w (w8.alloc (.cells #[.int .i64 i.op, .int .i64 i.rd, .int .i64 i.rs1, .int .i64 i.rs2, .int .i64 i.imm, .bool (!i.aq), .bool i.rl, .int .i64 i.pred, .int .i64 i.succ] 23)) w8.heap.size :=
  ⟨heap_new w8 _, h.on (alloc_below _ _)⟩
theorem EAt.on {i : Ins} {w wx w' : World} {e : Nat} (h : EAt i w wx e) (hb : Below wx.heap.size wx w') : EAt i w w' e := ⟨h.1.below hb (InsAt.facts h.1).1, h.2.on hb⟩
theorem EAt.at {i : Ins} {w wx : World} {e : Nat} (h : EAt i w wx e) : InsAt ⟨i.op, i.rd, i.rs1, i.rs2, i.imm, !i.aq, i.rl, i.pred, i.succ⟩ e wx := h.1
theorem EAt.stand {i : Ins} {w wx : World} {e : Nat} (h : EAt i w wx e) : Stand i w wx := h.2
theorem marks_form : (List.range 88).all (fun k => (hasB (shapeS (k : Int)) 109) == (decide (formOf (k : Int) = 11) || decide (formOf (k : Int) = 12))) = true := by decide +kernel
theorem ok_flip (i : Ins) (h : i.ok = true) : (Ins.mk i.op i.rd i.rs1 i.rs2 i.imm (!i.aq) i.rl i.pred i.succ).ok = hasB (shapeS i.op) 109 := by
  unfold Ins.ok checkB partsB at h ⊢
  simp only [Bool.and_eq_true, decide_eq_true_eq, List.all_cons, List.all_nil, id_eq, and_true] at h
  obtain ⟨hf, h1, h2, h3, h4, h5, h6, h7⟩ := h
  simp only [List.all_cons, List.all_nil, id_eq, Bool.and_true, h1, h2, h3, h4, h5, h7, Bool.true_and, decide_eq_true hf]
  cases hm : hasB (shapeS i.op) 109 with
  | true => rfl
  | false => rw [hm] at h6; revert h6; cases i.aq <;> cases i.rl <;> simp
theorem turned_ok (i : Ins) (h : i.ok = true) : ((formOf i.op = 11 ∨ formOf i.op = 12) → (Ins.mk i.op i.rd i.rs1 i.rs2 i.imm (!i.aq) i.rl i.pred i.succ).ok = true) ∧ (formOf i.op ≠ 11 → formOf i.op ≠ 12 → (Ins.mk i.op i.rd i.rs1 i.rs2 i.imm (!i.aq) i.rl i.pred i.succ).ok = false) := by
  rw [ok_flip i h]
  obtain ⟨k, hk, hk2, _⟩ := (may_of i h).op
  have hm := List.all_eq_true.1 marks_form k (List.mem_range.2 hk2)
  rw [← hk] at hm
  have hm := eq_of_beq hm
  rw [hm]
  refine ⟨fun h => ?_, fun h1 h2 => ?_⟩
  · rcases h with h | h <;> simp [h]
  · simp [h1, h2]
/-- what InsnFields asks of the registers read -/
structure ReadsFacts (i : Ins) (xs : List Int) : Prop where
  few : xs.length ≤ 2
  range : ∀ j, j < xs.length → 1 ≤ xs.getD j 0 ∧ xs.getD j 0 ≤ 31
  rises : 1 < xs.length → xs.getD 0 0 < xs.getD 1 0
  own : i.op ≠ 64 → ∀ j, j < xs.length → xs.getD j 0 = i.rs1 ∨ xs.getD j 0 = i.rs2
theorem reg_facts (a b : Int) (ha : 0 ≤ a ∧ a ≤ 31) (hb : 0 ≤ b ∧ b ≤ 31) : (regsL a b).length ≤ 2 ∧ (∀ j, j < (regsL a b).length → 1 ≤ (regsL a b).getD j 0 ∧ (regsL a b).getD j 0 ≤ 31) ∧ (1 < (regsL a b).length → (regsL a b).getD 0 0 < (regsL a b).getD 1 0) ∧ ∀ j, j < (regsL a b).length → (regsL a b).getD j 0 = a ∨ (regsL a b).getD j 0 = b := by
  have key : regsL a b = [] ∨ (∃ x, regsL a b = [x] ∧ x ≠ 0 ∧ (x = a ∨ x = b)) ∨ ∃ x y, regsL a b = [x, y] ∧ x ≠ 0 ∧ x < y ∧ (x = a ∨ x = b) ∧ (y = a ∨ y = b) := by
    rw [regsL_is]
    by_cases h : a ≤ b
    · rw [if_pos h]
      by_cases e : a = b
      · rw [if_pos e]
        by_cases z : a = 0
        · exact .inl (by simp [z])
        · exact .inr (.inl ⟨a, by simp [z], z, .inl rfl⟩)
      · rw [if_neg e]
        have zb : b ≠ 0 := by omega
        by_cases z : a = 0
        · exact .inr (.inl ⟨b, by simp [z, zb], zb, .inr rfl⟩)
        · exact .inr (.inr ⟨a, b, by simp [z, zb], z, by omega, .inl rfl, .inr rfl⟩)
    · rw [if_neg h]
      have za : a ≠ 0 := by omega
      by_cases z : b = 0
      · exact .inr (.inl ⟨a, by simp [z, za], za, .inl rfl⟩)
      · exact .inr (.inr ⟨b, a, by simp [z, za], z, by omega, .inr rfl, .inl rfl⟩)
  rcases key with e | ⟨x, e, hx, ho⟩ | ⟨x, y, e, hx, hxy, ho, ho2⟩ <;> rw [e]
  · exact ⟨by simp, fun j hj => by simp at hj, fun hj => by simp at hj, fun j hj => by simp at hj⟩
  · refine ⟨by simp, fun j hj => ?_, fun hj => by simp at hj, fun j hj => ?_⟩
    · obtain rfl : j = 0 := by simp at hj; omega
      show 1 ≤ x ∧ x ≤ 31
      omega
    · obtain rfl : j = 0 := by simp at hj; omega
      exact ho
  · have two : ∀ j, j < [x, y].length → j = 0 ∨ j = 1 := fun j hj => by simp at hj; omega
    refine ⟨by simp, fun j hj => ?_, fun _ => hxy, fun j hj => ?_⟩
    · rcases two j hj with rfl | rfl
      · show 1 ≤ x ∧ x ≤ 31
        omega
      · show 1 ≤ y ∧ y ≤ 31
        omega
    · rcases two j hj with rfl | rfl
      · exact ho
      · exact ho2
theorem reads_facts (i : Ins) (h : i.ok = true) : ReadsFacts i (readsL i) := by
  have hm := may_of i h
  unfold readsL
  by_cases ho : i.op = 64
  · rw [if_pos ho]
    obtain ⟨h1, h2, h3, _⟩ := reg_facts 10 17 (by omega) (by omega)
    exact ⟨h1, h2, h3, fun hn => absurd ho hn⟩
  · rw [if_neg ho]
    obtain ⟨h1, h2, h3, h4⟩ := reg_facts i.rs1 i.rs2 ⟨hm.rs1.1, hm.rs1.2.1⟩ ⟨hm.rs2.1, hm.rs2.2.1⟩
    exact ⟨h1, h2, h3, fun _ => h4⟩
def Loop (i : Ins) (w wr : World) (g : Nat) (xs : List Int) : Prop := Stand i w wr ∧ ∀ j, j < xs.length → wr.cell? ⟨g, j, none⟩ = some (.int .i64 (xs.getD j 0))
theorem Loop.drew {i : Ins} {w wr : World} {g : Nat} {xs : List Int} (h : Loop i w wr g xs) : Loop i w wr.drew g xs := ⟨h.1.drew, h.2⟩
theorem Loop.stand {i : Ins} {w wr : World} {g : Nat} {xs : List Int} (h : Loop i w wr g xs) : Stand i w wr := h.1
theorem pick_range (r : Int) : 0 ≤ pickI r 9 ∧ pickI r 9 ≤ 8 := by unfold pickI; rw [if_neg (by omega)]; omega
theorem Pick_9 (r k : Int) (hk : Hid (pickI r 9 = k)) (h0 : -9223372036854775808 ≤ r) (h1 : r ≤ 9223372036854775807) (w : World) : Calls Tryd.prog 18 #[.int .i64 r, .int .i64 9] w fun e w' => e = .returned (.int .i64 k) ∧ w = w' := by
  rw [← hk.out]; exact Pick_any r 9 h0 h1 (by omega) w
attribute [local irreducible] wpStill
set_option maxRecDepth 100000 in
set_option maxHeartbeats 8000000 in
theorem fields_ok (i : Ins) (r : Int) (hr0 : -9223372036854775808 ≤ r) (hr1 : r ≤ 9223372036854775807) (hb : i.ok = true) (w : World) (ht : Tab w) :
    Calls Tryd.prog 5 #[i.V, .int .i64 r] w fun e w' => e = .returned (.bool true) ∧ Below w.heap.size w w' := by
  have HN := Lib.hid hb
  have HT := Lib.hid (TabB.of ht)
  have HS0 := Lib.hid (Stand.start i w)
  clear hb ht
  go_enter Tryd.func5, Tryd.ntmps5
  go_upto_region 5 with (first
    | (go_at_call 7; (with_reducible refine (lives_any _ (Stand.tab HS0.out HT)).mono ?_); rintro e w1 ⟨rfl, hb1⟩; have HS1 := Lib.hid (Stand.on HS0.out hb1); clear hb1; obtain ⟨hz, c0, c1, c2, c3, c4, c5, c6, c7, c8⟩ := InsAt.facts (Stand.ins HS1.out))
    | (go_at_call 9; (with_reducible refine (Check_ok i HN _).mono ?_); rintro e w2 ⟨rfl, hb2⟩; have HS2 := Lib.hid (Stand.on HS1.out hb2); clear hb2; obtain ⟨hz, c0, c1, c2, c3, c4, c5, c6, c7, c8⟩ := InsAt.facts (Stand.ins HS2.out)))
  go_cut [5, 6, 7, 8] (fun t5 t6 t7 t8 wx => ∃ p q r s, t5 = .pointer (some ⟨p, 0, none⟩) ∧ t6 = .pointer (some ⟨q, 0, none⟩) ∧ t7 = .pointer (some ⟨r, 0, none⟩) ∧ t8 = .pointer (some ⟨s, 0, none⟩) ∧ Hid (Four i w wx p q r s) ∧ Hid (Stand i w wx))
  case first =>
    refine wp_region_four ⟨rfl, ?_, ?_, ?_, ?_, ?_⟩ (by kernel_rfl) i w _ _ (by simp) rfl HS2.out ?_
    · intro k hk
      match k, hk with
      | 0, _ => exact ⟨_, rfl, rfl, rfl, rfl⟩
      | 1, _ => exact ⟨_, rfl, rfl, rfl, rfl⟩
      | 2, _ => exact ⟨_, rfl, rfl, rfl, rfl⟩
      | 3, _ => exact ⟨_, rfl, rfl, rfl, rfl⟩
    · intro k hk
      match k, hk with
      | 0, _ => exact ⟨_, rfl, rfl, rfl, rfl⟩
      | 1, _ => exact ⟨_, rfl, rfl, rfl, rfl⟩
      | 2, _ => exact ⟨_, rfl, rfl, rfl, rfl⟩
      | 3, _ => exact ⟨_, rfl, rfl, rfl, rfl⟩
    · intro k hk
      match k, hk with
      | 0, _ => exact ⟨_, rfl, rfl, rfl, rfl⟩
      | 1, _ => exact ⟨_, rfl, rfl, rfl, rfl⟩
      | 2, _ => exact ⟨_, rfl, rfl, rfl, rfl⟩
      | 3, _ => exact ⟨_, rfl, rfl, rfl, rfl⟩
    · intro l k hk hj
      have h := (ready_of hj).2.2
      clear hj
      match k, hk with
      | 0, _ => simp [Region.binds] at h; exact ⟨by simp [h], by simp [h]⟩
      | 1, _ => simp [Region.binds] at h; exact ⟨by simp [h], by simp [h]⟩
      | 2, _ => simp [Region.binds] at h; exact ⟨by simp [h], by simp [h]⟩
      | 3, _ => simp [Region.binds] at h; exact ⟨by simp [h], by simp [h]⟩
    · intro l hz hr
      have F : ∀ j, j < 12 → l.getD j false = false → l.getD j true = false := fun j hj h => by
        rw [Array.getD_eq_getD_getElem?, Array.getElem?_eq_getElem (by omega)] at h ⊢; exact h
      have a0 : l.getD 0 false = true := by
        cases hb : l.getD 0 false with
        | true => rfl
        | false => exact (not_ready hr (i := 0) (by decide) (F 0 (by decide) hb) (by simp [Region.binds])).elim
      have b0 : l[0]?.getD false = true := by rw [← Array.getD_eq_getD_getElem?]; exact a0
      have a1 : l.getD 1 false = true := by
        cases hb : l.getD 1 false with
        | true => rfl
        | false => exact (not_ready hr (i := 1) (by decide) (F 1 (by decide) hb) (by simp [Region.binds])).elim
      have b1 : l[1]?.getD false = true := by rw [← Array.getD_eq_getD_getElem?]; exact a1
      have a2 : l.getD 2 false = true := by
        cases hb : l.getD 2 false with
        | true => rfl
        | false => exact (not_ready hr (i := 2) (by decide) (F 2 (by decide) hb) (by simp [Region.binds])).elim
      have b2 : l[2]?.getD false = true := by rw [← Array.getD_eq_getD_getElem?]; exact a2
      have a3 : l.getD 3 false = true := by
        cases hb : l.getD 3 false with
        | true => rfl
        | false => exact (not_ready hr (i := 3) (by decide) (F 3 (by decide) hb) (by simp [Region.binds])).elim
      have b3 : l[3]?.getD false = true := by rw [← Array.getD_eq_getD_getElem?]; exact a3
      have a4 : l.getD 4 false = true := by
        cases hb : l.getD 4 false with
        | true => rfl
        | false => exact (not_ready hr (i := 4) (by decide) (F 4 (by decide) hb) (by simp [Region.binds])).elim
      have b4 : l[4]?.getD false = true := by rw [← Array.getD_eq_getD_getElem?]; exact a4
      have a5 : l.getD 5 false = true := by
        cases hb : l.getD 5 false with
        | true => rfl
        | false => exact (not_ready hr (i := 5) (by decide) (F 5 (by decide) hb) (by simp [Region.binds])).elim
      have b5 : l[5]?.getD false = true := by rw [← Array.getD_eq_getD_getElem?]; exact a5
      have a6 : l.getD 6 false = true := by
        cases hb : l.getD 6 false with
        | true => rfl
        | false => exact (not_ready hr (i := 6) (by decide) (F 6 (by decide) hb) (by simp [Region.binds])).elim
      have b6 : l[6]?.getD false = true := by rw [← Array.getD_eq_getD_getElem?]; exact a6
      have a7 : l.getD 7 false = true := by
        cases hb : l.getD 7 false with
        | true => rfl
        | false => exact (not_ready hr (i := 7) (by decide) (F 7 (by decide) hb) (by simp [Region.binds])).elim
      have b7 : l[7]?.getD false = true := by rw [← Array.getD_eq_getD_getElem?]; exact a7
      have a8 : l.getD 8 false = true := by
        cases hb : l.getD 8 false with
        | true => rfl
        | false => exact (not_ready hr (i := 8) (by decide) (F 8 (by decide) hb) (by simp [Region.binds, b0, b1, b2, b3, b4, b5, b6, b7])).elim
      have b8 : l[8]?.getD false = true := by rw [← Array.getD_eq_getD_getElem?]; exact a8
      have a9 : l.getD 9 false = true := by
        cases hb : l.getD 9 false with
        | true => rfl
        | false => exact (not_ready hr (i := 9) (by decide) (F 9 (by decide) hb) (by simp [Region.binds, b0, b1, b2, b3, b4, b5, b6, b7, b8])).elim
      have b9 : l[9]?.getD false = true := by rw [← Array.getD_eq_getD_getElem?]; exact a9
      have a10 : l.getD 10 false = true := by
        cases hb : l.getD 10 false with
        | true => rfl
        | false => exact (not_ready hr (i := 10) (by decide) (F 10 (by decide) hb) (by simp [Region.binds, b0, b1, b2, b3, b4, b5, b6, b7, b8, b9])).elim
      have b10 : l[10]?.getD false = true := by rw [← Array.getD_eq_getD_getElem?]; exact a10
      have a11 : l.getD 11 false = true := by
        cases hb : l.getD 11 false with
        | true => rfl
        | false => exact (not_ready hr (i := 11) (by decide) (F 11 (by decide) hb) (by simp [Region.binds, b0, b1, b2, b3, b4, b5, b6, b7, b8, b9, b10])).elim
      have b11 : l[11]?.getD false = true := by rw [← Array.getD_eq_getD_getElem?]; exact a11
      intro k hk
      match k, hk with
      | 0, _ => exact a0
      | 1, _ => exact a1
      | 2, _ => exact a2
      | 3, _ => exact a3
      | 4, _ => exact a4
      | 5, _ => exact a5
      | 6, _ => exact a6
      | 7, _ => exact a7
      | 8, _ => exact a8
      | 9, _ => exact a9
      | 10, _ => exact a10
      | 11, _ => exact a11
    · intro p q r' s wy hF hS
      simp only [slots, fourU, Act.put, List.setIfInBounds_toArray, List.set_cons_succ, List.set_cons_zero]
      go_wp2_with fail
      go_meet
      exact ⟨p, q, r', s, rfl, rfl, rfl, rfl, Lib.hid hF, Lib.hid hS⟩
  case rest =>
    obtain ⟨p, q, r', s, rfl, rfl, rfl, rfl, HF, HW⟩ := hcut
    have HP := Lib.hid (Four.facts HF.out)
    have hp := store_facts (Four.facts HF.out).1
    have hq := store_facts (Four.facts HF.out).2.1
    have hr := store_facts (Four.facts HF.out).2.2.1
    have hs := store_facts (Four.facts HF.out).2.2.2
    obtain ⟨_, hp1, fp1, _⟩ := hp
    obtain ⟨_, _, _, hq2, fq2, _⟩ := hq
    obtain ⟨_, _, _, _, _, hr3, fr3, _⟩ := hr
    obtain ⟨_, _, _, _, _, _, _, hs7, fs7⟩ := hs
    have HD := Lib.hid (Four.apart HF.out)
    obtain ⟨npq, npr, nps, nqr, nqs, nrs⟩ := Four.apart HF.out
    have HR := Lib.hid (pick_range r)
    obtain ⟨k, hk⟩ : ∃ k, pickI r 9 = k := ⟨_, rfl⟩
    have HK := Lib.hid hk
    rw [hk] at HR
    clear hk
    have hk0 := HR.out.1
    have hk1 := HR.out.2
    go_upto_region 8 with (go_at_call 18; (with_reducible refine (Pick_9 r k HK hr0 hr1 _).mono ?_); rintro e w' ⟨rfl, hw'⟩; subst w')
    have HB0 := Lib.hid (Four.bad HF.out HW.out k)
    generalize (((wc.setCell { block := p, off := 1 } (Value.int IntKind.i64 (32 + k))).setCell { block := q, off := 2 } (Value.int IntKind.i64 (-1 - k))).setCell { block := r', off := 3 } (Value.int IntKind.i64 32)).setCell { block := s, off := 7 } (Value.int IntKind.i64 16) = wd at HB0 ⊢
    have HNa := Lib.hid (no_rd i k hk0)
    have HNb := Lib.hid (no_rs1 i k hk0)
    have HNc := Lib.hid (no_rs2 i)
    have HNd := Lib.hid (no_pred i)
    clear hp1 fp1 hq2 fq2 hr3 fr3 hs7 fs7 HF HW HP
    obtain ⟨za, a0, a1, a2, a3, a4, a5, a6, a7, a8⟩ := InsAt.facts (Bad.a HB0.out)
    dsimp only at a0 a1 a2 a3 a4 a5 a6 a7 a8
    go_upto_region 10 with (first
      | (go_at_call 9; (with_reducible refine (Check_no ⟨i.op, 32 + k, i.rs1, i.rs2, i.imm, i.aq, i.rl, i.pred, i.succ⟩ HNa _).mono ?_); rintro e w5 ⟨rfl, hb5⟩; have HB1 := Lib.hid (Bad.on HB0.out hb5); clear hb5; obtain ⟨za, a0, a1, a2, a3, a4, a5, a6, a7, a8⟩ := InsAt.facts (Bad.b HB1.out); dsimp only at a0 a1 a2 a3 a4 a5 a6 a7 a8)
      | (go_at_call 9; (with_reducible refine (Check_no ⟨i.op, i.rd, -1 - k, i.rs2, i.imm, i.aq, i.rl, i.pred, i.succ⟩ HNb _).mono ?_); rintro e w6 ⟨rfl, hb6⟩; have HB2 := Lib.hid (Bad.on HB1.out hb6); clear hb6; obtain ⟨za, a0, a1, a2, a3, a4, a5, a6, a7, a8⟩ := InsAt.facts (Bad.c HB2.out); dsimp only at a0 a1 a2 a3 a4 a5 a6 a7 a8)
      | (go_at_call 9; (with_reducible refine (Check_no ⟨i.op, i.rd, i.rs1, 32, i.imm, i.aq, i.rl, i.pred, i.succ⟩ HNc _).mono ?_); rintro e w7 ⟨rfl, hb7⟩; have HB3 := Lib.hid (Bad.on HB2.out hb7); clear hb7; obtain ⟨za, a0, a1, a2, a3, a4, a5, a6, a7, a8⟩ := InsAt.facts (Bad.d HB3.out); dsimp only at a0 a1 a2 a3 a4 a5 a6 a7 a8)
      | (go_at_call 9; (with_reducible refine (Check_no ⟨i.op, i.rd, i.rs1, i.rs2, i.imm, i.aq, i.rl, 16, i.succ⟩ HNd _).mono ?_); rintro e w8 ⟨rfl, hb8⟩; have HW8 := Lib.hid (Bad.stand (Bad.on HB3.out hb8)); clear hb8; obtain ⟨hz, c0, c1, c2, c3, c4, c5, c6, c7, c8⟩ := InsAt.facts (Stand.ins HW8.out)))
    clear c0 c1 c2 c3 c4 c5 c6 c7 c8 hz
    obtain ⟨hz, c0, c1, c2, c3, c4, c5, c6, c7, c8⟩ := InsAt.facts (Stand.ins HW8.out)
    go_upto_region 13 with (go_at_call 12; (with_reducible refine (Form_any i.op _).mono ?_); rintro e w9 ⟨rfl, hb9⟩; have HE9 := Lib.hid (EAt.on (EAt.new HW8.out) hb9); clear hb9)
    go_cut [10, 76] (fun t s76 wx => t = .int .i64 (formOf i.op) ∧ s76 = .bool false ∧ Hid (Stand i w wx))
    case first =>
      obtain ⟨ze, e0, e1, e2, e3, e4, e5, e6, e7, e8⟩ := InsAt.facts (EAt.at HE9.out)
      dsimp only at e0 e1 e2 e3 e4 e5 e6 e7 e8
      have HM := Lib.hid (turned_ok i HN.out)
      by_cases h11 : formOf i.op = 11
      · have HT := Lib.hid (HM.out.1 (.inl h11))
        have h11b : (formOf i.op == 11) = true := by simpa using h11
        clear h11
        go_wp2_with (go_at_call 9; (with_reducible refine (Check_ok ⟨i.op, i.rd, i.rs1, i.rs2, i.imm, !i.aq, i.rl, i.pred, i.succ⟩ HT _).mono ?_); rintro e w10 ⟨rfl, hb10⟩; have HE10 := Lib.hid (EAt.stand (EAt.on HE9.out hb10)); clear hb10)
        go_meet
        exact ⟨rfl, rfl, HE10⟩
      · by_cases h12 : formOf i.op = 12
        · have HT := Lib.hid (HM.out.1 (.inr h12))
          have h11b : (formOf i.op == 11) = false := by simpa using h11
          have h12b : (formOf i.op == 12) = true := by simpa using h12
          clear h11 h12
          go_wp2_with (go_at_call 9; (with_reducible refine (Check_ok ⟨i.op, i.rd, i.rs1, i.rs2, i.imm, !i.aq, i.rl, i.pred, i.succ⟩ HT _).mono ?_); rintro e w10 ⟨rfl, hb10⟩; have HE10 := Lib.hid (EAt.stand (EAt.on HE9.out hb10)); clear hb10)
          go_meet
          exact ⟨rfl, rfl, HE10⟩
        · have HT := Lib.hid (HM.out.2 h11 h12)
          have h11b : (formOf i.op == 11) = false := by simpa using h11
          have h12b : (formOf i.op == 12) = false := by simpa using h12
          clear h11 h12
          go_wp2_with (go_at_call 9; (with_reducible refine (Check_no ⟨i.op, i.rd, i.rs1, i.rs2, i.imm, !i.aq, i.rl, i.pred, i.succ⟩ HT _).mono ?_); rintro e w10 ⟨rfl, hb10⟩; have HE10 := Lib.hid (EAt.stand (EAt.on HE9.out hb10)); clear hb10)
          go_meet
          exact ⟨rfl, rfl, HE10⟩
    case rest =>
      obtain ⟨rfl, rfl, HW⟩ := hcut
      clear c0 c1 c2 c3 c4 c5 c6 c7 c8 hz a0 a1 a2 a3 a4 a5 a6 a7 a8
      obtain ⟨hz, c0, c1, c2, c3, c4, c5, c6, c7, c8⟩ := InsAt.facts (Stand.ins HW.out)
      have HX := Lib.hid (reads_facts i HN.out)
      have HR0 := Lib.hid (Reads_ok i HN)
      unfold ReadsOk at HR0
      generalize readsL i = xs at HX HR0
      have hform : xs = [] ∨ (∃ x, xs = [x]) ∨ ∃ x y, xs = [x, y] := by
        have := HX.out.few
        match xs, this with
        | [], _ => exact .inl rfl
        | [x], _ => exact .inr (.inl ⟨x, rfl⟩)
        | [x, y], _ => exact .inr (.inr ⟨x, y, rfl⟩)
      rcases hform with rfl | ⟨x, rfl⟩ | ⟨x, y, rfl⟩
      · go_wp2_with (go_at_call 17; (with_reducible refine (HR0.out _).mono ?_); rintro e w11 ⟨g, c, rfl, hrr, hb11⟩; have HL := Lib.hid (show Loop i w w11 g ([] : List Int) from ⟨Stand.on HW.out hb11, hrr.2⟩); clear hrr hb11)
        go_loopw [12] (fun t wr => t = .int .i64 0 ∧ Hid (Loop i w wr g ([] : List Int))) (fun t _ => 0 - (intOf t).toNat)
        case atStart => exact ⟨rfl, HL⟩
        case round =>
          obtain ⟨ht, HL2⟩ := hrel
          clear c0 c1 c2 c3 c4 c5 c6 c7 c8 hz
          obtain ⟨hz, c0, c1, c2, c3, c4, c5, c6, c7, c8⟩ := InsAt.facts (Stand.ins (Loop.stand HL2.out))
          subst ht
          go_wp2_with fail
          go_region_held3 (fun w' => w'.cell? ⟨w.heap.size, 0, none⟩ = some (.int .i64 i.op) ∧ w'.cell? ⟨w.heap.size, 1, none⟩ = some (.int .i64 i.rd) ∧ w'.cell? ⟨w.heap.size, 2, none⟩ = some (.int .i64 i.rs1) ∧ w'.cell? ⟨w.heap.size, 3, none⟩ = some (.int .i64 i.rs2) ∧ w'.cell? ⟨w.heap.size, 4, none⟩ = some (.int .i64 i.imm) ∧ w'.cell? ⟨w.heap.size, 5, none⟩ = some (.bool i.aq) ∧ w'.cell? ⟨w.heap.size, 6, none⟩ = some (.bool i.rl) ∧ w'.cell? ⟨w.heap.size, 7, none⟩ = some (.int .i64 i.pred) ∧ w'.cell? ⟨w.heap.size, 8, none⟩ = some (.int .i64 i.succ)) (exact ⟨c0, c1, c2, c3, c4, c5, c6, c7, c8⟩) ((go_at_call 16; (with_reducible refine (Writes_ok i HN _).mono ?_); rintro e w12 ⟨rfl, hb12⟩; have HS12 := Lib.hid (Stand.on (Stand.drew (Loop.stand HL2.out)) hb12); clear hb12; obtain ⟨hz, c0, c1, c2, c3, c4, c5, c6, c7, c8⟩ := InsAt.facts (Stand.ins HS12.out)))
          go_wp2_with fail
          go_ret
          exact ⟨rfl, Stand.below HS12.out⟩
      · go_wp2_with (go_at_call 17; (with_reducible refine (HR0.out _).mono ?_); rintro e w11 ⟨g, c, rfl, hrr, hb11⟩; have HL := Lib.hid (show Loop i w w11 g [x] from ⟨Stand.on HW.out hb11, hrr.2⟩); clear hrr hb11)
        go_loopw [12] (fun t wr => (t = .int .i64 0 ∨ t = .int .i64 1) ∧ Hid (Loop i w wr g [x])) (fun t _ => 1 - (intOf t).toNat)
        case atStart => exact ⟨.inl rfl, HL⟩
        case round =>
          obtain ⟨ht, HL2⟩ := hrel
          clear c0 c1 c2 c3 c4 c5 c6 c7 c8 hz
          obtain ⟨hz, c0, c1, c2, c3, c4, c5, c6, c7, c8⟩ := InsAt.facts (Stand.ins (Loop.stand HL2.out))
          rcases ht with rfl | rfl
          · skip
            have e0 : wr.cell? ⟨g, 0, none⟩ = some (.int .i64 x) := HL2.out.2 0 (by simp)
            have hrg : 1 ≤ x ∧ x ≤ 31 := HX.out.range 0 (by simp)
            have hl_x : decide (x < 1) = false := by simp; omega
            have hg_x : decide (31 < x) = false := by simp; omega
            clear hrg
            by_cases hop : i.op = 64
            · have h64 : (i.op != 64) = false := by simp [hop]
              clear hop
              go_wp2_with fail
              try simp only [List.append_eq, List.cons_append, List.nil_append]
              refine wp_region_still_lit (by kernel_rfl) (by kernel_rfl) ?_
              refine wpStill_val (.slice (some ⟨g, 0, none⟩) 1 c) (by as_aux_lemma => kernel_rfl) (by as_aux_lemma => kernel_rfl) ?_
              simp only [Act.put, List.setIfInBounds_toArray, List.set_cons_succ, List.set_cons_zero]
              refine wpStill_val (.int .i64 0) (by as_aux_lemma => kernel_rfl) (by as_aux_lemma => kernel_rfl) ?_
              simp only [Act.put, List.setIfInBounds_toArray, List.set_cons_succ, List.set_cons_zero]
              refine wpStill_val (.pointer (some ⟨g, 0, none⟩)) (by as_aux_lemma => kernel_rfl) (by as_aux_lemma => kernel_rfl) ?_
              simp only [Act.put, List.setIfInBounds_toArray, List.set_cons_succ, List.set_cons_zero]
              refine wpStill_load 3 (.tmp 87) ⟨g, 0, none⟩ (.int .i64 x) (by as_aux_lemma => kernel_rfl) rfl (by as_aux_lemma => kernel_rfl) (Tryd.isAgg3 _) e0 ?_
              simp only [Act.put, List.setIfInBounds_toArray, List.set_cons_succ, List.set_cons_zero]
              refine wpStill_val (.bool (decide (x < 1))) (by as_aux_lemma => kernel_rfl) (by as_aux_lemma => kernel_rfl) ?_
              simp only [Act.put, List.setIfInBounds_toArray, List.set_cons_succ, List.set_cons_zero, hl_x]
              refine wpStill_val (.bool false) (by as_aux_lemma => kernel_rfl) (by as_aux_lemma => kernel_rfl) ?_
              simp only [Act.put, List.setIfInBounds_toArray, List.set_cons_succ, List.set_cons_zero]
              refine wpStill_val (.slice (some ⟨g, 0, none⟩) 1 c) (by as_aux_lemma => kernel_rfl) (by as_aux_lemma => kernel_rfl) ?_
              simp only [Act.put, List.setIfInBounds_toArray, List.set_cons_succ, List.set_cons_zero]
              refine wpStill_val (.int .i64 0) (by as_aux_lemma => kernel_rfl) (by as_aux_lemma => kernel_rfl) ?_
              simp only [Act.put, List.setIfInBounds_toArray, List.set_cons_succ, List.set_cons_zero]
              refine wpStill_val (.pointer (some ⟨g, 0, none⟩)) (by as_aux_lemma => kernel_rfl) (by as_aux_lemma => kernel_rfl) ?_
              simp only [Act.put, List.setIfInBounds_toArray, List.set_cons_succ, List.set_cons_zero]
              refine wpStill_load 3 (.tmp 93) ⟨g, 0, none⟩ (.int .i64 x) (by as_aux_lemma => kernel_rfl) rfl (by as_aux_lemma => kernel_rfl) (Tryd.isAgg3 _) e0 ?_
              simp only [Act.put, List.setIfInBounds_toArray, List.set_cons_succ, List.set_cons_zero]
              refine wpStill_val (.bool (decide (31 < x))) (by as_aux_lemma => kernel_rfl) (by as_aux_lemma => kernel_rfl) ?_
              simp only [Act.put, List.setIfInBounds_toArray, List.set_cons_succ, List.set_cons_zero, hg_x]
              refine wpStill_val (.bool false) (by as_aux_lemma => kernel_rfl) (by as_aux_lemma => kernel_rfl) ?_
              simp only [Act.put, List.setIfInBounds_toArray, List.set_cons_succ, List.set_cons_zero]
              refine wpStill_val (.bool false) (by as_aux_lemma => kernel_rfl) (by as_aux_lemma => kernel_rfl) ?_
              simp only [Act.put, List.setIfInBounds_toArray, List.set_cons_succ, List.set_cons_zero]
              refine wpStill_val (.int .i64 0) (by as_aux_lemma => kernel_rfl) (by as_aux_lemma => kernel_rfl) ?_
              simp only [Act.put, List.setIfInBounds_toArray, List.set_cons_succ, List.set_cons_zero]
              refine wpStill_val (.bool false) (by as_aux_lemma => kernel_rfl) (by as_aux_lemma => kernel_rfl) ?_
              simp only [Act.put, List.setIfInBounds_toArray, List.set_cons_succ, List.set_cons_zero]
              refine wpStill_val (.bool false) (by as_aux_lemma => kernel_rfl) (by as_aux_lemma => kernel_rfl) ?_
              simp only [Act.put, List.setIfInBounds_toArray, List.set_cons_succ, List.set_cons_zero]
              refine wpStill_skip (by as_aux_lemma => kernel_rfl) ?_
              simp only [Act.put, List.setIfInBounds_toArray, List.set_cons_succ, List.set_cons_zero]
              refine wpStill_skip (by as_aux_lemma => kernel_rfl) ?_
              simp only [Act.put, List.setIfInBounds_toArray, List.set_cons_succ, List.set_cons_zero]
              refine wpStill_skip (by as_aux_lemma => kernel_rfl) ?_
              simp only [Act.put, List.setIfInBounds_toArray, List.set_cons_succ, List.set_cons_zero]
              refine wpStill_skip (by as_aux_lemma => kernel_rfl) ?_
              simp only [Act.put, List.setIfInBounds_toArray, List.set_cons_succ, List.set_cons_zero]
              refine wpStill_skip (by as_aux_lemma => kernel_rfl) ?_
              simp only [Act.put, List.setIfInBounds_toArray, List.set_cons_succ, List.set_cons_zero]
              refine wpStill_skip (by as_aux_lemma => kernel_rfl) ?_
              simp only [Act.put, List.setIfInBounds_toArray, List.set_cons_succ, List.set_cons_zero]
              refine wpStill_skip (by as_aux_lemma => kernel_rfl) ?_
              simp only [Act.put, List.setIfInBounds_toArray, List.set_cons_succ, List.set_cons_zero]
              refine wpStill_skip (by as_aux_lemma => kernel_rfl) ?_
              simp only [Act.put, List.setIfInBounds_toArray, List.set_cons_succ, List.set_cons_zero]
              refine wpStill_skip (by as_aux_lemma => kernel_rfl) ?_
              simp only [Act.put, List.setIfInBounds_toArray, List.set_cons_succ, List.set_cons_zero]
              refine wpStill_skip (by as_aux_lemma => kernel_rfl) ?_
              simp only [Act.put, List.setIfInBounds_toArray, List.set_cons_succ, List.set_cons_zero]
              refine wpStill_val (.bool false) (by as_aux_lemma => kernel_rfl) (by as_aux_lemma => kernel_rfl) ?_
              simp only [Act.put, List.setIfInBounds_toArray, List.set_cons_succ, List.set_cons_zero]
              refine wpStill_val (.bool false) (by as_aux_lemma => kernel_rfl) (by as_aux_lemma => kernel_rfl) ?_
              simp only [Act.put, List.setIfInBounds_toArray, List.set_cons_succ, List.set_cons_zero]
              refine wpStill_val (.bool false) (by as_aux_lemma => kernel_rfl) (by as_aux_lemma => kernel_rfl) ?_
              simp only [Act.put, List.setIfInBounds_toArray, List.set_cons_succ, List.set_cons_zero]
              refine wpStill_val (.pointer (some ⟨w.heap.size, 0, none⟩)) (by as_aux_lemma => kernel_rfl) (by as_aux_lemma => kernel_rfl) ?_
              simp only [Act.put, List.setIfInBounds_toArray, List.set_cons_succ, List.set_cons_zero]
              refine wpStill_load 3 (.tmp 114) ⟨w.heap.size, 0, none⟩ (.int .i64 i.op) (by as_aux_lemma => kernel_rfl) rfl (by as_aux_lemma => kernel_rfl) (Tryd.isAgg3 _) c0 ?_
              simp only [Act.put, List.setIfInBounds_toArray, List.set_cons_succ, List.set_cons_zero]
              refine wpStill_val (.bool (i.op != 64)) (by as_aux_lemma => kernel_rfl) (by as_aux_lemma => kernel_rfl) ?_
              simp only [Act.put, List.setIfInBounds_toArray, List.set_cons_succ, List.set_cons_zero, h64]
              refine wpStill_val (.bool false) (by as_aux_lemma => kernel_rfl) (by as_aux_lemma => kernel_rfl) ?_
              simp only [Act.put, List.setIfInBounds_toArray, List.set_cons_succ, List.set_cons_zero]
              refine wpStill_skip (by as_aux_lemma => kernel_rfl) ?_
              simp only [Act.put, List.setIfInBounds_toArray, List.set_cons_succ, List.set_cons_zero]
              refine wpStill_skip (by as_aux_lemma => kernel_rfl) ?_
              simp only [Act.put, List.setIfInBounds_toArray, List.set_cons_succ, List.set_cons_zero]
              refine wpStill_skip (by as_aux_lemma => kernel_rfl) ?_
              simp only [Act.put, List.setIfInBounds_toArray, List.set_cons_succ, List.set_cons_zero]
              refine wpStill_skip (by as_aux_lemma => kernel_rfl) ?_
              simp only [Act.put, List.setIfInBounds_toArray, List.set_cons_succ, List.set_cons_zero]
              refine wpStill_skip (by as_aux_lemma => kernel_rfl) ?_
              simp only [Act.put, List.setIfInBounds_toArray, List.set_cons_succ, List.set_cons_zero]
              refine wpStill_skip (by as_aux_lemma => kernel_rfl) ?_
              simp only [Act.put, List.setIfInBounds_toArray, List.set_cons_succ, List.set_cons_zero]
              refine wpStill_skip (by as_aux_lemma => kernel_rfl) ?_
              simp only [Act.put, List.setIfInBounds_toArray, List.set_cons_succ, List.set_cons_zero]
              refine wpStill_val (.bool false) (by as_aux_lemma => kernel_rfl) (by as_aux_lemma => kernel_rfl) ?_
              simp only [Act.put, List.setIfInBounds_toArray, List.set_cons_succ, List.set_cons_zero]
              refine wpStill_val (.bool false) (by as_aux_lemma => kernel_rfl) (by as_aux_lemma => kernel_rfl) ?_
              simp only [Act.put, List.setIfInBounds_toArray, List.set_cons_succ, List.set_cons_zero]
              refine wpStill_skip (by as_aux_lemma => kernel_rfl) ?_
              simp only [Act.put, List.setIfInBounds_toArray, List.set_cons_succ, List.set_cons_zero]
              refine wpStill_skip (by as_aux_lemma => kernel_rfl) ?_
              simp only [Act.put, List.setIfInBounds_toArray, List.set_cons_succ, List.set_cons_zero]
              refine wpStill_skip (by as_aux_lemma => kernel_rfl) ?_
              simp only [Act.put, List.setIfInBounds_toArray, List.set_cons_succ, List.set_cons_zero]
              refine wpStill_skip (by as_aux_lemma => kernel_rfl) ?_
              simp only [Act.put, List.setIfInBounds_toArray, List.set_cons_succ, List.set_cons_zero]
              refine wpStill_skip (by as_aux_lemma => kernel_rfl) ?_
              simp only [Act.put, List.setIfInBounds_toArray, List.set_cons_succ, List.set_cons_zero]
              refine wpStill_skip (by as_aux_lemma => kernel_rfl) ?_
              simp only [Act.put, List.setIfInBounds_toArray, List.set_cons_succ, List.set_cons_zero]
              refine wpStill_skip (by as_aux_lemma => kernel_rfl) ?_
              simp only [Act.put, List.setIfInBounds_toArray, List.set_cons_succ, List.set_cons_zero]
              refine wpStill_val (.bool false) (by as_aux_lemma => kernel_rfl) (by as_aux_lemma => kernel_rfl) ?_
              simp only [Act.put, List.setIfInBounds_toArray, List.set_cons_succ, List.set_cons_zero]
              refine wpStill_val (.bool false) (by as_aux_lemma => kernel_rfl) (by as_aux_lemma => kernel_rfl) ?_
              simp only [Act.put, List.setIfInBounds_toArray, List.set_cons_succ, List.set_cons_zero]
              refine wpStill_nil ?_
              go_wp2_with fail
              go_roundw
              case rel => exact ⟨.inr rfl, Lib.hid (Loop.drew HL2.out)⟩
              case measure => simp [intOf]
            · have h64 : (i.op != 64) = true := by simp [hop]
              have how : x = i.rs1 ∨ x = i.rs2 := HX.out.own hop 0 (by simp)
              clear hop
              by_cases h1 : x = i.rs1
              · have hn1 : (x != i.rs1) = false := by simp [h1]
                clear how h1
                go_wp2_with fail
                try simp only [List.append_eq, List.cons_append, List.nil_append]
                refine wp_region_still_lit (by kernel_rfl) (by kernel_rfl) ?_
                refine wpStill_val (.slice (some ⟨g, 0, none⟩) 1 c) (by as_aux_lemma => kernel_rfl) (by as_aux_lemma => kernel_rfl) ?_
                simp only [Act.put, List.setIfInBounds_toArray, List.set_cons_succ, List.set_cons_zero]
                refine wpStill_val (.int .i64 0) (by as_aux_lemma => kernel_rfl) (by as_aux_lemma => kernel_rfl) ?_
                simp only [Act.put, List.setIfInBounds_toArray, List.set_cons_succ, List.set_cons_zero]
                refine wpStill_val (.pointer (some ⟨g, 0, none⟩)) (by as_aux_lemma => kernel_rfl) (by as_aux_lemma => kernel_rfl) ?_
                simp only [Act.put, List.setIfInBounds_toArray, List.set_cons_succ, List.set_cons_zero]
                refine wpStill_load 3 (.tmp 87) ⟨g, 0, none⟩ (.int .i64 x) (by as_aux_lemma => kernel_rfl) rfl (by as_aux_lemma => kernel_rfl) (Tryd.isAgg3 _) e0 ?_
                simp only [Act.put, List.setIfInBounds_toArray, List.set_cons_succ, List.set_cons_zero]
                refine wpStill_val (.bool (decide (x < 1))) (by as_aux_lemma => kernel_rfl) (by as_aux_lemma => kernel_rfl) ?_
                simp only [Act.put, List.setIfInBounds_toArray, List.set_cons_succ, List.set_cons_zero, hl_x]
                refine wpStill_val (.bool false) (by as_aux_lemma => kernel_rfl) (by as_aux_lemma => kernel_rfl) ?_
                simp only [Act.put, List.setIfInBounds_toArray, List.set_cons_succ, List.set_cons_zero]
                refine wpStill_val (.slice (some ⟨g, 0, none⟩) 1 c) (by as_aux_lemma => kernel_rfl) (by as_aux_lemma => kernel_rfl) ?_
                simp only [Act.put, List.setIfInBounds_toArray, List.set_cons_succ, List.set_cons_zero]
                refine wpStill_val (.int .i64 0) (by as_aux_lemma => kernel_rfl) (by as_aux_lemma => kernel_rfl) ?_
                simp only [Act.put, List.setIfInBounds_toArray, List.set_cons_succ, List.set_cons_zero]
                refine wpStill_val (.pointer (some ⟨g, 0, none⟩)) (by as_aux_lemma => kernel_rfl) (by as_aux_lemma => kernel_rfl) ?_
                simp only [Act.put, List.setIfInBounds_toArray, List.set_cons_succ, List.set_cons_zero]
                refine wpStill_load 3 (.tmp 93) ⟨g, 0, none⟩ (.int .i64 x) (by as_aux_lemma => kernel_rfl) rfl (by as_aux_lemma => kernel_rfl) (Tryd.isAgg3 _) e0 ?_
                simp only [Act.put, List.setIfInBounds_toArray, List.set_cons_succ, List.set_cons_zero]
                refine wpStill_val (.bool (decide (31 < x))) (by as_aux_lemma => kernel_rfl) (by as_aux_lemma => kernel_rfl) ?_
                simp only [Act.put, List.setIfInBounds_toArray, List.set_cons_succ, List.set_cons_zero, hg_x]
                refine wpStill_val (.bool false) (by as_aux_lemma => kernel_rfl) (by as_aux_lemma => kernel_rfl) ?_
                simp only [Act.put, List.setIfInBounds_toArray, List.set_cons_succ, List.set_cons_zero]
                refine wpStill_val (.bool false) (by as_aux_lemma => kernel_rfl) (by as_aux_lemma => kernel_rfl) ?_
                simp only [Act.put, List.setIfInBounds_toArray, List.set_cons_succ, List.set_cons_zero]
                refine wpStill_val (.int .i64 0) (by as_aux_lemma => kernel_rfl) (by as_aux_lemma => kernel_rfl) ?_
                simp only [Act.put, List.setIfInBounds_toArray, List.set_cons_succ, List.set_cons_zero]
                refine wpStill_val (.bool false) (by as_aux_lemma => kernel_rfl) (by as_aux_lemma => kernel_rfl) ?_
                simp only [Act.put, List.setIfInBounds_toArray, List.set_cons_succ, List.set_cons_zero]
                refine wpStill_val (.bool false) (by as_aux_lemma => kernel_rfl) (by as_aux_lemma => kernel_rfl) ?_
                simp only [Act.put, List.setIfInBounds_toArray, List.set_cons_succ, List.set_cons_zero]
                refine wpStill_skip (by as_aux_lemma => kernel_rfl) ?_
                simp only [Act.put, List.setIfInBounds_toArray, List.set_cons_succ, List.set_cons_zero]
                refine wpStill_skip (by as_aux_lemma => kernel_rfl) ?_
                simp only [Act.put, List.setIfInBounds_toArray, List.set_cons_succ, List.set_cons_zero]
                refine wpStill_skip (by as_aux_lemma => kernel_rfl) ?_
                simp only [Act.put, List.setIfInBounds_toArray, List.set_cons_succ, List.set_cons_zero]
                refine wpStill_skip (by as_aux_lemma => kernel_rfl) ?_
                simp only [Act.put, List.setIfInBounds_toArray, List.set_cons_succ, List.set_cons_zero]
                refine wpStill_skip (by as_aux_lemma => kernel_rfl) ?_
                simp only [Act.put, List.setIfInBounds_toArray, List.set_cons_succ, List.set_cons_zero]
                refine wpStill_skip (by as_aux_lemma => kernel_rfl) ?_
                simp only [Act.put, List.setIfInBounds_toArray, List.set_cons_succ, List.set_cons_zero]
                refine wpStill_skip (by as_aux_lemma => kernel_rfl) ?_
                simp only [Act.put, List.setIfInBounds_toArray, List.set_cons_succ, List.set_cons_zero]
                refine wpStill_skip (by as_aux_lemma => kernel_rfl) ?_
                simp only [Act.put, List.setIfInBounds_toArray, List.set_cons_succ, List.set_cons_zero]
                refine wpStill_skip (by as_aux_lemma => kernel_rfl) ?_
                simp only [Act.put, List.setIfInBounds_toArray, List.set_cons_succ, List.set_cons_zero]
                refine wpStill_skip (by as_aux_lemma => kernel_rfl) ?_
                simp only [Act.put, List.setIfInBounds_toArray, List.set_cons_succ, List.set_cons_zero]
                refine wpStill_val (.bool false) (by as_aux_lemma => kernel_rfl) (by as_aux_lemma => kernel_rfl) ?_
                simp only [Act.put, List.setIfInBounds_toArray, List.set_cons_succ, List.set_cons_zero]
                refine wpStill_val (.bool false) (by as_aux_lemma => kernel_rfl) (by as_aux_lemma => kernel_rfl) ?_
                simp only [Act.put, List.setIfInBounds_toArray, List.set_cons_succ, List.set_cons_zero]
                refine wpStill_val (.bool false) (by as_aux_lemma => kernel_rfl) (by as_aux_lemma => kernel_rfl) ?_
                simp only [Act.put, List.setIfInBounds_toArray, List.set_cons_succ, List.set_cons_zero]
                refine wpStill_val (.pointer (some ⟨w.heap.size, 0, none⟩)) (by as_aux_lemma => kernel_rfl) (by as_aux_lemma => kernel_rfl) ?_
                simp only [Act.put, List.setIfInBounds_toArray, List.set_cons_succ, List.set_cons_zero]
                refine wpStill_load 3 (.tmp 114) ⟨w.heap.size, 0, none⟩ (.int .i64 i.op) (by as_aux_lemma => kernel_rfl) rfl (by as_aux_lemma => kernel_rfl) (Tryd.isAgg3 _) c0 ?_
                simp only [Act.put, List.setIfInBounds_toArray, List.set_cons_succ, List.set_cons_zero]
                refine wpStill_val (.bool (i.op != 64)) (by as_aux_lemma => kernel_rfl) (by as_aux_lemma => kernel_rfl) ?_
                simp only [Act.put, List.setIfInBounds_toArray, List.set_cons_succ, List.set_cons_zero, h64]
                refine wpStill_val (.bool true) (by as_aux_lemma => kernel_rfl) (by as_aux_lemma => kernel_rfl) ?_
                simp only [Act.put, List.setIfInBounds_toArray, List.set_cons_succ, List.set_cons_zero]
                refine wpStill_val (.slice (some ⟨g, 0, none⟩) 1 c) (by as_aux_lemma => kernel_rfl) (by as_aux_lemma => kernel_rfl) ?_
                simp only [Act.put, List.setIfInBounds_toArray, List.set_cons_succ, List.set_cons_zero]
                refine wpStill_val (.int .i64 0) (by as_aux_lemma => kernel_rfl) (by as_aux_lemma => kernel_rfl) ?_
                simp only [Act.put, List.setIfInBounds_toArray, List.set_cons_succ, List.set_cons_zero]
                refine wpStill_val (.pointer (some ⟨g, 0, none⟩)) (by as_aux_lemma => kernel_rfl) (by as_aux_lemma => kernel_rfl) ?_
                simp only [Act.put, List.setIfInBounds_toArray, List.set_cons_succ, List.set_cons_zero]
                refine wpStill_load 3 (.tmp 120) ⟨g, 0, none⟩ (.int .i64 x) (by as_aux_lemma => kernel_rfl) rfl (by as_aux_lemma => kernel_rfl) (Tryd.isAgg3 _) e0 ?_
                simp only [Act.put, List.setIfInBounds_toArray, List.set_cons_succ, List.set_cons_zero]
                refine wpStill_val (.pointer (some ⟨w.heap.size, 2, none⟩)) (by as_aux_lemma => kernel_rfl) (by as_aux_lemma => kernel_rfl) ?_
                simp only [Act.put, List.setIfInBounds_toArray, List.set_cons_succ, List.set_cons_zero]
                refine wpStill_load 3 (.tmp 122) ⟨w.heap.size, 2, none⟩ (.int .i64 i.rs1) (by as_aux_lemma => kernel_rfl) rfl (by as_aux_lemma => kernel_rfl) (Tryd.isAgg3 _) c2 ?_
                simp only [Act.put, List.setIfInBounds_toArray, List.set_cons_succ, List.set_cons_zero]
                refine wpStill_val (.bool (x != i.rs1)) (by as_aux_lemma => kernel_rfl) (by as_aux_lemma => kernel_rfl) ?_
                simp only [Act.put, List.setIfInBounds_toArray, List.set_cons_succ, List.set_cons_zero, hn1]
                refine wpStill_val (.bool false) (by as_aux_lemma => kernel_rfl) (by as_aux_lemma => kernel_rfl) ?_
                simp only [Act.put, List.setIfInBounds_toArray, List.set_cons_succ, List.set_cons_zero]
                refine wpStill_val (.bool false) (by as_aux_lemma => kernel_rfl) (by as_aux_lemma => kernel_rfl) ?_
                simp only [Act.put, List.setIfInBounds_toArray, List.set_cons_succ, List.set_cons_zero]
                refine wpStill_skip (by as_aux_lemma => kernel_rfl) ?_
                simp only [Act.put, List.setIfInBounds_toArray, List.set_cons_succ, List.set_cons_zero]
                refine wpStill_skip (by as_aux_lemma => kernel_rfl) ?_
                simp only [Act.put, List.setIfInBounds_toArray, List.set_cons_succ, List.set_cons_zero]
                refine wpStill_skip (by as_aux_lemma => kernel_rfl) ?_
                simp only [Act.put, List.setIfInBounds_toArray, List.set_cons_succ, List.set_cons_zero]
                refine wpStill_skip (by as_aux_lemma => kernel_rfl) ?_
                simp only [Act.put, List.setIfInBounds_toArray, List.set_cons_succ, List.set_cons_zero]
                refine wpStill_skip (by as_aux_lemma => kernel_rfl) ?_
                simp only [Act.put, List.setIfInBounds_toArray, List.set_cons_succ, List.set_cons_zero]
                refine wpStill_skip (by as_aux_lemma => kernel_rfl) ?_
                simp only [Act.put, List.setIfInBounds_toArray, List.set_cons_succ, List.set_cons_zero]
                refine wpStill_skip (by as_aux_lemma => kernel_rfl) ?_
                simp only [Act.put, List.setIfInBounds_toArray, List.set_cons_succ, List.set_cons_zero]
                refine wpStill_val (.bool false) (by as_aux_lemma => kernel_rfl) (by as_aux_lemma => kernel_rfl) ?_
                simp only [Act.put, List.setIfInBounds_toArray, List.set_cons_succ, List.set_cons_zero]
                refine wpStill_val (.bool false) (by as_aux_lemma => kernel_rfl) (by as_aux_lemma => kernel_rfl) ?_
                simp only [Act.put, List.setIfInBounds_toArray, List.set_cons_succ, List.set_cons_zero]
                refine wpStill_nil ?_
                go_wp2_with fail
                go_roundw
                case rel => exact ⟨.inr rfl, Lib.hid (Loop.drew HL2.out)⟩
                case measure => simp [intOf]
              · have hn1 : (x != i.rs1) = true := by simp [h1]
                have hn2 : (x != i.rs2) = false := by have := how.resolve_left h1; simp [this]
                clear how h1
                go_wp2_with fail
                try simp only [List.append_eq, List.cons_append, List.nil_append]
                refine wp_region_still_lit (by kernel_rfl) (by kernel_rfl) ?_
                refine wpStill_val (.slice (some ⟨g, 0, none⟩) 1 c) (by as_aux_lemma => kernel_rfl) (by as_aux_lemma => kernel_rfl) ?_
                simp only [Act.put, List.setIfInBounds_toArray, List.set_cons_succ, List.set_cons_zero]
                refine wpStill_val (.int .i64 0) (by as_aux_lemma => kernel_rfl) (by as_aux_lemma => kernel_rfl) ?_
                simp only [Act.put, List.setIfInBounds_toArray, List.set_cons_succ, List.set_cons_zero]
                refine wpStill_val (.pointer (some ⟨g, 0, none⟩)) (by as_aux_lemma => kernel_rfl) (by as_aux_lemma => kernel_rfl) ?_
                simp only [Act.put, List.setIfInBounds_toArray, List.set_cons_succ, List.set_cons_zero]
                refine wpStill_load 3 (.tmp 87) ⟨g, 0, none⟩ (.int .i64 x) (by as_aux_lemma => kernel_rfl) rfl (by as_aux_lemma => kernel_rfl) (Tryd.isAgg3 _) e0 ?_
                simp only [Act.put, List.setIfInBounds_toArray, List.set_cons_succ, List.set_cons_zero]
                refine wpStill_val (.bool (decide (x < 1))) (by as_aux_lemma => kernel_rfl) (by as_aux_lemma => kernel_rfl) ?_
                simp only [Act.put, List.setIfInBounds_toArray, List.set_cons_succ, List.set_cons_zero, hl_x]
                refine wpStill_val (.bool false) (by as_aux_lemma => kernel_rfl) (by as_aux_lemma => kernel_rfl) ?_
                simp only [Act.put, List.setIfInBounds_toArray, List.set_cons_succ, List.set_cons_zero]
                refine wpStill_val (.slice (some ⟨g, 0, none⟩) 1 c) (by as_aux_lemma => kernel_rfl) (by as_aux_lemma => kernel_rfl) ?_
                simp only [Act.put, List.setIfInBounds_toArray, List.set_cons_succ, List.set_cons_zero]
                refine wpStill_val (.int .i64 0) (by as_aux_lemma => kernel_rfl) (by as_aux_lemma => kernel_rfl) ?_
                simp only [Act.put, List.setIfInBounds_toArray, List.set_cons_succ, List.set_cons_zero]
                refine wpStill_val (.pointer (some ⟨g, 0, none⟩)) (by as_aux_lemma => kernel_rfl) (by as_aux_lemma => kernel_rfl) ?_
                simp only [Act.put, List.setIfInBounds_toArray, List.set_cons_succ, List.set_cons_zero]
                refine wpStill_load 3 (.tmp 93) ⟨g, 0, none⟩ (.int .i64 x) (by as_aux_lemma => kernel_rfl) rfl (by as_aux_lemma => kernel_rfl) (Tryd.isAgg3 _) e0 ?_
                simp only [Act.put, List.setIfInBounds_toArray, List.set_cons_succ, List.set_cons_zero]
                refine wpStill_val (.bool (decide (31 < x))) (by as_aux_lemma => kernel_rfl) (by as_aux_lemma => kernel_rfl) ?_
                simp only [Act.put, List.setIfInBounds_toArray, List.set_cons_succ, List.set_cons_zero, hg_x]
                refine wpStill_val (.bool false) (by as_aux_lemma => kernel_rfl) (by as_aux_lemma => kernel_rfl) ?_
                simp only [Act.put, List.setIfInBounds_toArray, List.set_cons_succ, List.set_cons_zero]
                refine wpStill_val (.bool false) (by as_aux_lemma => kernel_rfl) (by as_aux_lemma => kernel_rfl) ?_
                simp only [Act.put, List.setIfInBounds_toArray, List.set_cons_succ, List.set_cons_zero]
                refine wpStill_val (.int .i64 0) (by as_aux_lemma => kernel_rfl) (by as_aux_lemma => kernel_rfl) ?_
                simp only [Act.put, List.setIfInBounds_toArray, List.set_cons_succ, List.set_cons_zero]
                refine wpStill_val (.bool false) (by as_aux_lemma => kernel_rfl) (by as_aux_lemma => kernel_rfl) ?_
                simp only [Act.put, List.setIfInBounds_toArray, List.set_cons_succ, List.set_cons_zero]
                refine wpStill_val (.bool false) (by as_aux_lemma => kernel_rfl) (by as_aux_lemma => kernel_rfl) ?_
                simp only [Act.put, List.setIfInBounds_toArray, List.set_cons_succ, List.set_cons_zero]
                refine wpStill_skip (by as_aux_lemma => kernel_rfl) ?_
                simp only [Act.put, List.setIfInBounds_toArray, List.set_cons_succ, List.set_cons_zero]
                refine wpStill_skip (by as_aux_lemma => kernel_rfl) ?_
                simp only [Act.put, List.setIfInBounds_toArray, List.set_cons_succ, List.set_cons_zero]
                refine wpStill_skip (by as_aux_lemma => kernel_rfl) ?_
                simp only [Act.put, List.setIfInBounds_toArray, List.set_cons_succ, List.set_cons_zero]
                refine wpStill_skip (by as_aux_lemma => kernel_rfl) ?_
                simp only [Act.put, List.setIfInBounds_toArray, List.set_cons_succ, List.set_cons_zero]
                refine wpStill_skip (by as_aux_lemma => kernel_rfl) ?_
                simp only [Act.put, List.setIfInBounds_toArray, List.set_cons_succ, List.set_cons_zero]
                refine wpStill_skip (by as_aux_lemma => kernel_rfl) ?_
                simp only [Act.put, List.setIfInBounds_toArray, List.set_cons_succ, List.set_cons_zero]
                refine wpStill_skip (by as_aux_lemma => kernel_rfl) ?_
                simp only [Act.put, List.setIfInBounds_toArray, List.set_cons_succ, List.set_cons_zero]
                refine wpStill_skip (by as_aux_lemma => kernel_rfl) ?_
                simp only [Act.put, List.setIfInBounds_toArray, List.set_cons_succ, List.set_cons_zero]
                refine wpStill_skip (by as_aux_lemma => kernel_rfl) ?_
                simp only [Act.put, List.setIfInBounds_toArray, List.set_cons_succ, List.set_cons_zero]
                refine wpStill_skip (by as_aux_lemma => kernel_rfl) ?_
                simp only [Act.put, List.setIfInBounds_toArray, List.set_cons_succ, List.set_cons_zero]
                refine wpStill_val (.bool false) (by as_aux_lemma => kernel_rfl) (by as_aux_lemma => kernel_rfl) ?_
                simp only [Act.put, List.setIfInBounds_toArray, List.set_cons_succ, List.set_cons_zero]
                refine wpStill_val (.bool false) (by as_aux_lemma => kernel_rfl) (by as_aux_lemma => kernel_rfl) ?_
                simp only [Act.put, List.setIfInBounds_toArray, List.set_cons_succ, List.set_cons_zero]
                refine wpStill_val (.bool false) (by as_aux_lemma => kernel_rfl) (by as_aux_lemma => kernel_rfl) ?_
                simp only [Act.put, List.setIfInBounds_toArray, List.set_cons_succ, List.set_cons_zero]
                refine wpStill_val (.pointer (some ⟨w.heap.size, 0, none⟩)) (by as_aux_lemma => kernel_rfl) (by as_aux_lemma => kernel_rfl) ?_
                simp only [Act.put, List.setIfInBounds_toArray, List.set_cons_succ, List.set_cons_zero]
                refine wpStill_load 3 (.tmp 114) ⟨w.heap.size, 0, none⟩ (.int .i64 i.op) (by as_aux_lemma => kernel_rfl) rfl (by as_aux_lemma => kernel_rfl) (Tryd.isAgg3 _) c0 ?_
                simp only [Act.put, List.setIfInBounds_toArray, List.set_cons_succ, List.set_cons_zero]
                refine wpStill_val (.bool (i.op != 64)) (by as_aux_lemma => kernel_rfl) (by as_aux_lemma => kernel_rfl) ?_
                simp only [Act.put, List.setIfInBounds_toArray, List.set_cons_succ, List.set_cons_zero, h64]
                refine wpStill_val (.bool true) (by as_aux_lemma => kernel_rfl) (by as_aux_lemma => kernel_rfl) ?_
                simp only [Act.put, List.setIfInBounds_toArray, List.set_cons_succ, List.set_cons_zero]
                refine wpStill_val (.slice (some ⟨g, 0, none⟩) 1 c) (by as_aux_lemma => kernel_rfl) (by as_aux_lemma => kernel_rfl) ?_
                simp only [Act.put, List.setIfInBounds_toArray, List.set_cons_succ, List.set_cons_zero]
                refine wpStill_val (.int .i64 0) (by as_aux_lemma => kernel_rfl) (by as_aux_lemma => kernel_rfl) ?_
                simp only [Act.put, List.setIfInBounds_toArray, List.set_cons_succ, List.set_cons_zero]
                refine wpStill_val (.pointer (some ⟨g, 0, none⟩)) (by as_aux_lemma => kernel_rfl) (by as_aux_lemma => kernel_rfl) ?_
                simp only [Act.put, List.setIfInBounds_toArray, List.set_cons_succ, List.set_cons_zero]
                refine wpStill_load 3 (.tmp 120) ⟨g, 0, none⟩ (.int .i64 x) (by as_aux_lemma => kernel_rfl) rfl (by as_aux_lemma => kernel_rfl) (Tryd.isAgg3 _) e0 ?_
                simp only [Act.put, List.setIfInBounds_toArray, List.set_cons_succ, List.set_cons_zero]
                refine wpStill_val (.pointer (some ⟨w.heap.size, 2, none⟩)) (by as_aux_lemma => kernel_rfl) (by as_aux_lemma => kernel_rfl) ?_
                simp only [Act.put, List.setIfInBounds_toArray, List.set_cons_succ, List.set_cons_zero]
                refine wpStill_load 3 (.tmp 122) ⟨w.heap.size, 2, none⟩ (.int .i64 i.rs1) (by as_aux_lemma => kernel_rfl) rfl (by as_aux_lemma => kernel_rfl) (Tryd.isAgg3 _) c2 ?_
                simp only [Act.put, List.setIfInBounds_toArray, List.set_cons_succ, List.set_cons_zero]
                refine wpStill_val (.bool (x != i.rs1)) (by as_aux_lemma => kernel_rfl) (by as_aux_lemma => kernel_rfl) ?_
                simp only [Act.put, List.setIfInBounds_toArray, List.set_cons_succ, List.set_cons_zero, hn1]
                refine wpStill_val (.bool true) (by as_aux_lemma => kernel_rfl) (by as_aux_lemma => kernel_rfl) ?_
                simp only [Act.put, List.setIfInBounds_toArray, List.set_cons_succ, List.set_cons_zero]
                refine wpStill_val (.bool true) (by as_aux_lemma => kernel_rfl) (by as_aux_lemma => kernel_rfl) ?_
                simp only [Act.put, List.setIfInBounds_toArray, List.set_cons_succ, List.set_cons_zero]
                refine wpStill_val (.slice (some ⟨g, 0, none⟩) 1 c) (by as_aux_lemma => kernel_rfl) (by as_aux_lemma => kernel_rfl) ?_
                simp only [Act.put, List.setIfInBounds_toArray, List.set_cons_succ, List.set_cons_zero]
                refine wpStill_val (.int .i64 0) (by as_aux_lemma => kernel_rfl) (by as_aux_lemma => kernel_rfl) ?_
                simp only [Act.put, List.setIfInBounds_toArray, List.set_cons_succ, List.set_cons_zero]
                refine wpStill_val (.pointer (some ⟨g, 0, none⟩)) (by as_aux_lemma => kernel_rfl) (by as_aux_lemma => kernel_rfl) ?_
                simp only [Act.put, List.setIfInBounds_toArray, List.set_cons_succ, List.set_cons_zero]
                refine wpStill_load 3 (.tmp 129) ⟨g, 0, none⟩ (.int .i64 x) (by as_aux_lemma => kernel_rfl) rfl (by as_aux_lemma => kernel_rfl) (Tryd.isAgg3 _) e0 ?_
                simp only [Act.put, List.setIfInBounds_toArray, List.set_cons_succ, List.set_cons_zero]
                refine wpStill_val (.pointer (some ⟨w.heap.size, 3, none⟩)) (by as_aux_lemma => kernel_rfl) (by as_aux_lemma => kernel_rfl) ?_
                simp only [Act.put, List.setIfInBounds_toArray, List.set_cons_succ, List.set_cons_zero]
                refine wpStill_load 3 (.tmp 131) ⟨w.heap.size, 3, none⟩ (.int .i64 i.rs2) (by as_aux_lemma => kernel_rfl) rfl (by as_aux_lemma => kernel_rfl) (Tryd.isAgg3 _) c3 ?_
                simp only [Act.put, List.setIfInBounds_toArray, List.set_cons_succ, List.set_cons_zero]
                refine wpStill_val (.bool (x != i.rs2)) (by as_aux_lemma => kernel_rfl) (by as_aux_lemma => kernel_rfl) ?_
                simp only [Act.put, List.setIfInBounds_toArray, List.set_cons_succ, List.set_cons_zero, hn2]
                refine wpStill_val (.bool false) (by as_aux_lemma => kernel_rfl) (by as_aux_lemma => kernel_rfl) ?_
                simp only [Act.put, List.setIfInBounds_toArray, List.set_cons_succ, List.set_cons_zero]
                refine wpStill_val (.bool false) (by as_aux_lemma => kernel_rfl) (by as_aux_lemma => kernel_rfl) ?_
                simp only [Act.put, List.setIfInBounds_toArray, List.set_cons_succ, List.set_cons_zero]
                refine wpStill_nil ?_
                go_wp2_with fail
                go_roundw
                case rel => exact ⟨.inr rfl, Lib.hid (Loop.drew HL2.out)⟩
                case measure => simp [intOf]
          · skip
            go_wp2_with fail
            go_region_held3 (fun w' => w'.cell? ⟨w.heap.size, 0, none⟩ = some (.int .i64 i.op) ∧ w'.cell? ⟨w.heap.size, 1, none⟩ = some (.int .i64 i.rd) ∧ w'.cell? ⟨w.heap.size, 2, none⟩ = some (.int .i64 i.rs1) ∧ w'.cell? ⟨w.heap.size, 3, none⟩ = some (.int .i64 i.rs2) ∧ w'.cell? ⟨w.heap.size, 4, none⟩ = some (.int .i64 i.imm) ∧ w'.cell? ⟨w.heap.size, 5, none⟩ = some (.bool i.aq) ∧ w'.cell? ⟨w.heap.size, 6, none⟩ = some (.bool i.rl) ∧ w'.cell? ⟨w.heap.size, 7, none⟩ = some (.int .i64 i.pred) ∧ w'.cell? ⟨w.heap.size, 8, none⟩ = some (.int .i64 i.succ)) (exact ⟨c0, c1, c2, c3, c4, c5, c6, c7, c8⟩) ((go_at_call 16; (with_reducible refine (Writes_ok i HN _).mono ?_); rintro e w12 ⟨rfl, hb12⟩; have HS12 := Lib.hid (Stand.on (Stand.drew (Loop.stand HL2.out)) hb12); clear hb12; obtain ⟨hz, c0, c1, c2, c3, c4, c5, c6, c7, c8⟩ := InsAt.facts (Stand.ins HS12.out)))
            go_wp2_with fail
            go_ret
            exact ⟨rfl, Stand.below HS12.out⟩
      · go_wp2_with (go_at_call 17; (with_reducible refine (HR0.out _).mono ?_); rintro e w11 ⟨g, c, rfl, hrr, hb11⟩; have HL := Lib.hid (show Loop i w w11 g [x, y] from ⟨Stand.on HW.out hb11, hrr.2⟩); clear hrr hb11)
        go_loopw [12] (fun t wr => (t = .int .i64 0 ∨ t = .int .i64 1 ∨ t = .int .i64 2) ∧ Hid (Loop i w wr g [x, y])) (fun t _ => 2 - (intOf t).toNat)
        case atStart => exact ⟨.inl rfl, HL⟩
        case round =>
          obtain ⟨ht, HL2⟩ := hrel
          clear c0 c1 c2 c3 c4 c5 c6 c7 c8 hz
          obtain ⟨hz, c0, c1, c2, c3, c4, c5, c6, c7, c8⟩ := InsAt.facts (Stand.ins (Loop.stand HL2.out))
          rcases ht with rfl | rfl | rfl
          · skip
            have e0 : wr.cell? ⟨g, 0, none⟩ = some (.int .i64 x) := HL2.out.2 0 (by simp)
            have e1 : wr.cell? ⟨g, 1, none⟩ = some (.int .i64 y) := HL2.out.2 1 (by simp)
            have hrg : 1 ≤ x ∧ x ≤ 31 := HX.out.range 0 (by simp)
            have hl_x : decide (x < 1) = false := by simp; omega
            have hg_x : decide (31 < x) = false := by simp; omega
            clear hrg
            by_cases hop : i.op = 64
            · have h64 : (i.op != 64) = false := by simp [hop]
              clear hop
              go_wp2_with fail
              try simp only [List.append_eq, List.cons_append, List.nil_append]
              refine wp_region_still_lit (by kernel_rfl) (by kernel_rfl) ?_
              refine wpStill_val (.slice (some ⟨g, 0, none⟩) 2 c) (by as_aux_lemma => kernel_rfl) (by as_aux_lemma => kernel_rfl) ?_
              simp only [Act.put, List.setIfInBounds_toArray, List.set_cons_succ, List.set_cons_zero]
              refine wpStill_val (.int .i64 0) (by as_aux_lemma => kernel_rfl) (by as_aux_lemma => kernel_rfl) ?_
              simp only [Act.put, List.setIfInBounds_toArray, List.set_cons_succ, List.set_cons_zero]
              refine wpStill_val (.pointer (some ⟨g, 0, none⟩)) (by as_aux_lemma => kernel_rfl) (by as_aux_lemma => kernel_rfl) ?_
              simp only [Act.put, List.setIfInBounds_toArray, List.set_cons_succ, List.set_cons_zero]
              refine wpStill_load 3 (.tmp 87) ⟨g, 0, none⟩ (.int .i64 x) (by as_aux_lemma => kernel_rfl) rfl (by as_aux_lemma => kernel_rfl) (Tryd.isAgg3 _) e0 ?_
              simp only [Act.put, List.setIfInBounds_toArray, List.set_cons_succ, List.set_cons_zero]
              refine wpStill_val (.bool (decide (x < 1))) (by as_aux_lemma => kernel_rfl) (by as_aux_lemma => kernel_rfl) ?_
              simp only [Act.put, List.setIfInBounds_toArray, List.set_cons_succ, List.set_cons_zero, hl_x]
              refine wpStill_val (.bool false) (by as_aux_lemma => kernel_rfl) (by as_aux_lemma => kernel_rfl) ?_
              simp only [Act.put, List.setIfInBounds_toArray, List.set_cons_succ, List.set_cons_zero]
              refine wpStill_val (.slice (some ⟨g, 0, none⟩) 2 c) (by as_aux_lemma => kernel_rfl) (by as_aux_lemma => kernel_rfl) ?_
              simp only [Act.put, List.setIfInBounds_toArray, List.set_cons_succ, List.set_cons_zero]
              refine wpStill_val (.int .i64 0) (by as_aux_lemma => kernel_rfl) (by as_aux_lemma => kernel_rfl) ?_
              simp only [Act.put, List.setIfInBounds_toArray, List.set_cons_succ, List.set_cons_zero]
              refine wpStill_val (.pointer (some ⟨g, 0, none⟩)) (by as_aux_lemma => kernel_rfl) (by as_aux_lemma => kernel_rfl) ?_
              simp only [Act.put, List.setIfInBounds_toArray, List.set_cons_succ, List.set_cons_zero]
              refine wpStill_load 3 (.tmp 93) ⟨g, 0, none⟩ (.int .i64 x) (by as_aux_lemma => kernel_rfl) rfl (by as_aux_lemma => kernel_rfl) (Tryd.isAgg3 _) e0 ?_
              simp only [Act.put, List.setIfInBounds_toArray, List.set_cons_succ, List.set_cons_zero]
              refine wpStill_val (.bool (decide (31 < x))) (by as_aux_lemma => kernel_rfl) (by as_aux_lemma => kernel_rfl) ?_
              simp only [Act.put, List.setIfInBounds_toArray, List.set_cons_succ, List.set_cons_zero, hg_x]
              refine wpStill_val (.bool false) (by as_aux_lemma => kernel_rfl) (by as_aux_lemma => kernel_rfl) ?_
              simp only [Act.put, List.setIfInBounds_toArray, List.set_cons_succ, List.set_cons_zero]
              refine wpStill_val (.bool false) (by as_aux_lemma => kernel_rfl) (by as_aux_lemma => kernel_rfl) ?_
              simp only [Act.put, List.setIfInBounds_toArray, List.set_cons_succ, List.set_cons_zero]
              refine wpStill_val (.int .i64 0) (by as_aux_lemma => kernel_rfl) (by as_aux_lemma => kernel_rfl) ?_
              simp only [Act.put, List.setIfInBounds_toArray, List.set_cons_succ, List.set_cons_zero]
              refine wpStill_val (.bool false) (by as_aux_lemma => kernel_rfl) (by as_aux_lemma => kernel_rfl) ?_
              simp only [Act.put, List.setIfInBounds_toArray, List.set_cons_succ, List.set_cons_zero]
              refine wpStill_val (.bool false) (by as_aux_lemma => kernel_rfl) (by as_aux_lemma => kernel_rfl) ?_
              simp only [Act.put, List.setIfInBounds_toArray, List.set_cons_succ, List.set_cons_zero]
              refine wpStill_skip (by as_aux_lemma => kernel_rfl) ?_
              simp only [Act.put, List.setIfInBounds_toArray, List.set_cons_succ, List.set_cons_zero]
              refine wpStill_skip (by as_aux_lemma => kernel_rfl) ?_
              simp only [Act.put, List.setIfInBounds_toArray, List.set_cons_succ, List.set_cons_zero]
              refine wpStill_skip (by as_aux_lemma => kernel_rfl) ?_
              simp only [Act.put, List.setIfInBounds_toArray, List.set_cons_succ, List.set_cons_zero]
              refine wpStill_skip (by as_aux_lemma => kernel_rfl) ?_
              simp only [Act.put, List.setIfInBounds_toArray, List.set_cons_succ, List.set_cons_zero]
              refine wpStill_skip (by as_aux_lemma => kernel_rfl) ?_
              simp only [Act.put, List.setIfInBounds_toArray, List.set_cons_succ, List.set_cons_zero]
              refine wpStill_skip (by as_aux_lemma => kernel_rfl) ?_
              simp only [Act.put, List.setIfInBounds_toArray, List.set_cons_succ, List.set_cons_zero]
              refine wpStill_skip (by as_aux_lemma => kernel_rfl) ?_
              simp only [Act.put, List.setIfInBounds_toArray, List.set_cons_succ, List.set_cons_zero]
              refine wpStill_skip (by as_aux_lemma => kernel_rfl) ?_
              simp only [Act.put, List.setIfInBounds_toArray, List.set_cons_succ, List.set_cons_zero]
              refine wpStill_skip (by as_aux_lemma => kernel_rfl) ?_
              simp only [Act.put, List.setIfInBounds_toArray, List.set_cons_succ, List.set_cons_zero]
              refine wpStill_skip (by as_aux_lemma => kernel_rfl) ?_
              simp only [Act.put, List.setIfInBounds_toArray, List.set_cons_succ, List.set_cons_zero]
              refine wpStill_val (.bool false) (by as_aux_lemma => kernel_rfl) (by as_aux_lemma => kernel_rfl) ?_
              simp only [Act.put, List.setIfInBounds_toArray, List.set_cons_succ, List.set_cons_zero]
              refine wpStill_val (.bool false) (by as_aux_lemma => kernel_rfl) (by as_aux_lemma => kernel_rfl) ?_
              simp only [Act.put, List.setIfInBounds_toArray, List.set_cons_succ, List.set_cons_zero]
              refine wpStill_val (.bool false) (by as_aux_lemma => kernel_rfl) (by as_aux_lemma => kernel_rfl) ?_
              simp only [Act.put, List.setIfInBounds_toArray, List.set_cons_succ, List.set_cons_zero]
              refine wpStill_val (.pointer (some ⟨w.heap.size, 0, none⟩)) (by as_aux_lemma => kernel_rfl) (by as_aux_lemma => kernel_rfl) ?_
              simp only [Act.put, List.setIfInBounds_toArray, List.set_cons_succ, List.set_cons_zero]
              refine wpStill_load 3 (.tmp 114) ⟨w.heap.size, 0, none⟩ (.int .i64 i.op) (by as_aux_lemma => kernel_rfl) rfl (by as_aux_lemma => kernel_rfl) (Tryd.isAgg3 _) c0 ?_
              simp only [Act.put, List.setIfInBounds_toArray, List.set_cons_succ, List.set_cons_zero]
              refine wpStill_val (.bool (i.op != 64)) (by as_aux_lemma => kernel_rfl) (by as_aux_lemma => kernel_rfl) ?_
              simp only [Act.put, List.setIfInBounds_toArray, List.set_cons_succ, List.set_cons_zero, h64]
              refine wpStill_val (.bool false) (by as_aux_lemma => kernel_rfl) (by as_aux_lemma => kernel_rfl) ?_
              simp only [Act.put, List.setIfInBounds_toArray, List.set_cons_succ, List.set_cons_zero]
              refine wpStill_skip (by as_aux_lemma => kernel_rfl) ?_
              simp only [Act.put, List.setIfInBounds_toArray, List.set_cons_succ, List.set_cons_zero]
              refine wpStill_skip (by as_aux_lemma => kernel_rfl) ?_
              simp only [Act.put, List.setIfInBounds_toArray, List.set_cons_succ, List.set_cons_zero]
              refine wpStill_skip (by as_aux_lemma => kernel_rfl) ?_
              simp only [Act.put, List.setIfInBounds_toArray, List.set_cons_succ, List.set_cons_zero]
              refine wpStill_skip (by as_aux_lemma => kernel_rfl) ?_
              simp only [Act.put, List.setIfInBounds_toArray, List.set_cons_succ, List.set_cons_zero]
              refine wpStill_skip (by as_aux_lemma => kernel_rfl) ?_
              simp only [Act.put, List.setIfInBounds_toArray, List.set_cons_succ, List.set_cons_zero]
              refine wpStill_skip (by as_aux_lemma => kernel_rfl) ?_
              simp only [Act.put, List.setIfInBounds_toArray, List.set_cons_succ, List.set_cons_zero]
              refine wpStill_skip (by as_aux_lemma => kernel_rfl) ?_
              simp only [Act.put, List.setIfInBounds_toArray, List.set_cons_succ, List.set_cons_zero]
              refine wpStill_val (.bool false) (by as_aux_lemma => kernel_rfl) (by as_aux_lemma => kernel_rfl) ?_
              simp only [Act.put, List.setIfInBounds_toArray, List.set_cons_succ, List.set_cons_zero]
              refine wpStill_val (.bool false) (by as_aux_lemma => kernel_rfl) (by as_aux_lemma => kernel_rfl) ?_
              simp only [Act.put, List.setIfInBounds_toArray, List.set_cons_succ, List.set_cons_zero]
              refine wpStill_skip (by as_aux_lemma => kernel_rfl) ?_
              simp only [Act.put, List.setIfInBounds_toArray, List.set_cons_succ, List.set_cons_zero]
              refine wpStill_skip (by as_aux_lemma => kernel_rfl) ?_
              simp only [Act.put, List.setIfInBounds_toArray, List.set_cons_succ, List.set_cons_zero]
              refine wpStill_skip (by as_aux_lemma => kernel_rfl) ?_
              simp only [Act.put, List.setIfInBounds_toArray, List.set_cons_succ, List.set_cons_zero]
              refine wpStill_skip (by as_aux_lemma => kernel_rfl) ?_
              simp only [Act.put, List.setIfInBounds_toArray, List.set_cons_succ, List.set_cons_zero]
              refine wpStill_skip (by as_aux_lemma => kernel_rfl) ?_
              simp only [Act.put, List.setIfInBounds_toArray, List.set_cons_succ, List.set_cons_zero]
              refine wpStill_skip (by as_aux_lemma => kernel_rfl) ?_
              simp only [Act.put, List.setIfInBounds_toArray, List.set_cons_succ, List.set_cons_zero]
              refine wpStill_skip (by as_aux_lemma => kernel_rfl) ?_
              simp only [Act.put, List.setIfInBounds_toArray, List.set_cons_succ, List.set_cons_zero]
              refine wpStill_val (.bool false) (by as_aux_lemma => kernel_rfl) (by as_aux_lemma => kernel_rfl) ?_
              simp only [Act.put, List.setIfInBounds_toArray, List.set_cons_succ, List.set_cons_zero]
              refine wpStill_val (.bool false) (by as_aux_lemma => kernel_rfl) (by as_aux_lemma => kernel_rfl) ?_
              simp only [Act.put, List.setIfInBounds_toArray, List.set_cons_succ, List.set_cons_zero]
              refine wpStill_nil ?_
              go_wp2_with fail
              go_roundw
              case rel => exact ⟨.inr (.inl rfl), Lib.hid (Loop.drew HL2.out)⟩
              case measure => simp [intOf]
            · have h64 : (i.op != 64) = true := by simp [hop]
              have how : x = i.rs1 ∨ x = i.rs2 := HX.out.own hop 0 (by simp)
              clear hop
              by_cases h1 : x = i.rs1
              · have hn1 : (x != i.rs1) = false := by simp [h1]
                clear how h1
                go_wp2_with fail
                try simp only [List.append_eq, List.cons_append, List.nil_append]
                refine wp_region_still_lit (by kernel_rfl) (by kernel_rfl) ?_
                refine wpStill_val (.slice (some ⟨g, 0, none⟩) 2 c) (by as_aux_lemma => kernel_rfl) (by as_aux_lemma => kernel_rfl) ?_
                simp only [Act.put, List.setIfInBounds_toArray, List.set_cons_succ, List.set_cons_zero]
                refine wpStill_val (.int .i64 0) (by as_aux_lemma => kernel_rfl) (by as_aux_lemma => kernel_rfl) ?_
                simp only [Act.put, List.setIfInBounds_toArray, List.set_cons_succ, List.set_cons_zero]
                refine wpStill_val (.pointer (some ⟨g, 0, none⟩)) (by as_aux_lemma => kernel_rfl) (by as_aux_lemma => kernel_rfl) ?_
                simp only [Act.put, List.setIfInBounds_toArray, List.set_cons_succ, List.set_cons_zero]
                refine wpStill_load 3 (.tmp 87) ⟨g, 0, none⟩ (.int .i64 x) (by as_aux_lemma => kernel_rfl) rfl (by as_aux_lemma => kernel_rfl) (Tryd.isAgg3 _) e0 ?_
                simp only [Act.put, List.setIfInBounds_toArray, List.set_cons_succ, List.set_cons_zero]
                refine wpStill_val (.bool (decide (x < 1))) (by as_aux_lemma => kernel_rfl) (by as_aux_lemma => kernel_rfl) ?_
                simp only [Act.put, List.setIfInBounds_toArray, List.set_cons_succ, List.set_cons_zero, hl_x]
                refine wpStill_val (.bool false) (by as_aux_lemma => kernel_rfl) (by as_aux_lemma => kernel_rfl) ?_
                simp only [Act.put, List.setIfInBounds_toArray, List.set_cons_succ, List.set_cons_zero]
                refine wpStill_val (.slice (some ⟨g, 0, none⟩) 2 c) (by as_aux_lemma => kernel_rfl) (by as_aux_lemma => kernel_rfl) ?_
                simp only [Act.put, List.setIfInBounds_toArray, List.set_cons_succ, List.set_cons_zero]
                refine wpStill_val (.int .i64 0) (by as_aux_lemma => kernel_rfl) (by as_aux_lemma => kernel_rfl) ?_
                simp only [Act.put, List.setIfInBounds_toArray, List.set_cons_succ, List.set_cons_zero]
                refine wpStill_val (.pointer (some ⟨g, 0, none⟩)) (by as_aux_lemma => kernel_rfl) (by as_aux_lemma => kernel_rfl) ?_
                simp only [Act.put, List.setIfInBounds_toArray, List.set_cons_succ, List.set_cons_zero]
                refine wpStill_load 3 (.tmp 93) ⟨g, 0, none⟩ (.int .i64 x) (by as_aux_lemma => kernel_rfl) rfl (by as_aux_lemma => kernel_rfl) (Tryd.isAgg3 _) e0 ?_
                simp only [Act.put, List.setIfInBounds_toArray, List.set_cons_succ, List.set_cons_zero]
                refine wpStill_val (.bool (decide (31 < x))) (by as_aux_lemma => kernel_rfl) (by as_aux_lemma => kernel_rfl) ?_
                simp only [Act.put, List.setIfInBounds_toArray, List.set_cons_succ, List.set_cons_zero, hg_x]
                refine wpStill_val (.bool false) (by as_aux_lemma => kernel_rfl) (by as_aux_lemma => kernel_rfl) ?_
                simp only [Act.put, List.setIfInBounds_toArray, List.set_cons_succ, List.set_cons_zero]
                refine wpStill_val (.bool false) (by as_aux_lemma => kernel_rfl) (by as_aux_lemma => kernel_rfl) ?_
                simp only [Act.put, List.setIfInBounds_toArray, List.set_cons_succ, List.set_cons_zero]
                refine wpStill_val (.int .i64 0) (by as_aux_lemma => kernel_rfl) (by as_aux_lemma => kernel_rfl) ?_
                simp only [Act.put, List.setIfInBounds_toArray, List.set_cons_succ, List.set_cons_zero]
                refine wpStill_val (.bool false) (by as_aux_lemma => kernel_rfl) (by as_aux_lemma => kernel_rfl) ?_
                simp only [Act.put, List.setIfInBounds_toArray, List.set_cons_succ, List.set_cons_zero]
                refine wpStill_val (.bool false) (by as_aux_lemma => kernel_rfl) (by as_aux_lemma => kernel_rfl) ?_
                simp only [Act.put, List.setIfInBounds_toArray, List.set_cons_succ, List.set_cons_zero]
                refine wpStill_skip (by as_aux_lemma => kernel_rfl) ?_
                simp only [Act.put, List.setIfInBounds_toArray, List.set_cons_succ, List.set_cons_zero]
                refine wpStill_skip (by as_aux_lemma => kernel_rfl) ?_
                simp only [Act.put, List.setIfInBounds_toArray, List.set_cons_succ, List.set_cons_zero]
                refine wpStill_skip (by as_aux_lemma => kernel_rfl) ?_
                simp only [Act.put, List.setIfInBounds_toArray, List.set_cons_succ, List.set_cons_zero]
                refine wpStill_skip (by as_aux_lemma => kernel_rfl) ?_
                simp only [Act.put, List.setIfInBounds_toArray, List.set_cons_succ, List.set_cons_zero]
                refine wpStill_skip (by as_aux_lemma => kernel_rfl) ?_
                simp only [Act.put, List.setIfInBounds_toArray, List.set_cons_succ, List.set_cons_zero]
                refine wpStill_skip (by as_aux_lemma => kernel_rfl) ?_
                simp only [Act.put, List.setIfInBounds_toArray, List.set_cons_succ, List.set_cons_zero]
                refine wpStill_skip (by as_aux_lemma => kernel_rfl) ?_
                simp only [Act.put, List.setIfInBounds_toArray, List.set_cons_succ, List.set_cons_zero]
                refine wpStill_skip (by as_aux_lemma => kernel_rfl) ?_
                simp only [Act.put, List.setIfInBounds_toArray, List.set_cons_succ, List.set_cons_zero]
                refine wpStill_skip (by as_aux_lemma => kernel_rfl) ?_
                simp only [Act.put, List.setIfInBounds_toArray, List.set_cons_succ, List.set_cons_zero]
                refine wpStill_skip (by as_aux_lemma => kernel_rfl) ?_
                simp only [Act.put, List.setIfInBounds_toArray, List.set_cons_succ, List.set_cons_zero]
                refine wpStill_val (.bool false) (by as_aux_lemma => kernel_rfl) (by as_aux_lemma => kernel_rfl) ?_
                simp only [Act.put, List.setIfInBounds_toArray, List.set_cons_succ, List.set_cons_zero]
                refine wpStill_val (.bool false) (by as_aux_lemma => kernel_rfl) (by as_aux_lemma => kernel_rfl) ?_
                simp only [Act.put, List.setIfInBounds_toArray, List.set_cons_succ, List.set_cons_zero]
                refine wpStill_val (.bool false) (by as_aux_lemma => kernel_rfl) (by as_aux_lemma => kernel_rfl) ?_
                simp only [Act.put, List.setIfInBounds_toArray, List.set_cons_succ, List.set_cons_zero]
                refine wpStill_val (.pointer (some ⟨w.heap.size, 0, none⟩)) (by as_aux_lemma => kernel_rfl) (by as_aux_lemma => kernel_rfl) ?_
                simp only [Act.put, List.setIfInBounds_toArray, List.set_cons_succ, List.set_cons_zero]
                refine wpStill_load 3 (.tmp 114) ⟨w.heap.size, 0, none⟩ (.int .i64 i.op) (by as_aux_lemma => kernel_rfl) rfl (by as_aux_lemma => kernel_rfl) (Tryd.isAgg3 _) c0 ?_
                simp only [Act.put, List.setIfInBounds_toArray, List.set_cons_succ, List.set_cons_zero]
                refine wpStill_val (.bool (i.op != 64)) (by as_aux_lemma => kernel_rfl) (by as_aux_lemma => kernel_rfl) ?_
                simp only [Act.put, List.setIfInBounds_toArray, List.set_cons_succ, List.set_cons_zero, h64]
                refine wpStill_val (.bool true) (by as_aux_lemma => kernel_rfl) (by as_aux_lemma => kernel_rfl) ?_
                simp only [Act.put, List.setIfInBounds_toArray, List.set_cons_succ, List.set_cons_zero]
                refine wpStill_val (.slice (some ⟨g, 0, none⟩) 2 c) (by as_aux_lemma => kernel_rfl) (by as_aux_lemma => kernel_rfl) ?_
                simp only [Act.put, List.setIfInBounds_toArray, List.set_cons_succ, List.set_cons_zero]
                refine wpStill_val (.int .i64 0) (by as_aux_lemma => kernel_rfl) (by as_aux_lemma => kernel_rfl) ?_
                simp only [Act.put, List.setIfInBounds_toArray, List.set_cons_succ, List.set_cons_zero]
                refine wpStill_val (.pointer (some ⟨g, 0, none⟩)) (by as_aux_lemma => kernel_rfl) (by as_aux_lemma => kernel_rfl) ?_
                simp only [Act.put, List.setIfInBounds_toArray, List.set_cons_succ, List.set_cons_zero]
                refine wpStill_load 3 (.tmp 120) ⟨g, 0, none⟩ (.int .i64 x) (by as_aux_lemma => kernel_rfl) rfl (by as_aux_lemma => kernel_rfl) (Tryd.isAgg3 _) e0 ?_
                simp only [Act.put, List.setIfInBounds_toArray, List.set_cons_succ, List.set_cons_zero]
                refine wpStill_val (.pointer (some ⟨w.heap.size, 2, none⟩)) (by as_aux_lemma => kernel_rfl) (by as_aux_lemma => kernel_rfl) ?_
                simp only [Act.put, List.setIfInBounds_toArray, List.set_cons_succ, List.set_cons_zero]
                refine wpStill_load 3 (.tmp 122) ⟨w.heap.size, 2, none⟩ (.int .i64 i.rs1) (by as_aux_lemma => kernel_rfl) rfl (by as_aux_lemma => kernel_rfl) (Tryd.isAgg3 _) c2 ?_
                simp only [Act.put, List.setIfInBounds_toArray, List.set_cons_succ, List.set_cons_zero]
                refine wpStill_val (.bool (x != i.rs1)) (by as_aux_lemma => kernel_rfl) (by as_aux_lemma => kernel_rfl) ?_
                simp only [Act.put, List.setIfInBounds_toArray, List.set_cons_succ, List.set_cons_zero, hn1]
                refine wpStill_val (.bool false) (by as_aux_lemma => kernel_rfl) (by as_aux_lemma => kernel_rfl) ?_
                simp only [Act.put, List.setIfInBounds_toArray, List.set_cons_succ, List.set_cons_zero]
                refine wpStill_val (.bool false) (by as_aux_lemma => kernel_rfl) (by as_aux_lemma => kernel_rfl) ?_
                simp only [Act.put, List.setIfInBounds_toArray, List.set_cons_succ, List.set_cons_zero]
                refine wpStill_skip (by as_aux_lemma => kernel_rfl) ?_
                simp only [Act.put, List.setIfInBounds_toArray, List.set_cons_succ, List.set_cons_zero]
                refine wpStill_skip (by as_aux_lemma => kernel_rfl) ?_
                simp only [Act.put, List.setIfInBounds_toArray, List.set_cons_succ, List.set_cons_zero]
                refine wpStill_skip (by as_aux_lemma => kernel_rfl) ?_
                simp only [Act.put, List.setIfInBounds_toArray, List.set_cons_succ, List.set_cons_zero]
                refine wpStill_skip (by as_aux_lemma => kernel_rfl) ?_
                simp only [Act.put, List.setIfInBounds_toArray, List.set_cons_succ, List.set_cons_zero]
                refine wpStill_skip (by as_aux_lemma => kernel_rfl) ?_
                simp only [Act.put, List.setIfInBounds_toArray, List.set_cons_succ, List.set_cons_zero]
                refine wpStill_skip (by as_aux_lemma => kernel_rfl) ?_
                simp only [Act.put, List.setIfInBounds_toArray, List.set_cons_succ, List.set_cons_zero]
                refine wpStill_skip (by as_aux_lemma => kernel_rfl) ?_
                simp only [Act.put, List.setIfInBounds_toArray, List.set_cons_succ, List.set_cons_zero]
                refine wpStill_val (.bool false) (by as_aux_lemma => kernel_rfl) (by as_aux_lemma => kernel_rfl) ?_
                simp only [Act.put, List.setIfInBounds_toArray, List.set_cons_succ, List.set_cons_zero]
                refine wpStill_val (.bool false) (by as_aux_lemma => kernel_rfl) (by as_aux_lemma => kernel_rfl) ?_
                simp only [Act.put, List.setIfInBounds_toArray, List.set_cons_succ, List.set_cons_zero]
                refine wpStill_nil ?_
                go_wp2_with fail
                go_roundw
                case rel => exact ⟨.inr (.inl rfl), Lib.hid (Loop.drew HL2.out)⟩
                case measure => simp [intOf]
              · have hn1 : (x != i.rs1) = true := by simp [h1]
                have hn2 : (x != i.rs2) = false := by have := how.resolve_left h1; simp [this]
                clear how h1
                go_wp2_with fail
                try simp only [List.append_eq, List.cons_append, List.nil_append]
                refine wp_region_still_lit (by kernel_rfl) (by kernel_rfl) ?_
                refine wpStill_val (.slice (some ⟨g, 0, none⟩) 2 c) (by as_aux_lemma => kernel_rfl) (by as_aux_lemma => kernel_rfl) ?_
                simp only [Act.put, List.setIfInBounds_toArray, List.set_cons_succ, List.set_cons_zero]
                refine wpStill_val (.int .i64 0) (by as_aux_lemma => kernel_rfl) (by as_aux_lemma => kernel_rfl) ?_
                simp only [Act.put, List.setIfInBounds_toArray, List.set_cons_succ, List.set_cons_zero]
                refine wpStill_val (.pointer (some ⟨g, 0, none⟩)) (by as_aux_lemma => kernel_rfl) (by as_aux_lemma => kernel_rfl) ?_
                simp only [Act.put, List.setIfInBounds_toArray, List.set_cons_succ, List.set_cons_zero]
                refine wpStill_load 3 (.tmp 87) ⟨g, 0, none⟩ (.int .i64 x) (by as_aux_lemma => kernel_rfl) rfl (by as_aux_lemma => kernel_rfl) (Tryd.isAgg3 _) e0 ?_
                simp only [Act.put, List.setIfInBounds_toArray, List.set_cons_succ, List.set_cons_zero]
                refine wpStill_val (.bool (decide (x < 1))) (by as_aux_lemma => kernel_rfl) (by as_aux_lemma => kernel_rfl) ?_
                simp only [Act.put, List.setIfInBounds_toArray, List.set_cons_succ, List.set_cons_zero, hl_x]
                refine wpStill_val (.bool false) (by as_aux_lemma => kernel_rfl) (by as_aux_lemma => kernel_rfl) ?_
                simp only [Act.put, List.setIfInBounds_toArray, List.set_cons_succ, List.set_cons_zero]
                refine wpStill_val (.slice (some ⟨g, 0, none⟩) 2 c) (by as_aux_lemma => kernel_rfl) (by as_aux_lemma => kernel_rfl) ?_
                simp only [Act.put, List.setIfInBounds_toArray, List.set_cons_succ, List.set_cons_zero]
                refine wpStill_val (.int .i64 0) (by as_aux_lemma => kernel_rfl) (by as_aux_lemma => kernel_rfl) ?_
                simp only [Act.put, List.setIfInBounds_toArray, List.set_cons_succ, List.set_cons_zero]
                refine wpStill_val (.pointer (some ⟨g, 0, none⟩)) (by as_aux_lemma => kernel_rfl) (by as_aux_lemma => kernel_rfl) ?_
                simp only [Act.put, List.setIfInBounds_toArray, List.set_cons_succ, List.set_cons_zero]
                refine wpStill_load 3 (.tmp 93) ⟨g, 0, none⟩ (.int .i64 x) (by as_aux_lemma => kernel_rfl) rfl (by as_aux_lemma => kernel_rfl) (Tryd.isAgg3 _) e0 ?_
                simp only [Act.put, List.setIfInBounds_toArray, List.set_cons_succ, List.set_cons_zero]
                refine wpStill_val (.bool (decide (31 < x))) (by as_aux_lemma => kernel_rfl) (by as_aux_lemma => kernel_rfl) ?_
                simp only [Act.put, List.setIfInBounds_toArray, List.set_cons_succ, List.set_cons_zero, hg_x]
                refine wpStill_val (.bool false) (by as_aux_lemma => kernel_rfl) (by as_aux_lemma => kernel_rfl) ?_
                simp only [Act.put, List.setIfInBounds_toArray, List.set_cons_succ, List.set_cons_zero]
                refine wpStill_val (.bool false) (by as_aux_lemma => kernel_rfl) (by as_aux_lemma => kernel_rfl) ?_
                simp only [Act.put, List.setIfInBounds_toArray, List.set_cons_succ, List.set_cons_zero]
                refine wpStill_val (.int .i64 0) (by as_aux_lemma => kernel_rfl) (by as_aux_lemma => kernel_rfl) ?_
                simp only [Act.put, List.setIfInBounds_toArray, List.set_cons_succ, List.set_cons_zero]
                refine wpStill_val (.bool false) (by as_aux_lemma => kernel_rfl) (by as_aux_lemma => kernel_rfl) ?_
                simp only [Act.put, List.setIfInBounds_toArray, List.set_cons_succ, List.set_cons_zero]
                refine wpStill_val (.bool false) (by as_aux_lemma => kernel_rfl) (by as_aux_lemma => kernel_rfl) ?_
                simp only [Act.put, List.setIfInBounds_toArray, List.set_cons_succ, List.set_cons_zero]
                refine wpStill_skip (by as_aux_lemma => kernel_rfl) ?_
                simp only [Act.put, List.setIfInBounds_toArray, List.set_cons_succ, List.set_cons_zero]
                refine wpStill_skip (by as_aux_lemma => kernel_rfl) ?_
                simp only [Act.put, List.setIfInBounds_toArray, List.set_cons_succ, List.set_cons_zero]
                refine wpStill_skip (by as_aux_lemma => kernel_rfl) ?_
                simp only [Act.put, List.setIfInBounds_toArray, List.set_cons_succ, List.set_cons_zero]
                refine wpStill_skip (by as_aux_lemma => kernel_rfl) ?_
                simp only [Act.put, List.setIfInBounds_toArray, List.set_cons_succ, List.set_cons_zero]
                refine wpStill_skip (by as_aux_lemma => kernel_rfl) ?_
                simp only [Act.put, List.setIfInBounds_toArray, List.set_cons_succ, List.set_cons_zero]
                refine wpStill_skip (by as_aux_lemma => kernel_rfl) ?_
                simp only [Act.put, List.setIfInBounds_toArray, List.set_cons_succ, List.set_cons_zero]
                refine wpStill_skip (by as_aux_lemma => kernel_rfl) ?_
                simp only [Act.put, List.setIfInBounds_toArray, List.set_cons_succ, List.set_cons_zero]
                refine wpStill_skip (by as_aux_lemma => kernel_rfl) ?_
                simp only [Act.put, List.setIfInBounds_toArray, List.set_cons_succ, List.set_cons_zero]
                refine wpStill_skip (by as_aux_lemma => kernel_rfl) ?_
                simp only [Act.put, List.setIfInBounds_toArray, List.set_cons_succ, List.set_cons_zero]
                refine wpStill_skip (by as_aux_lemma => kernel_rfl) ?_
                simp only [Act.put, List.setIfInBounds_toArray, List.set_cons_succ, List.set_cons_zero]
                refine wpStill_val (.bool false) (by as_aux_lemma => kernel_rfl) (by as_aux_lemma => kernel_rfl) ?_
                simp only [Act.put, List.setIfInBounds_toArray, List.set_cons_succ, List.set_cons_zero]
                refine wpStill_val (.bool false) (by as_aux_lemma => kernel_rfl) (by as_aux_lemma => kernel_rfl) ?_
                simp only [Act.put, List.setIfInBounds_toArray, List.set_cons_succ, List.set_cons_zero]
                refine wpStill_val (.bool false) (by as_aux_lemma => kernel_rfl) (by as_aux_lemma => kernel_rfl) ?_
                simp only [Act.put, List.setIfInBounds_toArray, List.set_cons_succ, List.set_cons_zero]
                refine wpStill_val (.pointer (some ⟨w.heap.size, 0, none⟩)) (by as_aux_lemma => kernel_rfl) (by as_aux_lemma => kernel_rfl) ?_
                simp only [Act.put, List.setIfInBounds_toArray, List.set_cons_succ, List.set_cons_zero]
                refine wpStill_load 3 (.tmp 114) ⟨w.heap.size, 0, none⟩ (.int .i64 i.op) (by as_aux_lemma => kernel_rfl) rfl (by as_aux_lemma => kernel_rfl) (Tryd.isAgg3 _) c0 ?_
                simp only [Act.put, List.setIfInBounds_toArray, List.set_cons_succ, List.set_cons_zero]
                refine wpStill_val (.bool (i.op != 64)) (by as_aux_lemma => kernel_rfl) (by as_aux_lemma => kernel_rfl) ?_
                simp only [Act.put, List.setIfInBounds_toArray, List.set_cons_succ, List.set_cons_zero, h64]
                refine wpStill_val (.bool true) (by as_aux_lemma => kernel_rfl) (by as_aux_lemma => kernel_rfl) ?_
                simp only [Act.put, List.setIfInBounds_toArray, List.set_cons_succ, List.set_cons_zero]
                refine wpStill_val (.slice (some ⟨g, 0, none⟩) 2 c) (by as_aux_lemma => kernel_rfl) (by as_aux_lemma => kernel_rfl) ?_
                simp only [Act.put, List.setIfInBounds_toArray, List.set_cons_succ, List.set_cons_zero]
                refine wpStill_val (.int .i64 0) (by as_aux_lemma => kernel_rfl) (by as_aux_lemma => kernel_rfl) ?_
                simp only [Act.put, List.setIfInBounds_toArray, List.set_cons_succ, List.set_cons_zero]
                refine wpStill_val (.pointer (some ⟨g, 0, none⟩)) (by as_aux_lemma => kernel_rfl) (by as_aux_lemma => kernel_rfl) ?_
                simp only [Act.put, List.setIfInBounds_toArray, List.set_cons_succ, List.set_cons_zero]
                refine wpStill_load 3 (.tmp 120) ⟨g, 0, none⟩ (.int .i64 x) (by as_aux_lemma => kernel_rfl) rfl (by as_aux_lemma => kernel_rfl) (Tryd.isAgg3 _) e0 ?_
                simp only [Act.put, List.setIfInBounds_toArray, List.set_cons_succ, List.set_cons_zero]
                refine wpStill_val (.pointer (some ⟨w.heap.size, 2, none⟩)) (by as_aux_lemma => kernel_rfl) (by as_aux_lemma => kernel_rfl) ?_
                simp only [Act.put, List.setIfInBounds_toArray, List.set_cons_succ, List.set_cons_zero]
                refine wpStill_load 3 (.tmp 122) ⟨w.heap.size, 2, none⟩ (.int .i64 i.rs1) (by as_aux_lemma => kernel_rfl) rfl (by as_aux_lemma => kernel_rfl) (Tryd.isAgg3 _) c2 ?_
                simp only [Act.put, List.setIfInBounds_toArray, List.set_cons_succ, List.set_cons_zero]
                refine wpStill_val (.bool (x != i.rs1)) (by as_aux_lemma => kernel_rfl) (by as_aux_lemma => kernel_rfl) ?_
                simp only [Act.put, List.setIfInBounds_toArray, List.set_cons_succ, List.set_cons_zero, hn1]
                refine wpStill_val (.bool true) (by as_aux_lemma => kernel_rfl) (by as_aux_lemma => kernel_rfl) ?_
                simp only [Act.put, List.setIfInBounds_toArray, List.set_cons_succ, List.set_cons_zero]
                refine wpStill_val (.bool true) (by as_aux_lemma => kernel_rfl) (by as_aux_lemma => kernel_rfl) ?_
                simp only [Act.put, List.setIfInBounds_toArray, List.set_cons_succ, List.set_cons_zero]
                refine wpStill_val (.slice (some ⟨g, 0, none⟩) 2 c) (by as_aux_lemma => kernel_rfl) (by as_aux_lemma => kernel_rfl) ?_
                simp only [Act.put, List.setIfInBounds_toArray, List.set_cons_succ, List.set_cons_zero]
                refine wpStill_val (.int .i64 0) (by as_aux_lemma => kernel_rfl) (by as_aux_lemma => kernel_rfl) ?_
                simp only [Act.put, List.setIfInBounds_toArray, List.set_cons_succ, List.set_cons_zero]
                refine wpStill_val (.pointer (some ⟨g, 0, none⟩)) (by as_aux_lemma => kernel_rfl) (by as_aux_lemma => kernel_rfl) ?_
                simp only [Act.put, List.setIfInBounds_toArray, List.set_cons_succ, List.set_cons_zero]
                refine wpStill_load 3 (.tmp 129) ⟨g, 0, none⟩ (.int .i64 x) (by as_aux_lemma => kernel_rfl) rfl (by as_aux_lemma => kernel_rfl) (Tryd.isAgg3 _) e0 ?_
                simp only [Act.put, List.setIfInBounds_toArray, List.set_cons_succ, List.set_cons_zero]
                refine wpStill_val (.pointer (some ⟨w.heap.size, 3, none⟩)) (by as_aux_lemma => kernel_rfl) (by as_aux_lemma => kernel_rfl) ?_
                simp only [Act.put, List.setIfInBounds_toArray, List.set_cons_succ, List.set_cons_zero]
                refine wpStill_load 3 (.tmp 131) ⟨w.heap.size, 3, none⟩ (.int .i64 i.rs2) (by as_aux_lemma => kernel_rfl) rfl (by as_aux_lemma => kernel_rfl) (Tryd.isAgg3 _) c3 ?_
                simp only [Act.put, List.setIfInBounds_toArray, List.set_cons_succ, List.set_cons_zero]
                refine wpStill_val (.bool (x != i.rs2)) (by as_aux_lemma => kernel_rfl) (by as_aux_lemma => kernel_rfl) ?_
                simp only [Act.put, List.setIfInBounds_toArray, List.set_cons_succ, List.set_cons_zero, hn2]
                refine wpStill_val (.bool false) (by as_aux_lemma => kernel_rfl) (by as_aux_lemma => kernel_rfl) ?_
                simp only [Act.put, List.setIfInBounds_toArray, List.set_cons_succ, List.set_cons_zero]
                refine wpStill_val (.bool false) (by as_aux_lemma => kernel_rfl) (by as_aux_lemma => kernel_rfl) ?_
                simp only [Act.put, List.setIfInBounds_toArray, List.set_cons_succ, List.set_cons_zero]
                refine wpStill_nil ?_
                go_wp2_with fail
                go_roundw
                case rel => exact ⟨.inr (.inl rfl), Lib.hid (Loop.drew HL2.out)⟩
                case measure => simp [intOf]
          · skip
            have e0 : wr.cell? ⟨g, 0, none⟩ = some (.int .i64 x) := HL2.out.2 0 (by simp)
            have e1 : wr.cell? ⟨g, 1, none⟩ = some (.int .i64 y) := HL2.out.2 1 (by simp)
            have hrg : 1 ≤ y ∧ y ≤ 31 := HX.out.range 1 (by simp)
            have hlt : x < y := HX.out.rises (by simp)
            have hr_xy : decide (y ≤ x) = false := by simp; omega
            clear hlt
            have hl_y : decide (y < 1) = false := by simp; omega
            have hg_y : decide (31 < y) = false := by simp; omega
            clear hrg
            by_cases hop : i.op = 64
            · have h64 : (i.op != 64) = false := by simp [hop]
              clear hop
              go_wp2_with fail
              try simp only [List.append_eq, List.cons_append, List.nil_append]
              refine wp_region_still_lit (by kernel_rfl) (by kernel_rfl) ?_
              refine wpStill_val (.slice (some ⟨g, 0, none⟩) 2 c) (by as_aux_lemma => kernel_rfl) (by as_aux_lemma => kernel_rfl) ?_
              simp only [Act.put, List.setIfInBounds_toArray, List.set_cons_succ, List.set_cons_zero]
              refine wpStill_val (.int .i64 1) (by as_aux_lemma => kernel_rfl) (by as_aux_lemma => kernel_rfl) ?_
              simp only [Act.put, List.setIfInBounds_toArray, List.set_cons_succ, List.set_cons_zero]
              refine wpStill_val (.pointer (some ⟨g, 1, none⟩)) (by as_aux_lemma => kernel_rfl) (by as_aux_lemma => kernel_rfl) ?_
              simp only [Act.put, List.setIfInBounds_toArray, List.set_cons_succ, List.set_cons_zero]
              refine wpStill_load 3 (.tmp 87) ⟨g, 1, none⟩ (.int .i64 y) (by as_aux_lemma => kernel_rfl) rfl (by as_aux_lemma => kernel_rfl) (Tryd.isAgg3 _) e1 ?_
              simp only [Act.put, List.setIfInBounds_toArray, List.set_cons_succ, List.set_cons_zero]
              refine wpStill_val (.bool (decide (y < 1))) (by as_aux_lemma => kernel_rfl) (by as_aux_lemma => kernel_rfl) ?_
              simp only [Act.put, List.setIfInBounds_toArray, List.set_cons_succ, List.set_cons_zero, hl_y]
              refine wpStill_val (.bool false) (by as_aux_lemma => kernel_rfl) (by as_aux_lemma => kernel_rfl) ?_
              simp only [Act.put, List.setIfInBounds_toArray, List.set_cons_succ, List.set_cons_zero]
              refine wpStill_val (.slice (some ⟨g, 0, none⟩) 2 c) (by as_aux_lemma => kernel_rfl) (by as_aux_lemma => kernel_rfl) ?_
              simp only [Act.put, List.setIfInBounds_toArray, List.set_cons_succ, List.set_cons_zero]
              refine wpStill_val (.int .i64 1) (by as_aux_lemma => kernel_rfl) (by as_aux_lemma => kernel_rfl) ?_
              simp only [Act.put, List.setIfInBounds_toArray, List.set_cons_succ, List.set_cons_zero]
              refine wpStill_val (.pointer (some ⟨g, 1, none⟩)) (by as_aux_lemma => kernel_rfl) (by as_aux_lemma => kernel_rfl) ?_
              simp only [Act.put, List.setIfInBounds_toArray, List.set_cons_succ, List.set_cons_zero]
              refine wpStill_load 3 (.tmp 93) ⟨g, 1, none⟩ (.int .i64 y) (by as_aux_lemma => kernel_rfl) rfl (by as_aux_lemma => kernel_rfl) (Tryd.isAgg3 _) e1 ?_
              simp only [Act.put, List.setIfInBounds_toArray, List.set_cons_succ, List.set_cons_zero]
              refine wpStill_val (.bool (decide (31 < y))) (by as_aux_lemma => kernel_rfl) (by as_aux_lemma => kernel_rfl) ?_
              simp only [Act.put, List.setIfInBounds_toArray, List.set_cons_succ, List.set_cons_zero, hg_y]
              refine wpStill_val (.bool false) (by as_aux_lemma => kernel_rfl) (by as_aux_lemma => kernel_rfl) ?_
              simp only [Act.put, List.setIfInBounds_toArray, List.set_cons_succ, List.set_cons_zero]
              refine wpStill_val (.bool false) (by as_aux_lemma => kernel_rfl) (by as_aux_lemma => kernel_rfl) ?_
              simp only [Act.put, List.setIfInBounds_toArray, List.set_cons_succ, List.set_cons_zero]
              refine wpStill_val (.int .i64 1) (by as_aux_lemma => kernel_rfl) (by as_aux_lemma => kernel_rfl) ?_
              simp only [Act.put, List.setIfInBounds_toArray, List.set_cons_succ, List.set_cons_zero]
              refine wpStill_val (.bool true) (by as_aux_lemma => kernel_rfl) (by as_aux_lemma => kernel_rfl) ?_
              simp only [Act.put, List.setIfInBounds_toArray, List.set_cons_succ, List.set_cons_zero]
              refine wpStill_val (.bool true) (by as_aux_lemma => kernel_rfl) (by as_aux_lemma => kernel_rfl) ?_
              simp only [Act.put, List.setIfInBounds_toArray, List.set_cons_succ, List.set_cons_zero]
              refine wpStill_val (.slice (some ⟨g, 0, none⟩) 2 c) (by as_aux_lemma => kernel_rfl) (by as_aux_lemma => kernel_rfl) ?_
              simp only [Act.put, List.setIfInBounds_toArray, List.set_cons_succ, List.set_cons_zero]
              refine wpStill_val (.int .i64 1) (by as_aux_lemma => kernel_rfl) (by as_aux_lemma => kernel_rfl) ?_
              simp only [Act.put, List.setIfInBounds_toArray, List.set_cons_succ, List.set_cons_zero]
              refine wpStill_val (.int .i64 0) (by as_aux_lemma => kernel_rfl) (by as_aux_lemma => kernel_rfl) ?_
              simp only [Act.put, List.setIfInBounds_toArray, List.set_cons_succ, List.set_cons_zero]
              refine wpStill_val (.pointer (some ⟨g, 0, none⟩)) (by as_aux_lemma => kernel_rfl) (by as_aux_lemma => kernel_rfl) ?_
              simp only [Act.put, List.setIfInBounds_toArray, List.set_cons_succ, List.set_cons_zero]
              refine wpStill_load 3 (.tmp 104) ⟨g, 0, none⟩ (.int .i64 x) (by as_aux_lemma => kernel_rfl) rfl (by as_aux_lemma => kernel_rfl) (Tryd.isAgg3 _) e0 ?_
              simp only [Act.put, List.setIfInBounds_toArray, List.set_cons_succ, List.set_cons_zero]
              refine wpStill_val (.slice (some ⟨g, 0, none⟩) 2 c) (by as_aux_lemma => kernel_rfl) (by as_aux_lemma => kernel_rfl) ?_
              simp only [Act.put, List.setIfInBounds_toArray, List.set_cons_succ, List.set_cons_zero]
              refine wpStill_val (.int .i64 1) (by as_aux_lemma => kernel_rfl) (by as_aux_lemma => kernel_rfl) ?_
              simp only [Act.put, List.setIfInBounds_toArray, List.set_cons_succ, List.set_cons_zero]
              refine wpStill_val (.pointer (some ⟨g, 1, none⟩)) (by as_aux_lemma => kernel_rfl) (by as_aux_lemma => kernel_rfl) ?_
              simp only [Act.put, List.setIfInBounds_toArray, List.set_cons_succ, List.set_cons_zero]
              refine wpStill_load 3 (.tmp 108) ⟨g, 1, none⟩ (.int .i64 y) (by as_aux_lemma => kernel_rfl) rfl (by as_aux_lemma => kernel_rfl) (Tryd.isAgg3 _) e1 ?_
              simp only [Act.put, List.setIfInBounds_toArray, List.set_cons_succ, List.set_cons_zero]
              refine wpStill_val (.bool (decide (y ≤ x))) (by as_aux_lemma => kernel_rfl) (by as_aux_lemma => kernel_rfl) ?_
              simp only [Act.put, List.setIfInBounds_toArray, List.set_cons_succ, List.set_cons_zero, hr_xy]
              refine wpStill_val (.bool false) (by as_aux_lemma => kernel_rfl) (by as_aux_lemma => kernel_rfl) ?_
              simp only [Act.put, List.setIfInBounds_toArray, List.set_cons_succ, List.set_cons_zero]
              refine wpStill_val (.bool false) (by as_aux_lemma => kernel_rfl) (by as_aux_lemma => kernel_rfl) ?_
              simp only [Act.put, List.setIfInBounds_toArray, List.set_cons_succ, List.set_cons_zero]
              refine wpStill_val (.bool false) (by as_aux_lemma => kernel_rfl) (by as_aux_lemma => kernel_rfl) ?_
              simp only [Act.put, List.setIfInBounds_toArray, List.set_cons_succ, List.set_cons_zero]
              refine wpStill_val (.pointer (some ⟨w.heap.size, 0, none⟩)) (by as_aux_lemma => kernel_rfl) (by as_aux_lemma => kernel_rfl) ?_
              simp only [Act.put, List.setIfInBounds_toArray, List.set_cons_succ, List.set_cons_zero]
              refine wpStill_load 3 (.tmp 114) ⟨w.heap.size, 0, none⟩ (.int .i64 i.op) (by as_aux_lemma => kernel_rfl) rfl (by as_aux_lemma => kernel_rfl) (Tryd.isAgg3 _) c0 ?_
              simp only [Act.put, List.setIfInBounds_toArray, List.set_cons_succ, List.set_cons_zero]
              refine wpStill_val (.bool (i.op != 64)) (by as_aux_lemma => kernel_rfl) (by as_aux_lemma => kernel_rfl) ?_
              simp only [Act.put, List.setIfInBounds_toArray, List.set_cons_succ, List.set_cons_zero, h64]
              refine wpStill_val (.bool false) (by as_aux_lemma => kernel_rfl) (by as_aux_lemma => kernel_rfl) ?_
              simp only [Act.put, List.setIfInBounds_toArray, List.set_cons_succ, List.set_cons_zero]
              refine wpStill_skip (by as_aux_lemma => kernel_rfl) ?_
              simp only [Act.put, List.setIfInBounds_toArray, List.set_cons_succ, List.set_cons_zero]
              refine wpStill_skip (by as_aux_lemma => kernel_rfl) ?_
              simp only [Act.put, List.setIfInBounds_toArray, List.set_cons_succ, List.set_cons_zero]
              refine wpStill_skip (by as_aux_lemma => kernel_rfl) ?_
              simp only [Act.put, List.setIfInBounds_toArray, List.set_cons_succ, List.set_cons_zero]
              refine wpStill_skip (by as_aux_lemma => kernel_rfl) ?_
              simp only [Act.put, List.setIfInBounds_toArray, List.set_cons_succ, List.set_cons_zero]
              refine wpStill_skip (by as_aux_lemma => kernel_rfl) ?_
              simp only [Act.put, List.setIfInBounds_toArray, List.set_cons_succ, List.set_cons_zero]
              refine wpStill_skip (by as_aux_lemma => kernel_rfl) ?_
              simp only [Act.put, List.setIfInBounds_toArray, List.set_cons_succ, List.set_cons_zero]
              refine wpStill_skip (by as_aux_lemma => kernel_rfl) ?_
              simp only [Act.put, List.setIfInBounds_toArray, List.set_cons_succ, List.set_cons_zero]
              refine wpStill_val (.bool false) (by as_aux_lemma => kernel_rfl) (by as_aux_lemma => kernel_rfl) ?_
              simp only [Act.put, List.setIfInBounds_toArray, List.set_cons_succ, List.set_cons_zero]
              refine wpStill_val (.bool false) (by as_aux_lemma => kernel_rfl) (by as_aux_lemma => kernel_rfl) ?_
              simp only [Act.put, List.setIfInBounds_toArray, List.set_cons_succ, List.set_cons_zero]
              refine wpStill_skip (by as_aux_lemma => kernel_rfl) ?_
              simp only [Act.put, List.setIfInBounds_toArray, List.set_cons_succ, List.set_cons_zero]
              refine wpStill_skip (by as_aux_lemma => kernel_rfl) ?_
              simp only [Act.put, List.setIfInBounds_toArray, List.set_cons_succ, List.set_cons_zero]
              refine wpStill_skip (by as_aux_lemma => kernel_rfl) ?_
              simp only [Act.put, List.setIfInBounds_toArray, List.set_cons_succ, List.set_cons_zero]
              refine wpStill_skip (by as_aux_lemma => kernel_rfl) ?_
              simp only [Act.put, List.setIfInBounds_toArray, List.set_cons_succ, List.set_cons_zero]
              refine wpStill_skip (by as_aux_lemma => kernel_rfl) ?_
              simp only [Act.put, List.setIfInBounds_toArray, List.set_cons_succ, List.set_cons_zero]
              refine wpStill_skip (by as_aux_lemma => kernel_rfl) ?_
              simp only [Act.put, List.setIfInBounds_toArray, List.set_cons_succ, List.set_cons_zero]
              refine wpStill_skip (by as_aux_lemma => kernel_rfl) ?_
              simp only [Act.put, List.setIfInBounds_toArray, List.set_cons_succ, List.set_cons_zero]
              refine wpStill_val (.bool false) (by as_aux_lemma => kernel_rfl) (by as_aux_lemma => kernel_rfl) ?_
              simp only [Act.put, List.setIfInBounds_toArray, List.set_cons_succ, List.set_cons_zero]
              refine wpStill_val (.bool false) (by as_aux_lemma => kernel_rfl) (by as_aux_lemma => kernel_rfl) ?_
              simp only [Act.put, List.setIfInBounds_toArray, List.set_cons_succ, List.set_cons_zero]
              refine wpStill_nil ?_
              go_wp2_with fail
              go_roundw
              case rel => exact ⟨.inr (.inr rfl), Lib.hid (Loop.drew HL2.out)⟩
              case measure => simp [intOf]
            · have h64 : (i.op != 64) = true := by simp [hop]
              have how : y = i.rs1 ∨ y = i.rs2 := HX.out.own hop 1 (by simp)
              clear hop
              by_cases h1 : y = i.rs1
              · have hn1 : (y != i.rs1) = false := by simp [h1]
                clear how h1
                go_wp2_with fail
                try simp only [List.append_eq, List.cons_append, List.nil_append]
                refine wp_region_still_lit (by kernel_rfl) (by kernel_rfl) ?_
                refine wpStill_val (.slice (some ⟨g, 0, none⟩) 2 c) (by as_aux_lemma => kernel_rfl) (by as_aux_lemma => kernel_rfl) ?_
                simp only [Act.put, List.setIfInBounds_toArray, List.set_cons_succ, List.set_cons_zero]
                refine wpStill_val (.int .i64 1) (by as_aux_lemma => kernel_rfl) (by as_aux_lemma => kernel_rfl) ?_
                simp only [Act.put, List.setIfInBounds_toArray, List.set_cons_succ, List.set_cons_zero]
                refine wpStill_val (.pointer (some ⟨g, 1, none⟩)) (by as_aux_lemma => kernel_rfl) (by as_aux_lemma => kernel_rfl) ?_
                simp only [Act.put, List.setIfInBounds_toArray, List.set_cons_succ, List.set_cons_zero]
                refine wpStill_load 3 (.tmp 87) ⟨g, 1, none⟩ (.int .i64 y) (by as_aux_lemma => kernel_rfl) rfl (by as_aux_lemma => kernel_rfl) (Tryd.isAgg3 _) e1 ?_
                simp only [Act.put, List.setIfInBounds_toArray, List.set_cons_succ, List.set_cons_zero]
                refine wpStill_val (.bool (decide (y < 1))) (by as_aux_lemma => kernel_rfl) (by as_aux_lemma => kernel_rfl) ?_
                simp only [Act.put, List.setIfInBounds_toArray, List.set_cons_succ, List.set_cons_zero, hl_y]
                refine wpStill_val (.bool false) (by as_aux_lemma => kernel_rfl) (by as_aux_lemma => kernel_rfl) ?_
                simp only [Act.put, List.setIfInBounds_toArray, List.set_cons_succ, List.set_cons_zero]
                refine wpStill_val (.slice (some ⟨g, 0, none⟩) 2 c) (by as_aux_lemma => kernel_rfl) (by as_aux_lemma => kernel_rfl) ?_
                simp only [Act.put, List.setIfInBounds_toArray, List.set_cons_succ, List.set_cons_zero]
                refine wpStill_val (.int .i64 1) (by as_aux_lemma => kernel_rfl) (by as_aux_lemma => kernel_rfl) ?_
                simp only [Act.put, List.setIfInBounds_toArray, List.set_cons_succ, List.set_cons_zero]
                refine wpStill_val (.pointer (some ⟨g, 1, none⟩)) (by as_aux_lemma => kernel_rfl) (by as_aux_lemma => kernel_rfl) ?_
                simp only [Act.put, List.setIfInBounds_toArray, List.set_cons_succ, List.set_cons_zero]
                refine wpStill_load 3 (.tmp 93) ⟨g, 1, none⟩ (.int .i64 y) (by as_aux_lemma => kernel_rfl) rfl (by as_aux_lemma => kernel_rfl) (Tryd.isAgg3 _) e1 ?_
                simp only [Act.put, List.setIfInBounds_toArray, List.set_cons_succ, List.set_cons_zero]
                refine wpStill_val (.bool (decide (31 < y))) (by as_aux_lemma => kernel_rfl) (by as_aux_lemma => kernel_rfl) ?_
                simp only [Act.put, List.setIfInBounds_toArray, List.set_cons_succ, List.set_cons_zero, hg_y]
                refine wpStill_val (.bool false) (by as_aux_lemma => kernel_rfl) (by as_aux_lemma => kernel_rfl) ?_
                simp only [Act.put, List.setIfInBounds_toArray, List.set_cons_succ, List.set_cons_zero]
                refine wpStill_val (.bool false) (by as_aux_lemma => kernel_rfl) (by as_aux_lemma => kernel_rfl) ?_
                simp only [Act.put, List.setIfInBounds_toArray, List.set_cons_succ, List.set_cons_zero]
                refine wpStill_val (.int .i64 1) (by as_aux_lemma => kernel_rfl) (by as_aux_lemma => kernel_rfl) ?_
                simp only [Act.put, List.setIfInBounds_toArray, List.set_cons_succ, List.set_cons_zero]
                refine wpStill_val (.bool true) (by as_aux_lemma => kernel_rfl) (by as_aux_lemma => kernel_rfl) ?_
                simp only [Act.put, List.setIfInBounds_toArray, List.set_cons_succ, List.set_cons_zero]
                refine wpStill_val (.bool true) (by as_aux_lemma => kernel_rfl) (by as_aux_lemma => kernel_rfl) ?_
                simp only [Act.put, List.setIfInBounds_toArray, List.set_cons_succ, List.set_cons_zero]
                refine wpStill_val (.slice (some ⟨g, 0, none⟩) 2 c) (by as_aux_lemma => kernel_rfl) (by as_aux_lemma => kernel_rfl) ?_
                simp only [Act.put, List.setIfInBounds_toArray, List.set_cons_succ, List.set_cons_zero]
                refine wpStill_val (.int .i64 1) (by as_aux_lemma => kernel_rfl) (by as_aux_lemma => kernel_rfl) ?_
                simp only [Act.put, List.setIfInBounds_toArray, List.set_cons_succ, List.set_cons_zero]
                refine wpStill_val (.int .i64 0) (by as_aux_lemma => kernel_rfl) (by as_aux_lemma => kernel_rfl) ?_
                simp only [Act.put, List.setIfInBounds_toArray, List.set_cons_succ, List.set_cons_zero]
                refine wpStill_val (.pointer (some ⟨g, 0, none⟩)) (by as_aux_lemma => kernel_rfl) (by as_aux_lemma => kernel_rfl) ?_
                simp only [Act.put, List.setIfInBounds_toArray, List.set_cons_succ, List.set_cons_zero]
                refine wpStill_load 3 (.tmp 104) ⟨g, 0, none⟩ (.int .i64 x) (by as_aux_lemma => kernel_rfl) rfl (by as_aux_lemma => kernel_rfl) (Tryd.isAgg3 _) e0 ?_
                simp only [Act.put, List.setIfInBounds_toArray, List.set_cons_succ, List.set_cons_zero]
                refine wpStill_val (.slice (some ⟨g, 0, none⟩) 2 c) (by as_aux_lemma => kernel_rfl) (by as_aux_lemma => kernel_rfl) ?_
                simp only [Act.put, List.setIfInBounds_toArray, List.set_cons_succ, List.set_cons_zero]
                refine wpStill_val (.int .i64 1) (by as_aux_lemma => kernel_rfl) (by as_aux_lemma => kernel_rfl) ?_
                simp only [Act.put, List.setIfInBounds_toArray, List.set_cons_succ, List.set_cons_zero]
                refine wpStill_val (.pointer (some ⟨g, 1, none⟩)) (by as_aux_lemma => kernel_rfl) (by as_aux_lemma => kernel_rfl) ?_
                simp only [Act.put, List.setIfInBounds_toArray, List.set_cons_succ, List.set_cons_zero]
                refine wpStill_load 3 (.tmp 108) ⟨g, 1, none⟩ (.int .i64 y) (by as_aux_lemma => kernel_rfl) rfl (by as_aux_lemma => kernel_rfl) (Tryd.isAgg3 _) e1 ?_
                simp only [Act.put, List.setIfInBounds_toArray, List.set_cons_succ, List.set_cons_zero]
                refine wpStill_val (.bool (decide (y ≤ x))) (by as_aux_lemma => kernel_rfl) (by as_aux_lemma => kernel_rfl) ?_
                simp only [Act.put, List.setIfInBounds_toArray, List.set_cons_succ, List.set_cons_zero, hr_xy]
                refine wpStill_val (.bool false) (by as_aux_lemma => kernel_rfl) (by as_aux_lemma => kernel_rfl) ?_
                simp only [Act.put, List.setIfInBounds_toArray, List.set_cons_succ, List.set_cons_zero]
                refine wpStill_val (.bool false) (by as_aux_lemma => kernel_rfl) (by as_aux_lemma => kernel_rfl) ?_
                simp only [Act.put, List.setIfInBounds_toArray, List.set_cons_succ, List.set_cons_zero]
                refine wpStill_val (.bool false) (by as_aux_lemma => kernel_rfl) (by as_aux_lemma => kernel_rfl) ?_
                simp only [Act.put, List.setIfInBounds_toArray, List.set_cons_succ, List.set_cons_zero]
                refine wpStill_val (.pointer (some ⟨w.heap.size, 0, none⟩)) (by as_aux_lemma => kernel_rfl) (by as_aux_lemma => kernel_rfl) ?_
                simp only [Act.put, List.setIfInBounds_toArray, List.set_cons_succ, List.set_cons_zero]
                refine wpStill_load 3 (.tmp 114) ⟨w.heap.size, 0, none⟩ (.int .i64 i.op) (by as_aux_lemma => kernel_rfl) rfl (by as_aux_lemma => kernel_rfl) (Tryd.isAgg3 _) c0 ?_
                simp only [Act.put, List.setIfInBounds_toArray, List.set_cons_succ, List.set_cons_zero]
                refine wpStill_val (.bool (i.op != 64)) (by as_aux_lemma => kernel_rfl) (by as_aux_lemma => kernel_rfl) ?_
                simp only [Act.put, List.setIfInBounds_toArray, List.set_cons_succ, List.set_cons_zero, h64]
                refine wpStill_val (.bool true) (by as_aux_lemma => kernel_rfl) (by as_aux_lemma => kernel_rfl) ?_
                simp only [Act.put, List.setIfInBounds_toArray, List.set_cons_succ, List.set_cons_zero]
                refine wpStill_val (.slice (some ⟨g, 0, none⟩) 2 c) (by as_aux_lemma => kernel_rfl) (by as_aux_lemma => kernel_rfl) ?_
                simp only [Act.put, List.setIfInBounds_toArray, List.set_cons_succ, List.set_cons_zero]
                refine wpStill_val (.int .i64 1) (by as_aux_lemma => kernel_rfl) (by as_aux_lemma => kernel_rfl) ?_
                simp only [Act.put, List.setIfInBounds_toArray, List.set_cons_succ, List.set_cons_zero]
                refine wpStill_val (.pointer (some ⟨g, 1, none⟩)) (by as_aux_lemma => kernel_rfl) (by as_aux_lemma => kernel_rfl) ?_
                simp only [Act.put, List.setIfInBounds_toArray, List.set_cons_succ, List.set_cons_zero]
                refine wpStill_load 3 (.tmp 120) ⟨g, 1, none⟩ (.int .i64 y) (by as_aux_lemma => kernel_rfl) rfl (by as_aux_lemma => kernel_rfl) (Tryd.isAgg3 _) e1 ?_
                simp only [Act.put, List.setIfInBounds_toArray, List.set_cons_succ, List.set_cons_zero]
                refine wpStill_val (.pointer (some ⟨w.heap.size, 2, none⟩)) (by as_aux_lemma => kernel_rfl) (by as_aux_lemma => kernel_rfl) ?_
                simp only [Act.put, List.setIfInBounds_toArray, List.set_cons_succ, List.set_cons_zero]
                refine wpStill_load 3 (.tmp 122) ⟨w.heap.size, 2, none⟩ (.int .i64 i.rs1) (by as_aux_lemma => kernel_rfl) rfl (by as_aux_lemma => kernel_rfl) (Tryd.isAgg3 _) c2 ?_
                simp only [Act.put, List.setIfInBounds_toArray, List.set_cons_succ, List.set_cons_zero]
                refine wpStill_val (.bool (y != i.rs1)) (by as_aux_lemma => kernel_rfl) (by as_aux_lemma => kernel_rfl) ?_
                simp only [Act.put, List.setIfInBounds_toArray, List.set_cons_succ, List.set_cons_zero, hn1]
                refine wpStill_val (.bool false) (by as_aux_lemma => kernel_rfl) (by as_aux_lemma => kernel_rfl) ?_
                simp only [Act.put, List.setIfInBounds_toArray, List.set_cons_succ, List.set_cons_zero]
                refine wpStill_val (.bool false) (by as_aux_lemma => kernel_rfl) (by as_aux_lemma => kernel_rfl) ?_
                simp only [Act.put, List.setIfInBounds_toArray, List.set_cons_succ, List.set_cons_zero]
                refine wpStill_skip (by as_aux_lemma => kernel_rfl) ?_
                simp only [Act.put, List.setIfInBounds_toArray, List.set_cons_succ, List.set_cons_zero]
                refine wpStill_skip (by as_aux_lemma => kernel_rfl) ?_
                simp only [Act.put, List.setIfInBounds_toArray, List.set_cons_succ, List.set_cons_zero]
                refine wpStill_skip (by as_aux_lemma => kernel_rfl) ?_
                simp only [Act.put, List.setIfInBounds_toArray, List.set_cons_succ, List.set_cons_zero]
                refine wpStill_skip (by as_aux_lemma => kernel_rfl) ?_
                simp only [Act.put, List.setIfInBounds_toArray, List.set_cons_succ, List.set_cons_zero]
                refine wpStill_skip (by as_aux_lemma => kernel_rfl) ?_
                simp only [Act.put, List.setIfInBounds_toArray, List.set_cons_succ, List.set_cons_zero]
                refine wpStill_skip (by as_aux_lemma => kernel_rfl) ?_
                simp only [Act.put, List.setIfInBounds_toArray, List.set_cons_succ, List.set_cons_zero]
                refine wpStill_skip (by as_aux_lemma => kernel_rfl) ?_
                simp only [Act.put, List.setIfInBounds_toArray, List.set_cons_succ, List.set_cons_zero]
                refine wpStill_val (.bool false) (by as_aux_lemma => kernel_rfl) (by as_aux_lemma => kernel_rfl) ?_
                simp only [Act.put, List.setIfInBounds_toArray, List.set_cons_succ, List.set_cons_zero]
                refine wpStill_val (.bool false) (by as_aux_lemma => kernel_rfl) (by as_aux_lemma => kernel_rfl) ?_
                simp only [Act.put, List.setIfInBounds_toArray, List.set_cons_succ, List.set_cons_zero]
                refine wpStill_nil ?_
                go_wp2_with fail
                go_roundw
                case rel => exact ⟨.inr (.inr rfl), Lib.hid (Loop.drew HL2.out)⟩
                case measure => simp [intOf]
              · have hn1 : (y != i.rs1) = true := by simp [h1]
                have hn2 : (y != i.rs2) = false := by have := how.resolve_left h1; simp [this]
                clear how h1
                go_wp2_with fail
                try simp only [List.append_eq, List.cons_append, List.nil_append]
                refine wp_region_still_lit (by kernel_rfl) (by kernel_rfl) ?_
                refine wpStill_val (.slice (some ⟨g, 0, none⟩) 2 c) (by as_aux_lemma => kernel_rfl) (by as_aux_lemma => kernel_rfl) ?_
                simp only [Act.put, List.setIfInBounds_toArray, List.set_cons_succ, List.set_cons_zero]
                refine wpStill_val (.int .i64 1) (by as_aux_lemma => kernel_rfl) (by as_aux_lemma => kernel_rfl) ?_
                simp only [Act.put, List.setIfInBounds_toArray, List.set_cons_succ, List.set_cons_zero]
                refine wpStill_val (.pointer (some ⟨g, 1, none⟩)) (by as_aux_lemma => kernel_rfl) (by as_aux_lemma => kernel_rfl) ?_
                simp only [Act.put, List.setIfInBounds_toArray, List.set_cons_succ, List.set_cons_zero]
                refine wpStill_load 3 (.tmp 87) ⟨g, 1, none⟩ (.int .i64 y) (by as_aux_lemma => kernel_rfl) rfl (by as_aux_lemma => kernel_rfl) (Tryd.isAgg3 _) e1 ?_
                simp only [Act.put, List.setIfInBounds_toArray, List.set_cons_succ, List.set_cons_zero]
                refine wpStill_val (.bool (decide (y < 1))) (by as_aux_lemma => kernel_rfl) (by as_aux_lemma => kernel_rfl) ?_
                simp only [Act.put, List.setIfInBounds_toArray, List.set_cons_succ, List.set_cons_zero, hl_y]
                refine wpStill_val (.bool false) (by as_aux_lemma => kernel_rfl) (by as_aux_lemma => kernel_rfl) ?_
                simp only [Act.put, List.setIfInBounds_toArray, List.set_cons_succ, List.set_cons_zero]
                refine wpStill_val (.slice (some ⟨g, 0, none⟩) 2 c) (by as_aux_lemma => kernel_rfl) (by as_aux_lemma => kernel_rfl) ?_
                simp only [Act.put, List.setIfInBounds_toArray, List.set_cons_succ, List.set_cons_zero]
                refine wpStill_val (.int .i64 1) (by as_aux_lemma => kernel_rfl) (by as_aux_lemma => kernel_rfl) ?_
                simp only [Act.put, List.setIfInBounds_toArray, List.set_cons_succ, List.set_cons_zero]
                refine wpStill_val (.pointer (some ⟨g, 1, none⟩)) (by as_aux_lemma => kernel_rfl) (by as_aux_lemma => kernel_rfl) ?_
                simp only [Act.put, List.setIfInBounds_toArray, List.set_cons_succ, List.set_cons_zero]
                refine wpStill_load 3 (.tmp 93) ⟨g, 1, none⟩ (.int .i64 y) (by as_aux_lemma => kernel_rfl) rfl (by as_aux_lemma => kernel_rfl) (Tryd.isAgg3 _) e1 ?_
                simp only [Act.put, List.setIfInBounds_toArray, List.set_cons_succ, List.set_cons_zero]
                refine wpStill_val (.bool (decide (31 < y))) (by as_aux_lemma => kernel_rfl) (by as_aux_lemma => kernel_rfl) ?_
                simp only [Act.put, List.setIfInBounds_toArray, List.set_cons_succ, List.set_cons_zero, hg_y]
                refine wpStill_val (.bool false) (by as_aux_lemma => kernel_rfl) (by as_aux_lemma => kernel_rfl) ?_
                simp only [Act.put, List.setIfInBounds_toArray, List.set_cons_succ, List.set_cons_zero]
                refine wpStill_val (.bool false) (by as_aux_lemma => kernel_rfl) (by as_aux_lemma => kernel_rfl) ?_
                simp only [Act.put, List.setIfInBounds_toArray, List.set_cons_succ, List.set_cons_zero]
                refine wpStill_val (.int .i64 1) (by as_aux_lemma => kernel_rfl) (by as_aux_lemma => kernel_rfl) ?_
                simp only [Act.put, List.setIfInBounds_toArray, List.set_cons_succ, List.set_cons_zero]
                refine wpStill_val (.bool true) (by as_aux_lemma => kernel_rfl) (by as_aux_lemma => kernel_rfl) ?_
                simp only [Act.put, List.setIfInBounds_toArray, List.set_cons_succ, List.set_cons_zero]
                refine wpStill_val (.bool true) (by as_aux_lemma => kernel_rfl) (by as_aux_lemma => kernel_rfl) ?_
                simp only [Act.put, List.setIfInBounds_toArray, List.set_cons_succ, List.set_cons_zero]
                refine wpStill_val (.slice (some ⟨g, 0, none⟩) 2 c) (by as_aux_lemma => kernel_rfl) (by as_aux_lemma => kernel_rfl) ?_
                simp only [Act.put, List.setIfInBounds_toArray, List.set_cons_succ, List.set_cons_zero]
                refine wpStill_val (.int .i64 1) (by as_aux_lemma => kernel_rfl) (by as_aux_lemma => kernel_rfl) ?_
                simp only [Act.put, List.setIfInBounds_toArray, List.set_cons_succ, List.set_cons_zero]
                refine wpStill_val (.int .i64 0) (by as_aux_lemma => kernel_rfl) (by as_aux_lemma => kernel_rfl) ?_
                simp only [Act.put, List.setIfInBounds_toArray, List.set_cons_succ, List.set_cons_zero]
                refine wpStill_val (.pointer (some ⟨g, 0, none⟩)) (by as_aux_lemma => kernel_rfl) (by as_aux_lemma => kernel_rfl) ?_
                simp only [Act.put, List.setIfInBounds_toArray, List.set_cons_succ, List.set_cons_zero]
                refine wpStill_load 3 (.tmp 104) ⟨g, 0, none⟩ (.int .i64 x) (by as_aux_lemma => kernel_rfl) rfl (by as_aux_lemma => kernel_rfl) (Tryd.isAgg3 _) e0 ?_
                simp only [Act.put, List.setIfInBounds_toArray, List.set_cons_succ, List.set_cons_zero]
                refine wpStill_val (.slice (some ⟨g, 0, none⟩) 2 c) (by as_aux_lemma => kernel_rfl) (by as_aux_lemma => kernel_rfl) ?_
                simp only [Act.put, List.setIfInBounds_toArray, List.set_cons_succ, List.set_cons_zero]
                refine wpStill_val (.int .i64 1) (by as_aux_lemma => kernel_rfl) (by as_aux_lemma => kernel_rfl) ?_
                simp only [Act.put, List.setIfInBounds_toArray, List.set_cons_succ, List.set_cons_zero]
                refine wpStill_val (.pointer (some ⟨g, 1, none⟩)) (by as_aux_lemma => kernel_rfl) (by as_aux_lemma => kernel_rfl) ?_
                simp only [Act.put, List.setIfInBounds_toArray, List.set_cons_succ, List.set_cons_zero]
                refine wpStill_load 3 (.tmp 108) ⟨g, 1, none⟩ (.int .i64 y) (by as_aux_lemma => kernel_rfl) rfl (by as_aux_lemma => kernel_rfl) (Tryd.isAgg3 _) e1 ?_
                simp only [Act.put, List.setIfInBounds_toArray, List.set_cons_succ, List.set_cons_zero]
                refine wpStill_val (.bool (decide (y ≤ x))) (by as_aux_lemma => kernel_rfl) (by as_aux_lemma => kernel_rfl) ?_
                simp only [Act.put, List.setIfInBounds_toArray, List.set_cons_succ, List.set_cons_zero, hr_xy]
                refine wpStill_val (.bool false) (by as_aux_lemma => kernel_rfl) (by as_aux_lemma => kernel_rfl) ?_
                simp only [Act.put, List.setIfInBounds_toArray, List.set_cons_succ, List.set_cons_zero]
                refine wpStill_val (.bool false) (by as_aux_lemma => kernel_rfl) (by as_aux_lemma => kernel_rfl) ?_
                simp only [Act.put, List.setIfInBounds_toArray, List.set_cons_succ, List.set_cons_zero]
                refine wpStill_val (.bool false) (by as_aux_lemma => kernel_rfl) (by as_aux_lemma => kernel_rfl) ?_
                simp only [Act.put, List.setIfInBounds_toArray, List.set_cons_succ, List.set_cons_zero]
                refine wpStill_val (.pointer (some ⟨w.heap.size, 0, none⟩)) (by as_aux_lemma => kernel_rfl) (by as_aux_lemma => kernel_rfl) ?_
                simp only [Act.put, List.setIfInBounds_toArray, List.set_cons_succ, List.set_cons_zero]
                refine wpStill_load 3 (.tmp 114) ⟨w.heap.size, 0, none⟩ (.int .i64 i.op) (by as_aux_lemma => kernel_rfl) rfl (by as_aux_lemma => kernel_rfl) (Tryd.isAgg3 _) c0 ?_
                simp only [Act.put, List.setIfInBounds_toArray, List.set_cons_succ, List.set_cons_zero]
                refine wpStill_val (.bool (i.op != 64)) (by as_aux_lemma => kernel_rfl) (by as_aux_lemma => kernel_rfl) ?_
                simp only [Act.put, List.setIfInBounds_toArray, List.set_cons_succ, List.set_cons_zero, h64]
                refine wpStill_val (.bool true) (by as_aux_lemma => kernel_rfl) (by as_aux_lemma => kernel_rfl) ?_
                simp only [Act.put, List.setIfInBounds_toArray, List.set_cons_succ, List.set_cons_zero]
                refine wpStill_val (.slice (some ⟨g, 0, none⟩) 2 c) (by as_aux_lemma => kernel_rfl) (by as_aux_lemma => kernel_rfl) ?_
                simp only [Act.put, List.setIfInBounds_toArray, List.set_cons_succ, List.set_cons_zero]
                refine wpStill_val (.int .i64 1) (by as_aux_lemma => kernel_rfl) (by as_aux_lemma => kernel_rfl) ?_
                simp only [Act.put, List.setIfInBounds_toArray, List.set_cons_succ, List.set_cons_zero]
                refine wpStill_val (.pointer (some ⟨g, 1, none⟩)) (by as_aux_lemma => kernel_rfl) (by as_aux_lemma => kernel_rfl) ?_
                simp only [Act.put, List.setIfInBounds_toArray, List.set_cons_succ, List.set_cons_zero]
                refine wpStill_load 3 (.tmp 120) ⟨g, 1, none⟩ (.int .i64 y) (by as_aux_lemma => kernel_rfl) rfl (by as_aux_lemma => kernel_rfl) (Tryd.isAgg3 _) e1 ?_
                simp only [Act.put, List.setIfInBounds_toArray, List.set_cons_succ, List.set_cons_zero]
                refine wpStill_val (.pointer (some ⟨w.heap.size, 2, none⟩)) (by as_aux_lemma => kernel_rfl) (by as_aux_lemma => kernel_rfl) ?_
                simp only [Act.put, List.setIfInBounds_toArray, List.set_cons_succ, List.set_cons_zero]
                refine wpStill_load 3 (.tmp 122) ⟨w.heap.size, 2, none⟩ (.int .i64 i.rs1) (by as_aux_lemma => kernel_rfl) rfl (by as_aux_lemma => kernel_rfl) (Tryd.isAgg3 _) c2 ?_
                simp only [Act.put, List.setIfInBounds_toArray, List.set_cons_succ, List.set_cons_zero]
                refine wpStill_val (.bool (y != i.rs1)) (by as_aux_lemma => kernel_rfl) (by as_aux_lemma => kernel_rfl) ?_
                simp only [Act.put, List.setIfInBounds_toArray, List.set_cons_succ, List.set_cons_zero, hn1]
                refine wpStill_val (.bool true) (by as_aux_lemma => kernel_rfl) (by as_aux_lemma => kernel_rfl) ?_
                simp only [Act.put, List.setIfInBounds_toArray, List.set_cons_succ, List.set_cons_zero]
                refine wpStill_val (.bool true) (by as_aux_lemma => kernel_rfl) (by as_aux_lemma => kernel_rfl) ?_
                simp only [Act.put, List.setIfInBounds_toArray, List.set_cons_succ, List.set_cons_zero]
                refine wpStill_val (.slice (some ⟨g, 0, none⟩) 2 c) (by as_aux_lemma => kernel_rfl) (by as_aux_lemma => kernel_rfl) ?_
                simp only [Act.put, List.setIfInBounds_toArray, List.set_cons_succ, List.set_cons_zero]
                refine wpStill_val (.int .i64 1) (by as_aux_lemma => kernel_rfl) (by as_aux_lemma => kernel_rfl) ?_
                simp only [Act.put, List.setIfInBounds_toArray, List.set_cons_succ, List.set_cons_zero]
                refine wpStill_val (.pointer (some ⟨g, 1, none⟩)) (by as_aux_lemma => kernel_rfl) (by as_aux_lemma => kernel_rfl) ?_
                simp only [Act.put, List.setIfInBounds_toArray, List.set_cons_succ, List.set_cons_zero]
                refine wpStill_load 3 (.tmp 129) ⟨g, 1, none⟩ (.int .i64 y) (by as_aux_lemma => kernel_rfl) rfl (by as_aux_lemma => kernel_rfl) (Tryd.isAgg3 _) e1 ?_
                simp only [Act.put, List.setIfInBounds_toArray, List.set_cons_succ, List.set_cons_zero]
                refine wpStill_val (.pointer (some ⟨w.heap.size, 3, none⟩)) (by as_aux_lemma => kernel_rfl) (by as_aux_lemma => kernel_rfl) ?_
                simp only [Act.put, List.setIfInBounds_toArray, List.set_cons_succ, List.set_cons_zero]
                refine wpStill_load 3 (.tmp 131) ⟨w.heap.size, 3, none⟩ (.int .i64 i.rs2) (by as_aux_lemma => kernel_rfl) rfl (by as_aux_lemma => kernel_rfl) (Tryd.isAgg3 _) c3 ?_
                simp only [Act.put, List.setIfInBounds_toArray, List.set_cons_succ, List.set_cons_zero]
                refine wpStill_val (.bool (y != i.rs2)) (by as_aux_lemma => kernel_rfl) (by as_aux_lemma => kernel_rfl) ?_
                simp only [Act.put, List.setIfInBounds_toArray, List.set_cons_succ, List.set_cons_zero, hn2]
                refine wpStill_val (.bool false) (by as_aux_lemma => kernel_rfl) (by as_aux_lemma => kernel_rfl) ?_
                simp only [Act.put, List.setIfInBounds_toArray, List.set_cons_succ, List.set_cons_zero]
                refine wpStill_val (.bool false) (by as_aux_lemma => kernel_rfl) (by as_aux_lemma => kernel_rfl) ?_
                simp only [Act.put, List.setIfInBounds_toArray, List.set_cons_succ, List.set_cons_zero]
                refine wpStill_nil ?_
                go_wp2_with fail
                go_roundw
                case rel => exact ⟨.inr (.inr rfl), Lib.hid (Loop.drew HL2.out)⟩
                case measure => simp [intOf]
          · skip
            go_wp2_with fail
            go_region_held3 (fun w' => w'.cell? ⟨w.heap.size, 0, none⟩ = some (.int .i64 i.op) ∧ w'.cell? ⟨w.heap.size, 1, none⟩ = some (.int .i64 i.rd) ∧ w'.cell? ⟨w.heap.size, 2, none⟩ = some (.int .i64 i.rs1) ∧ w'.cell? ⟨w.heap.size, 3, none⟩ = some (.int .i64 i.rs2) ∧ w'.cell? ⟨w.heap.size, 4, none⟩ = some (.int .i64 i.imm) ∧ w'.cell? ⟨w.heap.size, 5, none⟩ = some (.bool i.aq) ∧ w'.cell? ⟨w.heap.size, 6, none⟩ = some (.bool i.rl) ∧ w'.cell? ⟨w.heap.size, 7, none⟩ = some (.int .i64 i.pred) ∧ w'.cell? ⟨w.heap.size, 8, none⟩ = some (.int .i64 i.succ)) (exact ⟨c0, c1, c2, c3, c4, c5, c6, c7, c8⟩) ((go_at_call 16; (with_reducible refine (Writes_ok i HN _).mono ?_); rintro e w12 ⟨rfl, hb12⟩; have HS12 := Lib.hid (Stand.on (Stand.drew (Loop.stand HL2.out)) hb12); clear hb12; obtain ⟨hz, c0, c1, c2, c3, c4, c5, c6, c7, c8⟩ := InsAt.facts (Stand.ins HS12.out)))
            go_wp2_with fail
            go_ret
            exact ⟨rfl, Stand.below HS12.out⟩
theorem fields_any (i : Ins) (r : Int) (hr0 : -9223372036854775808 ≤ r) (hr1 : r ≤ 9223372036854775807) (w : World) (ht : Tab w) :
    Calls Tryd.prog 5 #[i.V, .int .i64 r] w fun e w' => e = .returned (.bool true) ∧ Below w.heap.size w w' := by
  cases hb : i.ok with
  | false => exact fields_no i r hb w ht
  | true => exact fields_ok i r hr0 hr1 hb w ht
end Go.Proofs.YtplneijbhmhmoaaDoor
