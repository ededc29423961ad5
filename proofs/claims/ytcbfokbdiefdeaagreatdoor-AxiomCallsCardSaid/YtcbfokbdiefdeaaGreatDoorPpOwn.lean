/-
  Proved here: the kit's OwnCand gives a candidate of the same pairs. Condition: a light candidate. (With it: Words: what is preserved hangs on nothing but what the events say: a copy of a candidate has the same pairs. No condition.) (With it: Proved here: the copy that OwnCand answers is a candidate: the first one's rows, with any From and Order that its lists read as. No condition. (With it: Proved here: a candidate whose events' lists lie elsewhere may be just when the first may; with one From another it may be just when that From fits; with an order shorter or longer it may not be. No condition.)) (With it: Proved here: the kit's OwnCand answers a candidate of the call's own; nothing that was there is changed. Condition: a light candidate.)
  (With it: Proved here: the words of a candidate's copy: rows of rows of events of the call's own, and what keeps them. No condition. (With it: Proved here: the kit's Own at cells and at ints, and OwnEvents, with what is needed to write into the copies: their rows are the call's own, and the lists within are new. Condition: at most 60 events, 1000 cells, 100,000 ints.))
-/
import Derived.Test.YtcbfokbdiefdeaaGreatDoorPpView
import Derived.Test.YtcbfokbdiefdeaaGreatDoorRf07Pure
import Derived.Deep.RegionLaw
import Derived.Test.YtcbfokbdiefdeaaGreatDoorPpWhole
namespace Go.Proofs.YtcbfokbdiefdeaaGreatDoor
set_option linter.unusedVariables false
set_option linter.unusedSimpArgs false
open Go.RowKit
attribute [local go_sem ↓] fold_E fold_SE

/-- events whose lists are new -/
def NewEs (n : Nat) (es : List Ev) : Prop := ∀ (j : Nat) (e : Ev), es[j]? = some e → NewFrom n e.a ∧ NewFrom n e.d ∧ NewFrom n e.y
theorem NewEs.nil (n : Nat) : NewEs n [] := fun j e h => by simp at h
theorem NewFrom.mono {n m : Nat} {v : Value} (h : NewFrom n v) (hm : m ≤ n) : NewFrom m v := fun k hk => Nat.le_trans hm (h k hk)
theorem NewEs.mono {n m : Nat} {es : List Ev} (h : NewEs n es) (hm : m ≤ n) : NewEs m es := fun j e hj => ⟨(h j e hj).1.mono hm, (h j e hj).2.1.mono hm, (h j e hj).2.2.mono hm⟩
theorem NewEs.more {n : Nat} {es : List Ev} (h : NewEs n es) {e : Ev} {a d y : Value} (ha : NewFrom n a) (hd : NewFrom n d) (hy : NewFrom n y) : NewEs n (es ++ [e.lists a d y]) := fun j f hj => by
  rcases Nat.lt_or_ge j es.length with h1 | h1
  · rw [List.getElem?_append_left h1] at hj
    exact h j f hj
  · rw [List.getElem?_append_right h1] at hj
    obtain ⟨h3, h4⟩ := List.getElem?_eq_some_iff.1 hj
    simp at h3 h4
    subst h4
    exact ⟨ha, hd, hy⟩
def Owns2Is (w : World) (n : Nat) (ev : Nat → Ev) (el : Nat → El) (e' : Ending) (w' : World) : Prop :=
  ∃ v es, e' = .returned v ∧ es.length = n ∧ w'.ownsRow w.heap.size 32 14 v n (flat es) ∧ Cp ev el es w' ∧ NewEs w.heap.size es ∧ Below w.heap.size w w'
theorem owns2_none (a : Option Addr) (c : Nat) (ev : Nat → Ev) (el : Nat → El) (w : World) : Calls Tryz.prog 33 #[.slice a 0 c] w fun e w' => Owns2Is w 0 ev el e w' := by
  go_enter Tryz.func33, Tryz.ntmps33
  go_wp2
  refine wp_loop_rounds 1 ?_
  rw [rounds_succ]
  go_wp2
  go_ret
  exact ⟨.slice none 0 0, [], rfl, rfl, World.ownsRow_nil _ _ _ _, Cp.nil _ _ _, NewEs.nil _, Below.refl _ _⟩
set_option maxRecDepth 100000 in
set_option maxHeartbeats 4000000 in
theorem owns2_row (n b off c : Nat) (ev : Nat → Ev) (el : Nat → El) (w : World) (hn : n ≤ 60) (h : Evs n b off ev el w) :
    Calls Tryz.prog 33 #[.slice (some ⟨b, off, none⟩) n c] w fun e w' => Owns2Is w n ev el e w' := by
  have HV := Lib.hid h
  clear h
  go_enter Tryz.func33, Tryz.ntmps33
  go_wp2
  go_loopw [3, 4] (fun vo vi wr => ∃ (k : Nat) (es : List Ev) (v : Value), v = vo ∧ k ≤ n ∧ vi = .int .i64 k ∧ Hid (es.length = k) ∧ Hid (wr.ownsRow w.heap.size 32 14 vo k (flat es)) ∧ Hid (Cp ev el es wr) ∧ Hid (NewEs w.heap.size es) ∧ Below w.heap.size w wr) (fun _ vi _ => n - (intOf vi).toNat)
  case atStart => exact ⟨0, [], _, rfl, Nat.zero_le _, rfl, Lib.hid rfl, Lib.hid (World.ownsRow_nil _ _ _ _), Lib.hid (Cp.nil _ _ _), Lib.hid (NewEs.nil _), Below.refl _ _⟩
  case round =>
    obtain ⟨k, es, v, rfl, hk, rfl, hlen, hO, hC, hN, hbel⟩ := hrel
    have HL := Lib.hid hbel
    clear hbel
    by_cases hlt : k < n
    · have HE := Lib.hid (HV.out.below HL.out)
      have cl := (HE.out.at_ k hlt).load
      have KO := Lib.hid (ownEvent_any (ev k) (el k) wr (HE.out.reads k hlt) (HE.out.len k hlt))
      have hk1 : k ≤ 1000 := by omega
      go_wp2_with (first
        | (go_at_call 57; (with_reducible refine (KO.out).mono ?_); rintro e' w1 ⟨va, vd, vy, rfl, hd, ht, hb⟩; have N1 : Hid (NewEs w.heap.size (es ++ [(ev k).lists va vd vy])) := Lib.hid (hN.out.more (hd.1.mono HL.out.size).2 (hd.2.1.mono HL.out.size).2 (hd.2.2.mono HL.out.size).2); obtain ⟨a1, c1, rfl⟩ := hd.1.1.len; obtain ⟨a2, c2, rfl⟩ := hd.2.1.1.len; obtain ⟨a3, c3, rfl⟩ := hd.2.2.1.len; have L1 := Lib.hid ((HL.out.trans (hb.mono HL.out.size)).alloc (HL.out.trans (hb.mono HL.out.size)).size (.cells #[.int .i64 ((ev k).lists (.slice a1 (el k).a.length c1) (.slice a2 (el k).d.length c2) (.slice a3 (el k).y.length c3)).hart, .int .i64 ((ev k).lists (.slice a1 (el k).a.length c1) (.slice a2 (el k).d.length c2) (.slice a3 (el k).y.length c3)).pos, .int .i64 ((ev k).lists (.slice a1 (el k).a.length c1) (.slice a2 (el k).d.length c2) (.slice a3 (el k).y.length c3)).kind, .int .u64 ((ev k).lists (.slice a1 (el k).a.length c1) (.slice a2 (el k).d.length c2) (.slice a3 (el k).y.length c3)).addr, .int .u64 ((ev k).lists (.slice a1 (el k).a.length c1) (.slice a2 (el k).d.length c2) (.slice a3 (el k).y.length c3)).load, .int .u64 ((ev k).lists (.slice a1 (el k).a.length c1) (.slice a2 (el k).d.length c2) (.slice a3 (el k).y.length c3)).store, .bool ((ev k).lists (.slice a1 (el k).a.length c1) (.slice a2 (el k).d.length c2) (.slice a3 (el k).y.length c3)).aq, .bool ((ev k).lists (.slice a1 (el k).a.length c1) (.slice a2 (el k).d.length c2) (.slice a3 (el k).y.length c3)).rl, .int .i64 ((ev k).lists (.slice a1 (el k).a.length c1) (.slice a2 (el k).d.length c2) (.slice a3 (el k).y.length c3)).pred, .int .i64 ((ev k).lists (.slice a1 (el k).a.length c1) (.slice a2 (el k).d.length c2) (.slice a3 (el k).y.length c3)).succ, .int .i64 ((ev k).lists (.slice a1 (el k).a.length c1) (.slice a2 (el k).d.length c2) (.slice a3 (el k).y.length c3)).pair, ((ev k).lists (.slice a1 (el k).a.length c1) (.slice a2 (el k).d.length c2) (.slice a3 (el k).y.length c3)).a, ((ev k).lists (.slice a1 (el k).a.length c1) (.slice a2 (el k).d.length c2) (.slice a3 (el k).y.length c3)).d, ((ev k).lists (.slice a1 (el k).a.length c1) (.slice a2 (el k).d.length c2) (.slice a3 (el k).y.length c3)).y] 32)); have O1 := Lib.hid ((own_on hO.out hb).alloc (.cells #[.int .i64 ((ev k).lists (.slice a1 (el k).a.length c1) (.slice a2 (el k).d.length c2) (.slice a3 (el k).y.length c3)).hart, .int .i64 ((ev k).lists (.slice a1 (el k).a.length c1) (.slice a2 (el k).d.length c2) (.slice a3 (el k).y.length c3)).pos, .int .i64 ((ev k).lists (.slice a1 (el k).a.length c1) (.slice a2 (el k).d.length c2) (.slice a3 (el k).y.length c3)).kind, .int .u64 ((ev k).lists (.slice a1 (el k).a.length c1) (.slice a2 (el k).d.length c2) (.slice a3 (el k).y.length c3)).addr, .int .u64 ((ev k).lists (.slice a1 (el k).a.length c1) (.slice a2 (el k).d.length c2) (.slice a3 (el k).y.length c3)).load, .int .u64 ((ev k).lists (.slice a1 (el k).a.length c1) (.slice a2 (el k).d.length c2) (.slice a3 (el k).y.length c3)).store, .bool ((ev k).lists (.slice a1 (el k).a.length c1) (.slice a2 (el k).d.length c2) (.slice a3 (el k).y.length c3)).aq, .bool ((ev k).lists (.slice a1 (el k).a.length c1) (.slice a2 (el k).d.length c2) (.slice a3 (el k).y.length c3)).rl, .int .i64 ((ev k).lists (.slice a1 (el k).a.length c1) (.slice a2 (el k).d.length c2) (.slice a3 (el k).y.length c3)).pred, .int .i64 ((ev k).lists (.slice a1 (el k).a.length c1) (.slice a2 (el k).d.length c2) (.slice a3 (el k).y.length c3)).succ, .int .i64 ((ev k).lists (.slice a1 (el k).a.length c1) (.slice a2 (el k).d.length c2) (.slice a3 (el k).y.length c3)).pair, ((ev k).lists (.slice a1 (el k).a.length c1) (.slice a2 (el k).d.length c2) (.slice a3 (el k).y.length c3)).a, ((ev k).lists (.slice a1 (el k).a.length c1) (.slice a2 (el k).d.length c2) (.slice a3 (el k).y.length c3)).d, ((ev k).lists (.slice a1 (el k).a.length c1) (.slice a2 (el k).d.length c2) (.slice a3 (el k).y.length c3)).y] 32)); have C1 := Lib.hid (((hC.out.on hb).on (box_below w1 (.cells #[.int .i64 ((ev k).lists (.slice a1 (el k).a.length c1) (.slice a2 (el k).d.length c2) (.slice a3 (el k).y.length c3)).hart, .int .i64 ((ev k).lists (.slice a1 (el k).a.length c1) (.slice a2 (el k).d.length c2) (.slice a3 (el k).y.length c3)).pos, .int .i64 ((ev k).lists (.slice a1 (el k).a.length c1) (.slice a2 (el k).d.length c2) (.slice a3 (el k).y.length c3)).kind, .int .u64 ((ev k).lists (.slice a1 (el k).a.length c1) (.slice a2 (el k).d.length c2) (.slice a3 (el k).y.length c3)).addr, .int .u64 ((ev k).lists (.slice a1 (el k).a.length c1) (.slice a2 (el k).d.length c2) (.slice a3 (el k).y.length c3)).load, .int .u64 ((ev k).lists (.slice a1 (el k).a.length c1) (.slice a2 (el k).d.length c2) (.slice a3 (el k).y.length c3)).store, .bool ((ev k).lists (.slice a1 (el k).a.length c1) (.slice a2 (el k).d.length c2) (.slice a3 (el k).y.length c3)).aq, .bool ((ev k).lists (.slice a1 (el k).a.length c1) (.slice a2 (el k).d.length c2) (.slice a3 (el k).y.length c3)).rl, .int .i64 ((ev k).lists (.slice a1 (el k).a.length c1) (.slice a2 (el k).d.length c2) (.slice a3 (el k).y.length c3)).pred, .int .i64 ((ev k).lists (.slice a1 (el k).a.length c1) (.slice a2 (el k).d.length c2) (.slice a3 (el k).y.length c3)).succ, .int .i64 ((ev k).lists (.slice a1 (el k).a.length c1) (.slice a2 (el k).d.length c2) (.slice a3 (el k).y.length c3)).pair, ((ev k).lists (.slice a1 (el k).a.length c1) (.slice a2 (el k).d.length c2) (.slice a3 (el k).y.length c3)).a, ((ev k).lists (.slice a1 (el k).a.length c1) (.slice a2 (el k).d.length c2) (.slice a3 (el k).y.length c3)).d, ((ev k).lists (.slice a1 (el k).a.length c1) (.slice a2 (el k).d.length c2) (.slice a3 (el k).y.length c3)).y] 32))).add k hlen.out (EReads.below (w := w1) (e := ((ev k).lists (.slice a1 (el k).a.length c1) (.slice a2 (el k).d.length c2) (.slice a3 (el k).y.length c3))) ⟨hd.1.1, hd.2.1.1, hd.2.2.1⟩ (box_below w1 _)) (ht.on (box_below w1 _))); clear hd ht hb cl)
        | (refine append_ev rfl (.tmp 11) (.tmp 17) rfl w.heap.size v k (flat es) rfl O1.out ((ev k).lists (.slice a1 (el k).a.length c1) (.slice a2 (el k).d.length c2) (.slice a3 (el k).y.length c3)) ⟨rfl, rfl, rfl⟩ w1.heap.size rfl (EvAt.new ((ev k).lists (.slice a1 (el k).a.length c1) (.slice a2 (el k).d.length c2) (.slice a3 (el k).y.length c3)) w1) hk1 L1.out.size ?_; intro v2 w2 hw2 hg2; have L2 := Lib.hid (L1.out.grown hg2 L1.out.size (fun g hg => (O1.out.lt g hg).1)); have C2 := Lib.hid (C1.out.grown O1.out hg2); have O2 := Lib.hid hw2; clear hw2 hg2))
      go_roundw
      case rel => exact ⟨k + 1, es ++ [((ev k).lists (.slice a1 (el k).a.length c1) (.slice a2 (el k).d.length c2) (.slice a3 (el k).y.length c3))], _, rfl, by omega, by go_num, Lib.hid (by rw [List.length_append, hlen.out]; rfl), Lib.hid (by rw [flat_more]; exact O2.out), C2, N1, L2.out⟩
      case measure => simp [intOf]; omega
    · obtain rfl : k = n := by omega
      go_wp2
      go_ret
      exact ⟨_, es, rfl, hlen.out, hO.out, hC.out, hN.out, HL.out⟩
/-- ints, in a row of the call's own -/
def intsV (zs : List Int) : List Value := zs.map (Value.int .i64)
def OwnRIs (w : World) (zs : List Int) (e : Ending) (w' : World) : Prop := ∃ v, e = .returned v ∧ w'.ownsRow w.heap.size 3 1 v zs.length (intsV zs) ∧ Below w.heap.size w w'
set_option maxRecDepth 100000 in
set_option maxHeartbeats 2000000 in
theorem ownR_any (v : Value) (zs : List Int) (w : World) (h : ReadsI w v zs) (hlen : zs.length ≤ 100000) : Calls Tryz.prog 32 #[v] w fun e w' => OwnRIs w zs e w' := by
  have HR := Lib.hid (h.alloc (.cells #[] 3))
  have HO := Lib.hid (World.ownsRow_made (base := w.heap.size) (e := 3) (size := 1) w #[] 0 (Nat.le_refl _) (by unfold maxLen; omega) (by simp))
  have HB := Lib.hid (box_below w (.cells #[] 3))
  clear h
  go_enter Tryz.func32, Tryz.ntmps32
  go_wp2_with (refine append_reads rfl (.tmp 3) (.tmp 4) rfl w.heap.size _ [] zs rfl HO.out _ rfl HR.out (by simp; omega) HB.out.size ?_; intro v1 w1 hw1 hg1; have H1 := Lib.hid hw1; have HB1 := Lib.hid (HB.out.grown hg1 HB.out.size (fun k hk => (HO.out.lt k hk).1)); clear hw1 hg1)
  go_ret
  exact ⟨_, rfl, H1.out, HB1.out⟩
theorem ReadsF.alloc {w : World} {v : Value} {fs : List (Int × Int)} (h : ReadsF w v fs) (o : Obj) : ReadsF (w.alloc o) v fs := h.below (box_below w o)
theorem flatC_one (l : List (Int × Int)) : ∀ u ∈ flatC l, u.oneCell' = true := fun u hu => by
  unfold flatC at hu
  obtain ⟨p, _, hp⟩ := List.mem_flatMap.1 hu
  simp only [encC, List.mem_cons, List.not_mem_nil, or_false] at hp
  rcases hp with rfl | rfl <;> rfl
/-- append of what a slice of cells reads as -/
theorem append_cells {ops : Array Oper} {rest : List Oper} {o : Oper} {a : Act} {w : World} {Q : Exit → Act → World → Prop} (hgd : o.guard = none) (s x : Operand)
    (ho : o.op = .call { callee := .builtin .append, args := #[s, x], argTypes := #[22, 22] }) (base : Nat) (v : Value) (fs : List (Int × Int)) (hs : a.eval s = v) (hown : w.ownsRow base 59 2 v 0 [])
    (vx : Value) (hx : a.eval x = vx) (hr : ReadsF w vx fs) (hlen : fs.length ≤ 1000) (hbase : base ≤ w.heap.size)
    (h : ∀ v' w', w'.ownsRow base 59 2 v' fs.length (flatC fs) → w.grownBy w' v.ownBlock → wpList Tryz.prog ops Q rest (a.put o.dst v') w') : wpList Tryz.prog ops Q (o :: rest) a w := by
  obtain ⟨i0, hi, hz0, hz1, hz2⟩ := info_parts infoCell
  rcases hr with ⟨⟨ad, c, rfl, hc0⟩, rfl⟩ | ⟨b, off, c, rfl, h1, h2, h3, h4⟩
  · cases ad with
    | none =>
      obtain rfl := hc0 rfl
      refine wpList_append_own_none hgd s x _ ho base 59 i0 2 Tryz.underlying22 hi v _ _ hs hown hx ?_
      exact h v w hown (World.grownBy.refl _ _)
    | some ad =>
      refine wpList_append_own w hgd s x _ ho base 59 i0 (.agg #[.int .u64 0, .int .u64 0]) 2 16 Tryz.underlying22 hi hz0 hz1 hz2 (by kernel_rfl) (by decide) v _ _ hs hown ad 0 c [] hx (by simp) ?_ ?_ (by unfold maxLen; omega) (by omega) hbase ?_
      · intro j u hu; simp at hu
      · intro u hu; simp at hu
      · intro v' w' h5 h6 _
        exact h v' w' h5 h6
  · refine wpList_append_own w hgd s x _ ho base 59 i0 (.agg #[.int .u64 0, .int .u64 0]) 2 16 Tryz.underlying22 hi hz0 hz1 hz2 (by kernel_rfl) (by decide) v _ _ hs hown ⟨b, off, none⟩ fs.length c (flatC fs) hx (flatC_len fs) ?_ (flatC_one fs) (by unfold maxLen; omega) (by omega) hbase ?_
    · intro j u hu
      have hj : j < fs.length * 2 := by
        have := (List.getElem?_eq_some_iff.1 hu).1
        rw [flatC_len] at this
        exact this
      have ha : (⟨b, off, none⟩ : Addr).add j = ⟨b, off + j, none⟩ := by unfold Addr.add; split <;> simp_all
      have hq := flatC_at fs (j / 2) (j % 2) (by omega) (by omega)
      rw [show j / 2 * 2 + j % 2 = j by omega, hu] at hq
      obtain ⟨c0, c1⟩ := h4 (j / 2) (by omega)
      rw [ha, hq]
      by_cases hm : j % 2 = 0
      · rw [if_pos hm, show off + j = off + j / 2 * 2 by omega]; exact c0
      · rw [if_neg hm, show off + j = off + j / 2 * 2 + 1 by omega]; exact c1
    · intro v' w' h5 h6 _
      rw [Nat.zero_add] at h5
      exact h v' w' h5 h6
def OwnCIs (w : World) (fs : List (Int × Int)) (e : Ending) (w' : World) : Prop := ∃ v, e = .returned v ∧ w'.ownsRow w.heap.size 59 2 v fs.length (flatC fs) ∧ Below w.heap.size w w'
set_option maxRecDepth 100000 in
set_option maxHeartbeats 2000000 in
theorem ownC_any (v : Value) (fs : List (Int × Int)) (w : World) (h : ReadsF w v fs) (hlen : fs.length ≤ 1000) : Calls Tryz.prog 31 #[v] w fun e w' => OwnCIs w fs e w' := by
  have HR := Lib.hid (h.alloc (.cells #[] 59))
  have HO := Lib.hid (World.ownsRow_made (base := w.heap.size) (e := 59) (size := 2) w #[] 0 (Nat.le_refl _) (by unfold maxLen; omega) (by simp))
  have HB := Lib.hid (box_below w (.cells #[] 59))
  clear h
  go_enter Tryz.func31, Tryz.ntmps31
  go_wp2_with (refine append_cells rfl (.tmp 3) (.tmp 4) rfl w.heap.size _ fs rfl HO.out _ rfl HR.out hlen HB.out.size ?_; intro v1 w1 hw1 hg1; have H1 := Lib.hid hw1; have HB1 := Lib.hid (HB.out.grown hg1 HB.out.size (fun k hk => (HO.out.lt k hk).1)); clear hw1 hg1)
  go_ret
  exact ⟨_, rfl, H1.out, HB1.out⟩
end Go.Proofs.YtcbfokbdiefdeaaGreatDoor
namespace Go.Proofs.YtcbfokbdiefdeaaGreatDoor
set_option linter.unusedVariables false
set_option linter.unusedSimpArgs false
open Go.RowKit

/-- what lies at lo or behind is as it was -/
structure Keep (lo : Nat) (W W' : World) : Prop where
  size : W.heap.size ≤ W'.heap.size
  block : ∀ j, lo ≤ j → j < W.heap.size → W'.heap[j]? = W.heap[j]?
theorem Keep.of_below {lo : Nat} {W W' : World} (h : Below W.heap.size W W') : Keep lo W W' := ⟨h.size, fun j _ hj => h.block j hj⟩
theorem Keep.trans {lo : Nat} {A B C : World} (h : Keep lo A B) (g : Keep lo B C) : Keep lo A C := ⟨Nat.le_trans h.size g.size, fun j h1 h2 => (g.block j h1 (Nat.lt_of_lt_of_le h2 h.size)).trans (h.block j h1 h2)⟩
theorem Keep.mono {lo lo2 : Nat} {W W' : World} (h : Keep lo W W') (hl : lo ≤ lo2) : Keep lo2 W W' := ⟨h.size, fun j h1 h2 => h.block j (Nat.le_trans hl h1) h2⟩
theorem Keep.set {lo : Nat} {W : World} {g i : Nat} (hg : g < lo) (u : Value) : Keep lo W (W.setCell ⟨g, i, none⟩ u) := ⟨by simp [World.setCell], fun j h1 _ => Below.heap_setCell W ⟨g, i, none⟩ u j (by show j ≠ g; omega)⟩
theorem own_keep {lo size n : Nat} {e : TypeId} {v : Value} {xs : List Value} {W W' : World} (h : W.ownsRow lo e size v n xs) (hk : Keep lo W W') : W'.ownsRow lo e size v n xs := by
  refine ⟨h.1, ?_⟩
  rcases h.2 with hn | ⟨g, cap, cur, rfl, hb1, hgg, rest⟩
  · exact .inl hn
  · exact .inr ⟨g, cap, cur, rfl, hb1, (hk.block g hb1 (Array.getElem?_eq_some_iff.1 hgg).1).trans hgg, rest⟩
theorem readsI_keep {lo : Nat} {v : Value} {zs : List Int} {W W' : World} (h : ReadsI W v zs) (hn : NewFrom lo v) (hk : Keep lo W W') : ReadsI W' v zs := by
  rcases h with h0 | ⟨b, off, c, rfl, h1, h2, h3, h4⟩
  · exact .inl h0
  · exact .inr ⟨b, off, c, rfl, h1, h2, Nat.lt_of_lt_of_le h3 hk.size, fun j hj => by rw [← h4 j hj]; exact World.cell?_of_block (hk.block b (hn b rfl) h3)⟩
theorem typed_keep {lo : Nat} {v : Value} {W W' : World} (h : TypedI W v) (hn : NewFrom lo v) (hk : Keep lo W W') : TypedI W' v := fun g hg => by
  obtain ⟨c, hc⟩ := h g hg
  exact ⟨c, (hk.block g (hn g hg) (Array.getElem?_eq_some_iff.1 hc).1).trans hc⟩
theorem Cp.keep {lo : Nat} {ev : Nat → Ev} {el : Nat → El} {es : List Ev} {W W' : World} (h : Cp ev el es W) (hn : NewEs lo es) (hk : Keep lo W W') : Cp ev el es W' :=
  ⟨h.like, fun j e hj => ⟨readsI_keep (h.reads j e hj).1 (hn j e hj).1 hk, readsI_keep (h.reads j e hj).2.1 (hn j e hj).2.1 hk, readsI_keep (h.reads j e hj).2.2 (hn j e hj).2.2 hk⟩,
    fun j e hj => ⟨typed_keep (h.typed j e hj).1 (hn j e hj).1 hk, typed_keep (h.typed j e hj).2.1 (hn j e hj).2.1 hk, typed_keep (h.typed j e hj).2.2 (hn j e hj).2.2 hk⟩⟩
/-- a row of events of the call's own -/
structure RowE (lo : Nat) (W : World) (v : Value) (n : Nat) (es : List Ev) (ev : Nat → Ev) (el : Nat → El) : Prop where
  len : es.length = n
  own : W.ownsRow lo 32 14 v n (flat es)
  cp : Cp ev el es W
  new : NewEs lo es
theorem RowE.keep {lo : Nat} {W W' : World} {v : Value} {n : Nat} {es : List Ev} {ev : Nat → Ev} {el : Nat → El} (h : RowE lo W v n es ev el) (hk : Keep lo W W') : RowE lo W' v n es ev el := ⟨h.len, own_keep h.own hk, h.cp.keep h.new hk, h.new⟩
theorem own_form {W : World} {base size n : Nat} {e : TypeId} {v : Value} {xs : List Value} (h : W.ownsRow base e size v n xs) : ∃ a c, v = .slice a n c := by
  rcases h.2 with ⟨rfl, h0⟩ | ⟨g, cap, cur, rfl, _⟩
  · exact ⟨none, 0, by rw [h0]⟩
  · exact ⟨_, _, rfl⟩
/-- what a row of rows grows by is none of the rows -/
theorem other_block {base m : Nat} {xs : List Value} {vH : Value} {W : World} (hown : W.ownsRow base 33 1 vH m xs) {g : Nat} {cur : Array Value} {T : TypeId} (hT : T ≠ 33) (hc : W.heap[g]? = some (.cells cur T (0, 0))) : vH.ownBlock ≠ some g := fun hh => by
  rcases hown.2 with ⟨rfl, _⟩ | ⟨g', cap, cur', rfl, _, hgg, _⟩
  · simp [Value.ownBlock] at hh
  · simp [Value.ownBlock] at hh
    subst hh
    rw [hc] at hgg
    simp at hgg
    exact hT hgg.2
theorem reads_grown2 {base m : Nat} {xs : List Value} {vH vl : Value} {zs : List Int} {w w' : World} (hown : w.ownsRow base 33 1 vH m xs) (hg : w.grownBy w' vH.ownBlock) (hr : ReadsI w vl zs) (ht : TypedI w vl) : ReadsI w' vl zs ∧ TypedI w' vl := by
  have hne : ∀ g, vl.ownBlock = some g → w'.heap[g]? = w.heap[g]? := fun g hv => by
    obtain ⟨c, hc⟩ := ht g hv
    exact hg.block g (Array.getElem?_eq_some_iff.1 hc).1 (other_block hown (by decide) hc).symm
  refine ⟨?_, fun g hv => by obtain ⟨c, hc⟩ := ht g hv; exact ⟨c, (hne g hv).trans hc⟩⟩
  rcases hr with h0 | ⟨b, off, c, rfl, h1, h2, h3, h4⟩
  · exact .inl h0
  · refine .inr ⟨b, off, c, rfl, h1, h2, Nat.lt_of_lt_of_le h3 hg.size, fun j hj => ?_⟩
    rw [← h4 j hj]
    exact World.cell?_of_block (hne b rfl)
theorem RowE.grown {lo : Nat} {W W' : World} {v : Value} {n : Nat} {es : List Ev} {ev : Nat → Ev} {el : Nat → El} (h : RowE lo W v n es ev el) {base m : Nat} {xs : List Value} {vH : Value} (hown : W.ownsRow base 33 1 vH m xs) (hg : W.grownBy W' vH.ownBlock) : RowE lo W' v n es ev el :=
  ⟨h.len, by
    refine ⟨h.own.1, ?_⟩
    rcases h.own.2 with hn | ⟨g, cap, cur, rfl, hb1, hgg, rest⟩
    · exact .inl hn
    · exact .inr ⟨g, cap, cur, rfl, hb1, (hg.block g (Array.getElem?_eq_some_iff.1 hgg).1 (other_block hown (by decide) hgg).symm).trans hgg, rest⟩,
   ⟨h.cp.like, fun j e hj => ⟨(reads_grown2 hown hg (h.cp.reads j e hj).1 (h.cp.typed j e hj).1).1, (reads_grown2 hown hg (h.cp.reads j e hj).2.1 (h.cp.typed j e hj).2.1).1, (reads_grown2 hown hg (h.cp.reads j e hj).2.2 (h.cp.typed j e hj).2.2).1⟩,
    fun j e hj => ⟨(reads_grown2 hown hg (h.cp.reads j e hj).1 (h.cp.typed j e hj).1).2, (reads_grown2 hown hg (h.cp.reads j e hj).2.1 (h.cp.typed j e hj).2.1).2, (reads_grown2 hown hg (h.cp.reads j e hj).2.2 (h.cp.typed j e hj).2.2).2⟩⟩,
   h.new⟩
/-- so many harts' rows -/
structure RowsE (lo : Nat) (W : World) (c : Cd) (k : Nat) (ess : List (List Ev)) (vals : List Value) : Prop where
  l1 : ess.length = k
  l2 : vals.length = k
  each : ∀ h, h < k → ∃ v es, vals[h]? = some v ∧ ess[h]? = some es ∧ RowE lo W v (c.len h) es (c.ev h) (c.el h)
theorem RowsE.nil (lo : Nat) (W : World) (c : Cd) : RowsE lo W c 0 [] [] := ⟨rfl, rfl, fun h hh => absurd hh (by omega)⟩
theorem RowsE.keep {lo : Nat} {W W' : World} {c : Cd} {k : Nat} {ess : List (List Ev)} {vals : List Value} (h : RowsE lo W c k ess vals) (hk : Keep lo W W') : RowsE lo W' c k ess vals :=
  ⟨h.l1, h.l2, fun j hj => by obtain ⟨v, es, h1, h2, h3⟩ := h.each j hj; exact ⟨v, es, h1, h2, h3.keep hk⟩⟩
theorem RowsE.grown {lo : Nat} {W W' : World} {c : Cd} {k : Nat} {ess : List (List Ev)} {vals : List Value} (h : RowsE lo W c k ess vals) {base m : Nat} {xs : List Value} {vH : Value} (hown : W.ownsRow base 33 1 vH m xs) (hg : W.grownBy W' vH.ownBlock) : RowsE lo W' c k ess vals :=
  ⟨h.l1, h.l2, fun j hj => by obtain ⟨v, es, h1, h2, h3⟩ := h.each j hj; exact ⟨v, es, h1, h2, h3.grown hown hg⟩⟩
theorem RowsE.more {lo : Nat} {W : World} {c : Cd} {k : Nat} {ess : List (List Ev)} {vals : List Value} (h : RowsE lo W c k ess vals) {v : Value} {es : List Ev} (hr : RowE lo W v (c.len k) es (c.ev k) (c.el k)) : RowsE lo W c (k + 1) (ess ++ [es]) (vals ++ [v]) :=
  ⟨by rw [List.length_append, h.l1]; rfl, by rw [List.length_append, h.l2]; rfl, fun j hj => by
    by_cases e : j = k
    · subst e
      refine ⟨v, es, ?_, ?_, hr⟩
      · rw [List.getElem?_append_right (by rw [h.l2]; exact Nat.le_refl _), h.l2, Nat.sub_self]; rfl
      · rw [List.getElem?_append_right (by rw [h.l1]; exact Nat.le_refl _), h.l1, Nat.sub_self]; rfl
    · obtain ⟨v2, es2, h1, h2, h3⟩ := h.each j (by omega)
      exact ⟨v2, es2, by rw [List.getElem?_append_left (by rw [h.l2]; omega)]; exact h1, by rw [List.getElem?_append_left (by rw [h.l1]; omega)]; exact h2, h3⟩⟩
/-- where the copy's lists lie -/
structure Od (w : World) (gB lo : Nat) (vF vR vO : Value) : Prop where
  lo1 : w.heap.size + 1 < gB
  lo2 : gB < lo
  f : ∀ g, vF.ownBlock = some g → w.heap.size + 1 < g ∧ g ≠ gB ∧ g < lo
  r : ∀ g, vR.ownBlock = some g → w.heap.size + 1 < g ∧ g ≠ gB ∧ g < lo
  o : ∀ g, vO.ownBlock = some g → w.heap.size + 1 < g ∧ g ≠ gB ∧ g < lo
  ro : ∀ g, vR.ownBlock = some g → vO.ownBlock ≠ some g
/-- the copy under way -/
structure Oc (c : Cd) (q : Cv) (gB lo : Nat) (vF vR vO vH : Value) (k : Nat) (ess : List (List Ev)) (vals : List Value) (w W : World) : Prop where
  lk : Lk c q w W
  res : W.heap[w.heap.size + 1]? = some (.cells #[.slice none 0 0, .slice none 0 0, .slice none 0 0, .slice none 0 0] 26 (0, 0))
  out : W.heap[gB]? = some (.cells #[vF, vH, vR, vO] 26 (0, 0))
  first : W.ownsRow w.heap.size 59 2 vF c.fs.length (flatC c.fs)
  from_ : W.ownsRow w.heap.size 3 1 vR c.fr.length (intsV c.fr)
  order : W.ownsRow w.heap.size 3 1 vO c.od.length (intsV c.od)
  rows : RowsE lo W c k ess vals
  own : W.ownsRow lo 33 1 vH k vals
  ord : Od w gB lo vF vR vO
  sz : lo ≤ W.heap.size
theorem Oc.on {c : Cd} {q : Cv} {gB lo : Nat} {vF vR vO vH : Value} {k : Nat} {ess : List (List Ev)} {vals : List Value} {w W W2 : World} (h : Oc c q gB lo vF vR vO vH k ess vals w W) (hb : Below W.heap.size W W2) : Oc c q gB lo vF vR vO vH k ess vals w W2 :=
  ⟨h.lk.on hb, (hb.block _ (Array.getElem?_eq_some_iff.1 h.res).1).trans h.res, (hb.block _ (Array.getElem?_eq_some_iff.1 h.out).1).trans h.out, own_on h.first hb, own_on h.from_ hb, own_on h.order hb, h.rows.keep (.of_below hb), own_on h.own hb, h.ord, Nat.le_trans h.sz hb.size⟩
theorem own_but {W W2 : World} {base size n : Nat} {e : TypeId} {v : Value} {xs : List Value} (h : W.ownsRow base e size v n xs) (hb : ∀ g, v.ownBlock = some g → W2.heap[g]? = W.heap[g]?) : W2.ownsRow base e size v n xs := by
  refine ⟨h.1, ?_⟩
  rcases h.2 with hn | ⟨g, cap, cur, rfl, hb1, hgg, rest⟩
  · exact .inl hn
  · exact .inr ⟨g, cap, cur, rfl, hb1, (hb g rfl).trans hgg, rest⟩
theorem Oc.outOn {c : Cd} {q : Cv} {gB lo : Nat} {vF vR vO vH : Value} {k : Nat} {ess : List (List Ev)} {vals : List Value} {w W W2 : World} (h : Oc c q gB lo vF vR vO vH k ess vals w W) (hg : W.grownBy W2 vH.ownBlock) : W2.heap[gB]? = some (.cells #[vF, vH, vR, vO] 26 (0, 0)) :=
  (hg.block gB (Array.getElem?_eq_some_iff.1 h.out).1 (fun hh => by have := (h.own.lt gB hh.symm).1; have := h.ord.lo2; omega)).trans h.out
theorem Oc.free {c : Cd} {q : Cv} {gB lo : Nat} {vF vR vO vH : Value} {k : Nat} {ess : List (List Ev)} {vals : List Value} {w W W2 : World} (h : Oc c q gB lo vF vR vO vH k ess vals w W) (hg : W.grownBy W2 vH.ownBlock) : W2.frozen? ⟨gB, 1, none⟩ = false := frozen_of_row W2 gB 1 _ _ (h.outOn hg)
theorem Oc.there {c : Cd} {q : Cv} {gB lo : Nat} {vF vR vO vH : Value} {k : Nat} {ess : List (List Ev)} {vals : List Value} {w W W2 : World} (h : Oc c q gB lo vF vR vO vH k ess vals w W) (hg : W.grownBy W2 vH.ownBlock) : W2.cell? ⟨gB, 1, none⟩ = some vH := by rw [cell_of_row W2 gB 1 _ _ _ (h.outOn hg)]; rfl
theorem Oc.cell1 {c : Cd} {q : Cv} {gB lo : Nat} {vF vR vO vH : Value} {k : Nat} {ess : List (List Ev)} {vals : List Value} {w W : World} (h : Oc c q gB lo vF vR vO vH k ess vals w W) : W.cell? ⟨gB, 1, none⟩ = some vH := by rw [cell_of_row W gB 1 _ _ _ h.out]; rfl
/-- a row more -/
theorem Oc.step {c : Cd} {q : Cv} {gB lo : Nat} {vF vR vO vH vH2 : Value} {k : Nat} {ess : List (List Ev)} {vals : List Value} {w W W2 : World} (h : Oc c q gB lo vF vR vO vH k ess vals w W) {v : Value} {es : List Ev} (hr : RowE lo W v (c.len k) es (c.ev k) (c.el k))
    (ho : W2.ownsRow lo 33 1 vH2 (k + 1) (vals ++ [v])) (hg : W.grownBy W2 vH.ownBlock) : Oc c q gB lo vF vR vO vH2 (k + 1) (ess ++ [es]) (vals ++ [v]) w (W2.setCell ⟨gB, 1, none⟩ vH2) := by
  have hvH : ∀ g, vH.ownBlock = some g → lo ≤ g := fun g hh => (h.own.lt g hh).1
  have o1 := h.ord.lo1
  have o2 := h.ord.lo2
  have blk : ∀ j, j < lo → j ≠ gB → (W2.setCell ⟨gB, 1, none⟩ vH2).heap[j]? = W.heap[j]? := fun j h1 h2 =>
    (Below.heap_setCell W2 ⟨gB, 1, none⟩ vH2 j h2).trans (hg.block j (Nat.lt_of_lt_of_le h1 h.sz) (fun hh => by have := hvH j hh.symm; omega))
  have hout : W2.heap[gB]? = some (.cells #[vF, vH, vR, vO] 26 (0, 0)) := (hg.block gB (Array.getElem?_eq_some_iff.1 h.out).1 (fun hh => by have := hvH gB hh.symm; omega)).trans h.out
  refine ⟨⟨(blk _ (by omega) (by omega)).trans h.lk.box, (h.lk.below.grown hg h.lk.below.size (fun g hh => by have := hvH g hh; omega)).setCell (by show w.heap.size ≤ gB; omega) _, h.lk.here⟩, (blk _ (by omega) (by omega)).trans h.res, ?_, ?_, ?_, ?_, ?_, ?_, h.ord, ?_⟩
  · exact set_at W2 gB 1 vH2 _ _ _ hout
  · exact own_but h.first (fun g hh => blk g (by have := h.ord.f g hh; omega) (by have := h.ord.f g hh; omega))
  · exact own_but h.from_ (fun g hh => blk g (by have := h.ord.r g hh; omega) (by have := h.ord.r g hh; omega))
  · exact own_but h.order (fun g hh => blk g (by have := h.ord.o g hh; omega) (by have := h.ord.o g hh; omega))
  · exact ((h.rows.more hr).grown h.own hg).keep (.set o2 _)
  · exact own_keep ho (.set o2 _)
  · exact Nat.le_trans h.sz (Nat.le_trans hg.size (by simp [World.setCell]))
/-- the copy that was answered -/
structure OwnC (c : Cd) (gB lo : Nat) (vF vR vO vH : Value) (ess : List (List Ev)) (vals : List Value) (w W : World) : Prop where
  first : W.ownsRow w.heap.size 59 2 vF c.fs.length (flatC c.fs)
  from_ : W.ownsRow w.heap.size 3 1 vR c.fr.length (intsV c.fr)
  order : W.ownsRow w.heap.size 3 1 vO c.od.length (intsV c.od)
  rows : RowsE lo W c c.nh ess vals
  own : W.ownsRow lo 33 1 vH c.nh vals
  ord : Od w gB lo vF vR vO
  below : Below w.heap.size w W
theorem Oc.done {c : Cd} {q : Cv} {gB lo : Nat} {vF vR vO vH : Value} {ess : List (List Ev)} {vals : List Value} {w W : World} (h : Oc c q gB lo vF vR vO vH c.nh ess vals w W) (cs : Array Value) : OwnC c gB lo vF vR vO vH ess vals w (W.setRow (w.heap.size + 1) cs) := by
  have o1 := h.ord.lo1
  have o2 := h.ord.lo2
  have hk : Keep lo W (W.setRow (w.heap.size + 1) cs) := ⟨by simp, fun j h1 _ => setRow_other _ _ _ _ (by omega)⟩
  refine ⟨?_, ?_, ?_, h.rows.keep hk, own_keep h.own hk, h.ord, h.lk.below.trans ⟨rfl, rfl, rfl, by simp, fun j hj => setRow_other _ _ _ _ (by omega)⟩⟩
  · exact own_but h.first (fun g hh => setRow_other _ _ _ _ (by have := h.ord.f g hh; omega))
  · exact own_but h.from_ (fun g hh => setRow_other _ _ _ _ (by have := h.ord.r g hh; omega))
  · exact own_but h.order (fun g hh => setRow_other _ _ _ _ (by have := h.ord.o g hh; omega))
end Go.Proofs.YtcbfokbdiefdeaaGreatDoor
namespace Go.Proofs.YtcbfokbdiefdeaaGreatDoor
set_option linter.unusedVariables false
set_option linter.unusedSimpArgs false
open Go.RowKit
attribute [local go_sem ↓] fold_E fold_SE

def StoreC (x y : Value) : Sem Unit := Instr.storeAt 26 x y
theorem fold_SC (x y : Value) : Instr.storeAt 26 x y = StoreC x y := rfl
attribute [local go_sem ↓] fold_SC
def CBox (v0 v1 v2 v3 : Value) (n : Nat) (w : World) : Prop := w.heap[n]? = some (.cells #[v0, v1, v2, v3] 26 (0, 0))
theorem CBox.new (v0 v1 v2 v3 : Value) (w : World) : CBox v0 v1 v2 v3 w.heap.size (w.alloc (.cells #[v0, v1, v2, v3] 26)) := Array.getElem?_push_size
theorem CBox.lt {v0 v1 v2 v3 : Value} {n : Nat} {w : World} (h : CBox v0 v1 v2 v3 n w) : n < w.heap.size := (Array.getElem?_eq_some_iff.1 h).1
theorem CBox.facts {v0 v1 v2 v3 : Value} {n : Nat} {w : World} (h : CBox v0 v1 v2 v3 n w) : w.cell? ⟨n, 0, none⟩ = some v0 ∧ w.cell? ⟨n, 1, none⟩ = some v1 ∧ w.cell? ⟨n, 2, none⟩ = some v2 ∧ w.cell? ⟨n, 3, none⟩ = some v3 :=
  ⟨by rw [cell_of_row w n 0 _ _ _ h]; rfl, by rw [cell_of_row w n 1 _ _ _ h]; rfl, by rw [cell_of_row w n 2 _ _ _ h]; rfl, by rw [cell_of_row w n 3 _ _ _ h]; rfl⟩
theorem run_StoreC {x0 x1 x2 x3 y0 y1 y2 y3 : Value} {n : Nat} {w : World} (H : CBox x0 x1 x2 x3 n w) (h0 : y0.oneCell' = true) (h1 : y1.oneCell' = true) (h2 : y2.oneCell' = true) (h3 : y3.oneCell' = true) : (StoreC (.pointer (some ⟨n, 0, none⟩)) (.agg #[y0, y1, y2, y3])).run Tryz.prog w = .ok () (w.setRow n #[y0, y1, y2, y3]) := by
  unfold StoreC Instr.storeAt Instr.sureAddr
  simp only [Sem.run_bind, Sem.run_pure, Result.andThen_ok]
  exact run_storeVar_row w n _ _ _ _ H (by as_aux_lemma => kernel_rfl) rfl (by simp [h0, h1, h2, h3])
theorem cand_end {fn : Func} {tmps : Array Value} {p : Tmp} {v0 v1 v2 v3 : Value} {n : Nat} {w : World} (h : fn.results = #[.cell p 26]) (hp : tmps.getD p undef = .pointer (some ⟨n, 0, none⟩)) (H : CBox v0 v1 v2 v3 n w) :
    (results fn tmps).run Tryz.prog w = .ok (.agg #[v0, v1, v2, v3]) w :=
  results_cell_row h tmps w n _ _ (0, 0) _ hp H Tryz.underlying26 rfl (by as_aux_lemma => kernel_rfl)
theorem infoEvs : (Tryz.prog.info? 33).map (fun i => (i.zero, i.size, i.bytes)) = some (some (.slice none 0 0), 1, 24) := by kernel_rfl
/-- append of one row, as a step of a region that draws -/
theorem step_append_row {ops : Array Oper} {o : Oper} {a : Act} {w : World} {K : Act → World → Prop} {Q : Exit → Act → World → Prop} {E : Prop} (hgd : o.guard = none) (s x : Operand)
    (ho : o.op = .call { callee := .builtin .append, args := #[s, x], argTypes := #[23, 23] }) (base : Nat) (v : Value) (n : Nat) (xs : List Value) (hs : a.eval s = v) (hown : w.ownsRow base 33 1 v n xs)
    (r : Value) (h1 : r.oneCell' = true) (g : Nat) (hx : a.eval x = .slice (some ⟨g, 0, none⟩) 1 1) (hr : w.heap[g]? = some (.cells #[r] 33 (0, 0))) (hn : n ≤ 1000) (hbase : base ≤ w.heap.size)
    (h : ∀ v' w', w'.ownsRow base 33 1 v' (n + 1) (xs ++ [r]) → w.grownBy w' v.ownBlock → K (a.put o.dst v') w') : if Region.wanted o (yielded ops a.tmps) = true then Oper.wp Tryz.prog o a w K Q else E := by
  have hw : Region.wanted o (yielded ops a.tmps) = true := by simp [Region.wanted, hgd]
  rw [if_pos hw]
  obtain ⟨i0, hi, hz0, hz1, hz2⟩ := info_parts infoEvs
  refine wp_append_own w s x _ ho base 33 i0 (.slice none 0 0) 1 24 Tryz.underlying23 hi hz0 hz1 hz2 (by kernel_rfl) (by decide) v n xs hs hown ⟨g, 0, none⟩ 1 1 [r] hx rfl ?_ ?_ (by unfold maxLen; omega) (by omega) hbase (fun v' w' h5 h6 _ => h v' w' h5 h6)
  · intro j u hu
    rw [Addr.add_lit, Nat.zero_add, cell_of_row w g j _ _ _ hr]
    simpa using hu
  · intro u hu
    simp only [List.mem_cons, List.not_mem_nil, or_false] at hu
    subst hu
    exact h1
theorem owns2_any (v : Value) (n : Nat) (ev : Nat → Ev) (el : Nat → El) (w : World) (h : RowV w v n ev el) (hn : n ≤ 60) (hs : ∀ k, k < n → small (el k)) : Calls Tryz.prog 33 #[v] w fun e w' => Owns2Is w n ev el e w' := by
  obtain ⟨a, c, rfl, hc, h0 | ⟨b, off, rfl, hr⟩⟩ := h
  · subst h0
    exact owns2_none a c ev el w
  · exact owns2_row n b off c ev el w hn ⟨hr.at_, hr.reads, fun k hk => (hs k hk).n, hr.low, hr.lt⟩
theorem own_mono {W : World} {base base2 size n : Nat} {e : TypeId} {v : Value} {xs : List Value} (h : W.ownsRow base e size v n xs) (hb : base2 ≤ base) : W.ownsRow base2 e size v n xs := by
  refine ⟨h.1, ?_⟩
  rcases h.2 with hn | ⟨g, cap, cur, rfl, hb1, rest⟩
  · exact .inl hn
  · exact .inr ⟨g, cap, cur, rfl, Nat.le_trans hb hb1, rest⟩
/-- the boxes of the call -/
structure Osx (c : Cd) (q : Cv) (w W : World) : Prop where
  lk : Lk c q w W
  res : CBox (.slice none 0 0) (.slice none 0 0) (.slice none 0 0) (.slice none 0 0) (w.heap.size + 1) W
theorem Osx.on {c : Cd} {q : Cv} {w W W2 : World} (h : Osx c q w W) (hb : Below W.heap.size W W2) : Osx c q w W2 := ⟨h.lk.on hb, (hb.block _ h.res.lt).trans h.res⟩
theorem Osx.start {c : Cd} {q : Cv} {w : World} (h : CAt c q w) : Osx c q w ((w.alloc (.cells #[.slice q.aF c.fs.length q.cF, .slice q.aH c.nh q.cH, .slice q.aR c.fr.length q.cR, .slice q.aO c.od.length q.cO] 26)).alloc (.cells #[.slice none 0 0, .slice none 0 0, .slice none 0 0, .slice none 0 0] 26)) := by
  refine ⟨(Lk.start h).on (box_below _ _), ?_⟩
  have := CBox.new (.slice none 0 0) (.slice none 0 0) (.slice none 0 0) (.slice none 0 0) (w.alloc (.cells #[.slice q.aF c.fs.length q.cF, .slice q.aH c.nh q.cH, .slice q.aR c.fr.length q.cR, .slice q.aO c.od.length q.cO] 26))
  simp only [World.size_alloc] at this
  exact this
theorem Osx.set {c : Cd} {q : Cv} {w W : World} (h : Osx c q w W) {n : Nat} (hn : w.heap.size + 1 < n) (cs : Array Value) : Osx c q w (W.setRow n cs) :=
  ⟨⟨(setRow_other _ _ _ _ (by omega)).trans h.lk.box, h.lk.below.trans (below_setRow.mono (by omega)), h.lk.here⟩, (setRow_other _ _ _ _ (by omega)).trans h.res⟩
theorem CBox.on {v0 v1 v2 v3 : Value} {n : Nat} {w w2 : World} (h : CBox v0 v1 v2 v3 n w) (hb : Below w.heap.size w w2) : CBox v0 v1 v2 v3 n w2 := (hb.block n h.lt).trans h
theorem apart_cand {W : World} {base size n gB : Nat} {e : TypeId} {v : Value} {xs : List Value} (h : W.ownsRow base e size v n xs) (he : e ≠ 26) {v0 v1 v2 v3 : Value} (hB : CBox v0 v1 v2 v3 gB W) : ∀ g, v.ownBlock = some g → g ≠ gB := fun g hg e2 => by
  rcases h.2 with ⟨rfl, _⟩ | ⟨g', cap, cur, rfl, _, hgg, _⟩
  · simp [Value.ownBlock] at hg
  · simp [Value.ownBlock] at hg
    subst hg
    subst e2
    rw [hB] at hgg
    simp at hgg
    exact he hgg.2.symm
theorem Oc.start {c : Cd} {q : Cv} {w W : World} {gB : Nat} (h : Osx c q w W) {vF vR vO : Value} (hB : CBox (.slice none 0 0) (.slice none 0 0) (.slice none 0 0) (.slice none 0 0) gB W) (hgB : w.heap.size + 1 < gB) (hF : W.ownsRow (w.heap.size + 2) 59 2 vF c.fs.length (flatC c.fs)) (hR : W.ownsRow (w.heap.size + 2) 3 1 vR c.fr.length (intsV c.fr)) (hO : W.ownsRow (w.heap.size + 2) 3 1 vO c.od.length (intsV c.od))
    (ro : ∀ g, vR.ownBlock = some g → vO.ownBlock ≠ some g) : Oc c q gB W.heap.size vF vR vO (.slice none 0 0) 0 [] [] w (W.setRow gB #[vF, .slice none 0 0, vR, vO]) := by
  have hX := h.set hgB #[vF, .slice none 0 0, vR, vO]
  have aF := apart_cand hF (by decide) hB
  have aR := apart_cand hR (by decide) hB
  have aO := apart_cand hO (by decide) hB
  refine ⟨hX.lk, hX.res, setRow_heap _ _ _ _ _ _ hB, ?_, ?_, ?_, RowsE.nil _ _ _, World.ownsRow_nil _ _ _ _, ⟨hgB, hB.lt, ?_, ?_, ?_, ro⟩, ?_⟩
  · exact own_mono (own_but hF (fun g hg => setRow_other _ _ _ _ (aF g hg))) (by omega)
  · exact own_mono (own_but hR (fun g hg => setRow_other _ _ _ _ (aR g hg))) (by omega)
  · exact own_mono (own_but hO (fun g hg => setRow_other _ _ _ _ (aO g hg))) (by omega)
  · exact fun g hg => by have := hF.lt g hg; have := aF g hg; omega
  · exact fun g hg => by have := hR.lt g hg; have := aR g hg; omega
  · exact fun g hg => by have := hO.lt g hg; have := aO g hg; omega
  · simp
def OwnCandIs (c : Cd) (q : Cv) (w : World) (e : Ending) (w' : World) : Prop := ∃ gB lo vF vR vO vH ess vals, e = .returned (.agg #[vF, vH, vR, vO]) ∧ OwnC c gB lo vF vR vO vH ess vals w w'
set_option maxRecDepth 100000 in
set_option maxHeartbeats 8000000 in
theorem ownCand_any (c : Cd) (q : Cv) (w : World) (hL : Lt c) (h : CAt c q w) : Calls Tryz.prog 9 #[cdV c q] w fun e w' => OwnCandIs c q w e w' := by
  have S0 := Lib.hid (Osx.start h)
  have hfs : c.fs.length ≤ 1000 := by have := hL.fs; omega
  have hfr : c.fr.length ≤ 100000 := by have := hL.fr; omega
  have hod : c.od.length ≤ 100000 := by have := hL.od; omega
  have hnh := hL.nh
  have HSM := Lib.hid hL.small
  clear h hL
  go_enter Tryz.func9, Tryz.ntmps9
  go_upto_region 1 with fail
  go_name_world W1 hW
  rw [hW] at S0
  clear hW
  have SD := Lib.hid (S0.out.on (Below.refl _ _).drew)
  have hz1 := S0.out.res.lt
  have hzd : W1.drew.heap.size = W1.heap.size := rfl
  have hz1d : w.heap.size + 1 < W1.drew.heap.size := hz1
  clear hzd
  have SDa : Hid (Osx c q w (W1.alloc (.cells #[.slice none 0 0, .slice none 0 0, .slice none 0 0, .slice none 0 0] 26)).drew) := Lib.hid ((S0.out.on (box_below W1 (.cells #[.slice none 0 0, .slice none 0 0, .slice none 0 0, .slice none 0 0] 26))).on (Below.refl _ _).drew)
  have B0 : Hid (CBox (.slice none 0 0) (.slice none 0 0) (.slice none 0 0) (.slice none 0 0) W1.heap.size (W1.alloc (.cells #[.slice none 0 0, .slice none 0 0, .slice none 0 0, .slice none 0 0] 26)).drew) := Lib.hid (CBox.new _ _ _ _ W1)
  go_cut [3] (fun t3 wx => ∃ gB lo vF vR vO, t3 = .pointer (some ⟨gB, 0, none⟩) ∧ Hid (Oc c q gB lo vF vR vO (.slice none 0 0) 0 [] [] w wx))
  case first =>
    go_region_held3 (fun w' => w'.cell? ⟨w.heap.size, 0, none⟩ = some (.slice q.aF c.fs.length q.cF) ∧ w'.cell? ⟨w.heap.size, 1, none⟩ = some (.slice q.aH c.nh q.cH) ∧ w'.cell? ⟨w.heap.size, 2, none⟩ = some (.slice q.aR c.fr.length q.cR) ∧ w'.cell? ⟨w.heap.size, 3, none⟩ = some (.slice q.aO c.od.length q.cO))
      (first | exact SD.out.lk.box.facts | exact S0.out.lk.box.facts | exact (S3.out.set (by omega) _).lk.box.facts | exact S3.out.lk.box.facts | exact (S3a.out.set (by omega) _).lk.box.facts | exact S3a.out.lk.box.facts | exact (S2.out.set (by omega) _).lk.box.facts | exact S2.out.lk.box.facts | exact (S2a.out.set (by omega) _).lk.box.facts | exact S2a.out.lk.box.facts | exact (S1.out.set (by omega) _).lk.box.facts | exact S1.out.lk.box.facts | exact (S1a.out.set (by omega) _).lk.box.facts | exact S1a.out.lk.box.facts | exact (SDa.out.set (by omega) _).lk.box.facts | exact SDa.out.lk.box.facts)
      ((first
        | (go_at_call 31; (with_reducible refine (ownC_any (.slice q.aF c.fs.length q.cF) c.fs _ (by first | exact SD.out.lk.at_.first | exact SDa.out.lk.at_.first) hfs).mono ?_); rintro e' w1 ⟨v1, rfl, h1, hb⟩; obtain ⟨aF, cF, rfl⟩ := own_form h1; have S1 : Hid (Osx c q w w1) := Lib.hid (by first | exact SD.out.on hb | exact SDa.out.on hb); (first | (have C1 := Lib.hid (B0.out.on hb)) | skip); have S1a := Lib.hid (S1.out.on (box_below w1 (.cells #[.slice none 0 0, .slice none 0 0, .slice none 0 0, .slice none 0 0] 26))); have C1a : Hid (CBox (.slice none 0 0) (.slice none 0 0) (.slice none 0 0) (.slice none 0 0) w1.heap.size (w1.alloc (.cells #[.slice none 0 0, .slice none 0 0, .slice none 0 0, .slice none 0 0] 26))) := Lib.hid (CBox.new _ _ _ _ _); have F1 : Hid (w1.ownsRow (w.heap.size + 2) 59 2 (.slice aF c.fs.length cF) c.fs.length (flatC c.fs)) := Lib.hid (own_mono h1 (by first | exact hz1d | exact (SDa.out.res.lt))); have hs1 := S1.out.res.lt; clear h1 hb)
        | (go_at_call 32; (with_reducible refine (ownR_any (.slice q.aR c.fr.length q.cR) c.fr _ (by first | exact S1.out.lk.at_.from_ | exact S1a.out.lk.at_.from_) hfr).mono ?_); rintro e' w2 ⟨v2, rfl, h2, hb⟩; obtain ⟨aR, cR, rfl⟩ := own_form h2; have S2 : Hid (Osx c q w w2) := Lib.hid (by first | exact S1.out.on hb | exact S1a.out.on hb); (first | (have C2 := Lib.hid (C1.out.on hb)) | (have C2 := Lib.hid (C1a.out.on hb)) | skip); have S2a := Lib.hid (S2.out.on (box_below w2 (.cells #[.slice none 0 0, .slice none 0 0, .slice none 0 0, .slice none 0 0] 26))); have C2a : Hid (CBox (.slice none 0 0) (.slice none 0 0) (.slice none 0 0) (.slice none 0 0) w2.heap.size (w2.alloc (.cells #[.slice none 0 0, .slice none 0 0, .slice none 0 0, .slice none 0 0] 26))) := Lib.hid (CBox.new _ _ _ _ _); have G2 : Hid (w2.ownsRow (w.heap.size + 2) 3 1 (.slice aR c.fr.length cR) c.fr.length (intsV c.fr)) := Lib.hid (own_mono h2 (by first | exact hs1 | exact (S1a.out.res.lt))); have F2 : Hid (w2.ownsRow (w.heap.size + 2) 59 2 (.slice aF c.fs.length cF) c.fs.length (flatC c.fs)) := Lib.hid (by first | exact own_on F1.out hb | exact own_on (own_on F1.out (box_below w1 (.cells #[.slice none 0 0, .slice none 0 0, .slice none 0 0, .slice none 0 0] 26))) hb); have GL := Lib.hid (fun g hg => (h2.lt g hg).2); have hs2 := S2.out.res.lt; clear h2 hb)
        | (go_at_call 32; (with_reducible refine (ownR_any (.slice q.aO c.od.length q.cO) c.od _ (by first | exact S2.out.lk.at_.order | exact S2a.out.lk.at_.order) hod).mono ?_); rintro e' w3 ⟨v3, rfl, h3, hb⟩; obtain ⟨aO, cO, rfl⟩ := own_form h3; have S3 : Hid (Osx c q w w3) := Lib.hid (by first | exact S2.out.on hb | exact S2a.out.on hb); have S3a := Lib.hid (S3.out.on (box_below w3 (.cells #[.slice none 0 0, .slice none 0 0, .slice none 0 0, .slice none 0 0] 26))); have C3a : Hid (CBox (.slice none 0 0) (.slice none 0 0) (.slice none 0 0) (.slice none 0 0) w3.heap.size (w3.alloc (.cells #[.slice none 0 0, .slice none 0 0, .slice none 0 0, .slice none 0 0] 26))) := Lib.hid (CBox.new _ _ _ _ _); (first | (have C3 := Lib.hid (C2.out.on hb)) | (have C3 := Lib.hid (C2a.out.on hb)) | skip); have H3 : Hid (w3.ownsRow (w.heap.size + 2) 3 1 (.slice aO c.od.length cO) c.od.length (intsV c.od)) := Lib.hid (own_mono h3 (by first | exact hs2 | exact (S2a.out.res.lt))); have G3 : Hid (w3.ownsRow (w.heap.size + 2) 3 1 (.slice aR c.fr.length cR) c.fr.length (intsV c.fr)) := Lib.hid (by first | exact own_on G2.out hb | exact own_on (own_on G2.out (box_below w2 (.cells #[.slice none 0 0, .slice none 0 0, .slice none 0 0, .slice none 0 0] 26))) hb); have F3 : Hid (w3.ownsRow (w.heap.size + 2) 59 2 (.slice aF c.fs.length cF) c.fs.length (flatC c.fs)) := Lib.hid (by first | exact own_on F2.out hb | exact own_on (own_on F2.out (box_below w2 (.cells #[.slice none 0 0, .slice none 0 0, .slice none 0 0, .slice none 0 0] 26))) hb); have RO : Hid (∀ g, (Value.slice aR c.fr.length cR).ownBlock = some g → (Value.slice aO c.od.length cO).ownBlock ≠ some g) := Lib.hid (fun g hg hg2 => by have := GL.out g hg; have := (h3.lt g hg2).1; first | omega | (simp only [World.size_alloc] at this; omega)); have hs3 := S3.out.res.lt; (first | (have run1 := run_StoreC (y0 := .slice aF c.fs.length cF) (y1 := .slice none 0 0) (y2 := .slice aR c.fr.length cR) (y3 := .slice aO c.od.length cO) C3.out rfl rfl rfl rfl) | (have run1 := run_StoreC (y0 := .slice aF c.fs.length cF) (y1 := .slice none 0 0) (y2 := .slice aR c.fr.length cR) (y3 := .slice aO c.od.length cO) C3a.out rfl rfl rfl rfl)); clear h3 hb)))
    all_goals
      go_wp2_with fail
      go_meet
      first
        | exact ⟨_, _, _, _, _, rfl, Lib.hid (Oc.start S3.out C3.out (by omega) F3.out G3.out H3.out RO.out)⟩
        | exact ⟨_, _, _, _, _, rfl, Lib.hid (Oc.start S3a.out C3a.out (by omega) (own_on F3.out (box_below _ _)) (own_on G3.out (box_below _ _)) (own_on H3.out (box_below _ _)) RO.out)⟩
  case rest =>
    obtain ⟨gB, lo, vF, vR, vO, rfl, O0⟩ := hcut
    clear SD SDa B0 hz1d hz1 S0 hfs hfr hod
    go_wp2
    go_loopw [4] (fun vi wr => ∃ (k : Nat) (ess : List (List Ev)) (vals : List Value) (vH : Value), k ≤ c.nh ∧ vi = .int .i64 k ∧ Hid (Oc c q gB lo vF vR vO vH k ess vals w wr)) (fun vi _ => c.nh - (intOf vi).toNat)
    case atStart => exact ⟨0, _, _, _, Nat.zero_le _, rfl, O0⟩
    case round =>
      obtain ⟨k, ess, vals, vH, hk, rfl, hO⟩ := hrel
      obtain ⟨u0, u1, u2, u3⟩ := hO.out.lk.box.facts
      by_cases hlt : k < c.nh
      · obtain ⟨b, off, a2, c2, hq, hc, _, hrow⟩ := hO.out.lk.at_.harts.row k hlt
        obtain ⟨aH, cH, rfl⟩ := own_form hO.out.own
        have x1 : wr.cell? ⟨gB, 1, none⟩ = some (.slice aH k cH) := by rw [cell_of_row wr gB 1 _ _ _ hO.out.out]; rfl
        have z1 : wr.frozen? ⟨gB, 1, none⟩ = false := frozen_of_row wr gB 1 _ _ hO.out.out
        have HR := Lib.hid hrow
        have O1 := Lib.hid (hO.out.on (Below.refl _ _).drew)
        have KO := Lib.hid (fun W (hW : RowV W (.slice a2 (c.len k) c2) (c.len k) (c.ev k) (c.el k)) => owns2_any _ _ _ _ W hW (HSM.out k hlt).1 (HSM.out k hlt).2)
        have HR1 := Lib.hid (hrow.below (Below.refl wr.heap.size wr).drew)
        have hki : (k : Int) < (c.nh : Int) := by omega
        have hk0 : (0 : Int) ≤ (k : Int) := by omega
        have hk1 : k ≤ 1000 := by omega
        rw [hq] at u1
        clear hq hrow
        go_upto_region 5 with fail
        go_region_law (first
          | (go_simp; go_at_call 33; (with_reducible refine (KO.out _ HR1.out).mono ?_); rintro e' w2 ⟨v2, es, rfl, hlen, hown, hcp, hnew, hb⟩; obtain ⟨a3, c3, rfl⟩ := own_form hown; have O2 := Lib.hid (O1.out.on hb); have RW2 : Hid (RowE lo w2 (.slice a3 (c.len k) c3) (c.len k) es (c.ev k) (c.el k)) := Lib.hid ⟨hlen, own_mono hown O1.out.sz, hcp, hnew.mono O1.out.sz⟩; have y1 := O2.out.cell1; have hgl : gB < w2.heap.size := (Array.getElem?_eq_some_iff.1 O2.out.out).1; have O3 := Lib.hid (O2.out.on (box_below w2 (.cells #[.slice a3 (c.len k) c3] 33))); have RW3 := Lib.hid (RW2.out.keep (.of_below (box_below w2 (.cells #[.slice a3 (c.len k) c3] 33)))); have B3 : Hid ((w2.alloc (.cells #[.slice a3 (c.len k) c3] 33)).heap[w2.heap.size]? = some (.cells #[.slice a3 (c.len k) c3] 33 (0, 0))) := Lib.hid Array.getElem?_push_size; have y3 := O3.out.cell1; clear hlen hown hcp hnew hb)
          | (refine step_append_row rfl (.tmp 23) (.tmp 30) rfl lo (.slice aH k cH) k vals rfl O3.out.own (.slice a3 (c.len k) c3) rfl w2.heap.size rfl B3.out hk1 O3.out.sz ?_; intro v5 w5 ho5 hg5; obtain ⟨a5, c5, rfl⟩ := own_form ho5; have O5 := Lib.hid (O3.out.step RW3.out ho5 hg5); have f5 : w5.frozen? ⟨gB, 1, none⟩ = false := O3.out.free hg5; have e5 := O3.out.there hg5))
        all_goals
          go_wp2
          go_roundw
          case rel => exact ⟨k + 1, _, _, _, by omega, by go_num, O5⟩
          case measure => simp [intOf]; omega
      · obtain rfl : k = c.nh := by omega
        obtain ⟨aF, cF, rfl⟩ := own_form hO.out.first
        obtain ⟨aR, cR, rfl⟩ := own_form hO.out.from_
        obtain ⟨aO, cO, rfl⟩ := own_form hO.out.order
        obtain ⟨aH, cH, rfl⟩ := own_form hO.out.own
        obtain ⟨x0, x1, x2, x3⟩ := CBox.facts hO.out.out
        have run1 := run_StoreC (y0 := .slice aF c.fs.length cF) (y1 := .slice aH c.nh cH) (y2 := .slice aR c.fr.length cR) (y3 := .slice aO c.od.length cO) hO.out.res rfl rfl rfl rfl
        have HD := Lib.hid (hO.out.done #[.slice aF c.fs.length cF, .slice aH c.nh cH, .slice aR c.fr.length cR, .slice aO c.od.length cO])
        have HR2 : Hid (CBox (.slice aF c.fs.length cF) (.slice aH c.nh cH) (.slice aR c.fr.length cR) (.slice aO c.od.length cO) (w.heap.size + 1) (wr.setRow (w.heap.size + 1) #[.slice aF c.fs.length cF, .slice aH c.nh cH, .slice aR c.fr.length cR, .slice aO c.od.length cO])) := Lib.hid (setRow_heap _ _ _ _ _ _ hO.out.res)
        go_wp2
        refine bodyPost_ret (cand_end rfl rfl HR2.out) rfl ?_
        exact ⟨_, _, _, _, _, _, _, _, rfl, HD.out⟩
end Go.Proofs.YtcbfokbdiefdeaaGreatDoor
namespace Go.Proofs.YtcbfokbdiefdeaaGreatDoor
set_option linter.unusedVariables false
set_option linter.unusedSimpArgs false
open Go.RowKit

/-- the same but for where the lists lie, From and Order -/
structure AsEv (c d : Cd) : Prop where
  nh : d.nh = c.nh
  len : d.len = c.len
  el : d.el = c.el
  fs : d.fs = c.fs
  ev : ∀ h k, ∃ a x y, d.ev h k = (c.ev h k).lists a x y
theorem AsEv.N {c d : Cd} (h : AsEv c d) : d.N = c.N := by unfold Cd.N; rw [h.len, h.nh]
theorem AsEv.at {c d : Cd} (h : AsEv c d) (n : Nat) (hn : n < c.N) : ∃ a x y, (d.at n).1 = (c.at n).1.lists a x y := by
  obtain ⟨k, j, hk, hj, rfl⟩ := num_of c.len c.nh n hn
  have hd := d.at_is k j (by rw [h.nh]; exact hk) (by rw [h.len]; exact hj)
  rw [h.len] at hd
  rw [hd, c.at_is k j hk hj]
  exact h.ev k j
theorem rowStep_like {hart : Int} {ev ev' : Nat → Ev} {el : Nat → El} (hl : ∀ k, ∃ a x y, ev' k = (ev k).lists a x y) (k : Nat) (last : Int) : rowStep hart ev' el k last = rowStep hart ev el k last := by
  obtain ⟨a, x, y, e⟩ := hl k
  obtain ⟨a2, x2, y2, e2⟩ := hl last.toNat
  unfold rowStep
  rw [e, e2]
  rfl
theorem rowL_like {hart : Int} {ev ev' : Nat → Ev} {el : Nat → El} (hl : ∀ k, ∃ a x y, ev' k = (ev k).lists a x y) : ∀ n, rowL hart ev' el n = rowL hart ev el n
  | 0 => rfl
  | n + 1 => by
    unfold rowL
    rw [rowL_like hl n]
    congr 1
    funext last
    exact rowStep_like hl n last
theorem AsEv.rows {c d : Cd} (h : AsEv c d) (k : Nat) : rowsL d k = rowsL c k := by
  unfold rowsL
  congr 1
  funext j
  unfold rowB
  rw [h.len, h.el, rowL_like (h.ev j)]
theorem AsEv.find {c d : Cd} (h : AsEv c d) (n : Nat) (hn : n < c.N) (f : Int) : findX d n f = findX c n f := by
  obtain ⟨a, x, y, e⟩ := h.at n hn
  unfold findX
  rw [e, h.fs, h.N]
  by_cases hw : withinB f c.N = true
  · have hf : f.toNat < c.N := by
      unfold withinB at hw
      simp at hw
      omega
    obtain ⟨a2, x2, y2, e2⟩ := h.at f.toNat hf
    rw [e2]
    rfl
  · have hw2 : withinB f c.N = false := by simpa using hw
    have hr : readsE ((c.at n).1.lists a x y) = readsE (c.at n).1 := rfl
    rw [hw2, hr]
    simp only [or_true, if_true]
    try rfl
theorem AsEv.waits {c d : Cd} (h : AsEv c d) (ho : d.od = c.od) (n : Nat) (hn : n < c.N) : ∀ k, waitsL d k n = waitsL c k n
  | 0 => by
    obtain ⟨a, x, y, e⟩ := h.at n hn
    show memE (d.at n).1 = memE (c.at n).1
    rw [e]; rfl
  | k + 1 => by
    show (waitsL d k n && _) = (waitsL c k n && _)
    rw [h.waits ho n hn k, ho]
theorem AsEv.ord {c d : Cd} (h : AsEv c d) (ho : d.od = c.od) (k : Nat) : ordL d k = ordL c k := by
  unfold ordL
  congr 1
  funext j
  unfold ordAt
  rw [ho, h.N]
  by_cases hw : withinB (atI c.od j) c.N = true
  · have hf : (atI c.od j).toNat < c.N := by
      unfold withinB at hw
      simp at hw
      omega
    rw [h.waits ho _ hf j]
  · have hw2 : withinB (atI c.od j) c.N = false := by simpa using hw
    rw [hw2]; rfl
theorem AsEv.left {c d : Cd} (h : AsEv c d) (ho : d.od = c.od) : countW (waitsL d d.od.length) d.N = countW (waitsL c c.od.length) c.N := by
  rw [h.N, ho]
  exact countW_ext _ _ _ (fun n hn => h.waits ho n hn _)
theorem readsF_own {W : World} {base : Nat} {v : Value} {fs : List (Int × Int)} (h : W.ownsRow base 59 2 v fs.length (flatC fs)) : ReadsF W v fs := by
  rcases h.2 with ⟨rfl, h0⟩ | ⟨g, cap, cur, rfl, hb, hgg, hc, hm, hs, ht⟩
  · exact .inl ⟨EmptyS.nil, List.length_eq_zero_iff.1 h0⟩
  · refine .inr ⟨g, 0, cap, rfl, hc, by unfold maxLen at hm; omega, (Array.getElem?_eq_some_iff.1 hgg).1, fun j hj => ⟨?_, ?_⟩⟩
    · have := h.cells (g := g) (by simp [Value.ownBlock]) (j * 2) _ (flatC_at fs j 0 hj (by omega))
      rw [Addr.add_lit] at this
      exact this
    · have := h.cells (g := g) (by simp [Value.ownBlock]) (j * 2 + 1) _ (flatC_at fs j 1 hj (by omega))
      rw [Addr.add_lit] at this
      exact this
/-- a candidate's copy -/
def Cd.copy (c : Cd) (ess : List (List Ev)) (fr od : List Int) : Cd := ⟨c.nh, c.len, fun h k => (((ess[h]?).getD [])[k]?).getD (c.ev h k), c.el, c.fs, fr, od⟩
theorem lists_self (e : Ev) : e = e.lists e.a e.d e.y := by cases e; rfl
theorem copy_as {lo : Nat} {W : World} {c : Cd} {ess : List (List Ev)} {vals : List Value} (h : RowsE lo W c c.nh ess vals) (fr od : List Int) : AsEv c (c.copy ess fr od) := by
  refine ⟨rfl, rfl, rfl, rfl, fun j k => ?_⟩
  show ∃ a x y, (((ess[j]?).getD [])[k]?).getD (c.ev j k) = (c.ev j k).lists a x y
  by_cases hj : j < c.nh
  · obtain ⟨v, es, _, h2, h3⟩ := h.each j hj
    rw [h2]
    show ∃ a x y, (es[k]?).getD (c.ev j k) = _
    cases hk : es[k]? with
    | none => exact ⟨_, _, _, lists_self _⟩
    | some e => exact h3.cp.like k e hk
  · have hn : ess[j]? = none := List.getElem?_eq_none (by rw [h.l1]; omega)
    rw [hn]
    exact ⟨_, _, _, lists_self _⟩
theorem RowE.rowV {lo : Nat} {W : World} {v : Value} {n : Nat} {es : List Ev} {ev ev' : Nat → Ev} {el : Nat → El} (h : RowE lo W v n es ev el) (hl : ∀ k, k < n → 0 ≤ (ev k).addr) (he : ∀ k, k < n → es[k]? = some (ev' k)) : RowV W v n ev' el := by
  rcases h.own.2 with ⟨rfl, h0⟩ | ⟨g, cap, cur, rfl, hb, hgg, hc, hm, hs, ht⟩
  · exact ⟨none, 0, by rw [h0], by omega, .inl h0⟩
  · refine ⟨some ⟨g, 0, none⟩, cap, rfl, hc, .inr ⟨g, 0, rfl, ⟨fun k hk j u hu => ?_, fun k hk => h.cp.reads k _ (he k hk), fun k hk => ?_, fun _ => (Array.getElem?_eq_some_iff.1 hgg).1⟩⟩⟩
    · have hx := flat_at es k j _ u (he k hk) (by unfold Ev.row; simpa using hu)
      have := h.own.cells (g := g) (by simp [Value.ownBlock]) (k * 14 + j) u hx
      rw [Addr.add_lit] at this
      rw [← this]
      congr 2
      omega
    · obtain ⟨a, x, y, e⟩ := h.cp.like k _ (he k hk)
      rw [e]
      exact hl k hk
theorem copy_cat {lo base bF : Nat} {W : World} {c : Cd} {ess : List (List Ev)} {vals : List Value} (h : RowsE lo W c c.nh ess vals) (hl : ∀ h, h < c.nh → ∀ k, k < c.len h → 0 ≤ (c.ev h k).addr) {fr od : List Int} {aF aH aR aO : Option Addr} {cF cH cR cO : Nat}
    (hF : W.ownsRow bF 59 2 (.slice aF c.fs.length cF) c.fs.length (flatC c.fs)) (hH : W.ownsRow base 33 1 (.slice aH c.nh cH) c.nh vals) (hR : ReadsI W (.slice aR fr.length cR) fr) (hO : ReadsI W (.slice aO od.length cO) od) :
    CAt (c.copy ess fr od) ⟨aF, cF, aH, cH, aR, cR, aO, cO⟩ W := by
  refine ⟨readsF_own hF, ?_, ?_, hR, hO⟩
  · rcases hH.2 with ⟨_, h0⟩ | ⟨g, cap, cur, e, hb, hgg, hc, hm, hs, ht⟩
    · exact .inl h0
    · injection e with e1 e2 e3
      subst e1
      refine .inr ⟨g, 0, rfl, ⟨fun j hj => ?_, fun _ => (Array.getElem?_eq_some_iff.1 hgg).1⟩⟩
      obtain ⟨v, es, h1, h2, h3⟩ := h.each j hj
      refine ⟨v, ?_, h3.rowV (hl j hj) (fun k hk => ?_)⟩
      · have := hH.cells (g := g) (by simp [Value.ownBlock]) j v h1
        rw [Addr.add_lit] at this
        exact this
      · show es[k]? = some ((((ess[j]?).getD [])[k]?).getD (c.ev j k))
        rw [h2]
        show es[k]? = some ((es[k]?).getD (c.ev j k))
        rw [List.getElem?_eq_getElem (by rw [h3.len]; exact hk)]
        rfl
  · show c.nh ≤ cH
    rcases hH.2 with ⟨e, h0⟩ | ⟨g, cap, cur, e, hb, hgg, hc, hm, hs, ht⟩
    · omega
    · injection e with e1 e2 e3
      omega
/-- little in it, as in the first one -/
theorem copy_lt {c : Cd} {ess : List (List Ev)} {fr od : List Int} (hL : Lt c) (h : AsEv c (c.copy ess fr od)) (hr : fr.length ≤ 120) (ho : od.length ≤ 120) : Lt (c.copy ess fr od) where
  ew := fun j hj k hk => by
    obtain ⟨a, x, y, e⟩ := h.ev j k
    have := hL.ew j hj k hk
    rw [e]
    exact this
  nh := hL.nh
  n := hL.n
  small := hL.small
  fs := hL.fs
  fr := hr
  od := ho
  fw := hL.fw
end Go.Proofs.YtcbfokbdiefdeaaGreatDoor
namespace Go.Proofs.YtcbfokbdiefdeaaGreatDoor
set_option linter.unusedVariables false
set_option linter.unusedSimpArgs false
open Go.RowKit Go.Maps

theorem at_all {c d : Cd} (h : AsEv c d) (n : Nat) : ∃ a x y, d.at n = ((c.at n).1.lists a x y, (c.at n).2) := by
  by_cases hn : n < c.N
  · obtain ⟨k, j, hk, hj, rfl⟩ := num_of c.len c.nh n hn
    have hd := d.at_is k j (by rw [h.nh]; exact hk) (by rw [h.len]; exact hj)
    rw [h.len] at hd
    rw [hd, c.at_is k j hk hj, h.el]
    obtain ⟨a, x, y, e⟩ := h.ev k j
    exact ⟨a, x, y, by rw [e]⟩
  · have hc : c.at n = (zeroEv, nilL) := by
      unfold Cd.at
      rw [List.getD_eq_getElem?_getD, List.getElem?_eq_none (by rw [allP_len]; unfold Cd.N at hn; omega)]; rfl
    have hd : d.at n = (zeroEv, nilL) := by
      have hN := h.N
      unfold Cd.at
      rw [List.getD_eq_getElem?_getD, List.getElem?_eq_none (by rw [allP_len]; unfold Cd.N at hn hN; omega)]; rfl
    rw [hc, hd]
    exact ⟨zeroEv.a, zeroEv.d, zeroEv.y, rfl⟩
structure Al (c d : Cd) : Prop where
  ae : AsEv c d
  fr : d.fr = c.fr
  od : d.od = c.od
section
variable {c d : Cd} (h : Al c d)
include h
theorem Al.el (n : Nat) : (d.at n).2 = (c.at n).2 := by obtain ⟨a, x, y, e⟩ := at_all h.ae n; rw [e]
theorem Al.hart (n : Nat) : (d.at n).1.hart = (c.at n).1.hart := by obtain ⟨a, x, y, e⟩ := at_all h.ae n; rw [e]; try rfl
theorem Al.pos (n : Nat) : (d.at n).1.pos = (c.at n).1.pos := by obtain ⟨a, x, y, e⟩ := at_all h.ae n; rw [e]; try rfl
theorem Al.kind (n : Nat) : (d.at n).1.kind = (c.at n).1.kind := by obtain ⟨a, x, y, e⟩ := at_all h.ae n; rw [e]; try rfl
theorem Al.addr (n : Nat) : (d.at n).1.addr = (c.at n).1.addr := by obtain ⟨a, x, y, e⟩ := at_all h.ae n; rw [e]; try rfl
theorem Al.aq (n : Nat) : (d.at n).1.aq = (c.at n).1.aq := by obtain ⟨a, x, y, e⟩ := at_all h.ae n; rw [e]; try rfl
theorem Al.rl (n : Nat) : (d.at n).1.rl = (c.at n).1.rl := by obtain ⟨a, x, y, e⟩ := at_all h.ae n; rw [e]; try rfl
theorem Al.pred (n : Nat) : (d.at n).1.pred = (c.at n).1.pred := by obtain ⟨a, x, y, e⟩ := at_all h.ae n; rw [e]; try rfl
theorem Al.succ (n : Nat) : (d.at n).1.succ = (c.at n).1.succ := by obtain ⟨a, x, y, e⟩ := at_all h.ae n; rw [e]; try rfl
theorem Al.pair (n : Nat) : (d.at n).1.pair = (c.at n).1.pair := by obtain ⟨a, x, y, e⟩ := at_all h.ae n; rw [e]; try rfl
theorem Al.reads (n : Nat) : readsE (d.at n).1 = readsE (c.at n).1 := by obtain ⟨a, x, y, e⟩ := at_all h.ae n; rw [e]; try rfl
theorem Al.writes (n : Nat) : writesE (d.at n).1 = writesE (c.at n).1 := by obtain ⟨a, x, y, e⟩ := at_all h.ae n; rw [e]; try rfl
theorem Al.mem (n : Nat) : memE (d.at n).1 = memE (c.at n).1 := by obtain ⟨a, x, y, e⟩ := at_all h.ae n; rw [e]; try rfl
theorem Al.side (n : Nat) : sideE (d.at n).1 = sideE (c.at n).1 := by obtain ⟨a, x, y, e⟩ := at_all h.ae n; rw [e]; try rfl
theorem Al.wr (x : Int) : ∀ n, wrL d x n = wrL c x n
  | 0 => rfl
  | n + 1 => by unfold wrL; rw [h.writes, h.addr, Al.wr x n]
theorem Al.fn (s p : Nat) : ∀ n, fnL d s p n = fnL c s p n
  | 0 => rfl
  | n + 1 => by unfold fnL; rw [h.side, h.succ, h.pred, Al.fn s p n]
theorem Al.num (n : Nat) : numAt d n = numAt c n := by funext x; unfold numAt; rw [h.pos]
theorem Al.hg (a : Int) : ∀ n, hgL d a n = hgL c a n
  | 0 => rfl
  | n + 1 => by unfold hgL; rw [h.el, h.num, Al.hg a n]
theorem Al.N : d.N = c.N := h.ae.N
theorem Al.rule (a b : Nat) : ruleB d a b = ruleB c a b := by
  funext k
  unfold ruleB
  split <;> simp only [h.writes, h.reads, h.addr, h.kind, h.aq, h.rl, h.pair, h.pos, h.el, h.side, h.wr, h.fn, h.hg, h.fr, h.N]
theorem Al.ahead (a b : Int) : aheadP d a b = aheadP c a b := by
  unfold aheadP
  simp only [h.N, h.hart, h.mem]
theorem Al.ruleL (a b : Int) : ruleL d a b = ruleL c a b := by
  unfold Go.Proofs.YtcbfokbdiefdeaaGreatDoor.ruleL firstL
  rw [h.ahead, h.rule]
theorem Al.pin (a : Nat) : ∀ k b, pairsIn d a k b = pairsIn c a k b
  | 0, _ => rfl
  | k + 1, b => by unfold pairsIn; rw [h.hart, h.hart, h.ruleL, Al.pin a k (b + 1)]
theorem Al.pout : ∀ k n, pairsOut d k n = pairsOut c k n
  | 0, _ => rfl
  | k + 1, n => by unfold pairsOut; rw [h.pin, h.N, Al.pout k (n + 1)]
end
theorem all_ext {f g : Nat → Bool} : ∀ (n : Nat), (∀ k, k < n → f k = g k) → (List.range n).all f = (List.range n).all g
  | 0, _ => rfl
  | n + 1, h => by rw [all_succ, all_succ, all_ext n (fun k hk => h k (by omega)), h n (by omega)]
theorem Al.may {c d : Cd} (h : Al c d) : d.may = c.may := by
  have hfo : foundL d d.N = foundL c c.N := by
    unfold foundL
    rw [h.N]
    exact all_ext _ (fun k hk => by rw [findB_is, findB_is, h.ae.find k hk, h.fr])
  have e : d.may = (decide (0 < d.nh) && (decide (d.nh ≤ 8) && (decide (d.N ≤ 4096) && (riseL d.fs d.fs.length && (rowsL d d.nh && ((decide (d.fr.length = d.N) && foundL d d.N) && (ordL d d.od.length && decide (countW (waitsL d d.od.length) d.N = 0)))))))) := rfl
  rw [e, h.ae.left h.od, hfo, h.ae.ord h.od, h.ae.rows, h.N, h.ae.nh, h.ae.fs, h.od, h.fr]
  rfl
theorem Al.pairs {c d : Cd} (h : Al c d) : pairsW d = pairsW c := by
  unfold pairsW
  rw [h.may, h.N, h.pout]
end Go.Proofs.YtcbfokbdiefdeaaGreatDoor
namespace Go.Proofs.YtcbfokbdiefdeaaGreatDoor
set_option linter.unusedVariables false
set_option linter.unusedSimpArgs false
open Go.RowKit Go.Maps

theorem low_addr {c : Cd} {q : Cv} {W : World} (h : CAt c q W) (j : Nat) (hj : j < c.nh) (k : Nat) (hk : k < c.len j) : 0 ≤ (c.ev j k).addr := by
  obtain ⟨_, _, a2, c2, _, _, _, a3, c3, _, _, h0 | ⟨b, off, _, hr⟩⟩ := h.harts.row j hj
  · omega
  · exact hr.low k hk
theorem ownCand_al (c : Cd) (q : Cv) (w : World) (hL : Lt c) (h : CAt c q w) : Calls Tryz.prog 9 #[cdV c q] w fun e w' => ∃ d q', e = .returned (cdV d q') ∧ CAt d q' w' ∧ Lt d ∧ Al c d ∧ Below w.heap.size w w' := by
  refine (ownCand_any c q w hL h).mono ?_
  rintro e w' ⟨gB, lo, vF, vR, vO, vH, ess, vals, rfl, hO⟩
  obtain ⟨aF, cF, rfl⟩ := own_form hO.first
  obtain ⟨aR, cR, rfl⟩ := own_form hO.from_
  obtain ⟨aO, cO, rfl⟩ := own_form hO.order
  obtain ⟨aH, cH, rfl⟩ := own_form hO.own
  have hae := copy_as hO.rows c.fr c.od
  exact ⟨c.copy ess c.fr c.od, ⟨aF, cF, aH, cH, aR, cR, aO, cO⟩, rfl, copy_cat hO.rows (low_addr h) hO.first hO.own (readsI_of_own hO.from_) (readsI_of_own hO.order), copy_lt hL hae hL.fr hL.od, ⟨hae, rfl, rfl⟩, hO.below⟩
theorem own_pairs (c : Cd) (q : Cv) (w : World) (hL : Lt c) (h : CAt c q w) : Calls Tryz.prog 61 #[cdV c q] w fun e w' => ∃ a cp base, e = .returned (.slice a (pairsW c).length cp) ∧ w'.ownsRow base 53 2 (.slice a (pairsW c).length cp) (pairsW c).length (rowP2 (pairsW c)) ∧ Below w.heap.size w w' := by
  refine (Pairs_any c q w hL h).mono ?_
  rintro e w' ⟨v, n, rfl, rfl, ⟨base, _, ho⟩, hb⟩
  obtain ⟨a, cp, rfl⟩ := own_form ho
  exact ⟨a, cp, base, rfl, ho, hb⟩
end Go.Proofs.YtcbfokbdiefdeaaGreatDoor
