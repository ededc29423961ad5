/-
  Proved here: the words of a candidate's copy: rows of rows of events of the call's own, and what keeps them. No condition.
  (With it: Proved here: the kit's Own at cells and at ints, and OwnEvents, with what is needed to write into the copies: their rows are the call's own, and the lists within are new. Condition: at most 60 events, 1000 cells, 100,000 ints.)
-/
import Derived.Test.YtokhnjcbcpmmjaaCdFew
import Derived.Test.YtokhnjcbcpmmjaaEvRowsPlain
import Derived.Deep.RegionLaw
namespace Go.Proofs.Ytokhnjcbcpmmjaa
set_option linter.unusedVariables false
set_option linter.unusedSimpArgs false
open Go.RowKit
attribute [local go_sem ↓] fold_E fold_SE

/-- events whose lists are new -/
def NewEs (n : Nat) (es : List Ev) : Prop := ∀ (j : Nat) (e : Ev), es[j]? = some e → NewFrom n e.a ∧ NewFrom n e.d ∧ NewFrom n e.y
theorem NewEs.nil (n : Nat) : NewEs n [] := fun j e h => by simp at h
theorem NewFrom.mono {n m : Nat} {v : Value} (h : NewFrom n v) (hm : m ≤ n) : NewFrom m v := fun k hk => Nat.le_trans hm (h k hk)
theorem NewEs.mono {n m : Nat} {es : List Ev} (h : NewEs n es) (hm : m ≤ n) : NewEs m es := fun j e hj => ⟨(h j e hj).1.mono hm, (h j e hj).2.1.mono hm, (h j e hj).2.2.mono hm⟩
theorem NewEs.more {n : Nat} {es : List Ev} (h : NewEs n es) {e : Ev} {a d y : Value} (ha : NewFrom n a) (hd : NewFrom n d) (hy : NewFrom n y) : NewEs n (es ++ [e.lists a d y]) := fun j f hj => by
  rcases Nat.lt_or_ge j es.length with h1 | h1
  · rw [List.getElem?_append_left h1] at hj
    exact h j f hj
  · rw [List.getElem?_append_right h1] at hj
    obtain ⟨h3, h4⟩ := List.getElem?_eq_some_iff.1 hj
    simp at h3 h4
    subst h4
    exact ⟨ha, hd, hy⟩
def Owns2Is (w : World) (n : Nat) (ev : Nat → Ev) (el : Nat → El) (e' : Ending) (w' : World) : Prop :=
  ∃ v es, e' = .returned v ∧ es.length = n ∧ w'.ownsRow w.heap.size 42 14 v n (flat es) ∧ Cp ev el es w' ∧ NewEs w.heap.size es ∧ Below w.heap.size w w'
theorem owns2_none (a : Option Addr) (c : Nat) (ev : Nat → Ev) (el : Nat → El) (w : World) : Calls Try.prog 9 #[.slice a 0 c] w fun e w' => Owns2Is w 0 ev el e w' := by
  go_enter Try.func9, Try.ntmps9
  go_wp2
  refine wp_loop_rounds 1 ?_
  rw [rounds_succ]
  go_wp2
  go_ret
  exact ⟨.slice none 0 0, [], rfl, rfl, World.ownsRow_nil _ _ _ _, Cp.nil _ _ _, NewEs.nil _, Below.refl _ _⟩
set_option maxRecDepth 100000 in
set_option maxHeartbeats 4000000 in
theorem owns2_row (n b off c : Nat) (ev : Nat → Ev) (el : Nat → El) (w : World) (hn : n ≤ 60) (h : Evs n b off ev el w) :
    Calls Try.prog 9 #[.slice (some ⟨b, off, none⟩) n c] w fun e w' => Owns2Is w n ev el e w' := by
  have HV := Lib.hid h
  clear h
  go_enter Try.func9, Try.ntmps9
  go_wp2
  go_loopw [3, 4] (fun vo vi wr => ∃ (k : Nat) (es : List Ev) (v : Value), v = vo ∧ k ≤ n ∧ vi = .int .i64 k ∧ Hid (es.length = k) ∧ Hid (wr.ownsRow w.heap.size 42 14 vo k (flat es)) ∧ Hid (Cp ev el es wr) ∧ Hid (NewEs w.heap.size es) ∧ Below w.heap.size w wr) (fun _ vi _ => n - (intOf vi).toNat)
  case atStart => exact ⟨0, [], _, rfl, Nat.zero_le _, rfl, Lib.hid rfl, Lib.hid (World.ownsRow_nil _ _ _ _), Lib.hid (Cp.nil _ _ _), Lib.hid (NewEs.nil _), Below.refl _ _⟩
  case round =>
    obtain ⟨k, es, v, rfl, hk, rfl, hlen, hO, hC, hN, hbel⟩ := hrel
    have HL := Lib.hid hbel
    clear hbel
    by_cases hlt : k < n
    · have HE := Lib.hid (HV.out.below HL.out)
      have cl := (HE.out.at_ k hlt).load
      have KO := Lib.hid (ownEvent_any (ev k) (el k) wr (HE.out.reads k hlt) (HE.out.len k hlt))
      have hk1 : k ≤ 1000 := by omega
      go_wp2_with (first
        | (go_at_call 16; (with_reducible refine (KO.out).mono ?_); rintro e' w1 ⟨va, vd, vy, rfl, hd, ht, hb⟩; have N1 : Hid (NewEs w.heap.size (es ++ [(ev k).lists va vd vy])) := Lib.hid (hN.out.more (hd.1.mono HL.out.size).2 (hd.2.1.mono HL.out.size).2 (hd.2.2.mono HL.out.size).2); obtain ⟨a1, c1, rfl⟩ := hd.1.1.len; obtain ⟨a2, c2, rfl⟩ := hd.2.1.1.len; obtain ⟨a3, c3, rfl⟩ := hd.2.2.1.len; have L1 := Lib.hid ((HL.out.trans (hb.mono HL.out.size)).alloc (HL.out.trans (hb.mono HL.out.size)).size (.cells #[.int .i64 ((ev k).lists (.slice a1 (el k).a.length c1) (.slice a2 (el k).d.length c2) (.slice a3 (el k).y.length c3)).hart, .int .i64 ((ev k).lists (.slice a1 (el k).a.length c1) (.slice a2 (el k).d.length c2) (.slice a3 (el k).y.length c3)).pos, .int .i64 ((ev k).lists (.slice a1 (el k).a.length c1) (.slice a2 (el k).d.length c2) (.slice a3 (el k).y.length c3)).kind, .int .u64 ((ev k).lists (.slice a1 (el k).a.length c1) (.slice a2 (el k).d.length c2) (.slice a3 (el k).y.length c3)).addr, .int .u64 ((ev k).lists (.slice a1 (el k).a.length c1) (.slice a2 (el k).d.length c2) (.slice a3 (el k).y.length c3)).load, .int .u64 ((ev k).lists (.slice a1 (el k).a.length c1) (.slice a2 (el k).d.length c2) (.slice a3 (el k).y.length c3)).store, .bool ((ev k).lists (.slice a1 (el k).a.length c1) (.slice a2 (el k).d.length c2) (.slice a3 (el k).y.length c3)).aq, .bool ((ev k).lists (.slice a1 (el k).a.length c1) (.slice a2 (el k).d.length c2) (.slice a3 (el k).y.length c3)).rl, .int .i64 ((ev k).lists (.slice a1 (el k).a.length c1) (.slice a2 (el k).d.length c2) (.slice a3 (el k).y.length c3)).pred, .int .i64 ((ev k).lists (.slice a1 (el k).a.length c1) (.slice a2 (el k).d.length c2) (.slice a3 (el k).y.length c3)).succ, .int .i64 ((ev k).lists (.slice a1 (el k).a.length c1) (.slice a2 (el k).d.length c2) (.slice a3 (el k).y.length c3)).pair, ((ev k).lists (.slice a1 (el k).a.length c1) (.slice a2 (el k).d.length c2) (.slice a3 (el k).y.length c3)).a, ((ev k).lists (.slice a1 (el k).a.length c1) (.slice a2 (el k).d.length c2) (.slice a3 (el k).y.length c3)).d, ((ev k).lists (.slice a1 (el k).a.length c1) (.slice a2 (el k).d.length c2) (.slice a3 (el k).y.length c3)).y] 42)); have O1 := Lib.hid ((own_on hO.out hb).alloc (.cells #[.int .i64 ((ev k).lists (.slice a1 (el k).a.length c1) (.slice a2 (el k).d.length c2) (.slice a3 (el k).y.length c3)).hart, .int .i64 ((ev k).lists (.slice a1 (el k).a.length c1) (.slice a2 (el k).d.length c2) (.slice a3 (el k).y.length c3)).pos, .int .i64 ((ev k).lists (.slice a1 (el k).a.length c1) (.slice a2 (el k).d.length c2) (.slice a3 (el k).y.length c3)).kind, .int .u64 ((ev k).lists (.slice a1 (el k).a.length c1) (.slice a2 (el k).d.length c2) (.slice a3 (el k).y.length c3)).addr, .int .u64 ((ev k).lists (.slice a1 (el k).a.length c1) (.slice a2 (el k).d.length c2) (.slice a3 (el k).y.length c3)).load, .int .u64 ((ev k).lists (.slice a1 (el k).a.length c1) (.slice a2 (el k).d.length c2) (.slice a3 (el k).y.length c3)).store, .bool ((ev k).lists (.slice a1 (el k).a.length c1) (.slice a2 (el k).d.length c2) (.slice a3 (el k).y.length c3)).aq, .bool ((ev k).lists (.slice a1 (el k).a.length c1) (.slice a2 (el k).d.length c2) (.slice a3 (el k).y.length c3)).rl, .int .i64 ((ev k).lists (.slice a1 (el k).a.length c1) (.slice a2 (el k).d.length c2) (.slice a3 (el k).y.length c3)).pred, .int .i64 ((ev k).lists (.slice a1 (el k).a.length c1) (.slice a2 (el k).d.length c2) (.slice a3 (el k).y.length c3)).succ, .int .i64 ((ev k).lists (.slice a1 (el k).a.length c1) (.slice a2 (el k).d.length c2) (.slice a3 (el k).y.length c3)).pair, ((ev k).lists (.slice a1 (el k).a.length c1) (.slice a2 (el k).d.length c2) (.slice a3 (el k).y.length c3)).a, ((ev k).lists (.slice a1 (el k).a.length c1) (.slice a2 (el k).d.length c2) (.slice a3 (el k).y.length c3)).d, ((ev k).lists (.slice a1 (el k).a.length c1) (.slice a2 (el k).d.length c2) (.slice a3 (el k).y.length c3)).y] 42)); have C1 := Lib.hid (((hC.out.on hb).on (box_below w1 (.cells #[.int .i64 ((ev k).lists (.slice a1 (el k).a.length c1) (.slice a2 (el k).d.length c2) (.slice a3 (el k).y.length c3)).hart, .int .i64 ((ev k).lists (.slice a1 (el k).a.length c1) (.slice a2 (el k).d.length c2) (.slice a3 (el k).y.length c3)).pos, .int .i64 ((ev k).lists (.slice a1 (el k).a.length c1) (.slice a2 (el k).d.length c2) (.slice a3 (el k).y.length c3)).kind, .int .u64 ((ev k).lists (.slice a1 (el k).a.length c1) (.slice a2 (el k).d.length c2) (.slice a3 (el k).y.length c3)).addr, .int .u64 ((ev k).lists (.slice a1 (el k).a.length c1) (.slice a2 (el k).d.length c2) (.slice a3 (el k).y.length c3)).load, .int .u64 ((ev k).lists (.slice a1 (el k).a.length c1) (.slice a2 (el k).d.length c2) (.slice a3 (el k).y.length c3)).store, .bool ((ev k).lists (.slice a1 (el k).a.length c1) (.slice a2 (el k).d.length c2) (.slice a3 (el k).y.length c3)).aq, .bool ((ev k).lists (.slice a1 (el k).a.length c1) (.slice a2 (el k).d.length c2) (.slice a3 (el k).y.length c3)).rl, .int .i64 ((ev k).lists (.slice a1 (el k).a.length c1) (.slice a2 (el k).d.length c2) (.slice a3 (el k).y.length c3)).pred, .int .i64 ((ev k).lists (.slice a1 (el k).a.length c1) (.slice a2 (el k).d.length c2) (.slice a3 (el k).y.length c3)).succ, .int .i64 ((ev k).lists (.slice a1 (el k).a.length c1) (.slice a2 (el k).d.length c2) (.slice a3 (el k).y.length c3)).pair, ((ev k).lists (.slice a1 (el k).a.length c1) (.slice a2 (el k).d.length c2) (.slice a3 (el k).y.length c3)).a, ((ev k).lists (.slice a1 (el k).a.length c1) (.slice a2 (el k).d.length c2) (.slice a3 (el k).y.length c3)).d, ((ev k).lists (.slice a1 (el k).a.length c1) (.slice a2 (el k).d.length c2) (.slice a3 (el k).y.length c3)).y] 42))).add k hlen.out (EReads.below (w := w1) (e := ((ev k).lists (.slice a1 (el k).a.length c1) (.slice a2 (el k).d.length c2) (.slice a3 (el k).y.length c3))) ⟨hd.1.1, hd.2.1.1, hd.2.2.1⟩ (box_below w1 _)) (ht.on (box_below w1 _))); clear hd ht hb cl)
        | (refine append_ev rfl (.tmp 11) (.tmp 17) rfl w.heap.size v k (flat es) rfl O1.out ((ev k).lists (.slice a1 (el k).a.length c1) (.slice a2 (el k).d.length c2) (.slice a3 (el k).y.length c3)) ⟨rfl, rfl, rfl⟩ w1.heap.size rfl (EvAt.new ((ev k).lists (.slice a1 (el k).a.length c1) (.slice a2 (el k).d.length c2) (.slice a3 (el k).y.length c3)) w1) hk1 L1.out.size ?_; intro v2 w2 hw2 hg2; have L2 := Lib.hid (L1.out.grown hg2 L1.out.size (fun g hg => (O1.out.lt g hg).1)); have C2 := Lib.hid (C1.out.grown O1.out hg2); have O2 := Lib.hid hw2; clear hw2 hg2))
      go_roundw
      case rel => exact ⟨k + 1, es ++ [((ev k).lists (.slice a1 (el k).a.length c1) (.slice a2 (el k).d.length c2) (.slice a3 (el k).y.length c3))], _, rfl, by omega, by go_num, Lib.hid (by rw [List.length_append, hlen.out]; rfl), Lib.hid (by rw [flat_more]; exact O2.out), C2, N1, L2.out⟩
      case measure => simp [intOf]; omega
    · obtain rfl : k = n := by omega
      go_wp2
      go_ret
      exact ⟨_, es, rfl, hlen.out, hO.out, hC.out, hN.out, HL.out⟩
theorem ReadsF.alloc {w : World} {v : Value} {fs : List (Int × Int)} (h : ReadsF w v fs) (o : Obj) : ReadsF (w.alloc o) v fs := h.below (box_below w o)
theorem flatC_one (l : List (Int × Int)) : ∀ u ∈ flatC l, u.oneCell' = true := fun u hu => by
  unfold flatC at hu
  obtain ⟨p, _, hp⟩ := List.mem_flatMap.1 hu
  simp only [encC, List.mem_cons, List.not_mem_nil, or_false] at hp
  rcases hp with rfl | rfl <;> rfl
/-- append of what a slice of cells reads as -/
theorem append_cells {ops : Array Oper} {rest : List Oper} {o : Oper} {a : Act} {w : World} {Q : Exit → Act → World → Prop} (hgd : o.guard = none) (s x : Operand)
    (ho : o.op = .call { callee := .builtin .append, args := #[s, x], argTypes := #[22, 22] }) (base : Nat) (v : Value) (fs : List (Int × Int)) (hs : a.eval s = v) (hown : w.ownsRow base 35 2 v 0 [])
    (vx : Value) (hx : a.eval x = vx) (hr : ReadsF w vx fs) (hlen : fs.length ≤ 1000) (hbase : base ≤ w.heap.size)
    (h : ∀ v' w', w'.ownsRow base 35 2 v' fs.length (flatC fs) → w.grownBy w' v.ownBlock → wpList Try.prog ops Q rest (a.put o.dst v') w') : wpList Try.prog ops Q (o :: rest) a w := by
  obtain ⟨i0, hi, hz0, hz1, hz2⟩ := info_parts infoCell
  rcases hr with ⟨⟨ad, c, rfl, hc0⟩, rfl⟩ | ⟨b, off, c, rfl, h1, h2, h3, h4⟩
  · cases ad with
    | none =>
      obtain rfl := hc0 rfl
      refine wpList_append_own_none hgd s x _ ho base 35 i0 2 Try.underlying22 hi v _ _ hs hown hx ?_
      exact h v w hown (World.grownBy.refl _ _)
    | some ad =>
      refine wpList_append_own w hgd s x _ ho base 35 i0 (.agg #[.int .u64 0, .int .u64 0]) 2 16 Try.underlying22 hi hz0 hz1 hz2 (by kernel_rfl) (by decide) v _ _ hs hown ad 0 c [] hx (by simp) ?_ ?_ (by unfold maxLen; omega) (by omega) hbase ?_
      · intro j u hu; simp at hu
      · intro u hu; simp at hu
      · intro v' w' h5 h6 _
        exact h v' w' h5 h6
  · refine wpList_append_own w hgd s x _ ho base 35 i0 (.agg #[.int .u64 0, .int .u64 0]) 2 16 Try.underlying22 hi hz0 hz1 hz2 (by kernel_rfl) (by decide) v _ _ hs hown ⟨b, off, none⟩ fs.length c (flatC fs) hx (flatC_len fs) ?_ (flatC_one fs) (by unfold maxLen; omega) (by omega) hbase ?_
    · intro j u hu
      have hj : j < fs.length * 2 := by
        have := (List.getElem?_eq_some_iff.1 hu).1
        rw [flatC_len] at this
        exact this
      have ha : (⟨b, off, none⟩ : Addr).add j = ⟨b, off + j, none⟩ := by unfold Addr.add; split <;> simp_all
      have hq := flatC_at fs (j / 2) (j % 2) (by omega) (by omega)
      rw [show j / 2 * 2 + j % 2 = j by omega, hu] at hq
      obtain ⟨c0, c1⟩ := h4 (j / 2) (by omega)
      rw [ha, hq]
      by_cases hm : j % 2 = 0
      · rw [if_pos hm, show off + j = off + j / 2 * 2 by omega]; exact c0
      · rw [if_neg hm, show off + j = off + j / 2 * 2 + 1 by omega]; exact c1
    · intro v' w' h5 h6 _
      rw [Nat.zero_add] at h5
      exact h v' w' h5 h6
def OwnCIs (w : World) (fs : List (Int × Int)) (e : Ending) (w' : World) : Prop := ∃ v, e = .returned v ∧ w'.ownsRow w.heap.size 35 2 v fs.length (flatC fs) ∧ Below w.heap.size w w'
set_option maxRecDepth 100000 in
set_option maxHeartbeats 2000000 in
theorem ownC_any (v : Value) (fs : List (Int × Int)) (w : World) (h : ReadsF w v fs) (hlen : fs.length ≤ 1000) : Calls Try.prog 8 #[v] w fun e w' => OwnCIs w fs e w' := by
  have HR := Lib.hid (h.alloc (.cells #[] 35))
  have HO := Lib.hid (World.ownsRow_made (base := w.heap.size) (e := 35) (size := 2) w #[] 0 (Nat.le_refl _) (by unfold maxLen; omega) (by simp))
  have HB := Lib.hid (box_below w (.cells #[] 35))
  clear h
  go_enter Try.func8, Try.ntmps8
  go_wp2_with (refine append_cells rfl (.tmp 3) (.tmp 4) rfl w.heap.size _ fs rfl HO.out _ rfl HR.out hlen HB.out.size ?_; intro v1 w1 hw1 hg1; have H1 := Lib.hid hw1; have HB1 := Lib.hid (HB.out.grown hg1 HB.out.size (fun k hk => (HO.out.lt k hk).1)); clear hw1 hg1)
  go_ret
  exact ⟨_, rfl, H1.out, HB1.out⟩
end Go.Proofs.Ytokhnjcbcpmmjaa
namespace Go.Proofs.Ytokhnjcbcpmmjaa
set_option linter.unusedVariables false
set_option linter.unusedSimpArgs false
open Go.RowKit

/-- what lies at lo or behind is as it was -/
structure Keep (lo : Nat) (W W' : World) : Prop where
  size : W.heap.size ≤ W'.heap.size
  block : ∀ j, lo ≤ j → j < W.heap.size → W'.heap[j]? = W.heap[j]?
theorem Keep.of_below {lo : Nat} {W W' : World} (h : Below W.heap.size W W') : Keep lo W W' := ⟨h.size, fun j _ hj => h.block j hj⟩
theorem Keep.trans {lo : Nat} {A B C : World} (h : Keep lo A B) (g : Keep lo B C) : Keep lo A C := ⟨Nat.le_trans h.size g.size, fun j h1 h2 => (g.block j h1 (Nat.lt_of_lt_of_le h2 h.size)).trans (h.block j h1 h2)⟩
theorem Keep.mono {lo lo2 : Nat} {W W' : World} (h : Keep lo W W') (hl : lo ≤ lo2) : Keep lo2 W W' := ⟨h.size, fun j h1 h2 => h.block j (Nat.le_trans hl h1) h2⟩
theorem Keep.set {lo : Nat} {W : World} {g i : Nat} (hg : g < lo) (u : Value) : Keep lo W (W.setCell ⟨g, i, none⟩ u) := ⟨by simp [World.setCell], fun j h1 _ => Below.heap_setCell W ⟨g, i, none⟩ u j (by show j ≠ g; omega)⟩
theorem own_keep {lo size n : Nat} {e : TypeId} {v : Value} {xs : List Value} {W W' : World} (h : W.ownsRow lo e size v n xs) (hk : Keep lo W W') : W'.ownsRow lo e size v n xs := by
  refine ⟨h.1, ?_⟩
  rcases h.2 with hn | ⟨g, cap, cur, rfl, hb1, hgg, rest⟩
  · exact .inl hn
  · exact .inr ⟨g, cap, cur, rfl, hb1, (hk.block g hb1 (Array.getElem?_eq_some_iff.1 hgg).1).trans hgg, rest⟩
theorem readsI_keep {lo : Nat} {v : Value} {zs : List Int} {W W' : World} (h : ReadsI W v zs) (hn : NewFrom lo v) (hk : Keep lo W W') : ReadsI W' v zs := by
  rcases h with h0 | ⟨b, off, c, rfl, h1, h2, h3, h4⟩
  · exact .inl h0
  · exact .inr ⟨b, off, c, rfl, h1, h2, Nat.lt_of_lt_of_le h3 hk.size, fun j hj => by rw [← h4 j hj]; exact World.cell?_of_block (hk.block b (hn b rfl) h3)⟩
theorem typed_keep {lo : Nat} {v : Value} {W W' : World} (h : TypedI W v) (hn : NewFrom lo v) (hk : Keep lo W W') : TypedI W' v := fun g hg => by
  obtain ⟨c, hc⟩ := h g hg
  exact ⟨c, (hk.block g (hn g hg) (Array.getElem?_eq_some_iff.1 hc).1).trans hc⟩
theorem Cp.keep {lo : Nat} {ev : Nat → Ev} {el : Nat → El} {es : List Ev} {W W' : World} (h : Cp ev el es W) (hn : NewEs lo es) (hk : Keep lo W W') : Cp ev el es W' :=
  ⟨h.like, fun j e hj => ⟨readsI_keep (h.reads j e hj).1 (hn j e hj).1 hk, readsI_keep (h.reads j e hj).2.1 (hn j e hj).2.1 hk, readsI_keep (h.reads j e hj).2.2 (hn j e hj).2.2 hk⟩,
    fun j e hj => ⟨typed_keep (h.typed j e hj).1 (hn j e hj).1 hk, typed_keep (h.typed j e hj).2.1 (hn j e hj).2.1 hk, typed_keep (h.typed j e hj).2.2 (hn j e hj).2.2 hk⟩⟩
/-- a row of events of the call's own -/
structure RowE (lo : Nat) (W : World) (v : Value) (n : Nat) (es : List Ev) (ev : Nat → Ev) (el : Nat → El) : Prop where
  len : es.length = n
  own : W.ownsRow lo 42 14 v n (flat es)
  cp : Cp ev el es W
  new : NewEs lo es
theorem RowE.keep {lo : Nat} {W W' : World} {v : Value} {n : Nat} {es : List Ev} {ev : Nat → Ev} {el : Nat → El} (h : RowE lo W v n es ev el) (hk : Keep lo W W') : RowE lo W' v n es ev el := ⟨h.len, own_keep h.own hk, h.cp.keep h.new hk, h.new⟩
theorem own_form {W : World} {base size n : Nat} {e : TypeId} {v : Value} {xs : List Value} (h : W.ownsRow base e size v n xs) : ∃ a c, v = .slice a n c := by
  rcases h.2 with ⟨rfl, h0⟩ | ⟨g, cap, cur, rfl, _⟩
  · exact ⟨none, 0, by rw [h0]⟩
  · exact ⟨_, _, rfl⟩
/-- what a row of rows grows by is none of the rows -/
theorem other_block {base m : Nat} {xs : List Value} {vH : Value} {W : World} (hown : W.ownsRow base 37 1 vH m xs) {g : Nat} {cur : Array Value} {T : TypeId} (hT : T ≠ 37) (hc : W.heap[g]? = some (.cells cur T (0, 0))) : vH.ownBlock ≠ some g := fun hh => by
  rcases hown.2 with ⟨rfl, _⟩ | ⟨g', cap, cur', rfl, _, hgg, _⟩
  · simp [Value.ownBlock] at hh
  · simp [Value.ownBlock] at hh
    subst hh
    rw [hc] at hgg
    simp at hgg
    exact hT hgg.2
theorem reads_grown2 {base m : Nat} {xs : List Value} {vH vl : Value} {zs : List Int} {w w' : World} (hown : w.ownsRow base 37 1 vH m xs) (hg : w.grownBy w' vH.ownBlock) (hr : ReadsI w vl zs) (ht : TypedI w vl) : ReadsI w' vl zs ∧ TypedI w' vl := by
  have hne : ∀ g, vl.ownBlock = some g → w'.heap[g]? = w.heap[g]? := fun g hv => by
    obtain ⟨c, hc⟩ := ht g hv
    exact hg.block g (Array.getElem?_eq_some_iff.1 hc).1 (other_block hown (by decide) hc).symm
  refine ⟨?_, fun g hv => by obtain ⟨c, hc⟩ := ht g hv; exact ⟨c, (hne g hv).trans hc⟩⟩
  rcases hr with h0 | ⟨b, off, c, rfl, h1, h2, h3, h4⟩
  · exact .inl h0
  · refine .inr ⟨b, off, c, rfl, h1, h2, Nat.lt_of_lt_of_le h3 hg.size, fun j hj => ?_⟩
    rw [← h4 j hj]
    exact World.cell?_of_block (hne b rfl)
theorem RowE.grown {lo : Nat} {W W' : World} {v : Value} {n : Nat} {es : List Ev} {ev : Nat → Ev} {el : Nat → El} (h : RowE lo W v n es ev el) {base m : Nat} {xs : List Value} {vH : Value} (hown : W.ownsRow base 37 1 vH m xs) (hg : W.grownBy W' vH.ownBlock) : RowE lo W' v n es ev el :=
  ⟨h.len, by
    refine ⟨h.own.1, ?_⟩
    rcases h.own.2 with hn | ⟨g, cap, cur, rfl, hb1, hgg, rest⟩
    · exact .inl hn
    · exact .inr ⟨g, cap, cur, rfl, hb1, (hg.block g (Array.getElem?_eq_some_iff.1 hgg).1 (other_block hown (by decide) hgg).symm).trans hgg, rest⟩,
   ⟨h.cp.like, fun j e hj => ⟨(reads_grown2 hown hg (h.cp.reads j e hj).1 (h.cp.typed j e hj).1).1, (reads_grown2 hown hg (h.cp.reads j e hj).2.1 (h.cp.typed j e hj).2.1).1, (reads_grown2 hown hg (h.cp.reads j e hj).2.2 (h.cp.typed j e hj).2.2).1⟩,
    fun j e hj => ⟨(reads_grown2 hown hg (h.cp.reads j e hj).1 (h.cp.typed j e hj).1).2, (reads_grown2 hown hg (h.cp.reads j e hj).2.1 (h.cp.typed j e hj).2.1).2, (reads_grown2 hown hg (h.cp.reads j e hj).2.2 (h.cp.typed j e hj).2.2).2⟩⟩,
   h.new⟩
/-- so many harts' rows -/
structure RowsE (lo : Nat) (W : World) (c : Cd) (k : Nat) (ess : List (List Ev)) (vals : List Value) : Prop where
  l1 : ess.length = k
  l2 : vals.length = k
  each : ∀ h, h < k → ∃ v es, vals[h]? = some v ∧ ess[h]? = some es ∧ RowE lo W v (c.len h) es (c.ev h) (c.el h)
theorem RowsE.nil (lo : Nat) (W : World) (c : Cd) : RowsE lo W c 0 [] [] := ⟨rfl, rfl, fun h hh => absurd hh (by omega)⟩
theorem RowsE.keep {lo : Nat} {W W' : World} {c : Cd} {k : Nat} {ess : List (List Ev)} {vals : List Value} (h : RowsE lo W c k ess vals) (hk : Keep lo W W') : RowsE lo W' c k ess vals :=
  ⟨h.l1, h.l2, fun j hj => by obtain ⟨v, es, h1, h2, h3⟩ := h.each j hj; exact ⟨v, es, h1, h2, h3.keep hk⟩⟩
theorem RowsE.grown {lo : Nat} {W W' : World} {c : Cd} {k : Nat} {ess : List (List Ev)} {vals : List Value} (h : RowsE lo W c k ess vals) {base m : Nat} {xs : List Value} {vH : Value} (hown : W.ownsRow base 37 1 vH m xs) (hg : W.grownBy W' vH.ownBlock) : RowsE lo W' c k ess vals :=
  ⟨h.l1, h.l2, fun j hj => by obtain ⟨v, es, h1, h2, h3⟩ := h.each j hj; exact ⟨v, es, h1, h2, h3.grown hown hg⟩⟩
theorem RowsE.more {lo : Nat} {W : World} {c : Cd} {k : Nat} {ess : List (List Ev)} {vals : List Value} (h : RowsE lo W c k ess vals) {v : Value} {es : List Ev} (hr : RowE lo W v (c.len k) es (c.ev k) (c.el k)) : RowsE lo W c (k + 1) (ess ++ [es]) (vals ++ [v]) :=
  ⟨by rw [List.length_append, h.l1]; rfl, by rw [List.length_append, h.l2]; rfl, fun j hj => by
    by_cases e : j = k
    · subst e
      refine ⟨v, es, ?_, ?_, hr⟩
      · rw [List.getElem?_append_right (by rw [h.l2]; exact Nat.le_refl _), h.l2, Nat.sub_self]; rfl
      · rw [List.getElem?_append_right (by rw [h.l1]; exact Nat.le_refl _), h.l1, Nat.sub_self]; rfl
    · obtain ⟨v2, es2, h1, h2, h3⟩ := h.each j (by omega)
      exact ⟨v2, es2, by rw [List.getElem?_append_left (by rw [h.l2]; omega)]; exact h1, by rw [List.getElem?_append_left (by rw [h.l1]; omega)]; exact h2, h3⟩⟩
theorem own_but {W W2 : World} {base size n : Nat} {e : TypeId} {v : Value} {xs : List Value} (h : W.ownsRow base e size v n xs) (hb : ∀ g, v.ownBlock = some g → W2.heap[g]? = W.heap[g]?) : W2.ownsRow base e size v n xs := by
  refine ⟨h.1, ?_⟩
  rcases h.2 with hn | ⟨g, cap, cur, rfl, hb1, hgg, rest⟩
  · exact .inl hn
  · exact .inr ⟨g, cap, cur, rfl, hb1, (hb g rfl).trans hgg, rest⟩
end Go.Proofs.Ytokhnjcbcpmmjaa
