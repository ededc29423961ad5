/-
  Proved here (no Go): the document's Check of an event, in its own order, and the program's agree; which place the last load-reserved is. Condition: a pair that is an int. (With it: Words: a candidate in memory; what lies so still lies so where all below is as it was. No condition.)
  (With it: Proved here: the kit's OwnEvents: a row of events of its own; nothing that was there is changed. Condition: at most 60 events. (With it: Proved here: the kit's LightEvents; nothing that was there is changed. Condition: a row of events.))
  (With it: Proved here: what a row's events are, and what rows become by a store into one event of a copy. No condition. (With it: Proved here: the kit's OwnEvents answers a row of events of its own; nothing that was there is changed. Condition: at most 60 events.))
  (With it: Words: a candidate as lists; what of it may be; its events by number. No condition. (With it: Proved here: event's Same tells that an event is the same as itself; nothing that was there is changed. Condition: lists of at most 100,000 numbers.))
-/
import Derived.Test.YtokhnjcbcpmmjaaGreatEvRowsArg
import Derived.Test.YtokhnjcbcpmmjaaGreatEvMakesWords
import Derived.Deep.RegionHeld3
namespace Go.Proofs.YtokhnjcbcpmmjaaGreat
set_option linter.unusedVariables false
set_option linter.unusedSimpArgs false
open Go.RowKit
attribute [local go_sem ↓] fold_E fold_SE

def small (l : El) : Prop := l.a.length ≤ 60 ∧ l.d.length ≤ 60 ∧ l.y.length ≤ 60
theorem small.n {l : El} (h : small l) : l.n := ⟨Nat.le_trans h.1 (by omega), Nat.le_trans h.2.1 (by omega), Nat.le_trans h.2.2 (by omega)⟩
def LightIs (w : World) (n : Nat) (el : Nat → El) (e : Ending) (w' : World) : Prop := ∃ r, e = .returned (.bool r) ∧ (r = true → n ≤ 60 ∧ ∀ k, k < n → small (el k)) ∧ Below w.heap.size w w'
theorem light_b (a d y : Option Addr) (n1 n2 n3 c1 c2 c3 : Nat) (r : Bool) (hr : Hid ((decide (n1 ≤ 60) && (decide (n2 ≤ 60) && decide (n3 ≤ 60))) = r)) (w : World) : Calls Tryz.prog 51 #[.agg #[.slice a n1 c1, .slice d n2 c2, .slice y n3 c3], .int .i64 60] w fun e w' => SameOk w r e w' := by
  have := light_any a d y n1 n2 n3 c1 c2 c3 60 w
  rw [hr.out] at this
  exact this
theorem EvIn.deps {e : Ev} {b o : Nat} {w : World} (h : EvIn e b o w) : w.cell? ⟨b, o + 11, none⟩ = some e.a ∧ w.cell? ⟨b, o + 12, none⟩ = some e.d ∧ w.cell? ⟨b, o + 13, none⟩ = some e.y := ⟨h 11 _ rfl, h 12 _ rfl, h 13 _ rfl⟩
theorem light_none (a : Option Addr) (c : Nat) (el : Nat → El) (w : World) : Calls Tryz.prog 25 #[.slice a 0 c, .int .i64 60] w fun e w' => LightIs w 0 el e w' := by
  go_enter Tryz.func25, Tryz.ntmps25
  go_wp2
  refine wp_loop_rounds 1 ?_
  rw [rounds_succ]
  go_wp2
  go_ret
  exact ⟨true, rfl, fun _ => ⟨by omega, fun k hk => absurd hk (by omega)⟩, Below.refl _ _⟩
theorem light_long (a : Option Addr) (n c : Nat) (el : Nat → El) (w : World) (hn : 60 < n) : Calls Tryz.prog 25 #[.slice a n c, .int .i64 60] w fun e w' => LightIs w n el e w' := by
  have d1 : decide (60 < n) = true := by simpa using hn
  go_enter Tryz.func25, Tryz.ntmps25
  go_wp2
  go_ret
  exact ⟨false, rfl, (fun h => by cases h), Below.refl _ _⟩
set_option maxRecDepth 100000 in
set_option maxHeartbeats 4000000 in
theorem light_row (n b off c : Nat) (ev : Nat → Ev) (el : Nat → El) (w : World) (hn : n ≤ 60) (h : Rw n b off ev el w) :
    Calls Tryz.prog 25 #[.slice (some ⟨b, off, none⟩) n c, .int .i64 60] w fun e w' => LightIs w n el e w' := by
  have HV := Lib.hid h
  have d1 : decide (60 < n) = false := by simp; omega
  clear h
  go_enter Tryz.func25, Tryz.ntmps25
  go_wp2
  go_loopw [5] (fun vi wr => ∃ (k : Nat), k ≤ n ∧ vi = .int .i64 k ∧ Hid (∀ j, j < k → small (el j)) ∧ Below w.heap.size w wr) (fun vi _ => n - (intOf vi).toNat)
  case atStart => exact ⟨0, Nat.zero_le _, rfl, Lib.hid (fun j hj => absurd hj (by omega)), Below.refl _ _⟩
  case round =>
    obtain ⟨k, hk, rfl, hR, hbel⟩ := hrel
    have HL := Lib.hid hbel
    clear hbel
    by_cases hlt : k < n
    · have HE := Lib.hid (HV.out.below HL.out)
      obtain ⟨u0, u1, u2⟩ := (HE.out.at_ k hlt).deps
      obtain ⟨a1, c1, e1⟩ := (HE.out.reads k hlt).1.len
      obtain ⟨a2, c2, e2⟩ := (HE.out.reads k hlt).2.1.len
      obtain ⟨a3, c3, e3⟩ := (HE.out.reads k hlt).2.2.len
      rw [e1] at u0
      rw [e2] at u1
      rw [e3] at u2
      clear e1 e2 e3
      by_cases hs : small (el k)
      · have KL := Lib.hid (fun w0 => light_b a1 a2 a3 (el k).a.length (el k).d.length (el k).y.length c1 c2 c3 true (Lib.hid (by simp [hs.1, hs.2.1, hs.2.2])) w0)
        have HS2 : Hid (∀ j, j < k + 1 → small (el j)) := Lib.hid (fun j hj => by
          by_cases h : j < k
          · exact hR.out j h
          · obtain rfl : j = k := by omega
            exact hs)
        clear hs
        go_wp2_with (go_at_call 51; (with_reducible refine (KL.out _).mono ?_); rintro e' w1 ⟨rfl, hb⟩; have L1 := Lib.hid (HL.out.trans (hb.mono HL.out.size)); clear hb)
        go_roundw
        case rel => exact ⟨k + 1, by omega, by go_num, HS2, L1.out⟩
        case measure => simp [intOf]; omega
      · have KL := Lib.hid (fun w0 => light_b a1 a2 a3 (el k).a.length (el k).d.length (el k).y.length c1 c2 c3 false (Lib.hid (by
          have hs' : ¬ ((el k).a.length ≤ 60 ∧ (el k).d.length ≤ 60 ∧ (el k).y.length ≤ 60) := hs
          cases h : (decide ((el k).a.length ≤ 60) && (decide ((el k).d.length ≤ 60) && decide ((el k).y.length ≤ 60))) with
          | false => rfl
          | true => exact absurd (by simpa using h) hs')) w0)
        clear hs
        go_wp2_with (go_at_call 51; (with_reducible refine (KL.out _).mono ?_); rintro e' w1 ⟨rfl, hb⟩; have L1 := Lib.hid (HL.out.trans (hb.mono HL.out.size)); clear hb)
        go_ret
        exact ⟨false, rfl, (fun h => by cases h), L1.out⟩
    · obtain rfl : k = n := by omega
      go_wp2
      go_ret
      exact ⟨true, rfl, fun _ => ⟨hn, hR.out⟩, HL.out⟩
end Go.Proofs.YtokhnjcbcpmmjaaGreat
namespace Go.Proofs.YtokhnjcbcpmmjaaGreat
set_option linter.unusedVariables false
set_option linter.unusedSimpArgs false
open Go.RowKit
attribute [local go_sem ↓] fold_E fold_SE

def Ev.row (e : Ev) : List Value := [.int .i64 e.hart, .int .i64 e.pos, .int .i64 e.kind, .int .u64 e.addr, .int .u64 e.load, .int .u64 e.store, .bool e.aq, .bool e.rl, .int .i64 e.pred, .int .i64 e.succ, .int .i64 e.pair, e.a, e.d, e.y]
theorem row_len (e : Ev) : e.row.length = 14 := rfl
def flat (es : List Ev) : List Value := es.flatMap Ev.row
theorem flat_at (es : List Ev) : ∀ (k j : Nat) (e : Ev) (v : Value), es[k]? = some e → e.row[j]? = some v → (flat es)[k * 14 + j]? = some v := by
  induction es with
  | nil => intro k j e v h; simp at h
  | cons x es ih =>
    intro k j e v h hv
    have hj : j < 14 := by have := (List.getElem?_eq_some_iff.1 hv).1; rw [row_len] at this; exact this
    unfold flat
    rw [List.flatMap_cons]
    cases k with
    | zero =>
      simp at h
      subst h
      rw [List.getElem?_append_left (by rw [row_len]; omega)]
      simpa using hv
    | succ k =>
      rw [List.getElem?_append_right (by rw [row_len]; omega), row_len, show (k + 1) * 14 + j - 14 = k * 14 + j by omega]
      exact ih k j e v (by simpa using h) hv
theorem infoEv : (Tryz.prog.info? 60).map (fun i => (i.zero, i.size, i.bytes)) = some (some zeroEv.V, 14, 152) := by kernel_rfl
theorem append_ev {ops : Array Oper} {rest : List Oper} {o : Oper} {a : Act} {w : World} {Q : Exit → Act → World → Prop} (hgd : o.guard = none) (s x : Operand)
    (ho : o.op = .call { callee := .builtin .append, args := #[s, x], argTypes := #[35, 35] }) (base : Nat) (v : Value) (n : Nat) (xs : List Value) (hs : a.eval s = v) (hown : w.ownsRow base 60 14 v n xs)
    (e : Ev) (hf : e.flat) (g : Nat) (hx : a.eval x = .slice (some ⟨g, 0, none⟩) 1 1) (hr : EvAt e g w) (hn : n ≤ 1000) (hbase : base ≤ w.heap.size)
    (h : ∀ v' w', w'.ownsRow base 60 14 v' (n + 1) (xs ++ e.row) → w.grownBy w' v.ownBlock → wpList Tryz.prog ops Q rest (a.put o.dst v') w') : wpList Tryz.prog ops Q (o :: rest) a w := by
  obtain ⟨i0, hi, hz0, hz1, hz2⟩ := info_parts infoEv
  refine wpList_append_own w hgd s x _ ho base 60 i0 zeroEv.V 14 152 Tryz.underlying35 hi hz0 hz1 hz2 (by kernel_rfl) (by decide) v n xs hs hown ⟨g, 0, none⟩ 1 1 e.row hx rfl ?_ ?_ (by unfold maxLen; omega) (by omega) hbase (fun v' w' h5 h6 _ => h v' w' h5 h6)
  · intro j u hu
    rw [Addr.add_lit, Nat.zero_add, cell_of_row w g j _ _ _ hr]
    unfold Ev.row at hu
    simpa using hu
  · intro u hu
    simp only [Ev.row, List.mem_cons, List.not_mem_nil, or_false] at hu
    rcases hu with rfl | rfl | rfl | rfl | rfl | rfl | rfl | rfl | rfl | rfl | rfl | rfl | rfl | rfl <;> first | rfl | exact hf.1 | exact hf.2.1 | exact hf.2.2
/-- what of a copy's events is told -/
structure Cp (ev : Nat → Ev) (el : Nat → El) (es : List Ev) (w : World) : Prop where
  like : ∀ (j : Nat) (e : Ev), es[j]? = some e → ∃ a d y, e = (ev j).lists a d y
  reads : ∀ (j : Nat) (e : Ev), es[j]? = some e → EReads w e (el j)
  typed : ∀ (j : Nat) (e : Ev), es[j]? = some e → TypedD w e.a e.d e.y
theorem Cp.nil (ev : Nat → Ev) (el : Nat → El) (w : World) : Cp ev el [] w := ⟨fun j e h => by simp at h, fun j e h => by simp at h, fun j e h => by simp at h⟩
theorem Cp.on {ev : Nat → Ev} {el : Nat → El} {es : List Ev} {w w' : World} (h : Cp ev el es w) (hb : Below w.heap.size w w') : Cp ev el es w' :=
  ⟨h.like, fun j e hj => (h.reads j e hj).below hb, fun j e hj => (h.typed j e hj).on hb⟩
theorem Cp.more {ev : Nat → Ev} {el : Nat → El} {es : List Ev} {w : World} (h : Cp ev el es w) {a d y : Value} (hr : EReads w ((ev es.length).lists a d y) (el es.length)) (ht : TypedD w a d y) : Cp ev el (es ++ [(ev es.length).lists a d y]) w := by
  have hcase : ∀ j e, (es ++ [(ev es.length).lists a d y])[j]? = some e → es[j]? = some e ∨ (j = es.length ∧ e = (ev es.length).lists a d y) := by
    intro j e hj
    by_cases hlt : j < es.length
    · left; rw [List.getElem?_append_left hlt] at hj; exact hj
    · rw [List.getElem?_append_right (by omega)] at hj
      right
      have h2 := List.getElem?_eq_some_iff.1 hj
      obtain ⟨h3, h4⟩ := h2
      simp at h3 h4
      exact ⟨by omega, h4.symm⟩
  refine ⟨fun j e hj => ?_, fun j e hj => ?_, fun j e hj => ?_⟩
  · rcases hcase j e hj with h1 | ⟨rfl, rfl⟩
    · exact h.like j e h1
    · exact ⟨a, d, y, rfl⟩
  · rcases hcase j e hj with h1 | ⟨rfl, rfl⟩
    · exact h.reads j e h1
    · exact hr
  · rcases hcase j e hj with h1 | ⟨rfl, rfl⟩
    · exact h.typed j e h1
    · exact ht
/-- lists of ints do not lie in a row of events -/
theorem reads_grown {w w' : World} {base n : Nat} {v vl : Value} {xs : List Value} {zs : List Int} (hown : w.ownsRow base 60 14 v n xs) (hg : w.grownBy w' v.ownBlock) (hr : ReadsI w vl zs) (ht : TypedI w vl) : ReadsI w' vl zs ∧ TypedI w' vl := by
  have hne : ∀ g, vl.ownBlock = some g → w'.heap[g]? = w.heap[g]? := fun g hv => by
    obtain ⟨c, hc⟩ := ht g hv
    refine hg.block g (Array.getElem?_eq_some_iff.1 hc).1 (fun hh => ?_)
    rcases hown.2 with ⟨rfl, _⟩ | ⟨g', cap, cur, rfl, _, hgg, _⟩
    · simp [Value.ownBlock] at hh
    · simp [Value.ownBlock] at hh
      subst hh
      rw [hc] at hgg
      simp at hgg
  refine ⟨?_, fun g hv => by obtain ⟨c, hc⟩ := ht g hv; exact ⟨c, (hne g hv).trans hc⟩⟩
  rcases hr with h0 | ⟨b, off, c, rfl, h1, h2, h3, h4⟩
  · exact .inl h0
  · refine .inr ⟨b, off, c, rfl, h1, h2, Nat.lt_of_lt_of_le h3 hg.size, fun j hj => ?_⟩
    rw [← h4 j hj]
    exact World.cell?_of_block (hne b rfl)
theorem Cp.grown {ev : Nat → Ev} {el : Nat → El} {es : List Ev} {w w' : World} (h : Cp ev el es w) {base n : Nat} {v : Value} {xs : List Value} (hown : w.ownsRow base 60 14 v n xs) (hg : w.grownBy w' v.ownBlock) : Cp ev el es w' :=
  ⟨h.like, fun j e hj => ⟨(reads_grown hown hg (h.reads j e hj).1 (h.typed j e hj).1).1, (reads_grown hown hg (h.reads j e hj).2.1 (h.typed j e hj).2.1).1, (reads_grown hown hg (h.reads j e hj).2.2 (h.typed j e hj).2.2).1⟩,
    fun j e hj => ⟨(reads_grown hown hg (h.reads j e hj).1 (h.typed j e hj).1).2, (reads_grown hown hg (h.reads j e hj).2.1 (h.typed j e hj).2.1).2, (reads_grown hown hg (h.reads j e hj).2.2 (h.typed j e hj).2.2).2⟩⟩
theorem Cp.add {ev : Nat → Ev} {el : Nat → El} {es : List Ev} {w : World} (h : Cp ev el es w) {a d y : Value} (k : Nat) (hk : es.length = k) (hr : EReads w ((ev k).lists a d y) (el k)) (ht : TypedD w a d y) : Cp ev el (es ++ [(ev k).lists a d y]) w := by
  subst hk; exact h.more hr ht
theorem flat_more (es : List Ev) (e : Ev) : flat (es ++ [e]) = flat es ++ e.row := by
  unfold flat; simp
theorem own_on {w w' : World} {base size n : Nat} {e : TypeId} {v : Value} {xs : List Value} (h : w.ownsRow base e size v n xs) (hb : Below w.heap.size w w') : w'.ownsRow base e size v n xs := by
  refine ⟨h.1, ?_⟩
  rcases h.2 with hn | ⟨g, cap, cur, rfl, hb1, hgg, rest⟩
  · exact .inl hn
  · exact .inr ⟨g, cap, cur, rfl, hb1, (hb.block g (Array.getElem?_eq_some_iff.1 hgg).1).trans hgg, rest⟩
end Go.Proofs.YtokhnjcbcpmmjaaGreat
namespace Go.Proofs.YtokhnjcbcpmmjaaGreat
set_option linter.unusedVariables false
set_option linter.unusedSimpArgs false
open Go.RowKit
attribute [local go_sem ↓] fold_E fold_SE

end Go.Proofs.YtokhnjcbcpmmjaaGreat
namespace Go.Proofs.YtokhnjcbcpmmjaaGreat
set_option linter.unusedVariables false
set_option linter.unusedSimpArgs false
open Go.RowKit

/-- a row of events in a block of its own -/
def IsRow (g : Nat) (w : World) : Prop := ∃ cur, w.heap[g]? = some (.cells cur 60 (0, 0))
theorem IsRow.on {g : Nat} {w w' : World} (h : IsRow g w) (hb : Below w.heap.size w w') : IsRow g w' := by
  obtain ⟨c, hc⟩ := h
  exact ⟨c, (hb.block g (Array.getElem?_eq_some_iff.1 hc).1).trans hc⟩
theorem IsRow.lt {g : Nat} {w : World} (h : IsRow g w) : g < w.heap.size := by
  obtain ⟨c, hc⟩ := h
  exact (Array.getElem?_eq_some_iff.1 hc).1
theorem IsRow.free {g : Nat} {w : World} (h : IsRow g w) (k : Nat) : w.frozen? ⟨g, k, none⟩ = false := by
  obtain ⟨c, hc⟩ := h
  exact frozen_of_row w g k _ _ hc
theorem IsRow.set {g : Nat} {w : World} (h : IsRow g w) (g2 i : Nat) (u : Value) : IsRow g (w.setCell ⟨g2, i, none⟩ u) := by
  obtain ⟨c, hc⟩ := h
  by_cases e : g = g2
  · subst e
    exact ⟨_, set_at _ _ _ _ _ _ _ hc⟩
  · exact ⟨c, (Below.heap_setCell w ⟨g2, i, none⟩ u g e).trans hc⟩
theorem ne_of_typed {w : World} {v : Value} {g b : Nat} (ht : TypedI w v) (hg : IsRow g w) (hb : v.ownBlock = some b) : b ≠ g := by
  intro e
  subst e
  obtain ⟨c, hc⟩ := ht b hb
  obtain ⟨c2, hc2⟩ := hg
  rw [hc] at hc2
  simp at hc2
theorem typed_store {w : World} {v : Value} {g i : Nat} {u : Value} (ht : TypedI w v) (hg : IsRow g w) : TypedI (w.setCell ⟨g, i, none⟩ u) v := fun b hb => by
  obtain ⟨c, hc⟩ := ht b hb
  exact ⟨c, (Below.heap_setCell w ⟨g, i, none⟩ u b (ne_of_typed ht hg hb)).trans hc⟩
theorem reads_store {w : World} {v : Value} {zs : List Int} {g i : Nat} {u : Value} (hr : ReadsI w v zs) (ht : TypedI w v) (hg : IsRow g w) : ReadsI (w.setCell ⟨g, i, none⟩ u) v zs := by
  rcases hr with h0 | ⟨b, off, c, rfl, h1, h2, h3, h4⟩
  · exact .inl h0
  · refine .inr ⟨b, off, c, rfl, h1, h2, by simpa [World.setCell] using h3, fun j hj => ?_⟩
    rw [← h4 j hj]
    exact World.cell?_of_block (Below.heap_setCell w ⟨g, i, none⟩ u b (ne_of_typed ht hg rfl))
theorem ereads_store {w : World} {e : Ev} {l : El} {g i : Nat} {u : Value} (hr : EReads w e l) (ht : TypedD w e.a e.d e.y) (hg : IsRow g w) : EReads (w.setCell ⟨g, i, none⟩ u) e l :=
  ⟨reads_store hr.1 ht.1 hg, reads_store hr.2.1 ht.2.1 hg, reads_store hr.2.2 ht.2.2 hg⟩
end Go.Proofs.YtokhnjcbcpmmjaaGreat
namespace Go.Proofs.YtokhnjcbcpmmjaaGreat
set_option linter.unusedVariables false
set_option linter.unusedSimpArgs false
open Go.RowKit
attribute [local go_sem ↓] fold_E fold_SE

abbrev numC (l : List Int) : Array Value := (l.map (Value.int .u64)).toArray
end Go.Proofs.YtokhnjcbcpmmjaaGreat
namespace Go.Proofs.YtokhnjcbcpmmjaaGreat
set_option linter.unusedVariables false
set_option linter.unusedSimpArgs false
open Go.RowKit

/-- a candidate -/
structure Cd where
  nh : Nat
  len : Nat → Nat
  ev : Nat → Nat → Ev
  el : Nat → Nat → El
  fs : List (Int × Int)
  fr : List Int
  od : List Int
def baseL (len : Nat → Nat) : Nat → Nat
  | 0 => 0
  | h + 1 => baseL len h + len h
theorem baseL_mono (len : Nat → Nat) (a b : Nat) (h : a ≤ b) : baseL len a ≤ baseL len b := by
  induction b with
  | zero => obtain rfl : a = 0 := by omega
            exact Nat.le_refl _
  | succ b ih =>
    rcases Nat.lt_or_ge a (b + 1) with h1 | h1
    · have := ih (by omega)
      show baseL len a ≤ baseL len b + len b
      omega
    · obtain rfl : a = b + 1 := by omega
      exact Nat.le_refl _
theorem baseL_lt (len : Nat → Nat) (a b : Nat) (h : a < b) : baseL len a + len a ≤ baseL len b := baseL_mono len (a + 1) b h
/-- a row's events -/
def rowP (c : Cd) (h : Nat) : List (Ev × El) := (List.range (c.len h)).map fun j => (c.ev h j, c.el h j)
/-- the events of so many harts, by number -/
def allP (c : Cd) : Nat → List (Ev × El)
  | 0 => []
  | h + 1 => allP c h ++ rowP c h
def Cd.N (c : Cd) : Nat := baseL c.len c.nh
theorem rowP_len (c : Cd) (h : Nat) : (rowP c h).length = c.len h := by simp [rowP]
theorem allP_len (c : Cd) (h : Nat) : (allP c h).length = baseL c.len h := by
  induction h with
  | zero => rfl
  | succ h ih => simp [allP, baseL, ih, rowP_len]
theorem allP_at (c : Cd) (k h j : Nat) (hk : h < k) (hj : j < c.len h) : (allP c k)[baseL c.len h + j]? = some (c.ev h j, c.el h j) := by
  induction k with
  | zero => omega
  | succ k ih =>
    unfold allP
    rcases Nat.lt_or_ge h k with h1 | h1
    · have h2 := ih h1
      have := (List.getElem?_eq_some_iff.1 h2).1
      rw [List.getElem?_append_left this]
      exact h2
    · obtain rfl : h = k := by omega
      rw [List.getElem?_append_right (by rw [allP_len]; omega), allP_len, show baseL c.len h + j - baseL c.len h = j by omega]
      simp [rowP, hj]
/-- the event of a number -/
def Cd.at (c : Cd) (n : Nat) : Ev × El := (allP c c.nh).getD n (zeroEv, nilL)
theorem Cd.at_is (c : Cd) (h j : Nat) (hh : h < c.nh) (hj : j < c.len h) : c.at (baseL c.len h + j) = (c.ev h j, c.el h j) := by
  unfold Cd.at
  rw [List.getD_eq_getElem?_getD, allP_at c c.nh h j hh hj]; rfl
/-- each number is some hart's -/
theorem num_of (len : Nat → Nat) (k n : Nat) (h : n < baseL len k) : ∃ h j, h < k ∧ j < len h ∧ n = baseL len h + j := by
  induction k with
  | zero => simp [baseL] at h
  | succ k ih =>
    rcases Nat.lt_or_ge n (baseL len k) with h1 | h1
    · obtain ⟨a, j, h2, h3, h4⟩ := ih h1
      exact ⟨a, j, by omega, h3, h4⟩
    · unfold baseL at h
      exact ⟨k, n - baseL len k, by omega, by omega, by omega⟩
theorem Cd.at_mem (c : Cd) (n : Nat) (hn : n < c.N) : (allP c c.nh)[n]? = some (c.at n) := by
  unfold Cd.at
  have : n < (allP c c.nh).length := by rw [allP_len]; exact hn
  rw [List.getD_eq_getElem?_getD, List.getElem?_eq_getElem this]; rfl
def readsE (e : Ev) : Bool := hasB (fieldsOf e.kind) 16
def writesE (e : Ev) : Bool := hasB (fieldsOf e.kind) 32
def memE (e : Ev) : Bool := hasB (fieldsOf e.kind) 8
/-- what cells have at an address -/
def valL : List (Int × Int) → Int → Int
  | [], _ => 0
  | p :: r, x => if p.1 = x then p.2 else valL r x
/-- do cells rise? -/
def riseAt (fs : List (Int × Int)) (k : Nat) : Bool := decide ((fs.getD k (0, 0)).1 % 8 = 0) && (k == 0 || decide ((fs.getD (k - 1) (0, 0)).1 < (fs.getD k (0, 0)).1))
def riseL (fs : List (Int × Int)) (k : Nat) : Bool := (List.range k).all (riseAt fs)
/-- may a number's From be this one? -/
def findB (c : Cd) (n : Nat) : Bool :=
  if readsE (c.at n).1 = false then atI c.fr n == -1
  else if atI c.fr n = -1 then (c.at n).1.load == valL c.fs (c.at n).1.addr
  else if atI c.fr n = n ∨ withinB (atI c.fr n) c.N = false then false
  else writesE (c.at (atI c.fr n).toNat).1 && ((c.at (atI c.fr n).toNat).1.addr == (c.at n).1.addr && (c.at (atI c.fr n).toNat).1.store == (c.at n).1.load)
def foundL (c : Cd) (k : Nat) : Bool := (List.range k).all (findB c)
/-- which numbers wait, so many of the order gone through -/
def waitsL (c : Cd) : Nat → Nat → Bool
  | 0, n => memE (c.at n).1
  | k + 1, n => waitsL c k n && decide ((n : Int) ≠ atI c.od k)
def ordAt (c : Cd) (k : Nat) : Bool := withinB (atI c.od k) c.N && waitsL c k (atI c.od k).toNat
def ordL (c : Cd) (k : Nat) : Bool := (List.range k).all (ordAt c)
def oneN : Bool → Nat
  | true => 1
  | false => 0
/-- how many wait -/
def countW (f : Nat → Bool) : Nat → Nat
  | 0 => 0
  | n + 1 => countW f n + oneN (f n)
def rowB (c : Cd) (h : Nat) : Bool := (rowL h (c.ev h) (c.el h) (c.len h)).isSome
def rowsL (c : Cd) (k : Nat) : Bool := (List.range k).all (rowB c)
/-- may a candidate be? -/
def Cd.may (c : Cd) : Bool :=
  decide (0 < c.nh) && (decide (c.nh ≤ 8) && (decide (c.N ≤ 4096) && (riseL c.fs c.fs.length && (rowsL c c.nh && ((decide (c.fr.length = c.N) && foundL c c.N) && (ordL c c.od.length && decide (countW (waitsL c c.od.length) c.N = 0)))))))
/-! ### for all below -/
theorem all_succ (f : Nat → Bool) (k : Nat) : (List.range (k + 1)).all f = ((List.range k).all f && f k) := by
  rw [List.range_succ, List.all_append]; simp
theorem all_pre (f : Nat → Bool) (k n : Nat) (hk : k ≤ n) (h : (List.range k).all f = false) : (List.range n).all f = false := by
  induction n with
  | zero => obtain rfl : k = 0 := by omega
            exact h
  | succ n ih =>
    rcases Nat.lt_or_ge k (n + 1) with h1 | h1
    · rw [all_succ, ih (by omega)]; rfl
    · obtain rfl : k = n + 1 := by omega
      exact h
theorem all_stop (f : Nat → Bool) (k n : Nat) (hk : k < n) (h : f k = false) : (List.range n).all f = false :=
  all_pre f (k + 1) n hk (by rw [all_succ, h]; simp)
theorem all_at (f : Nat → Bool) (n : Nat) (h : (List.range n).all f = true) (k : Nat) (hk : k < n) : f k = true := by
  rw [List.all_eq_true] at h
  exact h k (List.mem_range.2 hk)
theorem all_next (f : Nat → Bool) (k : Nat) (h : (List.range k).all f = true) (h2 : f k = true) : (List.range (k + 1)).all f = true := by rw [all_succ, h, h2]; rfl
/-! ### counting -/
theorem countW_ext (f g : Nat → Bool) (n : Nat) (h : ∀ k, k < n → f k = g k) : countW f n = countW g n := by
  induction n with
  | zero => rfl
  | succ n ih => simp only [countW]; rw [ih (fun k hk => h k (by omega)), h n (by omega)]
theorem countW_le (f : Nat → Bool) (n : Nat) : countW f n ≤ n := by
  induction n with
  | zero => exact Nat.le_refl _
  | succ n ih => simp only [countW]; cases f n <;> simp only [oneN] <;> omega
theorem countW_off (f : Nat → Bool) (x n : Nat) (hx : x < n) (hf : f x = true) : countW (fun k => f k && decide ((k : Int) ≠ (x : Int))) n + 1 = countW f n := by
  induction n with
  | zero => omega
  | succ n ih =>
    simp only [countW]
    rcases Nat.lt_or_ge x n with h1 | h1
    · have := ih h1
      have hne : decide ((n : Int) ≠ (x : Int)) = true := by simp; omega
      rw [hne, Bool.and_true]
      omega
    · obtain rfl : x = n := by omega
      rw [hf, countW_ext (fun k => f k && decide ((k : Int) ≠ (x : Int))) f x (fun k hk => by
        have : decide ((k : Int) ≠ (x : Int)) = true := by simp; omega
        rw [this, Bool.and_true])]
      simp [oneN]
theorem withinB_yes {x m : Int} (h : withinB x m = true) : 0 ≤ x ∧ x < m := by
  unfold withinB at h
  simp only [Bool.and_eq_true, decide_eq_true_eq] at h
  exact h
theorem ord_step (c : Cd) (k : Nat) (h : ordAt c k = true) : countW (waitsL c (k + 1)) c.N + 1 = countW (waitsL c k) c.N := by
  unfold ordAt at h
  rw [Bool.and_eq_true] at h
  obtain ⟨h1, h2⟩ := h
  obtain ⟨h3, h4⟩ := withinB_yes h1
  have := countW_off (waitsL c k) (atI c.od k).toNat c.N (by omega) h2
  rw [← this]
  congr 1
  refine countW_ext _ _ _ (fun j hj => ?_)
  show (waitsL c k j && _) = (waitsL c k j && _)
  rw [show (((atI c.od k).toNat : Nat) : Int) = atI c.od k by omega]
end Go.Proofs.YtokhnjcbcpmmjaaGreat
namespace Go.Proofs.YtokhnjcbcpmmjaaGreat
set_option linter.unusedVariables false
set_option linter.unusedSimpArgs false
open Go.RowKit

def fA (fs : List (Int × Int)) (j : Nat) : Int := (fs.getD j (0, 0)).1
def fV (fs : List (Int × Int)) (j : Nat) : Int := (fs.getD j (0, 0)).2
/-- cells of memory in a row -/
def CellsIn (w : World) (b off : Nat) (fs : List (Int × Int)) : Prop := ∀ j, j < fs.length → w.cell? ⟨b, off + j * 2, none⟩ = some (.int .u64 (fA fs j)) ∧ w.cell? ⟨b, off + j * 2 + 1, none⟩ = some (.int .u64 (fV fs j))
def ReadsF (w : World) (v : Value) (fs : List (Int × Int)) : Prop :=
  (EmptyS v ∧ fs = []) ∨ ∃ b off c, v = .slice (some ⟨b, off, none⟩) fs.length c ∧ fs.length ≤ c ∧ c ≤ 9223372036854775807 ∧ b < w.heap.size ∧ CellsIn w b off fs
theorem ReadsF.below {w w' : World} {v : Value} {fs : List (Int × Int)} (h : ReadsF w v fs) (hb : Below w.heap.size w w') : ReadsF w' v fs := by
  rcases h with h | ⟨b, off, c, e, h1, h2, h3, h4⟩
  · exact .inl h
  · exact .inr ⟨b, off, c, e, h1, h2, Nat.lt_of_lt_of_le h3 hb.size, fun j hj => ⟨(hb.cell (p := ⟨b, off + j * 2, none⟩) h3).trans (h4 j hj).1, (hb.cell (p := ⟨b, off + j * 2 + 1, none⟩) h3).trans (h4 j hj).2⟩⟩
theorem ReadsF.len {w : World} {v : Value} {fs : List (Int × Int)} (h : ReadsF w v fs) : ∃ a c, v = .slice a fs.length c := by
  rcases h with ⟨⟨a, c, rfl, _⟩, rfl⟩ | ⟨b, off, c, rfl, _⟩
  · exact ⟨a, c, rfl⟩
  · exact ⟨some ⟨b, off, none⟩, c, rfl⟩
/-- a hart's events -/
def RowV (w : World) (v : Value) (n : Nat) (ev : Nat → Ev) (el : Nat → El) : Prop := ∃ a c, v = .slice a n c ∧ n ≤ c ∧ (n = 0 ∨ ∃ b off, a = some ⟨b, off, none⟩ ∧ Rw n b off ev el w)
theorem RowV.below {w w' : World} {v : Value} {n : Nat} {ev : Nat → Ev} {el : Nat → El} (h : RowV w v n ev el) (hb : Below w.heap.size w w') : RowV w' v n ev el := by
  obtain ⟨a, c, e, hc, h⟩ := h
  rcases h with h | ⟨b, off, e2, h⟩
  · exact ⟨a, c, e, hc, .inl h⟩
  · exact ⟨a, c, e, hc, .inr ⟨b, off, e2, h.below hb⟩⟩
/-- so many harts' rows -/
structure HsIn (c : Cd) (k b off : Nat) (w : World) : Prop where
  each : ∀ h, h < k → ∃ v, w.cell? ⟨b, off + h, none⟩ = some v ∧ RowV w v (c.len h) (c.ev h) (c.el h)
  lt : 0 < k → b < w.heap.size
theorem HsIn.below {c : Cd} {k b off : Nat} {w w' : World} (h : HsIn c k b off w) (hb : Below w.heap.size w w') : HsIn c k b off w' :=
  ⟨fun j hj => by
    obtain ⟨v, h1, h2⟩ := h.each j hj
    exact ⟨v, (hb.cell (p := ⟨b, off + j, none⟩) (h.lt (by omega))).trans h1, h2.below hb⟩, fun hk => Nat.lt_of_lt_of_le (h.lt hk) hb.size⟩
theorem HsIn.less {c : Cd} {k m b off : Nat} {w : World} (h : HsIn c k b off w) (hm : m ≤ k) : HsIn c m b off w := ⟨fun j hj => h.each j (by omega), fun hp => h.lt (by omega)⟩
def HsAt (c : Cd) (k : Nat) (a : Option Addr) (w : World) : Prop := k = 0 ∨ ∃ b off, a = some ⟨b, off, none⟩ ∧ HsIn c k b off w
theorem HsAt.below {c : Cd} {k : Nat} {a : Option Addr} {w w' : World} (h : HsAt c k a w) (hb : Below w.heap.size w w') : HsAt c k a w' := by
  rcases h with h | ⟨b, off, e, h⟩
  · exact .inl h
  · exact .inr ⟨b, off, e, h.below hb⟩
theorem HsAt.less {c : Cd} {k m : Nat} {a : Option Addr} {w : World} (h : HsAt c k a w) (hm : m ≤ k) : HsAt c m a w := by
  rcases h with h | ⟨b, off, e, h⟩
  · exact .inl (by omega)
  · exact .inr ⟨b, off, e, h.less hm⟩
theorem HsAt.row {c : Cd} {k : Nat} {a : Option Addr} {w : World} (h : HsAt c k a w) (j : Nat) (hj : j < k) : ∃ b off a2 c2, a = some ⟨b, off, none⟩ ∧ w.cell? ⟨b, off + j, none⟩ = some (.slice a2 (c.len j) c2) ∧ b < w.heap.size ∧ RowV w (.slice a2 (c.len j) c2) (c.len j) (c.ev j) (c.el j) := by
  rcases h with h | ⟨b, off, e, h⟩
  · omega
  · obtain ⟨v, h1, h2⟩ := h.each j hj
    obtain ⟨a2, c2, rfl, h3⟩ := h2
    exact ⟨b, off, a2, c2, e, h1, h.lt (by omega), a2, c2, rfl, h3⟩
/-- a candidate's values -/
structure Cv where
  aF : Option Addr
  cF : Nat
  aH : Option Addr
  cH : Nat
  aR : Option Addr
  cR : Nat
  aO : Option Addr
  cO : Nat
@[reducible] def cdV (c : Cd) (q : Cv) : Value := .agg #[.slice q.aF c.fs.length q.cF, .slice q.aH c.nh q.cH, .slice q.aR c.fr.length q.cR, .slice q.aO c.od.length q.cO]
/-- a candidate -/
structure CAt (c : Cd) (q : Cv) (w : World) : Prop where
  first : ReadsF w (.slice q.aF c.fs.length q.cF) c.fs
  harts : HsAt c c.nh q.aH w
  cap : c.nh ≤ q.cH
  from_ : ReadsI w (.slice q.aR c.fr.length q.cR) c.fr
  order : ReadsI w (.slice q.aO c.od.length q.cO) c.od
theorem CAt.below {c : Cd} {q : Cv} {w w' : World} (h : CAt c q w) (hb : Below w.heap.size w w') : CAt c q w' :=
  ⟨h.first.below hb, h.harts.below hb, h.cap, h.from_.below hb, h.order.below hb⟩
/-- a candidate in a box -/
def CdAt (c : Cd) (q : Cv) (g : Nat) (w : World) : Prop := w.heap[g]? = some (.cells #[.slice q.aF c.fs.length q.cF, .slice q.aH c.nh q.cH, .slice q.aR c.fr.length q.cR, .slice q.aO c.od.length q.cO] 26 (0, 0))
theorem CdAt.lt {c : Cd} {q : Cv} {g : Nat} {w : World} (h : CdAt c q g w) : g < w.heap.size := (Array.getElem?_eq_some_iff.1 h).1
theorem CdAt.facts {c : Cd} {q : Cv} {g : Nat} {w : World} (h : CdAt c q g w) : w.cell? ⟨g, 0, none⟩ = some (.slice q.aF c.fs.length q.cF) ∧ w.cell? ⟨g, 1, none⟩ = some (.slice q.aH c.nh q.cH) ∧ w.cell? ⟨g, 2, none⟩ = some (.slice q.aR c.fr.length q.cR) ∧ w.cell? ⟨g, 3, none⟩ = some (.slice q.aO c.od.length q.cO) :=
  ⟨by rw [cell_of_row w g 0 _ _ _ h]; rfl, by rw [cell_of_row w g 1 _ _ _ h]; rfl, by rw [cell_of_row w g 2 _ _ _ h]; rfl, by rw [cell_of_row w g 3 _ _ _ h]; rfl⟩
theorem CdAt.on {c : Cd} {q : Cv} {g : Nat} {w w' : World} (h : CdAt c q g w) (hb : Below w.heap.size w w') : CdAt c q g w' := (hb.block g h.lt).trans h
theorem CdAt.new (c : Cd) (q : Cv) (w : World) : CdAt c q w.heap.size (w.alloc (.cells #[.slice q.aF c.fs.length q.cF, .slice q.aH c.nh q.cH, .slice q.aR c.fr.length q.cR, .slice q.aO c.od.length q.cO] 26)) := Array.getElem?_push_size
/-- an address and what is stored there, as words -/
def WordE (e : Ev) : Prop := (Lit.int .u64 e.addr).wf = true ∧ (Lit.int .u64 e.store).wf = true
/-- little in it; its numbers are words -/
structure Lt (c : Cd) : Prop where
  ew : ∀ h, h < c.nh → ∀ k, k < c.len h → WordE (c.ev h k)
  nh : c.nh ≤ 9
  n : c.N ≤ 60
  small : ∀ h, h < c.nh → c.len h ≤ 60 ∧ ∀ k, k < c.len h → small (c.el h k)
  fs : c.fs.length ≤ 60
  fr : c.fr.length ≤ 120
  od : c.od.length ≤ 120
  fw : ∀ j, j < c.fs.length → (0 ≤ fA c.fs j ∧ fA c.fs j < 18446744073709551616) ∧ (0 ≤ fV c.fs j ∧ fV c.fs j < 18446744073709551616)
theorem Lt.base {c : Cd} (h : Lt c) (k : Nat) (hk : k ≤ c.nh) : baseL c.len k ≤ 60 := Nat.le_trans (baseL_mono c.len k c.nh hk) h.n
end Go.Proofs.YtokhnjcbcpmmjaaGreat
namespace Go.Proofs.YtokhnjcbcpmmjaaGreat
set_option linter.unusedVariables false
set_option linter.unusedSimpArgs false

def rOk0 (e : Ev) : Bool := (decide (0 ≤ e.hart) && decide (e.hart < 8)) && decide (0 ≤ e.pos)
def rFen (e : Ev) (n : Int) : Bool := ((((((((((e.addr == 0) && (e.load == 0)) && (e.store == 0)) && !e.aq) && !e.rl) && (e.pair == 0)) && (n == 0)) && decide (0 ≤ e.pred)) && decide (e.pred ≤ 15)) && decide (0 ≤ e.succ)) && decide (e.succ ≤ 15)
def rMem1 (e : Ev) : Bool := ((((memE e && (e.addr % 8 == 0)) && (readsE e || (e.load == 0))) && (writesE e || (e.store == 0))) && (e.pred == 0)) && (e.succ == 0)
def rMem2 (e : Ev) : Bool := ((e.kind != 1) && (e.kind != 2)) || (!e.aq && !e.rl)
def rMem3 (e : Ev) : Bool := (((e.kind == 4) && decide (0 ≤ e.pair)) && decide (e.pair < e.pos)) || ((e.kind != 4) && (e.pair == 0))
def rMem4 (e : Ev) (l : El) : Bool := ((aheadB e.pos l.a && aheadB e.pos l.d) && aheadB e.pos l.y) && (writesE e || ((l.d.length : Int) == 0))
def rchk (e : Ev) (l : El) : Bool := if e.kind == 6 then rOk0 e && rFen e ((l.a.length : Int) + (l.d.length : Int) + (l.y.length : Int)) else (((rOk0 e && rMem1 e) && rMem2 e) && rMem3 e) && rMem4 e l
def PairFits (e : Ev) : Prop := -9223372036854775808 ≤ e.pair ∧ e.pair < 9223372036854775808
theorem wrap0 {x : Int} (h : -9223372036854775808 ≤ x ∧ x < 9223372036854775808) : IntKind.u64.wrap x = 0 ↔ x = 0 := by
  have e : IntKind.u64.wrap x = x % 18446744073709551616 := by simp [IntKind.wrap, IntKind.signed, IntKind.bits]
  rw [e]
  omega
theorem wrapN {n : Nat} (h : n ≤ 100000) : IntKind.u64.wrap (n : Int) = 0 ↔ n = 0 := by rw [wrap0 (by omega)]; omega
theorem hold_is (F : Nat) (ns : List Int) : holdB F ns = (okAt F ns 0 && (okAt F ns 1 && (okAt F ns 2 && (okAt F ns 3 && (okAt F ns 4 && (okAt F ns 5 && (okAt F ns 6 && (okAt F ns 7 && (okAt F ns 8 && (okAt F ns 9 && (okAt F ns 10 && (okAt F ns 11 && (okAt F ns 12 && (okAt F ns 13 && true)))))))))))))) := rfl
theorem all_is (p : Int) (l : El) : aheadAll p (fun k => if k = 0 then l.a else if k = 1 then l.d else l.y) = (aheadB p l.a && (aheadB p l.d && (aheadB p l.y && true))) := rfl
theorem bit0 (b : Bool) : bitI b = 0 ↔ b = false := by cases b <;> simp [bitI]
theorem nil_of {l : List Int} (h : l.length = 0) : l = [] := List.length_eq_zero_iff.1 h
theorem rchk_eq (e : Ev) (l : El) (hp : PairFits e) (hn : l.n) : rchk e l = chkE e l := by
  have p0 := wrap0 hp
  have a0 := wrapN hn.1
  have d0 := wrapN hn.2.1
  have y0 := wrapN hn.2.2
  have q1 : 0 ≤ e.pred ∧ e.pred < 16 → (IntKind.u64.wrap e.pred = 0 ↔ e.pred = 0) := fun h => wrap0 (by omega)
  have q2 : 0 ≤ e.succ ∧ e.succ < 16 → (IntKind.u64.wrap e.succ = 0 ↔ e.succ = 0) := fun h => wrap0 (by omega)
  have b1 := bit0 e.aq
  have b2 := bit0 e.rl
  have hnil : ∀ x : List Int, x.length = 0 → aheadB e.pos x = true := fun x hx => by rw [nil_of hx]; rfl
  have ha := hnil l.a
  have hd := hnil l.d
  have hy := hnil l.y
  clear hnil
  rw [Bool.eq_iff_iff]
  have hk : e.kind = 1 ∨ e.kind = 2 ∨ e.kind = 3 ∨ e.kind = 4 ∨ e.kind = 5 ∨ e.kind = 6 ∨ (e.kind ≠ 1 ∧ e.kind ≠ 2 ∧ e.kind ≠ 3 ∧ e.kind ≠ 4 ∧ e.kind ≠ 5 ∧ e.kind ≠ 6) := by omega
  unfold chkE rchk
  rw [hold_is, all_is]
  rcases hk with hk | hk | hk | hk | hk | hk | ⟨k1, k2, k3, k4, k5, k6⟩
  all_goals simp [okAt, hasB, fieldsOf, numsL, atI, withinB, rOk0, rFen, rMem1, rMem2, rMem3, rMem4, memE, readsE, writesE, p0, a0, d0, y0, b1, b2, *]
  all_goals grind
/-- the last load-reserved with no other and no store-conditional behind it -/
def LastAt (ev : Nat → Ev) (k : Nat) (last : Int) : Prop := -1 ≤ last ∧ last < k ∧ ∀ p : Nat, p < k → (((ev p).kind = 3 ∧ ∀ j, p < j → j < k → (ev j).kind ≠ 3 ∧ (ev j).kind ≠ 4) ↔ (p : Int) = last)
theorem last_at {hart : Int} {ev : Nat → Ev} {el : Nat → El} : ∀ (k : Nat) (last : Int), rowL hart ev el k = some last → LastAt ev k last := by
  intro k
  induction k with
  | zero =>
    intro last h
    obtain rfl : (-1 : Int) = last := by injection h
    exact ⟨by omega, by omega, fun p hp => absurd hp (by omega)⟩
  | succ k ih =>
    intro last h
    cases hr : rowL hart ev el k with
    | none =>
      rw [rowL_none hart ev el k hr (k + 1) (by omega)] at h
      cases h
    | some l0 =>
      obtain ⟨i1, i2, i3⟩ := ih l0 hr
      rw [rowL_step hr] at h
      unfold rowStep at h
      split at h
      · cases h
      split at h
      · cases h
      split at h
      · cases h
      split at h
      · rename_i h3
        obtain rfl : (k : Int) = last := by injection h
        refine ⟨by omega, by omega, fun p hp => ⟨fun ⟨a, b⟩ => ?_, fun e => ?_⟩⟩
        · by_cases hpk : p = k
          · rw [hpk]
          · exact absurd h3 (b k (by omega) (by omega)).1
        · obtain rfl : p = k := by omega
          exact ⟨h3, fun j hj hj' => absurd hj (by omega)⟩
      rename_i h3
      split at h
      · rename_i h4
        split at h
        · cases h
        split at h
        · cases h
        obtain rfl : (-1 : Int) = last := by injection h
        refine ⟨by omega, by omega, fun p hp => ⟨fun ⟨a, b⟩ => ?_, fun e => absurd e (by omega)⟩⟩
        by_cases hpk : p = k
        · rw [hpk] at a; exact absurd a h3
        · exact absurd h4 (b k (by omega) (by omega)).2
      · rename_i h4
        obtain rfl : l0 = last := by injection h
        refine ⟨i1, by omega, fun p hp => ⟨fun ⟨a, b⟩ => ?_, fun e => ?_⟩⟩
        · by_cases hpk : p = k
          · rw [hpk] at a; exact absurd a h3
          · exact (i3 p (by omega)).1 ⟨a, fun j hj hj' => b j hj (by omega)⟩
        · obtain ⟨a, b⟩ := (i3 p (by omega)).2 e
          refine ⟨a, fun j hj hj' => ?_⟩
          by_cases hjk : j = k
          · rw [hjk]; exact ⟨h3, h4⟩
          · exact b j hj (by omega)
end Go.Proofs.YtokhnjcbcpmmjaaGreat
