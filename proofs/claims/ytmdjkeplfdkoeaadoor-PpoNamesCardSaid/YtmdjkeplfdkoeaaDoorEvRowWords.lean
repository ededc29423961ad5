/-
  Proved here: the kit's OwnEvents: a row of events of its own; nothing that was there is changed. Condition: at most 60 events.
  (With it: Proved here: the kit's LightEvents; nothing that was there is changed. Condition: a row of events.)
-/
import Derived.Test.YtmdjkeplfdkoeaaDoorEvRow
import Derived.Test.YtmdjkeplfdkoeaaDoorEvRowsArg
import Derived.Test.YtmdjkeplfdkoeaaDoorEvKit
namespace Go.Proofs.YtmdjkeplfdkoeaaDoor
set_option linter.unusedVariables false
set_option linter.unusedSimpArgs false
open Go.RowKit
attribute [local go_sem ↓] fold_E fold_SE

def small (l : El) : Prop := l.a.length ≤ 60 ∧ l.d.length ≤ 60 ∧ l.y.length ≤ 60
theorem small.n {l : El} (h : small l) : l.n := ⟨Nat.le_trans h.1 (by omega), Nat.le_trans h.2.1 (by omega), Nat.le_trans h.2.2 (by omega)⟩
def LightIs (w : World) (n : Nat) (el : Nat → El) (e : Ending) (w' : World) : Prop := ∃ r, e = .returned (.bool r) ∧ (r = true → n ≤ 60 ∧ ∀ k, k < n → small (el k)) ∧ Below w.heap.size w w'
theorem EvIn.deps {e : Ev} {b o : Nat} {w : World} (h : EvIn e b o w) : w.cell? ⟨b, o + 11, none⟩ = some e.a ∧ w.cell? ⟨b, o + 12, none⟩ = some e.d ∧ w.cell? ⟨b, o + 13, none⟩ = some e.y := ⟨h 11 _ rfl, h 12 _ rfl, h 13 _ rfl⟩
/-- a slice of events that comes in -/
def RowIn (w : World) (a : Option Addr) (n : Nat) (ev : Nat → Ev) (el : Nat → El) : Prop := n = 0 ∨ ∃ b off, a = some ⟨b, off, none⟩ ∧ n ≤ maxLen ∧ Rw n b off ev el w
end Go.Proofs.YtmdjkeplfdkoeaaDoor
namespace Go.Proofs.YtmdjkeplfdkoeaaDoor
set_option linter.unusedVariables false
set_option linter.unusedSimpArgs false
open Go.RowKit
attribute [local go_sem ↓] fold_E fold_SE

def Ev.row (e : Ev) : List Value := [.int .i64 e.hart, .int .i64 e.pos, .int .i64 e.kind, .int .u64 e.addr, .int .u64 e.load, .int .u64 e.store, .bool e.aq, .bool e.rl, .int .i64 e.pred, .int .i64 e.succ, .int .i64 e.pair, e.a, e.d, e.y]
theorem row_len (e : Ev) : e.row.length = 14 := rfl
def flat (es : List Ev) : List Value := es.flatMap Ev.row
theorem flat_at (es : List Ev) : ∀ (k j : Nat) (e : Ev) (v : Value), es[k]? = some e → e.row[j]? = some v → (flat es)[k * 14 + j]? = some v := by
  induction es with
  | nil => intro k j e v h; simp at h
  | cons x es ih =>
    intro k j e v h hv
    have hj : j < 14 := by have := (List.getElem?_eq_some_iff.1 hv).1; rw [row_len] at this; exact this
    unfold flat
    rw [List.flatMap_cons]
    cases k with
    | zero =>
      simp at h
      subst h
      rw [List.getElem?_append_left (by rw [row_len]; omega)]
      simpa using hv
    | succ k =>
      rw [List.getElem?_append_right (by rw [row_len]; omega), row_len, show (k + 1) * 14 + j - 14 = k * 14 + j by omega]
      exact ih k j e v (by simpa using h) hv
theorem infoEv : (Tryd.prog.info? 42).map (fun i => (i.zero, i.size, i.bytes)) = some (some zeroEv.V, 14, 152) := by kernel_rfl
theorem append_ev {ops : Array Oper} {rest : List Oper} {o : Oper} {a : Act} {w : World} {Q : Exit → Act → World → Prop} (hgd : o.guard = none) (s x : Operand)
    (ho : o.op = .call { callee := .builtin .append, args := #[s, x], argTypes := #[28, 28] }) (base : Nat) (v : Value) (n : Nat) (xs : List Value) (hs : a.eval s = v) (hown : w.ownsRow base 42 14 v n xs)
    (e : Ev) (hf : e.flat) (g : Nat) (hx : a.eval x = .slice (some ⟨g, 0, none⟩) 1 1) (hr : EvAt e g w) (hn : n ≤ 1000) (hbase : base ≤ w.heap.size)
    (h : ∀ v' w', w'.ownsRow base 42 14 v' (n + 1) (xs ++ e.row) → w.grownBy w' v.ownBlock → wpList Tryd.prog ops Q rest (a.put o.dst v') w') : wpList Tryd.prog ops Q (o :: rest) a w := by
  obtain ⟨i0, hi, hz0, hz1, hz2⟩ := info_parts infoEv
  refine wpList_append_own w hgd s x _ ho base 42 i0 zeroEv.V 14 152 Tryd.underlying28 hi hz0 hz1 hz2 (by kernel_rfl) (by decide) v n xs hs hown ⟨g, 0, none⟩ 1 1 e.row hx rfl ?_ ?_ (by unfold maxLen; omega) (by omega) hbase (fun v' w' h5 h6 _ => h v' w' h5 h6)
  · intro j u hu
    rw [Addr.add_lit, Nat.zero_add, cell_of_row w g j _ _ _ hr]
    unfold Ev.row at hu
    simpa using hu
  · intro u hu
    simp only [Ev.row, List.mem_cons, List.not_mem_nil, or_false] at hu
    rcases hu with rfl | rfl | rfl | rfl | rfl | rfl | rfl | rfl | rfl | rfl | rfl | rfl | rfl | rfl <;> first | rfl | exact hf.1 | exact hf.2.1 | exact hf.2.2
/-- what of a copy's events is told -/
structure Cp (ev : Nat → Ev) (el : Nat → El) (es : List Ev) (w : World) : Prop where
  like : ∀ (j : Nat) (e : Ev), es[j]? = some e → ∃ a d y, e = (ev j).lists a d y
  reads : ∀ (j : Nat) (e : Ev), es[j]? = some e → EReads w e (el j)
  typed : ∀ (j : Nat) (e : Ev), es[j]? = some e → TypedD w e.a e.d e.y
theorem Cp.nil (ev : Nat → Ev) (el : Nat → El) (w : World) : Cp ev el [] w := ⟨fun j e h => by simp at h, fun j e h => by simp at h, fun j e h => by simp at h⟩
theorem Cp.on {ev : Nat → Ev} {el : Nat → El} {es : List Ev} {w w' : World} (h : Cp ev el es w) (hb : Below w.heap.size w w') : Cp ev el es w' :=
  ⟨h.like, fun j e hj => (h.reads j e hj).below hb, fun j e hj => (h.typed j e hj).on hb⟩
theorem Cp.more {ev : Nat → Ev} {el : Nat → El} {es : List Ev} {w : World} (h : Cp ev el es w) {a d y : Value} (hr : EReads w ((ev es.length).lists a d y) (el es.length)) (ht : TypedD w a d y) : Cp ev el (es ++ [(ev es.length).lists a d y]) w := by
  have hcase : ∀ j e, (es ++ [(ev es.length).lists a d y])[j]? = some e → es[j]? = some e ∨ (j = es.length ∧ e = (ev es.length).lists a d y) := by
    intro j e hj
    by_cases hlt : j < es.length
    · left; rw [List.getElem?_append_left hlt] at hj; exact hj
    · rw [List.getElem?_append_right (by omega)] at hj
      right
      have h2 := List.getElem?_eq_some_iff.1 hj
      obtain ⟨h3, h4⟩ := h2
      simp at h3 h4
      exact ⟨by omega, h4.symm⟩
  refine ⟨fun j e hj => ?_, fun j e hj => ?_, fun j e hj => ?_⟩
  · rcases hcase j e hj with h1 | ⟨rfl, rfl⟩
    · exact h.like j e h1
    · exact ⟨a, d, y, rfl⟩
  · rcases hcase j e hj with h1 | ⟨rfl, rfl⟩
    · exact h.reads j e h1
    · exact hr
  · rcases hcase j e hj with h1 | ⟨rfl, rfl⟩
    · exact h.typed j e h1
    · exact ht
/-- lists of ints do not lie in a row of events -/
theorem reads_grown {w w' : World} {base n : Nat} {v vl : Value} {xs : List Value} {zs : List Int} (hown : w.ownsRow base 42 14 v n xs) (hg : w.grownBy w' v.ownBlock) (hr : ReadsI w vl zs) (ht : TypedI w vl) : ReadsI w' vl zs ∧ TypedI w' vl := by
  have hne : ∀ g, vl.ownBlock = some g → w'.heap[g]? = w.heap[g]? := fun g hv => by
    obtain ⟨c, hc⟩ := ht g hv
    refine hg.block g (Array.getElem?_eq_some_iff.1 hc).1 (fun hh => ?_)
    rcases hown.2 with ⟨rfl, _⟩ | ⟨g', cap, cur, rfl, _, hgg, _⟩
    · simp [Value.ownBlock] at hh
    · simp [Value.ownBlock] at hh
      subst hh
      rw [hc] at hgg
      simp at hgg
  refine ⟨?_, fun g hv => by obtain ⟨c, hc⟩ := ht g hv; exact ⟨c, (hne g hv).trans hc⟩⟩
  rcases hr with h0 | ⟨b, off, c, rfl, h1, h2, h3, h4⟩
  · exact .inl h0
  · refine .inr ⟨b, off, c, rfl, h1, h2, Nat.lt_of_lt_of_le h3 hg.size, fun j hj => ?_⟩
    rw [← h4 j hj]
    exact World.cell?_of_block (hne b rfl)
theorem Cp.grown {ev : Nat → Ev} {el : Nat → El} {es : List Ev} {w w' : World} (h : Cp ev el es w) {base n : Nat} {v : Value} {xs : List Value} (hown : w.ownsRow base 42 14 v n xs) (hg : w.grownBy w' v.ownBlock) : Cp ev el es w' :=
  ⟨h.like, fun j e hj => ⟨(reads_grown hown hg (h.reads j e hj).1 (h.typed j e hj).1).1, (reads_grown hown hg (h.reads j e hj).2.1 (h.typed j e hj).2.1).1, (reads_grown hown hg (h.reads j e hj).2.2 (h.typed j e hj).2.2).1⟩,
    fun j e hj => ⟨(reads_grown hown hg (h.reads j e hj).1 (h.typed j e hj).1).2, (reads_grown hown hg (h.reads j e hj).2.1 (h.typed j e hj).2.1).2, (reads_grown hown hg (h.reads j e hj).2.2 (h.typed j e hj).2.2).2⟩⟩
theorem Cp.add {ev : Nat → Ev} {el : Nat → El} {es : List Ev} {w : World} (h : Cp ev el es w) {a d y : Value} (k : Nat) (hk : es.length = k) (hr : EReads w ((ev k).lists a d y) (el k)) (ht : TypedD w a d y) : Cp ev el (es ++ [(ev k).lists a d y]) w := by
  subst hk; exact h.more hr ht
theorem flat_more (es : List Ev) (e : Ev) : flat (es ++ [e]) = flat es ++ e.row := by
  unfold flat; simp
theorem own_on {w w' : World} {base size n : Nat} {e : TypeId} {v : Value} {xs : List Value} (h : w.ownsRow base e size v n xs) (hb : Below w.heap.size w w') : w'.ownsRow base e size v n xs := by
  refine ⟨h.1, ?_⟩
  rcases h.2 with hn | ⟨g, cap, cur, rfl, hb1, hgg, rest⟩
  · exact .inl hn
  · exact .inr ⟨g, cap, cur, rfl, hb1, (hb.block g (Array.getElem?_eq_some_iff.1 hgg).1).trans hgg, rest⟩
def OwnsIs (w : World) (n : Nat) (ev : Nat → Ev) (el : Nat → El) (e' : Ending) (w' : World) : Prop :=
  ∃ v es, e' = .returned v ∧ es.length = n ∧ w'.ownsRow w.heap.size 42 14 v n (flat es) ∧ Cp ev el es w' ∧ Below w.heap.size w w'
end Go.Proofs.YtmdjkeplfdkoeaaDoor
