/-
  Proved here: the kit's OwnEvents: a row of events of its own; nothing that was there is changed. Condition: at most 60 events.
  (With it: Proved here: the kit's LightEvents; nothing that was there is changed. Condition: a row of events.)
-/
import Derived.Test.YtokhnjcbcpmmjaaEvRow
import Derived.Test.YtokhnjcbcpmmjaaEvRowsArg
import Derived.Test.YtokhnjcbcpmmjaaEvKit
namespace Go.Proofs.Ytokhnjcbcpmmjaa
set_option linter.unusedVariables false
set_option linter.unusedSimpArgs false
open Go.RowKit
attribute [local go_sem ↓] fold_E fold_SE

def small (l : El) : Prop := l.a.length ≤ 60 ∧ l.d.length ≤ 60 ∧ l.y.length ≤ 60
theorem small.n {l : El} (h : small l) : l.n := ⟨Nat.le_trans h.1 (by omega), Nat.le_trans h.2.1 (by omega), Nat.le_trans h.2.2 (by omega)⟩
def LightIs (w : World) (n : Nat) (el : Nat → El) (e : Ending) (w' : World) : Prop := ∃ r, e = .returned (.bool r) ∧ (r = true → n ≤ 60 ∧ ∀ k, k < n → small (el k)) ∧ Below w.heap.size w w'
theorem light_b (a d y : Option Addr) (n1 n2 n3 c1 c2 c3 : Nat) (r : Bool) (hr : Hid ((decide (n1 ≤ 60) && (decide (n2 ≤ 60) && decide (n3 ≤ 60))) = r)) (w : World) : Calls Try.prog 21 #[.agg #[.slice a n1 c1, .slice d n2 c2, .slice y n3 c3], .int .i64 60] w fun e w' => SameOk w r e w' := by
  have := light_any a d y n1 n2 n3 c1 c2 c3 60 w
  rw [hr.out] at this
  exact this
theorem EvIn.deps {e : Ev} {b o : Nat} {w : World} (h : EvIn e b o w) : w.cell? ⟨b, o + 11, none⟩ = some e.a ∧ w.cell? ⟨b, o + 12, none⟩ = some e.d ∧ w.cell? ⟨b, o + 13, none⟩ = some e.y := ⟨h 11 _ rfl, h 12 _ rfl, h 13 _ rfl⟩
theorem light_none (a : Option Addr) (c : Nat) (el : Nat → El) (w : World) : Calls Try.prog 14 #[.slice a 0 c, .int .i64 60] w fun e w' => LightIs w 0 el e w' := by
  go_enter Try.func14, Try.ntmps14
  go_wp2
  refine wp_loop_rounds 1 ?_
  rw [rounds_succ]
  go_wp2
  go_ret
  exact ⟨true, rfl, fun _ => ⟨by omega, fun k hk => absurd hk (by omega)⟩, Below.refl _ _⟩
theorem light_long (a : Option Addr) (n c : Nat) (el : Nat → El) (w : World) (hn : 60 < n) : Calls Try.prog 14 #[.slice a n c, .int .i64 60] w fun e w' => LightIs w n el e w' := by
  have d1 : decide (60 < n) = true := by simpa using hn
  go_enter Try.func14, Try.ntmps14
  go_wp2
  go_ret
  exact ⟨false, rfl, (fun h => by cases h), Below.refl _ _⟩
set_option maxRecDepth 100000 in
set_option maxHeartbeats 4000000 in
theorem light_row (n b off c : Nat) (ev : Nat → Ev) (el : Nat → El) (w : World) (hn : n ≤ 60) (h : Rw n b off ev el w) :
    Calls Try.prog 14 #[.slice (some ⟨b, off, none⟩) n c, .int .i64 60] w fun e w' => LightIs w n el e w' := by
  have HV := Lib.hid h
  have d1 : decide (60 < n) = false := by simp; omega
  clear h
  go_enter Try.func14, Try.ntmps14
  go_wp2
  go_loopw [5] (fun vi wr => ∃ (k : Nat), k ≤ n ∧ vi = .int .i64 k ∧ Hid (∀ j, j < k → small (el j)) ∧ Below w.heap.size w wr) (fun vi _ => n - (intOf vi).toNat)
  case atStart => exact ⟨0, Nat.zero_le _, rfl, Lib.hid (fun j hj => absurd hj (by omega)), Below.refl _ _⟩
  case round =>
    obtain ⟨k, hk, rfl, hR, hbel⟩ := hrel
    have HL := Lib.hid hbel
    clear hbel
    by_cases hlt : k < n
    · have HE := Lib.hid (HV.out.below HL.out)
      obtain ⟨u0, u1, u2⟩ := (HE.out.at_ k hlt).deps
      obtain ⟨a1, c1, e1⟩ := (HE.out.reads k hlt).1.len
      obtain ⟨a2, c2, e2⟩ := (HE.out.reads k hlt).2.1.len
      obtain ⟨a3, c3, e3⟩ := (HE.out.reads k hlt).2.2.len
      rw [e1] at u0
      rw [e2] at u1
      rw [e3] at u2
      clear e1 e2 e3
      by_cases hs : small (el k)
      · have KL := Lib.hid (fun w0 => light_b a1 a2 a3 (el k).a.length (el k).d.length (el k).y.length c1 c2 c3 true (Lib.hid (by simp [hs.1, hs.2.1, hs.2.2])) w0)
        have HS2 : Hid (∀ j, j < k + 1 → small (el j)) := Lib.hid (fun j hj => by
          by_cases h : j < k
          · exact hR.out j h
          · obtain rfl : j = k := by omega
            exact hs)
        clear hs
        go_wp2_with (go_at_call 21; (with_reducible refine (KL.out _).mono ?_); rintro e' w1 ⟨rfl, hb⟩; have L1 := Lib.hid (HL.out.trans (hb.mono HL.out.size)); clear hb)
        go_roundw
        case rel => exact ⟨k + 1, by omega, by go_num, HS2, L1.out⟩
        case measure => simp [intOf]; omega
      · have KL := Lib.hid (fun w0 => light_b a1 a2 a3 (el k).a.length (el k).d.length (el k).y.length c1 c2 c3 false (Lib.hid (by
          have hs' : ¬ ((el k).a.length ≤ 60 ∧ (el k).d.length ≤ 60 ∧ (el k).y.length ≤ 60) := hs
          cases h : (decide ((el k).a.length ≤ 60) && (decide ((el k).d.length ≤ 60) && decide ((el k).y.length ≤ 60))) with
          | false => rfl
          | true => exact absurd (by simpa using h) hs')) w0)
        clear hs
        go_wp2_with (go_at_call 21; (with_reducible refine (KL.out _).mono ?_); rintro e' w1 ⟨rfl, hb⟩; have L1 := Lib.hid (HL.out.trans (hb.mono HL.out.size)); clear hb)
        go_ret
        exact ⟨false, rfl, (fun h => by cases h), L1.out⟩
    · obtain rfl : k = n := by omega
      go_wp2
      go_ret
      exact ⟨true, rfl, fun _ => ⟨hn, hR.out⟩, HL.out⟩
end Go.Proofs.Ytokhnjcbcpmmjaa
namespace Go.Proofs.Ytokhnjcbcpmmjaa
set_option linter.unusedVariables false
set_option linter.unusedSimpArgs false
open Go.RowKit
attribute [local go_sem ↓] fold_E fold_SE

def Ev.row (e : Ev) : List Value := [.int .i64 e.hart, .int .i64 e.pos, .int .i64 e.kind, .int .u64 e.addr, .int .u64 e.load, .int .u64 e.store, .bool e.aq, .bool e.rl, .int .i64 e.pred, .int .i64 e.succ, .int .i64 e.pair, e.a, e.d, e.y]
theorem row_len (e : Ev) : e.row.length = 14 := rfl
def flat (es : List Ev) : List Value := es.flatMap Ev.row
theorem flat_at (es : List Ev) : ∀ (k j : Nat) (e : Ev) (v : Value), es[k]? = some e → e.row[j]? = some v → (flat es)[k * 14 + j]? = some v := by
  induction es with
  | nil => intro k j e v h; simp at h
  | cons x es ih =>
    intro k j e v h hv
    have hj : j < 14 := by have := (List.getElem?_eq_some_iff.1 hv).1; rw [row_len] at this; exact this
    unfold flat
    rw [List.flatMap_cons]
    cases k with
    | zero =>
      simp at h
      subst h
      rw [List.getElem?_append_left (by rw [row_len]; omega)]
      simpa using hv
    | succ k =>
      rw [List.getElem?_append_right (by rw [row_len]; omega), row_len, show (k + 1) * 14 + j - 14 = k * 14 + j by omega]
      exact ih k j e v (by simpa using h) hv
theorem infoEv : (Try.prog.info? 42).map (fun i => (i.zero, i.size, i.bytes)) = some (some zeroEv.V, 14, 152) := by kernel_rfl
theorem append_ev {ops : Array Oper} {rest : List Oper} {o : Oper} {a : Act} {w : World} {Q : Exit → Act → World → Prop} (hgd : o.guard = none) (s x : Operand)
    (ho : o.op = .call { callee := .builtin .append, args := #[s, x], argTypes := #[37, 37] }) (base : Nat) (v : Value) (n : Nat) (xs : List Value) (hs : a.eval s = v) (hown : w.ownsRow base 42 14 v n xs)
    (e : Ev) (hf : e.flat) (g : Nat) (hx : a.eval x = .slice (some ⟨g, 0, none⟩) 1 1) (hr : EvAt e g w) (hn : n ≤ 1000) (hbase : base ≤ w.heap.size)
    (h : ∀ v' w', w'.ownsRow base 42 14 v' (n + 1) (xs ++ e.row) → w.grownBy w' v.ownBlock → wpList Try.prog ops Q rest (a.put o.dst v') w') : wpList Try.prog ops Q (o :: rest) a w := by
  obtain ⟨i0, hi, hz0, hz1, hz2⟩ := info_parts infoEv
  refine wpList_append_own w hgd s x _ ho base 42 i0 zeroEv.V 14 152 Try.underlying37 hi hz0 hz1 hz2 (by kernel_rfl) (by decide) v n xs hs hown ⟨g, 0, none⟩ 1 1 e.row hx rfl ?_ ?_ (by unfold maxLen; omega) (by omega) hbase (fun v' w' h5 h6 _ => h v' w' h5 h6)
  · intro j u hu
    rw [Addr.add_lit, Nat.zero_add, cell_of_row w g j _ _ _ hr]
    unfold Ev.row at hu
    simpa using hu
  · intro u hu
    simp only [Ev.row, List.mem_cons, List.not_mem_nil, or_false] at hu
    rcases hu with rfl | rfl | rfl | rfl | rfl | rfl | rfl | rfl | rfl | rfl | rfl | rfl | rfl | rfl <;> first | rfl | exact hf.1 | exact hf.2.1 | exact hf.2.2
/-- what of a copy's events is told -/
structure Cp (ev : Nat → Ev) (el : Nat → El) (es : List Ev) (w : World) : Prop where
  like : ∀ (j : Nat) (e : Ev), es[j]? = some e → ∃ a d y, e = (ev j).lists a d y
  reads : ∀ (j : Nat) (e : Ev), es[j]? = some e → EReads w e (el j)
  typed : ∀ (j : Nat) (e : Ev), es[j]? = some e → TypedD w e.a e.d e.y
theorem Cp.nil (ev : Nat → Ev) (el : Nat → El) (w : World) : Cp ev el [] w := ⟨fun j e h => by simp at h, fun j e h => by simp at h, fun j e h => by simp at h⟩
theorem Cp.on {ev : Nat → Ev} {el : Nat → El} {es : List Ev} {w w' : World} (h : Cp ev el es w) (hb : Below w.heap.size w w') : Cp ev el es w' :=
  ⟨h.like, fun j e hj => (h.reads j e hj).below hb, fun j e hj => (h.typed j e hj).on hb⟩
theorem Cp.more {ev : Nat → Ev} {el : Nat → El} {es : List Ev} {w : World} (h : Cp ev el es w) {a d y : Value} (hr : EReads w ((ev es.length).lists a d y) (el es.length)) (ht : TypedD w a d y) : Cp ev el (es ++ [(ev es.length).lists a d y]) w := by
  have hcase : ∀ j e, (es ++ [(ev es.length).lists a d y])[j]? = some e → es[j]? = some e ∨ (j = es.length ∧ e = (ev es.length).lists a d y) := by
    intro j e hj
    by_cases hlt : j < es.length
    · left; rw [List.getElem?_append_left hlt] at hj; exact hj
    · rw [List.getElem?_append_right (by omega)] at hj
      right
      have h2 := List.getElem?_eq_some_iff.1 hj
      obtain ⟨h3, h4⟩ := h2
      simp at h3 h4
      exact ⟨by omega, h4.symm⟩
  refine ⟨fun j e hj => ?_, fun j e hj => ?_, fun j e hj => ?_⟩
  · rcases hcase j e hj with h1 | ⟨rfl, rfl⟩
    · exact h.like j e h1
    · exact ⟨a, d, y, rfl⟩
  · rcases hcase j e hj with h1 | ⟨rfl, rfl⟩
    · exact h.reads j e h1
    · exact hr
  · rcases hcase j e hj with h1 | ⟨rfl, rfl⟩
    · exact h.typed j e h1
    · exact ht
/-- lists of ints do not lie in a row of events -/
theorem reads_grown {w w' : World} {base n : Nat} {v vl : Value} {xs : List Value} {zs : List Int} (hown : w.ownsRow base 42 14 v n xs) (hg : w.grownBy w' v.ownBlock) (hr : ReadsI w vl zs) (ht : TypedI w vl) : ReadsI w' vl zs ∧ TypedI w' vl := by
  have hne : ∀ g, vl.ownBlock = some g → w'.heap[g]? = w.heap[g]? := fun g hv => by
    obtain ⟨c, hc⟩ := ht g hv
    refine hg.block g (Array.getElem?_eq_some_iff.1 hc).1 (fun hh => ?_)
    rcases hown.2 with ⟨rfl, _⟩ | ⟨g', cap, cur, rfl, _, hgg, _⟩
    · simp [Value.ownBlock] at hh
    · simp [Value.ownBlock] at hh
      subst hh
      rw [hc] at hgg
      simp at hgg
  refine ⟨?_, fun g hv => by obtain ⟨c, hc⟩ := ht g hv; exact ⟨c, (hne g hv).trans hc⟩⟩
  rcases hr with h0 | ⟨b, off, c, rfl, h1, h2, h3, h4⟩
  · exact .inl h0
  · refine .inr ⟨b, off, c, rfl, h1, h2, Nat.lt_of_lt_of_le h3 hg.size, fun j hj => ?_⟩
    rw [← h4 j hj]
    exact World.cell?_of_block (hne b rfl)
theorem Cp.grown {ev : Nat → Ev} {el : Nat → El} {es : List Ev} {w w' : World} (h : Cp ev el es w) {base n : Nat} {v : Value} {xs : List Value} (hown : w.ownsRow base 42 14 v n xs) (hg : w.grownBy w' v.ownBlock) : Cp ev el es w' :=
  ⟨h.like, fun j e hj => ⟨(reads_grown hown hg (h.reads j e hj).1 (h.typed j e hj).1).1, (reads_grown hown hg (h.reads j e hj).2.1 (h.typed j e hj).2.1).1, (reads_grown hown hg (h.reads j e hj).2.2 (h.typed j e hj).2.2).1⟩,
    fun j e hj => ⟨(reads_grown hown hg (h.reads j e hj).1 (h.typed j e hj).1).2, (reads_grown hown hg (h.reads j e hj).2.1 (h.typed j e hj).2.1).2, (reads_grown hown hg (h.reads j e hj).2.2 (h.typed j e hj).2.2).2⟩⟩
theorem Cp.add {ev : Nat → Ev} {el : Nat → El} {es : List Ev} {w : World} (h : Cp ev el es w) {a d y : Value} (k : Nat) (hk : es.length = k) (hr : EReads w ((ev k).lists a d y) (el k)) (ht : TypedD w a d y) : Cp ev el (es ++ [(ev k).lists a d y]) w := by
  subst hk; exact h.more hr ht
theorem flat_more (es : List Ev) (e : Ev) : flat (es ++ [e]) = flat es ++ e.row := by
  unfold flat; simp
theorem own_on {w w' : World} {base size n : Nat} {e : TypeId} {v : Value} {xs : List Value} (h : w.ownsRow base e size v n xs) (hb : Below w.heap.size w w') : w'.ownsRow base e size v n xs := by
  refine ⟨h.1, ?_⟩
  rcases h.2 with hn | ⟨g, cap, cur, rfl, hb1, hgg, rest⟩
  · exact .inl hn
  · exact .inr ⟨g, cap, cur, rfl, hb1, (hb.block g (Array.getElem?_eq_some_iff.1 hgg).1).trans hgg, rest⟩
end Go.Proofs.Ytokhnjcbcpmmjaa
