/-
  Proved here: event's made answers what an event has of its ask and of what was found, or ErrArg; nothing that was there is changed. Condition: numbers of 64 bits.
  (With it: Proved here: event's Reads, Writes, Memory, digits and names; nothing that was there is changed. Condition: math/bits' table as the library lays it.)
-/
import Derived.Test.YtokhnjcbcpmmjaaEvAhead
import Derived.RegionTactic
import Derived.ChangeAlike
namespace Go.Proofs.Ytokhnjcbcpmmjaa
set_option linter.unusedVariables false
set_option linter.unusedSimpArgs false
open Go.RowKit
attribute [local go_sem ↓] fold_E fold_SE

def AskIs (w : World) (b : Bool) (e : Ending) (w' : World) : Prop := e = .returned (.bool b) ∧ Below w.heap.size w w'
theorem Reads_any (e : Ev) (w : World) : Calls Try.prog 54 #[e.V] w fun e' w' => AskIs w (hasB (fieldsOf e.kind) 16) e' w' := by
  obtain ⟨F, hF⟩ : ∃ F, Hid (fieldsOf e.kind = F) := ⟨_, Lib.hid rfl⟩
  have hFlt : F < 65536 := by rw [← hF.out]; exact fieldsOf_lt _
  have HK := Lib.hid (look_any e.kind)
  unfold FieldsAre at HK
  rw [hF.out] at HK
  have H1 : Hid (∀ w, Calls Try.prog 40 #[.int .u16 (F : Int), .int .u16 16] w fun e w' => e = .returned (.bool (hasB F 16)) ∧ w = w') := Lib.hid (fun w => has_any F 16 hFlt (by omega) w)
  have HE := Lib.hid (EvAt.new e w)
  have HB := Lib.hid (box_below w (.cells #[.int .i64 e.hart, .int .i64 e.pos, .int .i64 e.kind, .int .u64 e.addr, .int .u64 e.load, .int .u64 e.store, .bool e.aq, .bool e.rl, .int .i64 e.pred, .int .i64 e.succ, .int .i64 e.pair, e.a, e.d, e.y] 42))
  rw [hF.out]
  obtain ⟨b, hb⟩ : ∃ b, Hid (hasB F 16 = b) := ⟨_, Lib.hid rfl⟩
  rw [hb.out] at H1 ⊢
  clear hF hb
  go_enter Try.func54, Try.ntmps54
  go_upto_region 1 with fail
  obtain ⟨W, hW⟩ : ∃ W, Hid (w.alloc (.cells #[.int .i64 e.hart, .int .i64 e.pos, .int .i64 e.kind, .int .u64 e.addr, .int .u64 e.load, .int .u64 e.store, .bool e.aq, .bool e.rl, .int .i64 e.pred, .int .i64 e.succ, .int .i64 e.pair, e.a, e.d, e.y] 42) = W) := ⟨_, Lib.hid rfl⟩
  rw [hW.out] at HE HB ⊢
  obtain ⟨hlt, f0, f1, f2, f3, f4, f5, f6, f7, f8, f9, f10, f11, f12, f13⟩ := HE.out.facts
  go_wp2_with (first
    | (go_at_call 39; (with_reducible refine (HK.out _).mono ?_); rintro e' w1 ⟨rfl, hb⟩; have HB1 := Lib.hid (HB.out.trans (hb.mono HB.out.size)); clear hb)
    | (go_at_call 40; (with_reducible refine (H1.out _).mono ?_); rintro e' w2 ⟨rfl, rfl⟩))
  go_ret
  exact ⟨rfl, HB1.out⟩
theorem Writes_any (e : Ev) (w : World) : Calls Try.prog 29 #[e.V] w fun e' w' => AskIs w (hasB (fieldsOf e.kind) 32) e' w' := by
  obtain ⟨F, hF⟩ : ∃ F, Hid (fieldsOf e.kind = F) := ⟨_, Lib.hid rfl⟩
  have hFlt : F < 65536 := by rw [← hF.out]; exact fieldsOf_lt _
  have HK := Lib.hid (look_any e.kind)
  unfold FieldsAre at HK
  rw [hF.out] at HK
  have H1 : Hid (∀ w, Calls Try.prog 40 #[.int .u16 (F : Int), .int .u16 32] w fun e w' => e = .returned (.bool (hasB F 32)) ∧ w = w') := Lib.hid (fun w => has_any F 32 hFlt (by omega) w)
  have HE := Lib.hid (EvAt.new e w)
  have HB := Lib.hid (box_below w (.cells #[.int .i64 e.hart, .int .i64 e.pos, .int .i64 e.kind, .int .u64 e.addr, .int .u64 e.load, .int .u64 e.store, .bool e.aq, .bool e.rl, .int .i64 e.pred, .int .i64 e.succ, .int .i64 e.pair, e.a, e.d, e.y] 42))
  rw [hF.out]
  obtain ⟨b, hb⟩ : ∃ b, Hid (hasB F 32 = b) := ⟨_, Lib.hid rfl⟩
  rw [hb.out] at H1 ⊢
  clear hF hb
  go_enter Try.func29, Try.ntmps29
  go_upto_region 1 with fail
  obtain ⟨W, hW⟩ : ∃ W, Hid (w.alloc (.cells #[.int .i64 e.hart, .int .i64 e.pos, .int .i64 e.kind, .int .u64 e.addr, .int .u64 e.load, .int .u64 e.store, .bool e.aq, .bool e.rl, .int .i64 e.pred, .int .i64 e.succ, .int .i64 e.pair, e.a, e.d, e.y] 42) = W) := ⟨_, Lib.hid rfl⟩
  rw [hW.out] at HE HB ⊢
  obtain ⟨hlt, f0, f1, f2, f3, f4, f5, f6, f7, f8, f9, f10, f11, f12, f13⟩ := HE.out.facts
  go_wp2_with (first
    | (go_at_call 39; (with_reducible refine (HK.out _).mono ?_); rintro e' w1 ⟨rfl, hb⟩; have HB1 := Lib.hid (HB.out.trans (hb.mono HB.out.size)); clear hb)
    | (go_at_call 40; (with_reducible refine (H1.out _).mono ?_); rintro e' w2 ⟨rfl, rfl⟩))
  go_ret
  exact ⟨rfl, HB1.out⟩
theorem Memory_any (e : Ev) (w : World) : Calls Try.prog 36 #[e.V] w fun e' w' => AskIs w (hasB (fieldsOf e.kind) 8) e' w' := by
  obtain ⟨F, hF⟩ : ∃ F, Hid (fieldsOf e.kind = F) := ⟨_, Lib.hid rfl⟩
  have hFlt : F < 65536 := by rw [← hF.out]; exact fieldsOf_lt _
  have HK := Lib.hid (look_any e.kind)
  unfold FieldsAre at HK
  rw [hF.out] at HK
  have H1 : Hid (∀ w, Calls Try.prog 40 #[.int .u16 (F : Int), .int .u16 8] w fun e w' => e = .returned (.bool (hasB F 8)) ∧ w = w') := Lib.hid (fun w => has_any F 8 hFlt (by omega) w)
  have HE := Lib.hid (EvAt.new e w)
  have HB := Lib.hid (box_below w (.cells #[.int .i64 e.hart, .int .i64 e.pos, .int .i64 e.kind, .int .u64 e.addr, .int .u64 e.load, .int .u64 e.store, .bool e.aq, .bool e.rl, .int .i64 e.pred, .int .i64 e.succ, .int .i64 e.pair, e.a, e.d, e.y] 42))
  rw [hF.out]
  obtain ⟨b, hb⟩ : ∃ b, Hid (hasB F 8 = b) := ⟨_, Lib.hid rfl⟩
  rw [hb.out] at H1 ⊢
  clear hF hb
  go_enter Try.func36, Try.ntmps36
  go_upto_region 1 with fail
  obtain ⟨W, hW⟩ : ∃ W, Hid (w.alloc (.cells #[.int .i64 e.hart, .int .i64 e.pos, .int .i64 e.kind, .int .u64 e.addr, .int .u64 e.load, .int .u64 e.store, .bool e.aq, .bool e.rl, .int .i64 e.pred, .int .i64 e.succ, .int .i64 e.pair, e.a, e.d, e.y] 42) = W) := ⟨_, Lib.hid rfl⟩
  rw [hW.out] at HE HB ⊢
  obtain ⟨hlt, f0, f1, f2, f3, f4, f5, f6, f7, f8, f9, f10, f11, f12, f13⟩ := HE.out.facts
  go_wp2_with (first
    | (go_at_call 39; (with_reducible refine (HK.out _).mono ?_); rintro e' w1 ⟨rfl, hb⟩; have HB1 := Lib.hid (HB.out.trans (hb.mono HB.out.size)); clear hb)
    | (go_at_call 40; (with_reducible refine (H1.out _).mono ?_); rintro e' w2 ⟨rfl, rfl⟩))
  go_ret
  exact ⟨rfl, HB1.out⟩
end Go.Proofs.Ytokhnjcbcpmmjaa
namespace Go.Proofs.Ytokhnjcbcpmmjaa
set_option linter.unusedVariables false
set_option linter.unusedSimpArgs false
open Go.RowKit
attribute [local go_sem ↓] fold_E fold_SE

theorem store_ev {ops : Array Oper} {rest : List Oper} {o : Oper} {a : Act} {w : World} {Q : Exit → Act → World → Prop} {e0 : Ev} {n : Nat} (H : EvAt e0 n w) (e : Ev) (hf : e.flat) (hgd : o.guard = none) (x y : Operand) (ho : o.op = .store 42 x y)
    (hx : a.eval x = .pointer (some ⟨n, 0, none⟩)) (hy : a.eval y = e.V)
    (k : ∀ w1, EvAt e n w1 → (∀ j, j ≠ n → w1.heap[j]? = w.heap[j]?) → Below n w w1 → w1.heap.size = w.heap.size → wpList Try.prog ops Q rest (a.put o.dst undef) w1) : wpList Try.prog ops Q (o :: rest) a w := by
  refine wpList_store_row hgd _ x y ho n #[.int .i64 e.hart, .int .i64 e.pos, .int .i64 e.kind, .int .u64 e.addr, .int .u64 e.load, .int .u64 e.store, .bool e.aq, .bool e.rl, .int .i64 e.pred, .int .i64 e.succ, .int .i64 e.pair, e.a, e.d, e.y] hx hy _ _ H (by as_aux_lemma => kernel_rfl) rfl (by simp [hf.1, hf.2.1, hf.2.2, one_int, one_bool]) (k _ ?_ ?_ ?_ (by simp))
  · exact setRow_heap w n _ _ _ _ H
  · exact fun j hj => setRow_other w n j _ hj
  · exact (Below.refl _ _).trans ⟨rfl, rfl, rfl, by simp, fun j hj => setRow_other _ _ _ _ (by omega)⟩
/-- an ask -/
structure Aq where
  kind : Int
  addr : Int
  val : Int
  op : Int
  aq : Bool
  rl : Bool
  pred : Int
  succ : Int
@[reducible] def Aq.V (q : Aq) : Value := .agg #[.int .i64 q.kind, .int .u64 q.addr, .int .u64 q.val, .int .i64 q.op, .bool q.aq, .bool q.rl, .int .i64 q.pred, .int .i64 q.succ]
def Aq.ok (q : Aq) : Prop := 0 ≤ q.addr ∧ q.addr < 18446744073709551616 ∧ 0 ≤ q.val ∧ q.val < 18446744073709551616
def zeroEv : Ev := ⟨0, 0, 0, 0, 0, 0, false, false, 0, 0, 0, .slice none 0 0, .slice none 0 0, .slice none 0 0⟩
theorem EvAt.new_at (e : Ev) (w : World) (g : Nat) (hg : w.heap.size = g) : EvAt e g (w.alloc (.cells #[.int .i64 e.hart, .int .i64 e.pos, .int .i64 e.kind, .int .u64 e.addr, .int .u64 e.load, .int .u64 e.store, .bool e.aq, .bool e.rl, .int .i64 e.pred, .int .i64 e.succ, .int .i64 e.pair, e.a, e.d, e.y] 42)) := by subst hg; exact EvAt.new e w
theorem Memory_b (e : Ev) (b : Bool) (h : hasB (fieldsOf e.kind) 8 = b) (w : World) : Calls Try.prog 36 #[e.V] w fun e' w' => AskIs w b e' w' := by rw [← h]; exact Memory_any e w
theorem Reads_b (e : Ev) (b : Bool) (h : hasB (fieldsOf e.kind) 16 = b) (w : World) : Calls Try.prog 54 #[e.V] w fun e' w' => AskIs w b e' w' := by rw [← h]; exact Reads_any e w
theorem Writes_b (e : Ev) (b : Bool) (h : hasB (fieldsOf e.kind) 32 = b) (w : World) : Calls Try.prog 29 #[e.V] w fun e' w' => AskIs w b e' w' := by rw [← h]; exact Writes_any e w
theorem EvAt.setc {e : Ev} {g : Nat} {W : World} (h : EvAt e g W) (k : Nat) (v : Value) : (W.setCell ⟨g, k, none⟩ v).heap[g]? = some (.cells ((#[.int .i64 e.hart, .int .i64 e.pos, .int .i64 e.kind, .int .u64 e.addr, .int .u64 e.load, .int .u64 e.store, .bool e.aq, .bool e.rl, .int .i64 e.pred, .int .i64 e.succ, .int .i64 e.pair, e.a, e.d, e.y] : Array Value).setIfInBounds k v) 42 (0, 0)) := set_at _ _ _ _ _ _ _ h
end Go.Proofs.Ytokhnjcbcpmmjaa
