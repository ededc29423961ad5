/-
  Proved here: event's made answers what an event has of its ask and of what was found, or ErrArg; nothing that was there is changed. Condition: numbers of 64 bits.
  (With it: Proved here: event's Reads, Writes, Memory, digits and names; nothing that was there is changed. Condition: math/bits' table as the library lays it.)
-/
import Derived.Test.YtgkiaeddlahngaaGreatDoorEvAhead
import Derived.RegionTactic
import Derived.ChangeAlike
namespace Go.Proofs.YtgkiaeddlahngaaGreatDoor
set_option linter.unusedVariables false
set_option linter.unusedSimpArgs false
open Go.RowKit
attribute [local go_sem ↓] fold_E fold_SE

def AskIs (w : World) (b : Bool) (e : Ending) (w' : World) : Prop := e = .returned (.bool b) ∧ Below w.heap.size w w'
theorem Reads_any (e : Ev) (w : World) : Calls Tryz.prog 84 #[e.V] w fun e' w' => AskIs w (hasB (fieldsOf e.kind) 16) e' w' := by
  obtain ⟨F, hF⟩ : ∃ F, Hid (fieldsOf e.kind = F) := ⟨_, Lib.hid rfl⟩
  have hFlt : F < 65536 := by rw [← hF.out]; exact fieldsOf_lt _
  have HK := Lib.hid (look_any e.kind)
  unfold FieldsAre at HK
  rw [hF.out] at HK
  have H1 : Hid (∀ w, Calls Tryz.prog 100 #[.int .u16 (F : Int), .int .u16 16] w fun e w' => e = .returned (.bool (hasB F 16)) ∧ w = w') := Lib.hid (fun w => has_any F 16 hFlt (by omega) w)
  have HE := Lib.hid (EvAt.new e w)
  have HB := Lib.hid (box_below w (.cells #[.int .i64 e.hart, .int .i64 e.pos, .int .i64 e.kind, .int .u64 e.addr, .int .u64 e.load, .int .u64 e.store, .bool e.aq, .bool e.rl, .int .i64 e.pred, .int .i64 e.succ, .int .i64 e.pair, e.a, e.d, e.y] 48))
  rw [hF.out]
  obtain ⟨b, hb⟩ : ∃ b, Hid (hasB F 16 = b) := ⟨_, Lib.hid rfl⟩
  rw [hb.out] at H1 ⊢
  clear hF hb
  go_enter Tryz.func84, Tryz.ntmps84
  go_upto_region 1 with fail
  obtain ⟨W, hW⟩ : ∃ W, Hid (w.alloc (.cells #[.int .i64 e.hart, .int .i64 e.pos, .int .i64 e.kind, .int .u64 e.addr, .int .u64 e.load, .int .u64 e.store, .bool e.aq, .bool e.rl, .int .i64 e.pred, .int .i64 e.succ, .int .i64 e.pair, e.a, e.d, e.y] 48) = W) := ⟨_, Lib.hid rfl⟩
  rw [hW.out] at HE HB ⊢
  obtain ⟨hlt, f0, f1, f2, f3, f4, f5, f6, f7, f8, f9, f10, f11, f12, f13⟩ := HE.out.facts
  go_wp2_with (first
    | (go_at_call 99; (with_reducible refine (HK.out _).mono ?_); rintro e' w1 ⟨rfl, hb⟩; have HB1 := Lib.hid (HB.out.trans (hb.mono HB.out.size)); clear hb)
    | (go_at_call 100; (with_reducible refine (H1.out _).mono ?_); rintro e' w2 ⟨rfl, rfl⟩))
  go_ret
  exact ⟨rfl, HB1.out⟩
theorem Writes_any (e : Ev) (w : World) : Calls Tryz.prog 85 #[e.V] w fun e' w' => AskIs w (hasB (fieldsOf e.kind) 32) e' w' := by
  obtain ⟨F, hF⟩ : ∃ F, Hid (fieldsOf e.kind = F) := ⟨_, Lib.hid rfl⟩
  have hFlt : F < 65536 := by rw [← hF.out]; exact fieldsOf_lt _
  have HK := Lib.hid (look_any e.kind)
  unfold FieldsAre at HK
  rw [hF.out] at HK
  have H1 : Hid (∀ w, Calls Tryz.prog 100 #[.int .u16 (F : Int), .int .u16 32] w fun e w' => e = .returned (.bool (hasB F 32)) ∧ w = w') := Lib.hid (fun w => has_any F 32 hFlt (by omega) w)
  have HE := Lib.hid (EvAt.new e w)
  have HB := Lib.hid (box_below w (.cells #[.int .i64 e.hart, .int .i64 e.pos, .int .i64 e.kind, .int .u64 e.addr, .int .u64 e.load, .int .u64 e.store, .bool e.aq, .bool e.rl, .int .i64 e.pred, .int .i64 e.succ, .int .i64 e.pair, e.a, e.d, e.y] 48))
  rw [hF.out]
  obtain ⟨b, hb⟩ : ∃ b, Hid (hasB F 32 = b) := ⟨_, Lib.hid rfl⟩
  rw [hb.out] at H1 ⊢
  clear hF hb
  go_enter Tryz.func85, Tryz.ntmps85
  go_upto_region 1 with fail
  obtain ⟨W, hW⟩ : ∃ W, Hid (w.alloc (.cells #[.int .i64 e.hart, .int .i64 e.pos, .int .i64 e.kind, .int .u64 e.addr, .int .u64 e.load, .int .u64 e.store, .bool e.aq, .bool e.rl, .int .i64 e.pred, .int .i64 e.succ, .int .i64 e.pair, e.a, e.d, e.y] 48) = W) := ⟨_, Lib.hid rfl⟩
  rw [hW.out] at HE HB ⊢
  obtain ⟨hlt, f0, f1, f2, f3, f4, f5, f6, f7, f8, f9, f10, f11, f12, f13⟩ := HE.out.facts
  go_wp2_with (first
    | (go_at_call 99; (with_reducible refine (HK.out _).mono ?_); rintro e' w1 ⟨rfl, hb⟩; have HB1 := Lib.hid (HB.out.trans (hb.mono HB.out.size)); clear hb)
    | (go_at_call 100; (with_reducible refine (H1.out _).mono ?_); rintro e' w2 ⟨rfl, rfl⟩))
  go_ret
  exact ⟨rfl, HB1.out⟩
theorem Memory_any (e : Ev) (w : World) : Calls Tryz.prog 107 #[e.V] w fun e' w' => AskIs w (hasB (fieldsOf e.kind) 8) e' w' := by
  obtain ⟨F, hF⟩ : ∃ F, Hid (fieldsOf e.kind = F) := ⟨_, Lib.hid rfl⟩
  have hFlt : F < 65536 := by rw [← hF.out]; exact fieldsOf_lt _
  have HK := Lib.hid (look_any e.kind)
  unfold FieldsAre at HK
  rw [hF.out] at HK
  have H1 : Hid (∀ w, Calls Tryz.prog 100 #[.int .u16 (F : Int), .int .u16 8] w fun e w' => e = .returned (.bool (hasB F 8)) ∧ w = w') := Lib.hid (fun w => has_any F 8 hFlt (by omega) w)
  have HE := Lib.hid (EvAt.new e w)
  have HB := Lib.hid (box_below w (.cells #[.int .i64 e.hart, .int .i64 e.pos, .int .i64 e.kind, .int .u64 e.addr, .int .u64 e.load, .int .u64 e.store, .bool e.aq, .bool e.rl, .int .i64 e.pred, .int .i64 e.succ, .int .i64 e.pair, e.a, e.d, e.y] 48))
  rw [hF.out]
  obtain ⟨b, hb⟩ : ∃ b, Hid (hasB F 8 = b) := ⟨_, Lib.hid rfl⟩
  rw [hb.out] at H1 ⊢
  clear hF hb
  go_enter Tryz.func107, Tryz.ntmps107
  go_upto_region 1 with fail
  obtain ⟨W, hW⟩ : ∃ W, Hid (w.alloc (.cells #[.int .i64 e.hart, .int .i64 e.pos, .int .i64 e.kind, .int .u64 e.addr, .int .u64 e.load, .int .u64 e.store, .bool e.aq, .bool e.rl, .int .i64 e.pred, .int .i64 e.succ, .int .i64 e.pair, e.a, e.d, e.y] 48) = W) := ⟨_, Lib.hid rfl⟩
  rw [hW.out] at HE HB ⊢
  obtain ⟨hlt, f0, f1, f2, f3, f4, f5, f6, f7, f8, f9, f10, f11, f12, f13⟩ := HE.out.facts
  go_wp2_with (first
    | (go_at_call 99; (with_reducible refine (HK.out _).mono ?_); rintro e' w1 ⟨rfl, hb⟩; have HB1 := Lib.hid (HB.out.trans (hb.mono HB.out.size)); clear hb)
    | (go_at_call 100; (with_reducible refine (H1.out _).mono ?_); rintro e' w2 ⟨rfl, rfl⟩))
  go_ret
  exact ⟨rfl, HB1.out⟩
def TextIs (w : World) (s : ByteArray) (e : Ending) (w' : World) : Prop := e = .returned (.string s) ∧ Below w.heap.size w w'
end Go.Proofs.YtgkiaeddlahngaaGreatDoor
namespace Go.Proofs.YtgkiaeddlahngaaGreatDoor
set_option linter.unusedVariables false
set_option linter.unusedSimpArgs false
open Go.RowKit
attribute [local go_sem ↓] fold_E fold_SE

theorem store_ev {ops : Array Oper} {rest : List Oper} {o : Oper} {a : Act} {w : World} {Q : Exit → Act → World → Prop} {e0 : Ev} {n : Nat} (H : EvAt e0 n w) (e : Ev) (hf : e.flat) (hgd : o.guard = none) (x y : Operand) (ho : o.op = .store 48 x y)
    (hx : a.eval x = .pointer (some ⟨n, 0, none⟩)) (hy : a.eval y = e.V)
    (k : ∀ w1, EvAt e n w1 → (∀ j, j ≠ n → w1.heap[j]? = w.heap[j]?) → Below n w w1 → w1.heap.size = w.heap.size → wpList Tryz.prog ops Q rest (a.put o.dst undef) w1) : wpList Tryz.prog ops Q (o :: rest) a w := by
  refine wpList_store_row hgd _ x y ho n #[.int .i64 e.hart, .int .i64 e.pos, .int .i64 e.kind, .int .u64 e.addr, .int .u64 e.load, .int .u64 e.store, .bool e.aq, .bool e.rl, .int .i64 e.pred, .int .i64 e.succ, .int .i64 e.pair, e.a, e.d, e.y] hx hy _ _ H (by as_aux_lemma => kernel_rfl) rfl (by simp [hf.1, hf.2.1, hf.2.2, one_int, one_bool]) (k _ ?_ ?_ ?_ (by simp))
  · exact setRow_heap w n _ _ _ _ H
  · exact fun j hj => setRow_other w n j _ hj
  · exact (Below.refl _ _).trans ⟨rfl, rfl, rfl, by simp, fun j hj => setRow_other _ _ _ _ (by omega)⟩
/-- an ask -/
structure Aq where
  kind : Int
  addr : Int
  val : Int
  op : Int
  aq : Bool
  rl : Bool
  pred : Int
  succ : Int
@[reducible] def Aq.V (q : Aq) : Value := .agg #[.int .i64 q.kind, .int .u64 q.addr, .int .u64 q.val, .int .i64 q.op, .bool q.aq, .bool q.rl, .int .i64 q.pred, .int .i64 q.succ]
def Aq.ok (q : Aq) : Prop := 0 ≤ q.addr ∧ q.addr < 18446744073709551616 ∧ 0 ≤ q.val ∧ q.val < 18446744073709551616
def zeroEv : Ev := ⟨0, 0, 0, 0, 0, 0, false, false, 0, 0, 0, .slice none 0 0, .slice none 0 0, .slice none 0 0⟩
theorem zeroEv_flat : zeroEv.flat := ⟨rfl, rfl, rfl⟩
abbrev askedV : Array Value := #[.int .i64 0, .int .i64 1, .int .i64 2, .int .i64 3, .int .i64 4, .int .i64 5, .int .i64 6, .int .i64 0, .int .i64 0]
def AskedAre (w : World) (e : Ending) (w' : World) : Prop := e = .returned (.agg askedV) ∧ Below w.heap.size w w'
/-- what made answers -/
def MadeIs (w : World) (e : Ev) (x : Int) (e' : Ending) (w' : World) : Prop := e' = .returned (.tuple #[e.V, .int .i64 x]) ∧ Below w.heap.size w w'
theorem made_end {fn : Func} {tmps : Array Value} {p r : Tmp} {e : Ev} {v : Value} {n : Nat} {w : World} (h : fn.results = #[.cell p 48, .tmp r]) (hp : tmps.getD p undef = .pointer (some ⟨n, 0, none⟩)) (hv : tmps.getD r undef = v) (H : EvAt e n w) :
    (results fn tmps).run Tryz.prog w = .ok (.tuple #[e.V, v]) w := by
  have hp' : tmps[p]?.getD undef = .pointer (some ⟨n, 0, none⟩) := by simpa using hp
  have hv' : tmps[r]?.getD undef = v := by simpa using hv
  have e1 := run_loadVar_row (P := Tryz.prog) w n _ 48 _ (0, 0) _ H Tryz.underlying48 rfl (by as_aux_lemma => kernel_rfl)
  simp [results, h, hp', hv', asAddr, e1]
def askOf (k : Int) : Int := if 1 ≤ k ∧ k ≤ 6 then k else 0
theorem EvAt.new_at (e : Ev) (w : World) (g : Nat) (hg : w.heap.size = g) : EvAt e g (w.alloc (.cells #[.int .i64 e.hart, .int .i64 e.pos, .int .i64 e.kind, .int .u64 e.addr, .int .u64 e.load, .int .u64 e.store, .bool e.aq, .bool e.rl, .int .i64 e.pred, .int .i64 e.succ, .int .i64 e.pair, e.a, e.d, e.y] 48)) := by subst hg; exact EvAt.new e w
def kindEv (k : Int) : Ev := ⟨0, 0, k, 0, 0, 0, false, false, 0, 0, 0, .slice none 0 0, .slice none 0 0, .slice none 0 0⟩
theorem Memory_b (e : Ev) (b : Bool) (h : hasB (fieldsOf e.kind) 8 = b) (w : World) : Calls Tryz.prog 107 #[e.V] w fun e' w' => AskIs w b e' w' := by rw [← h]; exact Memory_any e w
theorem Reads_b (e : Ev) (b : Bool) (h : hasB (fieldsOf e.kind) 16 = b) (w : World) : Calls Tryz.prog 84 #[e.V] w fun e' w' => AskIs w b e' w' := by rw [← h]; exact Reads_any e w
theorem Writes_b (e : Ev) (b : Bool) (h : hasB (fieldsOf e.kind) 32 = b) (w : World) : Calls Tryz.prog 85 #[e.V] w fun e' w' => AskIs w b e' w' := by rw [← h]; exact Writes_any e w
theorem within_b (x m : Int) (b : Bool) (h : withinB x m = b) (w : World) : Calls Tryz.prog 110 #[.int .i64 x, .int .i64 m] w fun e w' => e = .returned (.bool b) ∧ w = w' := by rw [← h]; exact within_any x m w
theorem kindEv_flat (k : Int) : (kindEv k).flat := ⟨rfl, rfl, rfl⟩
theorem EvAt.setc {e : Ev} {g : Nat} {W : World} (h : EvAt e g W) (k : Nat) (v : Value) : (W.setCell ⟨g, k, none⟩ v).heap[g]? = some (.cells ((#[.int .i64 e.hart, .int .i64 e.pos, .int .i64 e.kind, .int .u64 e.addr, .int .u64 e.load, .int .u64 e.store, .bool e.aq, .bool e.rl, .int .i64 e.pred, .int .i64 e.succ, .int .i64 e.pair, e.a, e.d, e.y] : Array Value).setIfInBounds k v) 48 (0, 0)) := set_at _ _ _ _ _ _ _ h
end Go.Proofs.YtgkiaeddlahngaaGreatDoor
