/-
  Proved here: what event's functions answer of the events that the law EventNames names. Condition: the tables of strconv and math/bits as the library lays them.
-/
import Derived.Test.YtjdfhohchicgbaaDoorEvRow
import Derived.Test.YtjdfhohchicgbaaDoorEvSame
import Derived.Test.YtjdfhohchicgbaaDoorEvLives
import Derived.Test.YtjdfhohchicgbaaDoorEvOf
namespace Go.Proofs.YtjdfhohchicgbaaDoor
open Go.RowKit
attribute [local go_sem ↓] fold_E fold_SE

def lrE : Ev := ⟨0, 0, 3, 8, 0, 0, false, false, 0, 0, 0, .slice none 0 0, .slice none 0 0, .slice none 0 0⟩
def scE : Ev := ⟨0, 1, 4, 8, 0, 0, false, false, 0, 0, 0, .slice none 0 0, .slice none 0 0, .slice none 0 0⟩
abbrev amoE (a d y : Value) : Ev := ⟨0, 3, 5, 16, 5, 7, true, false, 0, 0, 0, a, d, y⟩
def amoL : El := ⟨[], [1], []⟩
theorem amoL_n : amoL.n := ⟨by simp [amoL], by simp [amoL], by simp [amoL]⟩
theorem amo_chk (a d y : Value) : chkE (amoE a d y) amoL = true := by
  have h : chkE (amoE (.slice none 0 0) (.slice none 0 0) (.slice none 0 0)) amoL = true := by decide +kernel
  exact h
theorem amo_text (a d y : Value) : textS (amoE a d y) 16 5 7 true true true = ⟨#[48, 58, 51, 32, 97, 109, 111, 32, 48, 48, 48, 48, 48, 48, 48, 48, 48, 48, 48, 48, 48, 48, 49, 48, 32, 114, 53, 32, 119, 55]⟩ := by
  have h : textS (amoE (.slice none 0 0) (.slice none 0 0) (.slice none 0 0)) 16 5 7 true true true = ⟨#[48, 58, 51, 32, 97, 109, 111, 32, 48, 48, 48, 48, 48, 48, 48, 48, 48, 48, 48, 48, 48, 48, 49, 48, 32, 114, 53, 32, 119, 55]⟩ := by decide +kernel
  exact h
theorem reads_one (w : World) (a : Int) : ReadsI (w.alloc (.cells #[.int .i64 a] 3)) (.slice (some ⟨w.heap.size, 0, none⟩) 1 1) [a] := by
  refine .inr ⟨w.heap.size, 0, 1, rfl, by simp, by omega, by simp, fun j hj => ?_⟩
  rcases j with _ | j
  · simp [atI]
  · simp at hj
/-- what is asked for the first event -/
theorem of_amo (vd : Value) (w : World) (hd : ReadsI w vd [1]) : Calls Tryd.prog 6 #[.int .i64 0, .int .i64 3, .agg #[.int .i64 5, .int .u64 16, .int .u64 2, .int .i64 80, .bool true, .bool false, .int .i64 0, .int .i64 0], .int .u64 5, .int .i64 0, .agg #[.slice none 0 0, vd, .slice none 0 0]] w fun e' w' => OfIs w (amoE (.slice none 0 0) (.slice none 0 0) (.slice none 0 0)) amoL e' w' := by
  have hm : ∀ w0, Calls Tryd.prog 24 #[(⟨5, 16, 2, 80, true, false, 0, 0⟩ : Aq).V, .int .u64 5] w0 fun e' w' => MadeIs w0 ⟨0, 0, 5, 16, 5, 7, true, false, 0, 0, 0, .slice none 0 0, .slice none 0 0, .slice none 0 0⟩ 0 e' w' := fun w0 => by
    have h := made_5 ⟨5, 16, 2, 80, true, false, 0, 0⟩ 5 w0 rfl ⟨by decide, by decide, by decide, by decide⟩ ⟨by decide, by decide⟩
    rw [show amI 80 5 2 = 7 from by decide +kernel, show amE 80 = 0 from by decide +kernel] at h
    exact h
  exact Of_any 0 3 5 0 ⟨5, 16, 2, 80, true, false, 0, 0⟩ (.slice none 0 0) vd (.slice none 0 0) [] [1] [] _ w ⟨ReadsI.nil w, hd, ReadsI.nil w⟩ (by simp) (by simp) (by simp) hm ⟨rfl, rfl, rfl⟩ (by decide) 14591 (Lib.hid rfl) false (Lib.hid (by decide)) true (Lib.hid (amo_chk _ _ _))
theorem of_out (w : World) : Calls Tryd.prog 6 #[.int .i64 0, .int .i64 0, .agg #[.int .i64 7, .int .u64 0, .int .u64 0, .int .i64 0, .bool false, .bool false, .int .i64 0, .int .i64 0], .int .u64 0, .int .i64 0, .agg #[.slice none 0 0, .slice none 0 0, .slice none 0 0]] w fun e' w' => MadeIs w zeroEv 2 e' w' :=
  Of_none 0 0 0 0 ⟨7, 0, 0, 0, false, false, 0, 0⟩ _ _ _ [] [] [] w ⟨ReadsI.nil w, ReadsI.nil w, ReadsI.nil w⟩ (fun w0 => made_bad ⟨7, 0, 0, 0, false, false, 0, 0⟩ 0 w0 (by decide))
theorem text_amo (a d y : Value) (w : World) (hT : TabB w) (h : EReads w (amoE a d y) amoL) : Calls Tryd.prog 11 #[(amoE a d y).V] w fun e' w' => TextIs w ⟨#[48, 58, 51, 32, 97, 109, 111, 32, 48, 48, 48, 48, 48, 48, 48, 48, 48, 48, 48, 48, 48, 48, 49, 48, 32, 114, 53, 32, 119, 55]⟩ e' w' := by
  rw [← amo_text a d y]
  exact Text_ok (amoE a d y) amoL w 16 5 7 hT h amoL_n (Lib.hid (amo_chk a d y)) (Lib.hid (by show (1 : Int) ≤ 5 ∧ (5 : Int) ≤ 6; decide)) (Lib.hid (by show (-9223372036854775808 : Int) ≤ 0 ∧ (0 : Int) ≤ 9223372036854775807; decide)) (Lib.hid (by show (-9223372036854775808 : Int) ≤ 3 ∧ (3 : Int) ≤ 9223372036854775807; decide)) rfl rfl rfl (by decide) (by decide) (by decide) true true true (Lib.hid (by show hasB (fieldsOf 5) 8 = true; decide)) (Lib.hid (by show hasB (fieldsOf 5) 16 = true; decide)) (Lib.hid (by show hasB (fieldsOf 5) 32 = true; decide))
theorem text_zero (w : World) : Calls Tryd.prog 11 #[.agg #[.int .i64 0, .int .i64 0, .int .i64 0, .int .u64 0, .int .u64 0, .int .u64 0, .bool false, .bool false, .int .i64 0, .int .i64 0, .int .i64 0, .slice none 0 0, .slice none 0 0, .slice none 0 0]] w fun e' w' => TextIs w ⟨#[]⟩ e' w' :=
  Text_bad zeroEv nilL w (nil_reads w _ ⟨rfl, rfl, rfl⟩) nilL_n (by decide) (Lib.hid (by decide +kernel))
theorem check_no1 (w : World) : Calls Tryd.prog 13 #[.agg #[.int .i64 0, .int .i64 0, .int .i64 1, .int .u64 4, .int .u64 0, .int .u64 0, .bool false, .bool false, .int .i64 0, .int .i64 0, .int .i64 0, .slice none 0 0, .slice none 0 0, .slice none 0 0]] w fun e' w' => ErrIs w false e' w' :=
  check_lit ⟨0, 0, 1, 4, 0, 0, false, false, 0, 0, 0, .slice none 0 0, .slice none 0 0, .slice none 0 0⟩ false ⟨rfl, rfl, rfl⟩ (by decide) (by decide +kernel) w
theorem check_no2 (w : World) : Calls Tryd.prog 13 #[.agg #[.int .i64 0, .int .i64 0, .int .i64 1, .int .u64 0, .int .u64 0, .int .u64 1, .bool false, .bool false, .int .i64 0, .int .i64 0, .int .i64 0, .slice none 0 0, .slice none 0 0, .slice none 0 0]] w fun e' w' => ErrIs w false e' w' :=
  check_lit ⟨0, 0, 1, 0, 0, 1, false, false, 0, 0, 0, .slice none 0 0, .slice none 0 0, .slice none 0 0⟩ false ⟨rfl, rfl, rfl⟩ (by decide) (by decide +kernel) w
theorem check_no3 (w : World) : Calls Tryd.prog 13 #[.agg #[.int .i64 0, .int .i64 0, .int .i64 0, .int .u64 0, .int .u64 0, .int .u64 0, .bool false, .bool false, .int .i64 0, .int .i64 0, .int .i64 0, .slice none 0 0, .slice none 0 0, .slice none 0 0]] w fun e' w' => ErrIs w false e' w' :=
  check_lit zeroEv false ⟨rfl, rfl, rfl⟩ (by decide) (by decide +kernel) w
theorem memory_fence (w : World) : Calls Tryd.prog 10 #[.agg #[.int .i64 0, .int .i64 0, .int .i64 6, .int .u64 0, .int .u64 0, .int .u64 0, .bool false, .bool false, .int .i64 0, .int .i64 0, .int .i64 0, .slice none 0 0, .slice none 0 0, .slice none 0 0]] w fun e' w' => AskIs w false e' w' :=
  Memory_b ⟨0, 0, 6, 0, 0, 0, false, false, 0, 0, 0, .slice none 0 0, .slice none 0 0, .slice none 0 0⟩ false (by decide) w
/-- an event of literals in a block -/
theorem in_row {e : Ev} {b o : Nat} {w : World} {cs : Array Value} {t : TypeId} (h : w.heap[b]? = some (.cells cs t (0, 0)))
    (hc : ∀ j v, (#[.int .i64 e.hart, .int .i64 e.pos, .int .i64 e.kind, .int .u64 e.addr, .int .u64 e.load, .int .u64 e.store, .bool e.aq, .bool e.rl, .int .i64 e.pred, .int .i64 e.succ, .int .i64 e.pair, e.a, e.d, e.y] : Array Value)[j]? = some v → cs[o + j]? = some v) : EvIn e b o w := fun j v hv => by
  rw [cell_of_row w b _ _ _ _ h]
  exact hc j v hv
theorem lr_sc (w : World) : Calls Tryd.prog 12 #[.int .i64 0, .slice (some ⟨w.heap.size, 0, none⟩) 2 2] (w.alloc (.cells #[.int .i64 0, .int .i64 0, .int .i64 3, .int .u64 8, .int .u64 0, .int .u64 0, .bool false, .bool false, .int .i64 0, .int .i64 0, .int .i64 0, .slice none 0 0, .slice none 0 0, .slice none 0 0, .int .i64 0, .int .i64 1, .int .i64 4, .int .u64 8, .int .u64 0, .int .u64 0, .bool false, .bool false, .int .i64 0, .int .i64 0, .int .i64 0, .slice none 0 0, .slice none 0 0, .slice none 0 0] 27)) fun e' w' => RowIs (w.alloc (.cells #[.int .i64 0, .int .i64 0, .int .i64 3, .int .u64 8, .int .u64 0, .int .u64 0, .bool false, .bool false, .int .i64 0, .int .i64 0, .int .i64 0, .slice none 0 0, .slice none 0 0, .slice none 0 0, .int .i64 0, .int .i64 1, .int .i64 4, .int .u64 8, .int .u64 0, .int .u64 0, .bool false, .bool false, .int .i64 0, .int .i64 0, .int .i64 0, .slice none 0 0, .slice none 0 0, .slice none 0 0] 27)) true e' w' := by
  have h0 : (w.alloc (.cells #[.int .i64 0, .int .i64 0, .int .i64 3, .int .u64 8, .int .u64 0, .int .u64 0, .bool false, .bool false, .int .i64 0, .int .i64 0, .int .i64 0, .slice none 0 0, .slice none 0 0, .slice none 0 0, .int .i64 0, .int .i64 1, .int .i64 4, .int .u64 8, .int .u64 0, .int .u64 0, .bool false, .bool false, .int .i64 0, .int .i64 0, .int .i64 0, .slice none 0 0, .slice none 0 0, .slice none 0 0] 27)).heap[w.heap.size]? = some (.cells #[.int .i64 0, .int .i64 0, .int .i64 3, .int .u64 8, .int .u64 0, .int .u64 0, .bool false, .bool false, .int .i64 0, .int .i64 0, .int .i64 0, .slice none 0 0, .slice none 0 0, .slice none 0 0, .int .i64 0, .int .i64 1, .int .i64 4, .int .u64 8, .int .u64 0, .int .u64 0, .bool false, .bool false, .int .i64 0, .int .i64 0, .int .i64 0, .slice none 0 0, .slice none 0 0, .slice none 0 0] 27 (0, 0)) := Array.getElem?_push_size
  have := row_some 0 2 w.heap.size 0 2 (fun k => if k = 0 then lrE else scE) (fun _ => nilL) _ (by omega) ⟨fun k hk => ?_, fun k hk => ?_, fun k hk => nilL_n, fun k hk => ?_, fun _ => (Array.getElem?_eq_some_iff.1 h0).1⟩
  · rw [show (rowL 0 (fun k => if k = 0 then lrE else scE) (fun _ => nilL) 2).isSome = true from by decide +kernel] at this
    exact this
  · rcases k with _ | _ | k
    · exact in_row h0 (fun j v hv => by rcases j with _ | _ | _ | _ | _ | _ | _ | _ | _ | _ | _ | _ | _ | _ | j <;> first | exact hv | (simp at hv))
    · exact in_row h0 (fun j v hv => by rcases j with _ | _ | _ | _ | _ | _ | _ | _ | _ | _ | _ | _ | _ | _ | j <;> first | exact hv | (simp at hv))
    · omega
  · rcases k with _ | _ | k
    · exact nil_reads _ _ ⟨rfl, rfl, rfl⟩
    · exact nil_reads _ _ ⟨rfl, rfl, rfl⟩
    · omega
  · rcases k with _ | _ | k
    · decide
    · decide
    · omega
theorem one_row (h : Int) (e : Ev) (w : World) (hz : e.a = .slice none 0 0 ∧ e.d = .slice none 0 0 ∧ e.y = .slice none 0 0) (hu : 0 ≤ e.addr) (hr : (rowL h (fun _ => e) (fun _ => nilL) 1).isSome = false) (w1 : World) (h0 : w1.heap[w.heap.size]? = some (.cells #[.int .i64 e.hart, .int .i64 e.pos, .int .i64 e.kind, .int .u64 e.addr, .int .u64 e.load, .int .u64 e.store, .bool e.aq, .bool e.rl, .int .i64 e.pred, .int .i64 e.succ, .int .i64 e.pair, e.a, e.d, e.y] 27 (0, 0))) :
    Calls Tryd.prog 12 #[.int .i64 h, .slice (some ⟨w.heap.size, 0, none⟩) 1 1] w1 fun e' w' => RowIs w1 false e' w' := by
  have := row_some h 1 w.heap.size 0 1 (fun _ => e) (fun _ => nilL) w1 (by omega) ⟨fun k hk => ?_, fun k hk => nil_reads _ _ hz, fun k hk => nilL_n, fun k hk => hu, fun _ => (Array.getElem?_eq_some_iff.1 h0).1⟩
  · rw [hr] at this
    exact this
  · obtain rfl : k = 0 := by omega
    exact in_row h0 (fun j v hv => by rw [Nat.zero_mul, Nat.zero_add]; simpa using hv)
theorem sc_row (w : World) : Calls Tryd.prog 12 #[.int .i64 0, .slice (some ⟨w.heap.size, 0, none⟩) 1 1] (w.alloc (.cells #[.int .i64 0, .int .i64 1, .int .i64 4, .int .u64 8, .int .u64 0, .int .u64 0, .bool false, .bool false, .int .i64 0, .int .i64 0, .int .i64 0, .slice none 0 0, .slice none 0 0, .slice none 0 0] 27)) fun e' w' => RowIs (w.alloc (.cells #[.int .i64 0, .int .i64 1, .int .i64 4, .int .u64 8, .int .u64 0, .int .u64 0, .bool false, .bool false, .int .i64 0, .int .i64 0, .int .i64 0, .slice none 0 0, .slice none 0 0, .slice none 0 0] 27)) false e' w' :=
  one_row 0 scE w ⟨rfl, rfl, rfl⟩ (by decide) (by decide +kernel) _ Array.getElem?_push_size
theorem lr_row (w : World) : Calls Tryd.prog 12 #[.int .i64 1, .slice (some ⟨w.heap.size, 0, none⟩) 1 1] (w.alloc (.cells #[.int .i64 0, .int .i64 0, .int .i64 3, .int .u64 8, .int .u64 0, .int .u64 0, .bool false, .bool false, .int .i64 0, .int .i64 0, .int .i64 0, .slice none 0 0, .slice none 0 0, .slice none 0 0] 27)) fun e' w' => RowIs (w.alloc (.cells #[.int .i64 0, .int .i64 0, .int .i64 3, .int .u64 8, .int .u64 0, .int .u64 0, .bool false, .bool false, .int .i64 0, .int .i64 0, .int .i64 0, .slice none 0 0, .slice none 0 0, .slice none 0 0] 27)) false e' w' :=
  one_row 1 lrE w ⟨rfl, rfl, rfl⟩ (by decide) (by decide +kernel) _ Array.getElem?_push_size
/-- what the walk holds on to -/
structure Nm (a d y : Value) (g g5 g6 : Nat) (w W : World) : Prop where
  own : EvAt (amoE a d y) g W
  reads : EReads W (amoE a d y) amoL
  lr : EvAt lrE g5 W
  sc : EvAt scE g6 W
  below : Below w.heap.size w W
theorem Nm.on {a d y : Value} {g g5 g6 : Nat} {w W W2 : World} (h : Nm a d y g g5 g6 w W) (hb : Below W.heap.size W W2) : Nm a d y g g5 g6 w W2 :=
  ⟨h.own.on hb, h.reads.below hb, h.lr.on hb, h.sc.on hb, h.below.trans (hb.mono h.below.size)⟩
theorem Nm.boxed {a d y : Value} {g g5 g6 : Nat} {w W : World} (h : Nm a d y g g5 g6 w W) (o : Obj) : Nm a d y g g5 g6 w (W.alloc o) := h.on (box_below W o)
/-- the event in its box, its lists elsewhere -/
structure N1 (a d y : Value) (g : Nat) (w W : World) : Prop where
  own : EvAt (amoE a d y) g W
  reads : EReads W (amoE a d y) amoL
  below : Below w.heap.size w W
theorem N1.on {a d y : Value} {g : Nat} {w W W2 : World} (h : N1 a d y g w W) (hb : Below W.heap.size W W2) : N1 a d y g w W2 :=
  ⟨h.own.on hb, h.reads.below hb, h.below.trans (hb.mono h.below.size)⟩
end Go.Proofs.YtjdfhohchicgbaaDoor
