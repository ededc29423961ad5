/-
  Proved here: event's Reads, Writes, Memory, digits and names; nothing that was there is changed. Condition: math/bits' table as the library lays it.
-/
import Derived.Test.YtcebcmmbokajcaaEvAhead
namespace Go.Proofs.Ytcebcmmbokajcaa
set_option linter.unusedVariables false
set_option linter.unusedSimpArgs false
open Go.RowKit
attribute [local go_sem ↓] fold_E fold_SE

def AskIs (w : World) (b : Bool) (e : Ending) (w' : World) : Prop := e = .returned (.bool b) ∧ Below w.heap.size w w'
theorem Reads_any (e : Ev) (w : World) : Calls Try.prog 102 #[e.V] w fun e' w' => AskIs w (hasB (fieldsOf e.kind) 16) e' w' := by
  obtain ⟨F, hF⟩ : ∃ F, Hid (fieldsOf e.kind = F) := ⟨_, Lib.hid rfl⟩
  have hFlt : F < 65536 := by rw [← hF.out]; exact fieldsOf_lt _
  have HK := Lib.hid (look_any e.kind)
  unfold FieldsAre at HK
  rw [hF.out] at HK
  have H1 : Hid (∀ w, Calls Try.prog 85 #[.int .u16 (F : Int), .int .u16 16] w fun e w' => e = .returned (.bool (hasB F 16)) ∧ w = w') := Lib.hid (fun w => has_any F 16 hFlt (by omega) w)
  have HE := Lib.hid (EvAt.new e w)
  have HB := Lib.hid (box_below w (.cells #[.int .i64 e.hart, .int .i64 e.pos, .int .i64 e.kind, .int .u64 e.addr, .int .u64 e.load, .int .u64 e.store, .bool e.aq, .bool e.rl, .int .i64 e.pred, .int .i64 e.succ, .int .i64 e.pair, e.a, e.d, e.y] 50))
  rw [hF.out]
  obtain ⟨b, hb⟩ : ∃ b, Hid (hasB F 16 = b) := ⟨_, Lib.hid rfl⟩
  rw [hb.out] at H1 ⊢
  clear hF hb
  go_enter Try.func102, Try.ntmps102
  go_upto_region 1 with fail
  obtain ⟨W, hW⟩ : ∃ W, Hid (w.alloc (.cells #[.int .i64 e.hart, .int .i64 e.pos, .int .i64 e.kind, .int .u64 e.addr, .int .u64 e.load, .int .u64 e.store, .bool e.aq, .bool e.rl, .int .i64 e.pred, .int .i64 e.succ, .int .i64 e.pair, e.a, e.d, e.y] 50) = W) := ⟨_, Lib.hid rfl⟩
  rw [hW.out] at HE HB ⊢
  obtain ⟨hlt, f0, f1, f2, f3, f4, f5, f6, f7, f8, f9, f10, f11, f12, f13⟩ := HE.out.facts
  go_wp2_with (first
    | (go_at_call 84; (with_reducible refine (HK.out _).mono ?_); rintro e' w1 ⟨rfl, hb⟩; have HB1 := Lib.hid (HB.out.trans (hb.mono HB.out.size)); clear hb)
    | (go_at_call 85; (with_reducible refine (H1.out _).mono ?_); rintro e' w2 ⟨rfl, rfl⟩))
  go_ret
  exact ⟨rfl, HB1.out⟩
theorem Writes_any (e : Ev) (w : World) : Calls Try.prog 61 #[e.V] w fun e' w' => AskIs w (hasB (fieldsOf e.kind) 32) e' w' := by
  obtain ⟨F, hF⟩ : ∃ F, Hid (fieldsOf e.kind = F) := ⟨_, Lib.hid rfl⟩
  have hFlt : F < 65536 := by rw [← hF.out]; exact fieldsOf_lt _
  have HK := Lib.hid (look_any e.kind)
  unfold FieldsAre at HK
  rw [hF.out] at HK
  have H1 : Hid (∀ w, Calls Try.prog 85 #[.int .u16 (F : Int), .int .u16 32] w fun e w' => e = .returned (.bool (hasB F 32)) ∧ w = w') := Lib.hid (fun w => has_any F 32 hFlt (by omega) w)
  have HE := Lib.hid (EvAt.new e w)
  have HB := Lib.hid (box_below w (.cells #[.int .i64 e.hart, .int .i64 e.pos, .int .i64 e.kind, .int .u64 e.addr, .int .u64 e.load, .int .u64 e.store, .bool e.aq, .bool e.rl, .int .i64 e.pred, .int .i64 e.succ, .int .i64 e.pair, e.a, e.d, e.y] 50))
  rw [hF.out]
  obtain ⟨b, hb⟩ : ∃ b, Hid (hasB F 32 = b) := ⟨_, Lib.hid rfl⟩
  rw [hb.out] at H1 ⊢
  clear hF hb
  go_enter Try.func61, Try.ntmps61
  go_upto_region 1 with fail
  obtain ⟨W, hW⟩ : ∃ W, Hid (w.alloc (.cells #[.int .i64 e.hart, .int .i64 e.pos, .int .i64 e.kind, .int .u64 e.addr, .int .u64 e.load, .int .u64 e.store, .bool e.aq, .bool e.rl, .int .i64 e.pred, .int .i64 e.succ, .int .i64 e.pair, e.a, e.d, e.y] 50) = W) := ⟨_, Lib.hid rfl⟩
  rw [hW.out] at HE HB ⊢
  obtain ⟨hlt, f0, f1, f2, f3, f4, f5, f6, f7, f8, f9, f10, f11, f12, f13⟩ := HE.out.facts
  go_wp2_with (first
    | (go_at_call 84; (with_reducible refine (HK.out _).mono ?_); rintro e' w1 ⟨rfl, hb⟩; have HB1 := Lib.hid (HB.out.trans (hb.mono HB.out.size)); clear hb)
    | (go_at_call 85; (with_reducible refine (H1.out _).mono ?_); rintro e' w2 ⟨rfl, rfl⟩))
  go_ret
  exact ⟨rfl, HB1.out⟩
theorem Memory_any (e : Ev) (w : World) : Calls Try.prog 83 #[e.V] w fun e' w' => AskIs w (hasB (fieldsOf e.kind) 8) e' w' := by
  obtain ⟨F, hF⟩ : ∃ F, Hid (fieldsOf e.kind = F) := ⟨_, Lib.hid rfl⟩
  have hFlt : F < 65536 := by rw [← hF.out]; exact fieldsOf_lt _
  have HK := Lib.hid (look_any e.kind)
  unfold FieldsAre at HK
  rw [hF.out] at HK
  have H1 : Hid (∀ w, Calls Try.prog 85 #[.int .u16 (F : Int), .int .u16 8] w fun e w' => e = .returned (.bool (hasB F 8)) ∧ w = w') := Lib.hid (fun w => has_any F 8 hFlt (by omega) w)
  have HE := Lib.hid (EvAt.new e w)
  have HB := Lib.hid (box_below w (.cells #[.int .i64 e.hart, .int .i64 e.pos, .int .i64 e.kind, .int .u64 e.addr, .int .u64 e.load, .int .u64 e.store, .bool e.aq, .bool e.rl, .int .i64 e.pred, .int .i64 e.succ, .int .i64 e.pair, e.a, e.d, e.y] 50))
  rw [hF.out]
  obtain ⟨b, hb⟩ : ∃ b, Hid (hasB F 8 = b) := ⟨_, Lib.hid rfl⟩
  rw [hb.out] at H1 ⊢
  clear hF hb
  go_enter Try.func83, Try.ntmps83
  go_upto_region 1 with fail
  obtain ⟨W, hW⟩ : ∃ W, Hid (w.alloc (.cells #[.int .i64 e.hart, .int .i64 e.pos, .int .i64 e.kind, .int .u64 e.addr, .int .u64 e.load, .int .u64 e.store, .bool e.aq, .bool e.rl, .int .i64 e.pred, .int .i64 e.succ, .int .i64 e.pair, e.a, e.d, e.y] 50) = W) := ⟨_, Lib.hid rfl⟩
  rw [hW.out] at HE HB ⊢
  obtain ⟨hlt, f0, f1, f2, f3, f4, f5, f6, f7, f8, f9, f10, f11, f12, f13⟩ := HE.out.facts
  go_wp2_with (first
    | (go_at_call 84; (with_reducible refine (HK.out _).mono ?_); rintro e' w1 ⟨rfl, hb⟩; have HB1 := Lib.hid (HB.out.trans (hb.mono HB.out.size)); clear hb)
    | (go_at_call 85; (with_reducible refine (H1.out _).mono ?_); rintro e' w2 ⟨rfl, rfl⟩))
  go_ret
  exact ⟨rfl, HB1.out⟩
def TextIs (w : World) (s : ByteArray) (e : Ending) (w' : World) : Prop := e = .returned (.string s) ∧ Below w.heap.size w w'
end Go.Proofs.Ytcebcmmbokajcaa
