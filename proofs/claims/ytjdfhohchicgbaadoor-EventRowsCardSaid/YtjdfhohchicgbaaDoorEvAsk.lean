/-
  Proved here: event's Reads, Writes, Memory, digits and names; nothing that was there is changed. Condition: math/bits' table as the library lays it.
-/
import Derived.Test.YtjdfhohchicgbaaDoorEvAhead
import Derived.Test.YtjdfhohchicgbaaDoorShelf
namespace Go.Proofs.YtjdfhohchicgbaaDoor
open Go.RowKit
attribute [local go_sem ↓] fold_E fold_SE

def AskIs (w : World) (b : Bool) (e : Ending) (w' : World) : Prop := e = .returned (.bool b) ∧ Below w.heap.size w w'
theorem Reads_any (e : Ev) (w : World) : Calls Tryd.prog 8 #[e.V] w fun e' w' => AskIs w (hasB (fieldsOf e.kind) 16) e' w' := by
  obtain ⟨F, hF⟩ : ∃ F, Hid (fieldsOf e.kind = F) := ⟨_, Lib.hid rfl⟩
  have hFlt : F < 65536 := by rw [← hF.out]; exact fieldsOf_lt _
  have HK := Lib.hid (look_any e.kind)
  unfold FieldsAre at HK
  rw [hF.out] at HK
  have H1 : Hid (∀ w, Calls Tryd.prog 26 #[.int .u16 (F : Int), .int .u16 16] w fun e w' => e = .returned (.bool (hasB F 16)) ∧ w = w') := Lib.hid (fun w => has_any F 16 hFlt (by omega) w)
  have HE := Lib.hid (EvAt.new e w)
  have HB := Lib.hid (box_below w (.cells #[.int .i64 e.hart, .int .i64 e.pos, .int .i64 e.kind, .int .u64 e.addr, .int .u64 e.load, .int .u64 e.store, .bool e.aq, .bool e.rl, .int .i64 e.pred, .int .i64 e.succ, .int .i64 e.pair, e.a, e.d, e.y] 27))
  rw [hF.out]
  obtain ⟨b, hb⟩ : ∃ b, Hid (hasB F 16 = b) := ⟨_, Lib.hid rfl⟩
  rw [hb.out] at H1 ⊢
  clear hF hb
  go_enter Tryd.func8, Tryd.ntmps8
  go_upto_region 1 with fail
  obtain ⟨W, hW⟩ : ∃ W, Hid (w.alloc (.cells #[.int .i64 e.hart, .int .i64 e.pos, .int .i64 e.kind, .int .u64 e.addr, .int .u64 e.load, .int .u64 e.store, .bool e.aq, .bool e.rl, .int .i64 e.pred, .int .i64 e.succ, .int .i64 e.pair, e.a, e.d, e.y] 27) = W) := ⟨_, Lib.hid rfl⟩
  rw [hW.out] at HE HB ⊢
  obtain ⟨hlt, f0, f1, f2, f3, f4, f5, f6, f7, f8, f9, f10, f11, f12, f13⟩ := HE.out.facts
  go_wp2_with (first
    | (go_at_call 25; (with_reducible refine (HK.out _).mono ?_); rintro e' w1 ⟨rfl, hb⟩; have HB1 := Lib.hid (HB.out.trans (hb.mono HB.out.size)); clear hb)
    | (go_at_call 26; (with_reducible refine (H1.out _).mono ?_); rintro e' w2 ⟨rfl, rfl⟩))
  go_ret
  exact ⟨rfl, HB1.out⟩
theorem Writes_any (e : Ev) (w : World) : Calls Tryd.prog 9 #[e.V] w fun e' w' => AskIs w (hasB (fieldsOf e.kind) 32) e' w' := by
  obtain ⟨F, hF⟩ : ∃ F, Hid (fieldsOf e.kind = F) := ⟨_, Lib.hid rfl⟩
  have hFlt : F < 65536 := by rw [← hF.out]; exact fieldsOf_lt _
  have HK := Lib.hid (look_any e.kind)
  unfold FieldsAre at HK
  rw [hF.out] at HK
  have H1 : Hid (∀ w, Calls Tryd.prog 26 #[.int .u16 (F : Int), .int .u16 32] w fun e w' => e = .returned (.bool (hasB F 32)) ∧ w = w') := Lib.hid (fun w => has_any F 32 hFlt (by omega) w)
  have HE := Lib.hid (EvAt.new e w)
  have HB := Lib.hid (box_below w (.cells #[.int .i64 e.hart, .int .i64 e.pos, .int .i64 e.kind, .int .u64 e.addr, .int .u64 e.load, .int .u64 e.store, .bool e.aq, .bool e.rl, .int .i64 e.pred, .int .i64 e.succ, .int .i64 e.pair, e.a, e.d, e.y] 27))
  rw [hF.out]
  obtain ⟨b, hb⟩ : ∃ b, Hid (hasB F 32 = b) := ⟨_, Lib.hid rfl⟩
  rw [hb.out] at H1 ⊢
  clear hF hb
  go_enter Tryd.func9, Tryd.ntmps9
  go_upto_region 1 with fail
  obtain ⟨W, hW⟩ : ∃ W, Hid (w.alloc (.cells #[.int .i64 e.hart, .int .i64 e.pos, .int .i64 e.kind, .int .u64 e.addr, .int .u64 e.load, .int .u64 e.store, .bool e.aq, .bool e.rl, .int .i64 e.pred, .int .i64 e.succ, .int .i64 e.pair, e.a, e.d, e.y] 27) = W) := ⟨_, Lib.hid rfl⟩
  rw [hW.out] at HE HB ⊢
  obtain ⟨hlt, f0, f1, f2, f3, f4, f5, f6, f7, f8, f9, f10, f11, f12, f13⟩ := HE.out.facts
  go_wp2_with (first
    | (go_at_call 25; (with_reducible refine (HK.out _).mono ?_); rintro e' w1 ⟨rfl, hb⟩; have HB1 := Lib.hid (HB.out.trans (hb.mono HB.out.size)); clear hb)
    | (go_at_call 26; (with_reducible refine (H1.out _).mono ?_); rintro e' w2 ⟨rfl, rfl⟩))
  go_ret
  exact ⟨rfl, HB1.out⟩
theorem Memory_any (e : Ev) (w : World) : Calls Tryd.prog 10 #[e.V] w fun e' w' => AskIs w (hasB (fieldsOf e.kind) 8) e' w' := by
  obtain ⟨F, hF⟩ : ∃ F, Hid (fieldsOf e.kind = F) := ⟨_, Lib.hid rfl⟩
  have hFlt : F < 65536 := by rw [← hF.out]; exact fieldsOf_lt _
  have HK := Lib.hid (look_any e.kind)
  unfold FieldsAre at HK
  rw [hF.out] at HK
  have H1 : Hid (∀ w, Calls Tryd.prog 26 #[.int .u16 (F : Int), .int .u16 8] w fun e w' => e = .returned (.bool (hasB F 8)) ∧ w = w') := Lib.hid (fun w => has_any F 8 hFlt (by omega) w)
  have HE := Lib.hid (EvAt.new e w)
  have HB := Lib.hid (box_below w (.cells #[.int .i64 e.hart, .int .i64 e.pos, .int .i64 e.kind, .int .u64 e.addr, .int .u64 e.load, .int .u64 e.store, .bool e.aq, .bool e.rl, .int .i64 e.pred, .int .i64 e.succ, .int .i64 e.pair, e.a, e.d, e.y] 27))
  rw [hF.out]
  obtain ⟨b, hb⟩ : ∃ b, Hid (hasB F 8 = b) := ⟨_, Lib.hid rfl⟩
  rw [hb.out] at H1 ⊢
  clear hF hb
  go_enter Tryd.func10, Tryd.ntmps10
  go_upto_region 1 with fail
  obtain ⟨W, hW⟩ : ∃ W, Hid (w.alloc (.cells #[.int .i64 e.hart, .int .i64 e.pos, .int .i64 e.kind, .int .u64 e.addr, .int .u64 e.load, .int .u64 e.store, .bool e.aq, .bool e.rl, .int .i64 e.pred, .int .i64 e.succ, .int .i64 e.pair, e.a, e.d, e.y] 27) = W) := ⟨_, Lib.hid rfl⟩
  rw [hW.out] at HE HB ⊢
  obtain ⟨hlt, f0, f1, f2, f3, f4, f5, f6, f7, f8, f9, f10, f11, f12, f13⟩ := HE.out.facts
  go_wp2_with (first
    | (go_at_call 25; (with_reducible refine (HK.out _).mono ?_); rintro e' w1 ⟨rfl, hb⟩; have HB1 := Lib.hid (HB.out.trans (hb.mono HB.out.size)); clear hb)
    | (go_at_call 26; (with_reducible refine (H1.out _).mono ?_); rintro e' w2 ⟨rfl, rfl⟩))
  go_ret
  exact ⟨rfl, HB1.out⟩
def hexS (u : Nat) : ByteArray := ⟨(hexL u).toArray⟩
def TextIs (w : World) (s : ByteArray) (e : Ending) (w' : World) : Prop := e = .returned (.string s) ∧ Below w.heap.size w w'
theorem formatI_any (u : Nat) (hu : u < 18446744073709551616) (w : World) (h : TabZ w) : Calls Tryd.prog 60 #[.int .u64 u, .int .i64 16] w fun e w' => TextIs w (hexS u) e w' := by
  have H := Lib.hid (bits_any u hu w h)
  clear h
  unfold hexS
  go_enter Tryd.func60, Tryd.ntmps60
  go_wp2_with (go_at_call 83; (with_reducible refine (H.out).mono ?_); rintro e w1 ⟨rfl, hb⟩; have HB := Lib.hid hb; clear hb)
  go_ret
  exact ⟨rfl, HB.out⟩
theorem format_any (u : Nat) (hu : u < 18446744073709551616) (w : World) (h : TabZ w) : Calls Tryd.prog 46 #[.int .u64 u, .int .i64 16] w fun e w' => TextIs w (hexS u) e w' := by
  have H := Lib.hid (formatI_any u hu w h)
  clear h
  go_enter Tryd.func46, Tryd.ntmps46
  go_wp2_with (go_at_call 60; (with_reducible refine (H.out).mono ?_); rintro e w1 ⟨rfl, hb⟩; have HB := Lib.hid hb; clear hb)
  go_ret
  exact ⟨rfl, HB.out⟩
theorem digits_any (u : Nat) (hu : u < 18446744073709551616) (w : World) (h : TabZ w) : Calls Tryd.prog 30 #[.int .u64 u] w fun e w' => TextIs w (hexS u) e w' := by
  have H := Lib.hid (format_any u hu w h)
  clear h
  go_enter Tryd.func30, Tryd.ntmps30
  go_wp2_with (go_at_call 46; (with_reducible refine (H.out).mono ?_); rintro e w1 ⟨rfl, hb⟩; have HB := Lib.hid hb; clear hb)
  go_ret
  exact ⟨rfl, HB.out⟩
abbrev namesV : Array Value := #[.string ⟨#[]⟩, .string ⟨#[108, 111, 97, 100]⟩, .string ⟨#[115, 116, 111, 114, 101]⟩, .string ⟨#[108, 114]⟩, .string ⟨#[115, 99]⟩, .string ⟨#[97, 109, 111]⟩, .string ⟨#[102, 101, 110, 99, 101]⟩]
def nameS (k : Int) : ByteArray := if k = 1 then ⟨#[108, 111, 97, 100]⟩ else if k = 2 then ⟨#[115, 116, 111, 114, 101]⟩ else if k = 3 then ⟨#[108, 114]⟩ else if k = 4 then ⟨#[115, 99]⟩ else if k = 5 then ⟨#[97, 109, 111]⟩ else if k = 6 then ⟨#[102, 101, 110, 99, 101]⟩ else ⟨#[]⟩
def NamesAre (w : World) (e : Ending) (w' : World) : Prop := e = .returned (.agg namesV) ∧ Below w.heap.size w w'
theorem names_tab (w : World) : Calls Tryd.prog 29 #[] w fun e w' => NamesAre w e w' := by
  go_enter Tryd.func29, Tryd.ntmps29
  go_wp2
  exact bodyPost_ret (v := .agg namesV) (by simp [results, Tryd.results29, go_sem]) rfl ⟨rfl, box_below _ _⟩
theorem index_name1 (w : World) : (Instr.index 60 (.agg namesV) (.int .i64 1)).run Tryd.prog w = .ok (.string (nameS 1)) w := by kernel_rfl
theorem index_name2 (w : World) : (Instr.index 60 (.agg namesV) (.int .i64 2)).run Tryd.prog w = .ok (.string (nameS 2)) w := by kernel_rfl
theorem index_name3 (w : World) : (Instr.index 60 (.agg namesV) (.int .i64 3)).run Tryd.prog w = .ok (.string (nameS 3)) w := by kernel_rfl
theorem index_name4 (w : World) : (Instr.index 60 (.agg namesV) (.int .i64 4)).run Tryd.prog w = .ok (.string (nameS 4)) w := by kernel_rfl
theorem index_name5 (w : World) : (Instr.index 60 (.agg namesV) (.int .i64 5)).run Tryd.prog w = .ok (.string (nameS 5)) w := by kernel_rfl
theorem index_name6 (w : World) : (Instr.index 60 (.agg namesV) (.int .i64 6)).run Tryd.prog w = .ok (.string (nameS 6)) w := by kernel_rfl
theorem index_names (k : Int) (h0 : 1 ≤ k) (h6 : k ≤ 6) (w : World) : (Instr.index 60 (.agg namesV) (.int .i64 k)).run Tryd.prog w = .ok (.string (nameS k)) w := by
  have hc : k = 1 ∨ k = 2 ∨ k = 3 ∨ k = 4 ∨ k = 5 ∨ k = 6 := by omega
  rcases hc with h | h | h | h | h | h
  · rw [h]; exact index_name1 w
  · rw [h]; exact index_name2 w
  · rw [h]; exact index_name3 w
  · rw [h]; exact index_name4 w
  · rw [h]; exact index_name5 w
  · rw [h]; exact index_name6 w
end Go.Proofs.YtjdfhohchicgbaaDoor
