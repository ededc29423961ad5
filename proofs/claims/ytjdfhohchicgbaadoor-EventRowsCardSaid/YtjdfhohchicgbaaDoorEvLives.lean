/-
  Proved here: the law's lives answers true; nothing that was there is changed. Condition: the tables of strconv and math/bits as the library lays them.
-/
import Derived.Test.YtjdfhohchicgbaaDoorEvText
import Derived.Test.YtjdfhohchicgbaaDoorEvKit
namespace Go.Proofs.YtjdfhohchicgbaaDoor
open Go.RowKit
attribute [local go_sem ↓] fold_E fold_SE

def nilL : El := ⟨[], [], []⟩
theorem nilL_n : nilL.n := ⟨by simp [nilL], by simp [nilL], by simp [nilL]⟩
theorem nil_reads (w : World) (e : Ev) (h : e.a = .slice none 0 0 ∧ e.d = .slice none 0 0 ∧ e.y = .slice none 0 0) : EReads w e nilL := by
  unfold EReads
  rw [h.1, h.2.1, h.2.2]
  exact ⟨ReadsI.nil w, ReadsI.nil w, ReadsI.nil w⟩
/-- a text of an event of literals without lists -/
theorem text_lit (e : Ev) (u x y : Nat) (b1 b2 b3 : Bool) (s : ByteArray) (h : e.a = .slice none 0 0 ∧ e.d = .slice none 0 0 ∧ e.y = .slice none 0 0) (hc : chkE e nilL = true) (hk : 1 ≤ e.kind ∧ e.kind ≤ 6) (hh : -9223372036854775808 ≤ e.hart ∧ e.hart ≤ 9223372036854775807) (hp : -9223372036854775808 ≤ e.pos ∧ e.pos ≤ 9223372036854775807)
    (hu : e.addr = u ∧ e.load = x ∧ e.store = y) (hl : u < 18446744073709551616 ∧ x < 18446744073709551616 ∧ y < 18446744073709551616) (g : hasB (fieldsOf e.kind) 8 = b1 ∧ hasB (fieldsOf e.kind) 16 = b2 ∧ hasB (fieldsOf e.kind) 32 = b3) (hs : textS e u x y b1 b2 b3 = s) (w : World) (hT : TabB w) :
    Calls Tryd.prog 11 #[e.V] w fun e' w' => TextIs w s e' w' := by
  rw [← hs]
  exact Text_ok e nilL w u x y hT (nil_reads w e h) nilL_n (Lib.hid hc) (Lib.hid hk) (Lib.hid hh) (Lib.hid hp) hu.1 hu.2.1 hu.2.2 hl.1 hl.2.1 hl.2.2 b1 b2 b3 (Lib.hid g.1) (Lib.hid g.2.1) (Lib.hid g.2.2)
theorem check_lit (e : Ev) (b : Bool) (h : e.a = .slice none 0 0 ∧ e.d = .slice none 0 0 ∧ e.y = .slice none 0 0) (hu : 0 ≤ e.addr) (hc : chkE e nilL = b) (w : World) : Calls Tryd.prog 13 #[e.V] w fun e' w' => ErrIs w b e' w' := by
  rw [← hc]
  exact check_any e nilL w (nil_reads w e h) nilL_n hu
theorem text_1 (w : World) (hT : TabB w) : Calls Tryd.prog 11 #[.agg #[.int .i64 1, .int .i64 2, .int .i64 1, .int .u64 4096, .int .u64 10, .int .u64 0, .bool false, .bool false, .int .i64 0, .int .i64 0, .int .i64 0, .slice none 0 0, .slice none 0 0, .slice none 0 0]] w fun e' w' => TextIs w ⟨#[49, 58, 50, 32, 108, 111, 97, 100, 32, 48, 48, 48, 48, 48, 48, 48, 48, 48, 48, 48, 48, 49, 48, 48, 48, 32, 114, 97]⟩ e' w' :=
  text_lit ⟨1, 2, 1, 4096, 10, 0, false, false, 0, 0, 0, .slice none 0 0, .slice none 0 0, .slice none 0 0⟩ 4096 10 0 true true false ⟨#[49, 58, 50, 32, 108, 111, 97, 100, 32, 48, 48, 48, 48, 48, 48, 48, 48, 48, 48, 48, 48, 49, 48, 48, 48, 32, 114, 97]⟩ ⟨rfl, rfl, rfl⟩ (by decide +kernel) (by decide) (by decide) (by decide) (by decide) (by decide) (by decide) (by decide +kernel) w hT
theorem text_2 (w : World) (hT : TabB w) : Calls Tryd.prog 11 #[.agg #[.int .i64 0, .int .i64 0, .int .i64 6, .int .u64 0, .int .u64 0, .int .u64 0, .bool false, .bool false, .int .i64 0, .int .i64 0, .int .i64 0, .slice none 0 0, .slice none 0 0, .slice none 0 0]] w fun e' w' => TextIs w ⟨#[48, 58, 48, 32, 102, 101, 110, 99, 101]⟩ e' w' :=
  text_lit ⟨0, 0, 6, 0, 0, 0, false, false, 0, 0, 0, .slice none 0 0, .slice none 0 0, .slice none 0 0⟩ 0 0 0 false false false ⟨#[48, 58, 48, 32, 102, 101, 110, 99, 101]⟩ ⟨rfl, rfl, rfl⟩ (by decide +kernel) (by decide) (by decide) (by decide) (by decide) (by decide) (by decide) (by decide +kernel) w hT
theorem check_1 (w : World) : Calls Tryd.prog 13 #[.agg #[.int .i64 0, .int .i64 0, .int .i64 2, .int .u64 8, .int .u64 0, .int .u64 0, .bool false, .bool false, .int .i64 0, .int .i64 0, .int .i64 0, .slice none 0 0, .slice none 0 0, .slice none 0 0]] w fun e' w' => ErrIs w true e' w' :=
  check_lit ⟨0, 0, 2, 8, 0, 0, false, false, 0, 0, 0, .slice none 0 0, .slice none 0 0, .slice none 0 0⟩ true ⟨rfl, rfl, rfl⟩ (by decide) (by decide +kernel) w
set_option maxRecDepth 100000 in
set_option maxHeartbeats 2000000 in
theorem lives_any (w : World) (hT : TabB w) : Calls Tryd.prog 7 #[] w fun e w' => SameOk w true e w' := by
  have HT := Lib.hid hT
  clear hT
  go_enter Tryd.func7, Tryd.ntmps7
  go_wp2_with (first
    | (go_at_call 11; (with_reducible refine (text_1 _ HT.out).mono ?_); rintro e w1 ⟨rfl, hb⟩; have B1 := Lib.hid hb; have T1 := Lib.hid (HT.out.on hb); clear hb)
    | (go_at_call 11; (with_reducible refine (text_2 _ T1.out).mono ?_); rintro e w2 ⟨rfl, hb⟩; have B2 := Lib.hid (B1.out.trans (hb.mono B1.out.size)); clear hb)
    | (go_at_call 13; (with_reducible refine (check_1 _).mono ?_); rintro e w3 ⟨rfl, hb⟩; have B3 := Lib.hid (B2.out.trans (hb.mono B2.out.size)); clear hb))
  go_ret
  exact ⟨rfl, B3.out⟩
end Go.Proofs.YtjdfhohchicgbaaDoor
