/-
  Proved here: the kit's Event tells that an event is its copy, which has lists of its own that read as its; nothing that was there is changed. Condition: lists of at most 100,000 numbers.
-/
import Derived.Test.YtngbiibhghnalaaCdPlain
import Derived.Lib.ItoaWalk
namespace Go.Proofs.Ytngbiibhghnalaa
set_option linter.unusedVariables false
set_option linter.unusedSimpArgs false
open Go.RowKit
attribute [local go_sem ↓] fold_E fold_SE

/-- the boxes of the kit's Event -/
structure Eb (e f : Ev) (w W : World) : Prop where
  b0 : EvAt e w.heap.size W
  b1 : EvAt f (w.heap.size + 1) W
  below : Below w.heap.size w W
theorem Eb.on {e f : Ev} {w W W2 : World} (h : Eb e f w W) (hb : Below W.heap.size W W2) : Eb e f w W2 := ⟨h.b0.on hb, h.b1.on hb, h.below.trans (hb.mono h.below.size)⟩
set_option maxRecDepth 100000 in
set_option maxHeartbeats 16000000 in
theorem event_yes (e : Ev) (a d y : Value) (l : El) (w : World) (h1 : EReads w (e.lists a d y) l) (h2 : EReads w e l) (hn : l.n) : Calls Try.prog 19 #[(e.lists a d y).V, e.V] w fun e' w' => SameOk w true e' w' := by
  have KD := Lib.hid (fun w0 (hb : Below w.heap.size w w0) => deps_yes a d y e.a e.d e.y l.a l.d l.y l.a l.d l.y w0 (Lib.hid rfl) (Lib.hid rfl) (Lib.hid rfl) (h1.below hb).1 (h1.below hb).2.1 (h1.below hb).2.2 (h2.below hb).1 (h2.below hb).2.1 (h2.below hb).2.2 hn.1 hn.2.1 hn.2.2)
  have S0 : Hid (Eb (e.lists a d y) e w ((w.alloc (.cells #[.int .i64 e.hart, .int .i64 e.pos, .int .i64 e.kind, .int .u64 e.addr, .int .u64 e.load, .int .u64 e.store, .bool e.aq, .bool e.rl, .int .i64 e.pred, .int .i64 e.succ, .int .i64 e.pair, a, d, y] 48)).alloc (.cells #[.int .i64 e.hart, .int .i64 e.pos, .int .i64 e.kind, .int .u64 e.addr, .int .u64 e.load, .int .u64 e.store, .bool e.aq, .bool e.rl, .int .i64 e.pred, .int .i64 e.succ, .int .i64 e.pair, e.a, e.d, e.y] 48))) := Lib.hid ⟨(EvAt.new (e.lists a d y) w).alloc _, EvAt.new_at e _ _ (by simp), two_below _ _ _⟩
  clear h1 h2 hn
  unfold Ev.lists at S0 ⊢
  go_enter Try.func19, Try.ntmps19
  go_upto_region 1 with fail
  simp only [List.append_eq, List.cons_append, List.nil_append]
  go_name_world W hW
  rw [hW] at S0
  clear hW
  obtain ⟨_, f0, f1, f2, f3, f4, f5, f6, f7, f8, f9, f10, f11, f12, f13⟩ := S0.out.b0.facts
  obtain ⟨_, g0, g1, g2, g3, g4, g5, g6, g7, g8, g9, g10, g11, g12, g13⟩ := S0.out.b1.facts
  simp only at f0 f1 f2 f3 f4 f5 f6 f7 f8 f9 f10 f11 f12 f13
  go_wp2_with (go_at_call 42; (with_reducible refine (KD.out _ S0.out.below).mono ?_); rintro e' w2 ⟨rfl, hb⟩; have S2 := Lib.hid (S0.out.on hb); clear hb f0 f1 f2 f3 f4 f5 f6 f7 f8 f9 f10 f11 f12 f13 g0 g1 g2 g3 g4 g5 g6 g7 g8 g9 g10 g11 g12 g13; obtain ⟨_, f0, f1, f2, f3, f4, f5, f6, f7, f8, f9, f10, f11, f12, f13⟩ := S2.out.b0.facts; obtain ⟨_, g0, g1, g2, g3, g4, g5, g6, g7, g8, g9, g10, g11, g12, g13⟩ := S2.out.b1.facts; simp only at f0 f1 f2 f3 f4 f5 f6 f7 f8 f9 f10 f11 f12 f13)
  go_ret
  exact ⟨rfl, S2.out.below⟩
end Go.Proofs.Ytngbiibhghnalaa
