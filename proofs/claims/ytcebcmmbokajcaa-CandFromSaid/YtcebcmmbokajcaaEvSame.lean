/-
  Proved here: event's Same tells that an event is the same as itself; nothing that was there is changed. Condition: lists of at most 100,000 numbers.
-/
import Derived.Test.YtcebcmmbokajcaaEvLists
import Derived.Test.YtcebcmmbokajcaaEvMade
import Derived.Deep.RegionHeld3
namespace Go.Proofs.Ytcebcmmbokajcaa
set_option linter.unusedVariables false
set_option linter.unusedSimpArgs false
open Go.RowKit
attribute [local go_sem ↓] fold_E fold_SE

abbrev numC (l : List Int) : Array Value := (l.map (Value.int .u64)).toArray
theorem eqItems_same (d : Nat) (l : List Int) (w : World) : ∀ (is : List Nat), (∀ i ∈ is, i < l.length) → (Op.eqItems (d + 1) 31 1 (numC l) (numC l) is).run Try.prog w = .ok true w
  | [], _ => by simp [Op.eqItems]
  | i :: is, h => by
    have hi := h i (by simp)
    have ih := eqItems_same d l w is (fun j hj => h j (by simp [hj]))
    have hp : (_root_.Go.part 31 (numC l) (i * 1)).run Try.prog w = .ok (.int .u64 (l[i])) w := by
      have hx : (numC l)[i]? = some (.int .u64 (l[i])) := by unfold numC; simp [hi]
      simp [_root_.Go.part, go_sem, Try.isAgg31, hx]
    have he : (Op.equalIn (d + 1) 31 (.int .u64 (l[i])) (.int .u64 (l[i]))).run Try.prog w = .ok true w := by
      simp [Op.equalIn, run_underlying Try.underlying31]
    simp only [Op.eqItems, Sem.run_bind, hp, he, Result.andThen_ok]
    simpa using ih
theorem eq_nums (l : List Int) (hl : l.length = 14) (w : World) : (binOp .eql 131 (.agg (numC l)) (.agg (numC l))).run Try.prog w = .ok (.bool true) w := by
  have hc : Try.prog.cellsOf 31 = 1 := by kernel_rfl
  obtain ⟨i, hi⟩ : ∃ i, Try.prog.info? 31 = some i := by
    have : (Try.prog.info? 31).isSome = true := by kernel_rfl
    exact Option.isSome_iff_exists.1 this
  have h := run_equalIn_array (P := Try.prog) w 9999 (numC l) (numC l) Try.underlying131 hi
  rw [hc, show (9999 : Nat) = 9998 + 1 from rfl, eqItems_same 9998 l w _ (fun j hj => by rw [hl]; exact List.mem_range.1 hj)] at h
  go_simp
/-- the boxes of a call of Same at one event twice -/
structure Sb (e : Ev) (l : El) (w W : World) : Prop where
  b0 : EvAt e w.heap.size W
  b1 : EvAt e (w.heap.size + 1) W
  below : Below w.heap.size w W
  here : EReads w e l
theorem Sb.on {e : Ev} {l : El} {w W W2 : World} (h : Sb e l w W) (hb : Below W.heap.size W W2) : Sb e l w W2 := ⟨h.b0.on hb, h.b1.on hb, h.below.trans (hb.mono h.below.size), h.here⟩
theorem Sb.drew {e : Ev} {l : El} {w W : World} (h : Sb e l w W) : Sb e l w W.drew := h.on (Below.refl _ _).drew
theorem Sb.drewN {e : Ev} {l : El} {w W : World} (h : Sb e l w W) (n : Nat) : Sb e l w (W.drewN n) := h.on (below_drewW (Below.refl _ _) n)
theorem Sb.start (e : Ev) (l : El) (w : World) (h : EReads w e l) : Sb e l w ((w.alloc (.cells #[.int .i64 e.hart, .int .i64 e.pos, .int .i64 e.kind, .int .u64 e.addr, .int .u64 e.load, .int .u64 e.store, .bool e.aq, .bool e.rl, .int .i64 e.pred, .int .i64 e.succ, .int .i64 e.pair, e.a, e.d, e.y] 50)).alloc (.cells #[.int .i64 e.hart, .int .i64 e.pos, .int .i64 e.kind, .int .u64 e.addr, .int .u64 e.load, .int .u64 e.store, .bool e.aq, .bool e.rl, .int .i64 e.pred, .int .i64 e.succ, .int .i64 e.pair, e.a, e.d, e.y] 50)) := by
  refine ⟨(EvAt.new e w).alloc _, EvAt.new_at e _ _ (by simp), two_below _ _ _, h⟩
theorem Sb.ra {e : Ev} {l : El} {w W : World} (h : Sb e l w W) : ReadsI W e.a l.a := (h.here.below h.below).1
theorem Sb.rd {e : Ev} {l : El} {w W : World} (h : Sb e l w W) : ReadsI W e.d l.d := (h.here.below h.below).2.1
theorem Sb.ry {e : Ev} {l : El} {w W : World} (h : Sb e l w W) : ReadsI W e.y l.y := (h.here.below h.below).2.2
theorem Sb.f8 {e : Ev} {l : El} {w W : World} (h : Sb e l w W) : (LoadE (.pointer (some ⟨w.heap.size, 0, none⟩))).run Try.prog W = .ok e.V W ∧ (LoadE (.pointer (some ⟨w.heap.size + 1, 0, none⟩))).run Try.prog W = .ok e.V W ∧ W.cell? ⟨w.heap.size, 11, none⟩ = some e.a ∧ W.cell? ⟨w.heap.size, 12, none⟩ = some e.d ∧ W.cell? ⟨w.heap.size, 13, none⟩ = some e.y ∧ W.cell? ⟨w.heap.size + 1, 11, none⟩ = some e.a ∧ W.cell? ⟨w.heap.size + 1, 12, none⟩ = some e.d ∧ W.cell? ⟨w.heap.size + 1, 13, none⟩ = some e.y := by
  obtain ⟨_, _, _, _, _, _, _, _, _, _, _, _, a, b, c⟩ := h.b0.facts
  obtain ⟨_, _, _, _, _, _, _, _, _, _, _, _, x, y, z⟩ := h.b1.facts
  exact ⟨run_LoadE h.b0, run_LoadE h.b1, a, b, c, x, y, z⟩
theorem equal_yes (va : Value) (a : List Int) (w : World) (ha : ReadsI w va a) (hn : a.length ≤ 100000) : Calls Try.prog 42 #[va, va] w fun e w' => e = .returned (.bool true) ∧ Below w.heap.size w w' := by
  have := equal_any va va a a w ha ha hn
  rw [decide_eq_true rfl] at this
  refine this.mono ?_
  rintro e' w' ⟨he, m, rfl⟩
  exact ⟨he, below_drewW (Below.refl _ _) m⟩
set_option maxRecDepth 100000 in
set_option maxHeartbeats 8000000 in
theorem sameE_self (e : Ev) (l : El) (w : World) (h : EReads w e l) (hn : l.n) : Calls Try.prog 67 #[e.V, e.V] w fun e' w' => SameOk w true e' w' := by
  have S0 := Lib.hid (Sb.start e l w h)
  obtain ⟨a1, c1, e1⟩ := h.1.len
  obtain ⟨a2, c2, e2⟩ := h.2.1.len
  obtain ⟨a3, c3, e3⟩ := h.2.2.len
  have HN := Lib.hid (numbers_any e a1 a2 a3 _ _ _ c1 c2 c3 e1 e2 e3)
  obtain ⟨ns, hns⟩ : ∃ ns, Hid (numsL e l.a.length l.d.length l.y.length = ns) := ⟨_, Lib.hid rfl⟩
  have hlen : Hid (ns.length = 14) := Lib.hid (by rw [← hns.out]; rfl)
  rw [numsV_is, hns.out] at HN
  have heq := eq_nums ns hlen.out
  have HA : Hid (l.a.length ≤ 100000) := Lib.hid hn.1
  have HD : Hid (l.d.length ≤ 100000) := Lib.hid hn.2.1
  have HY : Hid (l.y.length ≤ 100000) := Lib.hid hn.2.2
  clear h hn e1 e2 e3 hns
  go_enter Try.func67, Try.ntmps67
  go_upto_region 1 with fail
  obtain ⟨W, hW⟩ : ∃ W, Hid (((w.alloc (.cells #[.int .i64 e.hart, .int .i64 e.pos, .int .i64 e.kind, .int .u64 e.addr, .int .u64 e.load, .int .u64 e.store, .bool e.aq, .bool e.rl, .int .i64 e.pred, .int .i64 e.succ, .int .i64 e.pair, e.a, e.d, e.y] 50)).alloc (.cells #[.int .i64 e.hart, .int .i64 e.pos, .int .i64 e.kind, .int .u64 e.addr, .int .u64 e.load, .int .u64 e.store, .bool e.aq, .bool e.rl, .int .i64 e.pred, .int .i64 e.succ, .int .i64 e.pair, e.a, e.d, e.y] 50)) = W) := ⟨_, Lib.hid rfl⟩
  rw [hW.out] at S0 ⊢
  clear hW
  obtain ⟨u0, u1, u2, u3, u4, u5, u6, u7⟩ := S0.out.f8
  have S1 := Lib.hid S0.out.drew
  go_region_held3 (fun w' => (LoadE (.pointer (some ⟨w.heap.size, 0, none⟩))).run Try.prog w' = .ok e.V w' ∧ (LoadE (.pointer (some ⟨w.heap.size + 1, 0, none⟩))).run Try.prog w' = .ok e.V w' ∧ w'.cell? ⟨w.heap.size, 11, none⟩ = some e.a ∧ w'.cell? ⟨w.heap.size, 12, none⟩ = some e.d ∧ w'.cell? ⟨w.heap.size, 13, none⟩ = some e.y ∧ w'.cell? ⟨w.heap.size + 1, 11, none⟩ = some e.a ∧ w'.cell? ⟨w.heap.size + 1, 12, none⟩ = some e.d ∧ w'.cell? ⟨w.heap.size + 1, 13, none⟩ = some e.y)
    (first | exact S1.out.f8 | exact S6.out.f8 | exact S5.out.f8 | exact S4.out.f8 | exact S3.out.f8 | exact S2.out.f8)
    ((first
      | (go_at_call 99; (with_reducible refine (HN.out W.drew).mono ?_); rintro e' w2 ⟨rfl, hb⟩; have S2 := Lib.hid (S1.out.on hb); clear hb)
      | (go_at_call 99; (with_reducible refine (HN.out w2).mono ?_); rintro e' w3 ⟨rfl, hb⟩; have S3 := Lib.hid (S2.out.on hb); clear hb)
      | (go_at_call 42; (with_reducible refine (equal_yes e.a l.a w3 S3.out.ra HA.out).mono ?_); rintro e' w4 ⟨rfl, hb⟩; have S4 := Lib.hid (S3.out.on hb); clear hb)
      | (go_at_call 42; (with_reducible refine (equal_yes e.d l.d w4 S4.out.rd HD.out).mono ?_); rintro e' w5 ⟨rfl, hb⟩; have S5 := Lib.hid (S4.out.on hb); clear hb)
      | (go_at_call 42; (with_reducible refine (equal_yes e.y l.y w5 S5.out.ry HY.out).mono ?_); rintro e' w6 ⟨rfl, hb⟩; have S6 := Lib.hid (S5.out.on hb); clear hb)))
  go_wp2
  go_ret
  exact ⟨rfl, S6.out.below⟩
end Go.Proofs.Ytcebcmmbokajcaa
