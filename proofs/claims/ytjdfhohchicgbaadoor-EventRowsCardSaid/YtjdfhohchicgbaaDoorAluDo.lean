/-
  Proved here: what Plain, Do, Takes, Amo of package alu answer of every op and two words; what was there is as it was. No condition.
-/
import Derived.Test.YtjdfhohchicgbaaDoorAluAsk
import Derived.IntWalk
import Derived.Deep.QuietTactic
import Derived.BigQuiet
namespace Go.Proofs.YtjdfhohchicgbaaDoor
open Go.RowKit
theorem bcell {W w1 : World} (hb : Below W.heap.size W w1) : (∀ b o, b < W.heap.size → w1.cell? ⟨b, o, none⟩ = W.cell? ⟨b, o, none⟩) ∧ (∀ b o, b < W.heap.size → w1.frozen? ⟨b, o, none⟩ = W.frozen? ⟨b, o, none⟩) :=
  ⟨fun b o h => hb.cell (p := ⟨b, o, none⟩) h, fun b o h => hb.frozen (p := ⟨b, o, none⟩) h⟩
theorem alloc_heap_at (w : World) (o : Obj) : (w.alloc o).heap[w.heap.size]? = some o := Array.getElem?_push_size
/-- a whole table is stored: the new world by what is asked of it further on -/
theorem wpList_store_tab {P : Program} {ops : Array Oper} {rest : List Oper} {o : Oper} {a : Act} {w : World} {Q : Exit → Act → World → Prop} (hgd : o.guard = none) (ty : TypeId) (x y : Operand) (ho : o.op = .store ty x y)
    (g : Nat) (cells : Array Value) (hx : a.eval x = .pointer (some ⟨g, 0, none⟩)) (hy : a.eval y = .agg cells)
    (t : TypeId) (old : Array Value) (hg : w.heap[g]? = some (.cells old t (0, 0))) (hi : (P.info? ty).map (·.size) = some cells.size)
    (hold : old.size = cells.size) (h1 : cells.all (·.oneCell') = true) 
    (h : ∀ w1, Below g w w1 → w1.heap.size = w.heap.size → (∀ k, w1.cell? ⟨g, k, none⟩ = cells[k]?) → wpList P ops Q rest (a.put o.dst undef) w1) : wpList P ops Q (o :: rest) a w :=
  wpList_store_row hgd ty x y ho g cells hx hy t old hg hi hold h1 (h _ (below_row (Below.refl _ _) (Nat.le_refl _) _) (by simp) fun k => cell_setRow_same _ _ _ _ _ _ _ hg)
/-! ### what stands in the tables -/
/-- what is stored by the amo of doubles -/
def amV (k : Nat) (a b : BitVec 64) : BitVec 64 := (amL.getD (k - 79) fun _ _ => 0) a b
theorem am_at (k : Nat) (h : k = 79 ∨ k = 80 ∨ k = 81 ∨ k = 82 ∨ k = 83 ∨ k = 84 ∨ k = 85 ∨ k = 86 ∨ k = 87) : ∃ F, amoCells[k]? = some (.func (.func F) #[] #[]) ∧ Lit2 F fun a b => .int .u64 (U (amV k a b)) := by
  rcases h with rfl | rfl | rfl | rfl | rfl | rfl | rfl | rfl | rfl
  · exact ⟨70, rfl, enters_of Tryd.func70 (by kernel_rfl) rfl, am_1⟩
  · exact ⟨71, rfl, enters_of Tryd.func71 (by kernel_rfl) rfl, am_2⟩
  · exact ⟨72, rfl, enters_of Tryd.func72 (by kernel_rfl) rfl, am_3⟩
  · exact ⟨73, rfl, enters_of Tryd.func73 (by kernel_rfl) rfl, am_4⟩
  · exact ⟨74, rfl, enters_of Tryd.func74 (by kernel_rfl) rfl, am_5⟩
  · exact ⟨75, rfl, enters_of Tryd.func75 (by kernel_rfl) rfl, am_6⟩
  · exact ⟨76, rfl, enters_of Tryd.func76 (by kernel_rfl) rfl, am_7⟩
  · exact ⟨77, rfl, enters_of Tryd.func77 (by kernel_rfl) rfl, am_8⟩
  · exact ⟨78, rfl, enters_of Tryd.func78 (by kernel_rfl) rfl, am_9⟩
theorem am_nil (k : Nat) (h : k < 79) : amoCells[k]? = some .nilFunc := by
  match k, h with
  | 0, _ => rfl
  | 1, _ => rfl
  | 2, _ => rfl
  | 3, _ => rfl
  | 4, _ => rfl
  | 5, _ => rfl
  | 6, _ => rfl
  | 7, _ => rfl
  | 8, _ => rfl
  | 9, _ => rfl
  | 10, _ => rfl
  | 11, _ => rfl
  | 12, _ => rfl
  | 13, _ => rfl
  | 14, _ => rfl
  | 15, _ => rfl
  | 16, _ => rfl
  | 17, _ => rfl
  | 18, _ => rfl
  | 19, _ => rfl
  | 20, _ => rfl
  | 21, _ => rfl
  | 22, _ => rfl
  | 23, _ => rfl
  | 24, _ => rfl
  | 25, _ => rfl
  | 26, _ => rfl
  | 27, _ => rfl
  | 28, _ => rfl
  | 29, _ => rfl
  | 30, _ => rfl
  | 31, _ => rfl
  | 32, _ => rfl
  | 33, _ => rfl
  | 34, _ => rfl
  | 35, _ => rfl
  | 36, _ => rfl
  | 37, _ => rfl
  | 38, _ => rfl
  | 39, _ => rfl
  | 40, _ => rfl
  | 41, _ => rfl
  | 42, _ => rfl
  | 43, _ => rfl
  | 44, _ => rfl
  | 45, _ => rfl
  | 46, _ => rfl
  | 47, _ => rfl
  | 48, _ => rfl
  | 49, _ => rfl
  | 50, _ => rfl
  | 51, _ => rfl
  | 52, _ => rfl
  | 53, _ => rfl
  | 54, _ => rfl
  | 55, _ => rfl
  | 56, _ => rfl
  | 57, _ => rfl
  | 58, _ => rfl
  | 59, _ => rfl
  | 60, _ => rfl
  | 61, _ => rfl
  | 62, _ => rfl
  | 63, _ => rfl
  | 64, _ => rfl
  | 65, _ => rfl
  | 66, _ => rfl
  | 67, _ => rfl
  | 68, _ => rfl
  | 69, _ => rfl
  | 70, _ => rfl
  | 71, _ => rfl
  | 72, _ => rfl
  | 73, _ => rfl
  | 74, _ => rfl
  | 75, _ => rfl
  | 76, _ => rfl
  | 77, _ => rfl
  | 78, _ => rfl
  | n + 79, hn => exact absurd hn (by omega)
theorem Short_U (x : BitVec 64) (w : World) : Calls Tryd.prog 58 #[.int .u64 (U x)] w fun e w' => e = .returned (.int .u64 (U (sh x))) ∧ w = w' := by
  have h := Short_any (U x) w
  rw [shortI_U] at h
  exact h
theorem Amo_long (k : Nat) (a b : BitVec 64) (h1 : 79 ≤ k) (h2 : k ≤ 87) (w : World) : Calls Tryd.prog 42 #[.int .i64 (k : Int), .int .u64 (U a), .int .u64 (U b)] w fun e w' => e = .returned (.tuple #[.int .u64 (U (amV k a b)), .int .i64 0]) ∧ Below w.heap.size w w' := by
  obtain ⟨F, hv0, hF⟩ := am_at k (by omega)
  have hv := Lib.hid hv0
  have HF := Lib.hid hF
  clear hv0 hF
  go_enter Tryd.func42, Tryd.ntmps42
  go_wp2_with (first | (go_at_call 56; (with_reducible refine (amos_any _).mono ?_); rintro e w' ⟨rfl, hb⟩; have HB := Lib.hid hb; clear hb) | (refine wpList_store_tab rfl 97 (.tmp 8) (.tmp 11) rfl _ amoCells rfl rfl 97 _ (alloc_heap_at _ _) (by as_aux_lemma => kernel_rfl) (by as_aux_lemma => kernel_rfl) (by as_aux_lemma => kernel_rfl) ?_; intro w1 hb1 hz1 hq; have hq1 := (hq k).trans hv.out; have HB1 := Lib.hid hb1; clear hb1 hq hz1) | (go_at_call 57; (with_reducible refine (askU_hit F _ 88 k (fun a b => U (amV k a b)) HF.out a b _ (by omega) hq1).mono ?_); rintro e w2 ⟨rfl, rfl⟩))
  go_ret2
  exact ⟨rfl, HB.out.trans ((((Below.refl _ _).alloc (Nat.le_refl _) _).trans HB1.out).mono HB.out.size)⟩
theorem Amo_nil (k : Nat) (a b : BitVec 64) (h : k < 70) (w : World) : Calls Tryd.prog 42 #[.int .i64 (k : Int), .int .u64 (U a), .int .u64 (U b)] w fun e w' => e = .returned (.tuple #[.int .u64 0, .int .i64 2]) ∧ Below w.heap.size w w' := by
  have hv := Lib.hid (am_nil k (by omega))
  go_enter Tryd.func42, Tryd.ntmps42
  go_wp2_with (first | (go_at_call 56; (with_reducible refine (amos_any _).mono ?_); rintro e w' ⟨rfl, hb⟩; have HB := Lib.hid hb; clear hb) | (refine wpList_store_tab rfl 97 (.tmp 8) (.tmp 11) rfl _ amoCells rfl rfl 97 _ (alloc_heap_at _ _) (by as_aux_lemma => kernel_rfl) (by as_aux_lemma => kernel_rfl) (by as_aux_lemma => kernel_rfl) ?_; intro w1 hb1 hz1 hq; have hq1 := (hq k).trans hv.out; have HB1 := Lib.hid hb1; clear hb1 hq hz1) | (go_at_call 57; (with_reducible refine (askU_nil _ 88 k a b _ (by omega) hq1).mono ?_); rintro e w2 ⟨rfl, rfl⟩))
  go_ret2
  exact ⟨rfl, HB.out.trans ((((Below.refl _ _).alloc (Nat.le_refl _) _).trans HB1.out).mono HB.out.size)⟩
theorem Amo_out (op : Int) (a b : BitVec 64) (h : op < 0 ∨ 87 < op) (w : World) : Calls Tryd.prog 42 #[.int .i64 op, .int .u64 (U a), .int .u64 (U b)] w fun e w' => e = .returned (.tuple #[.int .u64 0, .int .i64 2]) ∧ Below w.heap.size w w' := by
  rcases h with h | h
  all_goals
    go_enter Tryd.func42, Tryd.ntmps42
    go_wp2_with (first | (go_at_call 56; (with_reducible refine (amos_any _).mono ?_); rintro e w' ⟨rfl, hb⟩; have HB := Lib.hid hb; clear hb) | (refine wpList_store_tab rfl 97 (.tmp 8) (.tmp 11) rfl _ amoCells rfl rfl 97 _ (alloc_heap_at _ _) (by as_aux_lemma => kernel_rfl) (by as_aux_lemma => kernel_rfl) (by as_aux_lemma => kernel_rfl) ?_; intro w1 hb1 hz1 hq; have HB1 := Lib.hid hb1; clear hb1 hq hz1) | (go_at_call 57; (with_reducible refine (askU_out _ 88 op a b _ (by omega)).mono ?_); rintro e w2 ⟨rfl, rfl⟩))
    go_ret2
    exact ⟨rfl, HB.out.trans ((((Below.refl _ _).alloc (Nat.le_refl _) _).trans HB1.out).mono HB.out.size)⟩
  
theorem drewN_below (B : Nat) (w : World) (n : Nat) : Below B w (w.drewN n) := ⟨rfl, rfl, rfl, Nat.le_refl _, fun _ _ => rfl⟩
theorem sameq {P : Program} {f : FuncId} {args : Array Value} {w : World} {v : Value} (h : Calls P f args w fun e w' => e = .returned v ∧ w = w') : Calls P f args w fun e w' => e = .returned v ∧ w' = w := h.mono fun _ _ h => ⟨h.1, h.2.symm⟩
theorem Amo_short (k : Nat) (a b : BitVec 64) (h1 : 70 ≤ k) (h2 : k ≤ 78) (w : World) : Calls Tryd.prog 42 #[.int .i64 (k : Int), .int .u64 (U a), .int .u64 (U b)] w fun e w' => e = .returned (.tuple #[.int .u64 (U (sh (amV (k + 9) (sh a) (sh b)))), .int .i64 0]) ∧ Below w.heap.size w w' := by
  obtain ⟨F, hv0, hF⟩ := am_at (k + 9) (by omega)
  have hv := Lib.hid hv0
  have HF := Lib.hid hF
  have g1 : IntKind.i64.wrap ((k : Int) + 9) = ((k + 9 : Nat) : Int) := by rw [IntKind.wrap_i64]; omega
  clear hv0 hF
  go_enter Tryd.func42, Tryd.ntmps42
  go_wp2_with (first | (go_at_call 56; (with_reducible refine (amos_any _).mono ?_); rintro e w' ⟨rfl, hb⟩; have HB := Lib.hid hb; clear hb) | (refine wpList_store_tab rfl 97 (.tmp 8) (.tmp 11) rfl _ amoCells rfl rfl 97 _ (alloc_heap_at _ _) (by as_aux_lemma => kernel_rfl) (by as_aux_lemma => kernel_rfl) (by as_aux_lemma => kernel_rfl) ?_; intro w1 hb1 hz1 hq; have hq1 := (hq (k + 9)).trans hv.out; have HB1 := Lib.hid hb1; clear hb1 hq hz1))
  go_quiet (first | (go_at_call 58; exact Calls.quiet_of_same (sameq (Short_U _ _))) | (go_at_call 57; exact Calls.quiet_of_same (sameq (askU_hit F _ 88 (k + 9) (fun a b => U (amV (k + 9) a b)) HF.out (sh a) (sh b) _ (by omega) (by simpa using hq1)))))
  go_wp2_with (go_at_call 58; (with_reducible refine (Short_U _ _).mono ?_); rintro e w3 ⟨rfl, rfl⟩)
  go_ret2
  exact ⟨rfl, HB.out.trans (((((Below.refl _ _).alloc (Nat.le_refl _) _).trans HB1.out).trans (drewN_below _ _ _)).mono HB.out.size)⟩
end Go.Proofs.YtjdfhohchicgbaaDoor
