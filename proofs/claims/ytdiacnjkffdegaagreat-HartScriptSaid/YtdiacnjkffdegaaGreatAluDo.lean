/-
  Proved here: what Plain, Do, Takes, Amo of package alu answer of every op and two words; what was there is as it was. No condition.
-/
import Derived.Test.YtdiacnjkffdegaaGreatAluAsk
import Derived.IntWalk
import Derived.Deep.QuietTactic
import Derived.BigQuiet
namespace Go.Proofs.YtdiacnjkffdegaaGreat
open Go.RowKit
theorem alloc_heap_at (w : World) (o : Obj) : (w.alloc o).heap[w.heap.size]? = some o := Array.getElem?_push_size
/-- a whole table is stored: the new world by what is asked of it further on -/
theorem wpList_store_tab {P : Program} {ops : Array Oper} {rest : List Oper} {o : Oper} {a : Act} {w : World} {Q : Exit → Act → World → Prop} (hgd : o.guard = none) (ty : TypeId) (x y : Operand) (ho : o.op = .store ty x y)
    (g : Nat) (cells : Array Value) (hx : a.eval x = .pointer (some ⟨g, 0, none⟩)) (hy : a.eval y = .agg cells)
    (t : TypeId) (old : Array Value) (hg : w.heap[g]? = some (.cells old t (0, 0))) (hi : (P.info? ty).map (·.size) = some cells.size)
    (hold : old.size = cells.size) (h1 : cells.all (·.oneCell') = true) 
    (h : ∀ w1, Below g w w1 → w1.heap.size = w.heap.size → (∀ k, w1.cell? ⟨g, k, none⟩ = cells[k]?) → wpList P ops Q rest (a.put o.dst undef) w1) : wpList P ops Q (o :: rest) a w :=
  wpList_store_row hgd ty x y ho g cells hx hy t old hg hi hold h1 (h _ (below_row (Below.refl _ _) (Nat.le_refl _) _) (by simp) fun k => cell_setRow_same _ _ _ _ _ _ _ hg)
theorem plain_cell (k : Nat) (h : k < 35) : plainCells[k]? = some (.int .i64 (plainL.getD k 0)) := by
  have e : plainCells[k]? = (plainL.map (Value.int .i64))[k]? := by unfold plainCells; simp
  have hl : plainL.length = 35 := rfl
  rw [e, List.getElem?_map, List.getD_eq_getElem?_getD, List.getElem?_eq_getElem (by omega)]; rfl
theorem Plain_some (k : Nat) (h : k < 35) (w : World) : Calls Tryz.prog 79 #[.int .i64 (k : Int)] w fun e w' => e = .returned (.int .i64 (plainL.getD k 0)) ∧ Below w.heap.size w w' := by
  have h0 : decide ((k : Int) < 0) = false := by simp
  have h1 : decide (35 ≤ (k : Int)) = false := by simp; omega
  have hv := Lib.hid (plain_cell k h)
  go_enter Tryz.func79, Tryz.ntmps79
  go_wp2_with (first | (go_at_call 86; (with_reducible refine (plains_any _).mono ?_); rintro e w' ⟨rfl, hb⟩; have HB := Lib.hid hb; clear hb) | (refine wpList_store_tab rfl 121 (.tmp 3) (.tmp 11) rfl _ plainCells rfl rfl 121 _ (alloc_heap_at _ _) (by as_aux_lemma => kernel_rfl) (by as_aux_lemma => kernel_rfl) (by as_aux_lemma => kernel_rfl) ?_; intro w1 hb1 hz1 hq; have hq1 := (hq k).trans hv.out; have HB1 := Lib.hid hb1; clear hb1 hq hz1))
  go_ret
  exact ⟨rfl, ((HB.out.alloc (by exact HB.out.size) _).trans (HB1.out.mono HB.out.size))⟩
theorem Plain_far (op : Int) (h : op < 0 ∨ 62 < op) (w : World) : Calls Tryz.prog 79 #[.int .i64 op] w fun e w' => e = .returned (.int .i64 0) ∧ Below w.heap.size w w' := by
  rcases h with h | h
  all_goals
    go_enter Tryz.func79, Tryz.ntmps79
    go_wp2_with (first | (go_at_call 86; (with_reducible refine (plains_any _).mono ?_); rintro e w' ⟨rfl, hb⟩; have HB := Lib.hid hb; clear hb) | (refine wpList_store_tab rfl 121 (.tmp 3) (.tmp 11) rfl _ plainCells rfl rfl 121 _ (alloc_heap_at _ _) (by as_aux_lemma => kernel_rfl) (by as_aux_lemma => kernel_rfl) (by as_aux_lemma => kernel_rfl) ?_; intro w1 hb1 hz1 hq; have HB1 := Lib.hid hb1; clear hb1 hq hz1))
    go_ret
    exact ⟨rfl, ((HB.out.alloc (by exact HB.out.size) _).trans (HB1.out.mono HB.out.size))⟩
theorem Plain_own (op : Int) (h : 35 ≤ op) (h' : op ≤ 62) (w : World) : Calls Tryz.prog 79 #[.int .i64 op] w fun e w' => e = .returned (.int .i64 op) ∧ Below w.heap.size w w' := by
  go_enter Tryz.func79, Tryz.ntmps79
  go_wp2
  go_ret
  exact ⟨rfl, Below.refl _ _⟩
theorem Plain_any (op : Int) (w : World) : Calls Tryz.prog 79 #[.int .i64 op] w fun e w' => e = .returned (.int .i64 (plainI op)) ∧ Below w.heap.size w w' := by
  unfold plainI
  by_cases h : 35 ≤ op ∧ op ≤ 62
  · rw [if_pos h]; exact Plain_own op h.1 h.2 w
  · rw [if_neg h]
    by_cases h0 : op < 0
    · rw [if_pos h0]; exact Plain_far op (.inl h0) w
    · rw [if_neg h0]
      obtain ⟨k, rfl⟩ : ∃ k : Nat, op = k := ⟨op.toNat, by omega⟩
      by_cases h1 : k < 35
      · exact Plain_some k h1 w
      · have e : plainL.getD (k : Int).toNat 0 = 0 := by
          rw [Int.toNat_natCast, List.getD_eq_getElem?_getD, List.getElem?_eq_none (by show 35 ≤ k; omega)]; rfl
        rw [e]; exact Plain_far k (by omega) w

/-! ### what stands in the tables -/
theorem rec_at (k : Nat) (h : k = 1 ∨ k = 35 ∨ k = 36 ∨ k = 37 ∨ k = 38 ∨ k = 39 ∨ k = 40 ∨ k = 41 ∨ k = 42 ∨ k = 43 ∨ k = 44 ∨ k = 45 ∨ k = 46 ∨ k = 47 ∨ k = 48 ∨ k = 49 ∨ k = 50 ∨ k = 51 ∨ k = 52 ∨ k = 53 ∨ k = 54 ∨ k = 55 ∨ k = 56 ∨ k = 57 ∨ k = 58 ∨ k = 59 ∨ k = 60 ∨ k = 61 ∨ k = 62) : ∃ F, reckonCells[k]? = some (.func (.func F) #[] #[]) ∧ Lit2 F fun a b => .int .u64 (U (doV k a b)) := by
  rcases h with rfl | rfl | rfl | rfl | rfl | rfl | rfl | rfl | rfl | rfl | rfl | rfl | rfl | rfl | rfl | rfl | rfl | rfl | rfl | rfl | rfl | rfl | rfl | rfl | rfl | rfl | rfl | rfl | rfl
  · exact ⟨87, rfl, enters_of Tryz.func87 (by kernel_rfl) rfl, lit_1⟩
  · exact ⟨89, rfl, enters_of Tryz.func89 (by kernel_rfl) rfl, lit_2⟩
  · exact ⟨90, rfl, enters_of Tryz.func90 (by kernel_rfl) rfl, lit_3⟩
  · exact ⟨91, rfl, enters_of Tryz.func91 (by kernel_rfl) rfl, lit_4⟩
  · exact ⟨93, rfl, enters_of Tryz.func93 (by kernel_rfl) rfl, lit_5⟩
  · exact ⟨95, rfl, enters_of Tryz.func95 (by kernel_rfl) rfl, lit_6⟩
  · exact ⟨96, rfl, enters_of Tryz.func96 (by kernel_rfl) rfl, lit_7⟩
  · exact ⟨97, rfl, enters_of Tryz.func97 (by kernel_rfl) rfl, lit_8⟩
  · exact ⟨98, rfl, enters_of Tryz.func98 (by kernel_rfl) rfl, lit_9⟩
  · exact ⟨99, rfl, enters_of Tryz.func99 (by kernel_rfl) rfl, lit_10⟩
  · exact ⟨100, rfl, enters_of Tryz.func100 (by kernel_rfl) rfl, lit_11⟩
  · exact ⟨101, rfl, enters_of Tryz.func101 (by kernel_rfl) rfl, lit_12⟩
  · exact ⟨102, rfl, enters_of Tryz.func102 (by kernel_rfl) rfl, lit_13⟩
  · exact ⟨103, rfl, enters_of Tryz.func103 (by kernel_rfl) rfl, lit_14⟩
  · exact ⟨105, rfl, enters_of Tryz.func105 (by kernel_rfl) rfl, lit_15⟩
  · exact ⟨106, rfl, enters_of Tryz.func106 (by kernel_rfl) rfl, lit_16⟩
  · exact ⟨107, rfl, enters_of Tryz.func107 (by kernel_rfl) rfl, lit_17⟩
  · exact ⟨108, rfl, enters_of Tryz.func108 (by kernel_rfl) rfl, lit_18⟩
  · exact ⟨111, rfl, enters_of Tryz.func111 (by kernel_rfl) rfl, lit_19⟩
  · exact ⟨112, rfl, enters_of Tryz.func112 (by kernel_rfl) rfl, lit_20⟩
  · exact ⟨113, rfl, enters_of Tryz.func113 (by kernel_rfl) rfl, lit_21⟩
  · exact ⟨115, rfl, enters_of Tryz.func115 (by kernel_rfl) rfl, lit_22⟩
  · exact ⟨117, rfl, enters_of Tryz.func117 (by kernel_rfl) rfl, lit_23⟩
  · exact ⟨119, rfl, enters_of Tryz.func119 (by kernel_rfl) rfl, lit_24⟩
  · exact ⟨121, rfl, enters_of Tryz.func121 (by kernel_rfl) rfl, lit_25⟩
  · exact ⟨122, rfl, enters_of Tryz.func122 (by kernel_rfl) rfl, lit_26⟩
  · exact ⟨124, rfl, enters_of Tryz.func124 (by kernel_rfl) rfl, lit_27⟩
  · exact ⟨126, rfl, enters_of Tryz.func126 (by kernel_rfl) rfl, lit_28⟩
  · exact ⟨128, rfl, enters_of Tryz.func128 (by kernel_rfl) rfl, lit_29⟩
theorem rec_nil (k : Nat) (h1 : k ≠ 1) (h2 : k < 35) : reckonCells[k]? = some .nilFunc := by
  have : ∀ j : Fin 35, j.val ≠ 1 → reckonCells[j.val]? = some .nilFunc := by
    intro j; match j with
    | ⟨0, _⟩ => exact fun _ => rfl
    | ⟨1, _⟩ => exact fun h => absurd rfl h
    | ⟨2, _⟩ => exact fun _ => rfl
    | ⟨3, _⟩ => exact fun _ => rfl
    | ⟨4, _⟩ => exact fun _ => rfl
    | ⟨5, _⟩ => exact fun _ => rfl
    | ⟨6, _⟩ => exact fun _ => rfl
    | ⟨7, _⟩ => exact fun _ => rfl
    | ⟨8, _⟩ => exact fun _ => rfl
    | ⟨9, _⟩ => exact fun _ => rfl
    | ⟨10, _⟩ => exact fun _ => rfl
    | ⟨11, _⟩ => exact fun _ => rfl
    | ⟨12, _⟩ => exact fun _ => rfl
    | ⟨13, _⟩ => exact fun _ => rfl
    | ⟨14, _⟩ => exact fun _ => rfl
    | ⟨15, _⟩ => exact fun _ => rfl
    | ⟨16, _⟩ => exact fun _ => rfl
    | ⟨17, _⟩ => exact fun _ => rfl
    | ⟨18, _⟩ => exact fun _ => rfl
    | ⟨19, _⟩ => exact fun _ => rfl
    | ⟨20, _⟩ => exact fun _ => rfl
    | ⟨21, _⟩ => exact fun _ => rfl
    | ⟨22, _⟩ => exact fun _ => rfl
    | ⟨23, _⟩ => exact fun _ => rfl
    | ⟨24, _⟩ => exact fun _ => rfl
    | ⟨25, _⟩ => exact fun _ => rfl
    | ⟨26, _⟩ => exact fun _ => rfl
    | ⟨27, _⟩ => exact fun _ => rfl
    | ⟨28, _⟩ => exact fun _ => rfl
    | ⟨29, _⟩ => exact fun _ => rfl
    | ⟨30, _⟩ => exact fun _ => rfl
    | ⟨31, _⟩ => exact fun _ => rfl
    | ⟨32, _⟩ => exact fun _ => rfl
    | ⟨33, _⟩ => exact fun _ => rfl
    | ⟨34, _⟩ => exact fun _ => rfl
    | ⟨n + 35, hn⟩ => exact absurd hn (by omega)
  exact this ⟨k, h2⟩ h1
theorem Do_own (op : Int) (k : Nat) (a b : BitVec 64) (hp : plainI op = k) (h1 : 35 ≤ k) (h2 : k ≤ 62) (w : World) : Calls Tryz.prog 70 #[.int .i64 op, .int .u64 (U a), .int .u64 (U b)] w fun e w' => e = .returned (.tuple #[.int .u64 (U (doV k a b)), .int .i64 0]) ∧ Below w.heap.size w w' := by
  obtain ⟨F, hv0, hF⟩ := rec_at k (by omega)
  have hv := Lib.hid hv0
  have HF := Lib.hid hF
  have HP := Lib.hid (show ∀ w, Calls Tryz.prog 79 #[.int .i64 op] w fun e w' => e = .returned (.int .i64 (k : Int)) ∧ Below w.heap.size w w' from hp ▸ Plain_any op)
  have g : ((k : Int) != 0) = true := by simp; omega
  clear hv0 hF hp
  go_enter Tryz.func70, Tryz.ntmps70
  go_wp2_with (first | (go_at_call 79; (with_reducible refine (HP.out _).mono ?_); rintro e w0 ⟨rfl, hb⟩; have HB0 := Lib.hid hb; clear hb) | (go_at_call 80; (with_reducible refine (reckons_any _).mono ?_); rintro e w' ⟨rfl, hb⟩; have HB := Lib.hid hb; clear hb) | (refine wpList_store_tab rfl 110 (.tmp 9) (.tmp 15) rfl _ reckonCells rfl rfl 110 _ (alloc_heap_at _ _) (by as_aux_lemma => kernel_rfl) (by as_aux_lemma => kernel_rfl) (by as_aux_lemma => kernel_rfl) ?_; intro w1 hb1 hz1 hq; have hq1 := (hq k).trans hv.out; have HB1 := Lib.hid hb1; clear hb1 hq hz1) | (go_at_call 81; (with_reducible refine (askU_hit F _ 63 k (fun a b => U (doV k a b)) HF.out a b _ (by omega) hq1).mono ?_); rintro e w2 ⟨rfl, rfl⟩))
  go_ret2
  exact ⟨rfl, HB0.out.trans ((HB.out.mono HB0.out.size).trans ((((Below.refl _ _).alloc (Nat.le_refl _) _).trans (HB1.out)).mono (Nat.le_trans HB0.out.size HB.out.size)))⟩
theorem Do_lui (k : Nat) (h1 : k = 1) (a b : BitVec 64) (w : World) : Calls Tryz.prog 70 #[.int .i64 (k : Int), .int .u64 (U a), .int .u64 (U b)] w fun e w' => e = .returned (.tuple #[.int .u64 (U (doV k a b)), .int .i64 0]) ∧ Below w.heap.size w w' := by
  obtain ⟨F, hv0, hF⟩ := rec_at k (by omega)
  have hv := Lib.hid hv0
  have HF := Lib.hid hF
  have HP := Lib.hid (show ∀ w, Calls Tryz.prog 79 #[.int .i64 (k : Int)] w fun e w' => e = .returned (.int .i64 0) ∧ Below w.heap.size w w' by subst h1; exact Plain_any 1)
  have hk : k < 63 := by omega
  clear hv0 hF h1
  go_enter Tryz.func70, Tryz.ntmps70
  go_wp2_with (first | (go_at_call 79; (with_reducible refine (HP.out _).mono ?_); rintro e w0 ⟨rfl, hb⟩; have HB0 := Lib.hid hb; clear hb) | (go_at_call 80; (with_reducible refine (reckons_any _).mono ?_); rintro e w' ⟨rfl, hb⟩; have HB := Lib.hid hb; clear hb) | (refine wpList_store_tab rfl 110 (.tmp 9) (.tmp 15) rfl _ reckonCells rfl rfl 110 _ (alloc_heap_at _ _) (by as_aux_lemma => kernel_rfl) (by as_aux_lemma => kernel_rfl) (by as_aux_lemma => kernel_rfl) ?_; intro w1 hb1 hz1 hq; have hq1 := (hq k).trans hv.out; have HB1 := Lib.hid hb1; clear hb1 hq hz1) | (go_at_call 81; (with_reducible refine (askU_hit F _ 63 k (fun a b => U (doV k a b)) HF.out a b _ (by omega) hq1).mono ?_); rintro e w2 ⟨rfl, rfl⟩))
  go_ret2
  exact ⟨rfl, HB0.out.trans ((HB.out.mono HB0.out.size).trans ((((Below.refl _ _).alloc (Nat.le_refl _) _).trans (HB1.out)).mono (Nat.le_trans HB0.out.size HB.out.size)))⟩
theorem Do_nil (k : Nat) (a b : BitVec 64) (hp : plainI k = 0) (h1 : k ≠ 1) (h2 : k < 35) (w : World) : Calls Tryz.prog 70 #[.int .i64 (k : Int), .int .u64 (U a), .int .u64 (U b)] w fun e w' => e = .returned (.tuple #[.int .u64 0, .int .i64 2]) ∧ Below w.heap.size w w' := by
  have hv := Lib.hid (rec_nil k h1 h2)
  have HP := Lib.hid (show ∀ w, Calls Tryz.prog 79 #[.int .i64 (k : Int)] w fun e w' => e = .returned (.int .i64 0) ∧ Below w.heap.size w w' from fun w => hp ▸ Plain_any k w)
  clear hp
  go_enter Tryz.func70, Tryz.ntmps70
  go_wp2_with (first | (go_at_call 79; (with_reducible refine (HP.out _).mono ?_); rintro e w0 ⟨rfl, hb⟩; have HB0 := Lib.hid hb; clear hb) | (go_at_call 80; (with_reducible refine (reckons_any _).mono ?_); rintro e w' ⟨rfl, hb⟩; have HB := Lib.hid hb; clear hb) | (refine wpList_store_tab rfl 110 (.tmp 9) (.tmp 15) rfl _ reckonCells rfl rfl 110 _ (alloc_heap_at _ _) (by as_aux_lemma => kernel_rfl) (by as_aux_lemma => kernel_rfl) (by as_aux_lemma => kernel_rfl) ?_; intro w1 hb1 hz1 hq; have hq1 := (hq k).trans hv.out; have HB1 := Lib.hid hb1; clear hb1 hq hz1) | (go_at_call 81; (with_reducible refine (askU_nil _ 63 k a b _ (by omega) hq1).mono ?_); rintro e w2 ⟨rfl, rfl⟩))
  go_ret2
  exact ⟨rfl, HB0.out.trans ((HB.out.mono HB0.out.size).trans ((((Below.refl _ _).alloc (Nat.le_refl _) _).trans (HB1.out)).mono (Nat.le_trans HB0.out.size HB.out.size)))⟩
theorem Do_out (op : Int) (a b : BitVec 64) (h : op < 0 ∨ 62 < op) (w : World) : Calls Tryz.prog 70 #[.int .i64 op, .int .u64 (U a), .int .u64 (U b)] w fun e w' => e = .returned (.tuple #[.int .u64 0, .int .i64 2]) ∧ Below w.heap.size w w' := by
  have HP := Lib.hid (Plain_far op h)
  go_enter Tryz.func70, Tryz.ntmps70
  go_wp2_with (first | (go_at_call 79; (with_reducible refine (HP.out _).mono ?_); rintro e w0 ⟨rfl, hb⟩; have HB0 := Lib.hid hb; clear hb) | (go_at_call 80; (with_reducible refine (reckons_any _).mono ?_); rintro e w' ⟨rfl, hb⟩; have HB := Lib.hid hb; clear hb) | (refine wpList_store_tab rfl 110 (.tmp 9) (.tmp 15) rfl _ reckonCells rfl rfl 110 _ (alloc_heap_at _ _) (by as_aux_lemma => kernel_rfl) (by as_aux_lemma => kernel_rfl) (by as_aux_lemma => kernel_rfl) ?_; intro w1 hb1 hz1 hq; have HB1 := Lib.hid hb1; clear hb1 hq hz1) | (go_at_call 81; (with_reducible refine (askU_out _ 63 op a b _ (by omega)).mono ?_); rintro e w2 ⟨rfl, rfl⟩))
  go_ret2
  exact ⟨rfl, HB0.out.trans ((HB.out.mono HB0.out.size).trans ((((Below.refl _ _).alloc (Nat.le_refl _) _).trans (HB1.out)).mono (Nat.le_trans HB0.out.size HB.out.size)))⟩
theorem br_at (k : Nat) (h : k = 5 ∨ k = 6 ∨ k = 7 ∨ k = 8 ∨ k = 9 ∨ k = 10) : ∃ F, branchCells[k]? = some (.func (.func F) #[] #[]) ∧ Lit2 F fun a b => .bool (brV k a b) := by
  rcases h with rfl | rfl | rfl | rfl | rfl | rfl
  · exact ⟨130, rfl, enters_of Tryz.func130 (by kernel_rfl) rfl, br_1⟩
  · exact ⟨131, rfl, enters_of Tryz.func131 (by kernel_rfl) rfl, br_2⟩
  · exact ⟨132, rfl, enters_of Tryz.func132 (by kernel_rfl) rfl, br_3⟩
  · exact ⟨133, rfl, enters_of Tryz.func133 (by kernel_rfl) rfl, br_4⟩
  · exact ⟨134, rfl, enters_of Tryz.func134 (by kernel_rfl) rfl, br_5⟩
  · exact ⟨135, rfl, enters_of Tryz.func135 (by kernel_rfl) rfl, br_6⟩
theorem br_nil (k : Nat) (h : k < 5) : branchCells[k]? = some .nilFunc := by
  match k, h with
  | 0, _ => rfl
  | 1, _ => rfl
  | 2, _ => rfl
  | 3, _ => rfl
  | 4, _ => rfl
/-- what is stored by the amo of doubles -/
def amV (k : Nat) (a b : BitVec 64) : BitVec 64 := (amL.getD (k - 79) fun _ _ => 0) a b
theorem Takes_hit (k : Nat) (a b : BitVec 64) (h1 : 5 ≤ k) (h2 : k ≤ 10) (w : World) : Calls Tryz.prog 71 #[.int .i64 (k : Int), .int .u64 (U a), .int .u64 (U b)] w fun e w' => e = .returned (.tuple #[.bool (brV k a b), .int .i64 0]) ∧ Below w.heap.size w w' := by
  obtain ⟨F, hv0, hF⟩ := br_at k (by omega)
  have hv := Lib.hid hv0
  have HF := Lib.hid hF
  clear hv0 hF
  go_enter Tryz.func71, Tryz.ntmps71
  go_wp2_with (first | (go_at_call 82; (with_reducible refine (branches_any _).mono ?_); rintro e w' ⟨rfl, hb⟩; have HB := Lib.hid hb; clear hb) | (refine wpList_store_tab rfl 115 (.tmp 8) (.tmp 9) rfl _ branchCells rfl rfl 115 _ (alloc_heap_at _ _) (by as_aux_lemma => kernel_rfl) (by as_aux_lemma => kernel_rfl) (by as_aux_lemma => kernel_rfl) ?_; intro w1 hb1 hz1 hq; have hq1 := (hq k).trans hv.out; have HB1 := Lib.hid hb1; clear hb1 hq hz1) | (go_at_call 83; (with_reducible refine (askB_hit F _ 11 k (fun a b => brV k a b) HF.out a b _ (by omega) hq1).mono ?_); rintro e w2 ⟨rfl, rfl⟩))
  go_ret2
  exact ⟨rfl, HB.out.trans ((((Below.refl _ _).alloc (Nat.le_refl _) _).trans HB1.out).mono HB.out.size)⟩
theorem Takes_nil (k : Nat) (a b : BitVec 64) (h : k < 5) (w : World) : Calls Tryz.prog 71 #[.int .i64 (k : Int), .int .u64 (U a), .int .u64 (U b)] w fun e w' => e = .returned (.tuple #[.bool false, .int .i64 2]) ∧ Below w.heap.size w w' := by
  have hv := Lib.hid (br_nil k h)
  go_enter Tryz.func71, Tryz.ntmps71
  go_wp2_with (first | (go_at_call 82; (with_reducible refine (branches_any _).mono ?_); rintro e w' ⟨rfl, hb⟩; have HB := Lib.hid hb; clear hb) | (refine wpList_store_tab rfl 115 (.tmp 8) (.tmp 9) rfl _ branchCells rfl rfl 115 _ (alloc_heap_at _ _) (by as_aux_lemma => kernel_rfl) (by as_aux_lemma => kernel_rfl) (by as_aux_lemma => kernel_rfl) ?_; intro w1 hb1 hz1 hq; have hq1 := (hq k).trans hv.out; have HB1 := Lib.hid hb1; clear hb1 hq hz1) | (go_at_call 83; (with_reducible refine (askB_nil _ 11 k a b _ (by omega) hq1).mono ?_); rintro e w2 ⟨rfl, rfl⟩))
  go_ret2
  exact ⟨rfl, HB.out.trans ((((Below.refl _ _).alloc (Nat.le_refl _) _).trans HB1.out).mono HB.out.size)⟩
theorem Takes_out (op : Int) (a b : BitVec 64) (h : op < 0 ∨ 10 < op) (w : World) : Calls Tryz.prog 71 #[.int .i64 op, .int .u64 (U a), .int .u64 (U b)] w fun e w' => e = .returned (.tuple #[.bool false, .int .i64 2]) ∧ Below w.heap.size w w' := by
  go_enter Tryz.func71, Tryz.ntmps71
  go_wp2_with (first | (go_at_call 82; (with_reducible refine (branches_any _).mono ?_); rintro e w' ⟨rfl, hb⟩; have HB := Lib.hid hb; clear hb) | (refine wpList_store_tab rfl 115 (.tmp 8) (.tmp 9) rfl _ branchCells rfl rfl 115 _ (alloc_heap_at _ _) (by as_aux_lemma => kernel_rfl) (by as_aux_lemma => kernel_rfl) (by as_aux_lemma => kernel_rfl) ?_; intro w1 hb1 hz1 hq; have HB1 := Lib.hid hb1; clear hb1 hq hz1) | (go_at_call 83; (with_reducible refine (askB_out _ 11 op a b _ (by omega)).mono ?_); rintro e w2 ⟨rfl, rfl⟩))
  go_ret2
  exact ⟨rfl, HB.out.trans ((((Below.refl _ _).alloc (Nat.le_refl _) _).trans HB1.out).mono HB.out.size)⟩
theorem Short_U (x : BitVec 64) (w : World) : Calls Tryz.prog 88 #[.int .u64 (U x)] w fun e w' => e = .returned (.int .u64 (U (sh x))) ∧ w = w' := by
  have h := Short_any (U x) w
  rw [shortI_U] at h
  exact h
theorem drewN_below (B : Nat) (w : World) (n : Nat) : Below B w (w.drewN n) := ⟨rfl, rfl, rfl, Nat.le_refl _, fun _ _ => rfl⟩
theorem sameq {P : Program} {f : FuncId} {args : Array Value} {w : World} {v : Value} (h : Calls P f args w fun e w' => e = .returned v ∧ w = w') : Calls P f args w fun e w' => e = .returned v ∧ w' = w := h.mono fun _ _ h => ⟨h.1, h.2.symm⟩
end Go.Proofs.YtdiacnjkffdegaaGreat
