/-
  Proved here: the law HartJumps returns true at every hart, instruction, and what was found; what was there is as it was. No condition.
-/
import Derived.Test.YtdiacnjkffdegaaGreatHartLives
import Derived.Test.YtdiacnjkffdegaaGreatRef02Check
import Derived.ChangeKeysEq
namespace Go.Proofs.YtdiacnjkffdegaaGreat
set_option linter.unusedSimpArgs false
set_option linter.unusedVariables false
open Go.RowKit
/-- what stands behind the boxed arguments -/
def StJ (h : Ha) (cs : Array Value) (w w' : World) : Prop := HAt 25 h w.heap.size w' ∧ w'.heap[w.heap.size + 1]? = some (.cells cs 34 (0, 0)) ∧ Below w.heap.size w w' ∧ w.heap.size + 1 < w'.heap.size
theorem StJ.on {h : Ha} {cs : Array Value} {w w1 w2 : World} (H : StJ h cs w w1) (hb : Below w1.heap.size w1 w2) : StJ h cs w w2 :=
  ⟨H.1.below hb (Nat.lt_of_succ_lt H.2.2.2), (hb.block _ H.2.2.2).trans H.2.1, H.2.2.1.trans (hb.mono (Nat.le_of_lt (Nat.lt_of_succ_lt H.2.2.2))), Nat.lt_of_lt_of_le H.2.2.2 hb.size⟩
theorem StJ.drew {h : Ha} {cs : Array Value} {w w1 : World} (H : StJ h cs w w1) : StJ h cs w w1.drew := ⟨H.1, H.2.1, H.2.2.1.drew, H.2.2.2⟩
theorem StJ.start (h : Ha) (cs : Array Value) (w : World) : StJ h cs w ((w.alloc (.cells (hC h) 25)).alloc (.cells cs 34)) := by
  refine ⟨(HAt.new _ h w).alloc _, ?_, ((Below.refl _ _).alloc (Nat.le_refl _) _).alloc (by simp) _, by simp⟩
  have := Array.getElem?_push_size (xs := (w.alloc (.cells (hC h) 25)).heap) (x := Obj.cells cs 34)
  simp only [World.size_alloc] at this
  exact this
theorem StJ.cell {h : Ha} {cs : Array Value} {w w' : World} (H : StJ h cs w w') (k : Nat) : w'.cell? ⟨w.heap.size + 1, k, none⟩ = cs[k]? := cell_of_row w' _ k _ _ _ H.2.1
theorem chk_zero {h : Ha} (hc : h.chk = 0) : h.e = 0 := by
  unfold Ha.chk at hc
  by_cases c : U (h.x 0) = 0 ∧ (0 ≤ h.e ∧ h.e ≤ 6) ∧ (U h.code = 0 ∨ h.e = 1)
  · rw [if_pos c] at hc
    by_cases e : h.e = 0
    · exact e
    · rw [if_neg e] at hc; omega
  · rw [if_neg c] at hc; omega
def arrC (l : List (BitVec 64)) : Array Value := (l.map (fun b => Value.int .u64 (U b))).toArray
theorem arr_load {T : TypeId} {h : Ha} {n : Nat} {w : World} (H : HAt T h n w) : (loadVar 23 ⟨n, 1, none⟩).run Tryz.prog w = .ok (.agg (arrC h.xs)) w := by
  have hl : (loadCells ⟨n, 1, none⟩ 32).run Tryz.prog w = .ok (h.xs.map (fun b => Value.int .u64 (U b))).toArray w := by
    have := run_loadCells_list (P := Tryz.prog) w ⟨n, 1, none⟩ (h.xs.map (fun b => Value.int .u64 (U b))) (fun j v hv => by
      have hadd : (⟨n, 1, none⟩ : Addr).add j = ⟨n, 1 + j, none⟩ := by unfold Addr.add; split <;> simp_all
      have hj : j < 32 := by
        have := (List.getElem?_eq_some_iff.1 hv).1
        simpa [h.len] using this
      rw [hadd, H.cx j hj]
      rw [List.getElem?_map] at hv
      obtain ⟨x, hx, rfl⟩ := Option.map_eq_some_iff.1 hv
      unfold Ha.x
      rw [List.getD_eq_getElem?_getD, hx]
      rfl)
    simpa [h.len] using this
  have hagg : (isAgg 23).run Tryz.prog w = .ok true w := Tryz.isAgg23 w
  have hs : (sizeOf 23).run Tryz.prog w = .ok 32 w := Tryz.sizeOf23 w
  simp [loadVar, Sem.run_bind, hagg, hs, hl, arrC]
theorem eqItems_same (d : Nat) (l : List (BitVec 64)) (w : World) : ∀ (is : List Nat), (∀ i ∈ is, i < l.length) → (Op.eqItems (d + 1) 22 1 (arrC l) (arrC l) is).run Tryz.prog w = .ok true w
  | [], _ => by simp [Op.eqItems]
  | i :: is, h => by
    have hi := h i (by simp)
    have ih := eqItems_same d l w is (fun j hj => h j (by simp [hj]))
    have hp : (_root_.Go.part 22 (arrC l) (i * 1)).run Tryz.prog w = .ok (.int .u64 (U (l[i]))) w := by
      have hx : (arrC l)[i]? = some (.int .u64 (U (l[i]))) := by unfold arrC; simp [hi]
      simp [_root_.Go.part, go_sem, Tryz.isAgg22, hx]
    have he : (Op.equalIn (d + 1) 22 (.int .u64 (U (l[i]))) (.int .u64 (U (l[i])))).run Tryz.prog w = .ok true w := by
      simp [Op.equalIn, run_underlying Tryz.underlying22]
    simp only [Op.eqItems, Sem.run_bind, hp, he, Result.andThen_ok]
    simpa using ih
theorem eq_arr (l : List (BitVec 64)) (hl : l.length = 32) (w : World) : (binOp .eql 23 (.agg (arrC l)) (.agg (arrC l))).run Tryz.prog w = .ok (.bool true) w := by
  have hc : Tryz.prog.cellsOf 22 = 1 := by kernel_rfl
  obtain ⟨i, hi⟩ : ∃ i, Tryz.prog.info? 22 = some i := by
    have : (Tryz.prog.info? 22).isSome = true := by kernel_rfl
    exact Option.isSome_iff_exists.1 this
  have h := run_equalIn_array (P := Tryz.prog) w 9999 (arrC l) (arrC l) Tryz.underlying23 hi
  rw [hc, show (9999 : Nat) = 9998 + 1 from rfl, eqItems_same 9998 l w _ (fun j hj => by rw [hl]; exact List.mem_range.1 hj)] at h
  go_simp

theorem wpList_wanted {P : Program} {ops : Array Oper} {Q : Exit → Act → World → Prop} {o : Oper} {rest : List Oper} {a : Act} {w : World} (hw : Region.wanted o (yielded ops a.tmps) = true) (h : o.wp P a w (fun a' w' => wpList P ops Q rest a' w') Q) : wpList P ops Q (o :: rest) a w := by
  unfold wpList
  rw [if_pos hw]
  exact .inl h
theorem load_arr {ops : Array Oper} {rest : List Oper} {o : Oper} {a : Act} {w : World} {Q : Exit → Act → World → Prop} {T : TypeId} {h : Ha} {n : Nat} (H : HAt T h n w) (hw : Region.wanted o (yielded ops a.tmps) = true) (x : Operand) (ho : o.op = .load 23 x)
    (hx : a.eval x = .pointer (some ⟨n, 1, none⟩)) (k : wpList Tryz.prog ops Q rest (a.put o.dst (.agg (arrC h.xs))) w) : wpList Tryz.prog ops Q (o :: rest) a w := by
  refine wpList_wanted hw ?_
  unfold Oper.wp execOp
  simp only [ho, hx, Instr.loadAt, Instr.sureAddr, Sem.run_bind, Sem.run_pure, Result.andThen_ok, arr_load H]
  exact k
end Go.Proofs.YtdiacnjkffdegaaGreat
