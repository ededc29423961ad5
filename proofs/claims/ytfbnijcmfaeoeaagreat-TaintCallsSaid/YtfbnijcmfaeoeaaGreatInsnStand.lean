/-
  Proved here: Check's contracts for an instruction that may be, and one that may not; 'Stand': an argument's box stands as it was, behind it all is new. No condition.
-/
import Derived.Test.YtfbnijcmfaeoeaaGreatInsnAsk
import Derived.Laws.NewBlocks
import Derived.Deep.RegionHeld3
import Derived.Deep.DeepCutAuto
import Derived.Deep.CutBlock
namespace Go.Proofs.YtfbnijcmfaeoeaaGreat
open Go.RowKit

theorem heap_new (w : World) (o : Obj) : (w.alloc o).heap[w.heap.size]? = some o := by
  show (w.heap.push o)[w.heap.size]? = some o
  simp
theorem InsAt.facts {i : Ins} {n : Nat} {w : World} (h : InsAt i n w) : n < w.heap.size ∧ w.cell? ⟨n, 0, none⟩ = some (.int .i64 i.op) ∧ w.cell? ⟨n, 1, none⟩ = some (.int .i64 i.rd) ∧ w.cell? ⟨n, 2, none⟩ = some (.int .i64 i.rs1) ∧ w.cell? ⟨n, 3, none⟩ = some (.int .i64 i.rs2) ∧ w.cell? ⟨n, 4, none⟩ = some (.int .i64 i.imm) ∧ w.cell? ⟨n, 5, none⟩ = some (.bool i.aq) ∧ w.cell? ⟨n, 6, none⟩ = some (.bool i.rl) ∧ w.cell? ⟨n, 7, none⟩ = some (.int .i64 i.pred) ∧ w.cell? ⟨n, 8, none⟩ = some (.int .i64 i.succ) :=
  ⟨(Array.getElem?_eq_some_iff.1 h).1, by rw [Lib.cell_of_heap h]; rfl, by rw [Lib.cell_of_heap h]; rfl, by rw [Lib.cell_of_heap h]; rfl, by rw [Lib.cell_of_heap h]; rfl, by rw [Lib.cell_of_heap h]; rfl, by rw [Lib.cell_of_heap h]; rfl, by rw [Lib.cell_of_heap h]; rfl, by rw [Lib.cell_of_heap h]; rfl, by rw [Lib.cell_of_heap h]; rfl⟩
theorem InsAt.below {i : Ins} {n B : Nat} {w w' : World} (h : InsAt i n w) (hb : Below B w w') (hn : n < B) : InsAt i n w' := (hb.block n hn).trans h
theorem InsAt.alloc {i : Ins} {n : Nat} {w : World} (h : InsAt i n w) (o : Obj) : InsAt i n (w.alloc o) := (Lib.alloc_old w o n (Array.getElem?_eq_some_iff.1 h).1).trans h
theorem Check_no (i : Ins) (hb : Hid (i.ok = false)) (w : World) : Calls Tryz.prog 21 #[i.V] w fun e w' => e = .returned (.int .i64 2) ∧ Below w.heap.size w w' := Check_i i false hb w
theorem Check_ok (i : Ins) (hb : Hid (i.ok = true)) (w : World) : Calls Tryz.prog 21 #[i.V] w fun e w' => e = .returned (.int .i64 0) ∧ Below w.heap.size w w' := Check_i i true hb w
theorem ins_new (i : Ins) (w : World) : InsAt i w.heap.size (w.alloc (.cells (insCells i) 27)) := heap_new _ _
/-- what stands behind the boxed argument: it reads so still, nothing that was there is changed -/
def Stand (i : Ins) (w w' : World) : Prop := InsAt i w.heap.size w' ∧ Below w.heap.size w w'
theorem Stand.start (i : Ins) (w : World) : Stand i w (w.alloc (.cells (insCells i) 27)) := ⟨heap_new _ _, (Below.refl _ _).alloc (Nat.le_refl _) _⟩
theorem Stand.on {i : Ins} {w w1 w2 : World} (h : Stand i w w1) (hb : Below w1.heap.size w1 w2) : Stand i w w2 :=
  ⟨h.1.below hb (Array.getElem?_eq_some_iff.1 h.1).1, h.2.trans (hb.mono h.2.size)⟩
theorem Stand.drew {i : Ins} {w w1 : World} (h : Stand i w w1) : Stand i w w1.drew := ⟨h.1, Below.drew h.2⟩
theorem Stand.ins {i : Ins} {w w1 : World} (h : Stand i w w1) : InsAt i w.heap.size w1 := h.1
theorem Stand.below {i : Ins} {w w1 : World} (h : Stand i w w1) : Below w.heap.size w w1 := h.2
end Go.Proofs.YtfbnijcmfaeoeaaGreat
