/-
  Proved here: where the document's own Read (layer 2) stands behind its first steps; facts that its walks at texts share. No condition.
-/
import Derived.Test.YtbchecnidiiddaaGreatDoorRef02Lits
import Derived.LoopN
import Derived.Test.YtbchecnidiiddaaGreatDoorCodeInsn
namespace Go.Proofs.YtbchecnidiiddaaGreatDoor
set_option linter.unusedVariables false
open Go.RowKit

/-- where Read stands: the result's box, the eater, the instruction, the ends -/
structure RSt (y g : Nat) (t : List UInt8) (i : Ins) (w W : World) : Prop where
  res : InsAt (Ins.none 0) w.heap.size W
  eat : EatAt (w.heap.size + 1) ⟨t.toArray⟩ false W
  ins : InsAt i y W
  ends : W.heap[g]? = some (.cells #[.string ⟨#[]⟩, .string ⟨#[46, 97, 113]⟩, .string ⟨#[46, 114, 108]⟩, .string ⟨#[46, 97, 113, 114, 108]⟩] 9 (0, 0))
  bel : Below w.heap.size w W
  y1 : w.heap.size + 1 < y
  gy : y < g
theorem RSt.below {y g : Nat} {t : List UInt8} {i : Ins} {w W W2 : World} (h : RSt y g t i w W) (hb : Below W.heap.size W W2) : RSt y g t i w W2 :=
  ⟨h.res.below hb h.res.facts.1, h.eat.below hb, h.ins.below hb h.ins.facts.1, (hb.block g (Array.getElem?_eq_some_iff.1 h.ends).1).trans h.ends, h.bel.trans (hb.mono h.bel.size), h.y1, h.gy⟩
theorem RSt.next {y g : Nat} {t r : List UInt8} {i : Ins} {w W W2 : World} (h : RSt y g t i w W) (hE : EatAt (w.heap.size + 1) ⟨r.toArray⟩ false W2) (hO : Oth (w.heap.size + 1) W W2) : RSt y g r i w W2 := by
  have h1 := h.y1; have h2 := h.gy
  exact ⟨h.res.oth hO (by omega), hE, h.ins.oth hO (by omega), (hO.2.2.2.2 g (Array.getElem?_eq_some_iff.1 h.ends).1 (by omega)).trans h.ends, h.bel.trans (hO.below (by omega) h.bel.size), h1, h2⟩
theorem RSt.set {y g : Nat} {t : List UInt8} {i : Ins} {w W : World} (h : RSt y g t i w W) (j : Nat) (v : Value) (i2 : Ins) (he : InsAt i2 y (W.setCell ⟨y, j, none⟩ v)) : RSt y g t i2 w (W.setCell ⟨y, j, none⟩ v) := by
  have h1 := h.y1; have h2 := h.gy
  have hO := Oth.setCell y j W v
  exact ⟨h.res.oth hO (by omega), h.eat.oth hO (by omega), he, (hO.2.2.2.2 g (Array.getElem?_eq_some_iff.1 h.ends).1 (by omega)).trans h.ends, h.bel.setCell (by show w.heap.size ≤ y; omega) v, h1, h2⟩
theorem RSt.op {y g : Nat} {t : List UInt8} {i : Ins} {w W : World} (h : RSt y g t i w W) (x : Int) : RSt y g t { i with op := x } w (W.setCell ⟨y, 0, none⟩ (.int .i64 x)) := h.set 0 _ _ (heap_set _ h.ins)
theorem RSt.rd {y g : Nat} {t : List UInt8} {i : Ins} {w W : World} (h : RSt y g t i w W) (x : Int) : RSt y g t { i with rd := x } w (W.setCell ⟨y, 1, none⟩ (.int .i64 x)) := h.set 1 _ _ (heap_set _ h.ins)
theorem RSt.rs1 {y g : Nat} {t : List UInt8} {i : Ins} {w W : World} (h : RSt y g t i w W) (x : Int) : RSt y g t { i with rs1 := x } w (W.setCell ⟨y, 2, none⟩ (.int .i64 x)) := h.set 2 _ _ (heap_set _ h.ins)
theorem RSt.rs2 {y g : Nat} {t : List UInt8} {i : Ins} {w W : World} (h : RSt y g t i w W) (x : Int) : RSt y g t { i with rs2 := x } w (W.setCell ⟨y, 3, none⟩ (.int .i64 x)) := h.set 3 _ _ (heap_set _ h.ins)
theorem RSt.imm {y g : Nat} {t : List UInt8} {i : Ins} {w W : World} (h : RSt y g t i w W) (x : Int) : RSt y g t { i with imm := x } w (W.setCell ⟨y, 4, none⟩ (.int .i64 x)) := h.set 4 _ _ (heap_set _ h.ins)
theorem RSt.aq {y g : Nat} {t : List UInt8} {i : Ins} {w W : World} (h : RSt y g t i w W) (x : Bool) : RSt y g t { i with aq := x } w (W.setCell ⟨y, 5, none⟩ (.bool x)) := h.set 5 _ _ (heap_set _ h.ins)
theorem RSt.rl {y g : Nat} {t : List UInt8} {i : Ins} {w W : World} (h : RSt y g t i w W) (x : Bool) : RSt y g t { i with rl := x } w (W.setCell ⟨y, 6, none⟩ (.bool x)) := h.set 6 _ _ (heap_set _ h.ins)
theorem RSt.pred {y g : Nat} {t : List UInt8} {i : Ins} {w W : World} (h : RSt y g t i w W) (x : Int) : RSt y g t { i with pred := x } w (W.setCell ⟨y, 7, none⟩ (.int .i64 x)) := h.set 7 _ _ (heap_set _ h.ins)
theorem RSt.succ {y g : Nat} {t : List UInt8} {i : Ins} {w W : World} (h : RSt y g t i w W) (x : Int) : RSt y g t { i with succ := x } w (W.setCell ⟨y, 8, none⟩ (.int .i64 x)) := h.set 8 _ _ (heap_set _ h.ins)
/-- the facts that the walk reads -/
theorem RSt.facts {y g : Nat} {t : List UInt8} {i : Ins} {w W : World} (h : RSt y g t i w W) : (W.cell? ⟨y, 0, none⟩ = some (.int .i64 i.op) ∧ W.cell? ⟨y, 1, none⟩ = some (.int .i64 i.rd) ∧ W.cell? ⟨y, 2, none⟩ = some (.int .i64 i.rs1) ∧ W.cell? ⟨y, 3, none⟩ = some (.int .i64 i.rs2) ∧ W.cell? ⟨y, 4, none⟩ = some (.int .i64 i.imm) ∧ W.cell? ⟨y, 5, none⟩ = some (.bool i.aq) ∧ W.cell? ⟨y, 6, none⟩ = some (.bool i.rl) ∧ W.cell? ⟨y, 7, none⟩ = some (.int .i64 i.pred) ∧ W.cell? ⟨y, 8, none⟩ = some (.int .i64 i.succ)) ∧ (∀ j, W.frozen? ⟨y, j, none⟩ = false) ∧
    (W.cell? ⟨g, 0, none⟩ = some (.string ⟨#[]⟩) ∧ W.cell? ⟨g, 1, none⟩ = some (.string ⟨#[46, 97, 113]⟩) ∧ W.cell? ⟨g, 2, none⟩ = some (.string ⟨#[46, 114, 108]⟩) ∧ W.cell? ⟨g, 3, none⟩ = some (.string ⟨#[46, 97, 113, 114, 108]⟩)) ∧ W.cell? ⟨w.heap.size + 1, 1, none⟩ = some (.bool false) := by
  obtain ⟨-, f⟩ := h.ins.facts
  refine ⟨f, loose_of h.ins, ?_, h.eat.facts.2.2.1⟩
  have he := h.ends
  refine ⟨?_, ?_, ?_, ?_⟩ <;> simp [World.cell?, he]
theorem rst_start (t : List UInt8) {w W : World} (hN : InsAt (Ins.none 0) w.heap.size W) (hE : EatAt (w.heap.size + 1) ⟨t.toArray⟩ false W) (hB : Below w.heap.size w W) :
    RSt W.heap.size (W.heap.size + 1) t (Ins.none 0) w ((W.alloc (.cells #[.int .i64 0, .int .i64 0, .int .i64 0, .int .i64 0, .int .i64 0, .bool false, .bool false, .int .i64 0, .int .i64 0] 23)).alloc (.cells #[.string ⟨#[]⟩, .string ⟨#[46, 97, 113]⟩, .string ⟨#[46, 114, 108]⟩, .string ⟨#[46, 97, 113, 114, 108]⟩] 9)) := by
  have h1 := hE.facts.1
  have bx := one_box W (.cells #[.int .i64 0, .int .i64 0, .int .i64 0, .int .i64 0, .int .i64 0, .bool false, .bool false, .int .i64 0, .int .i64 0] 23)
  have hi : InsAt (Ins.none 0) W.heap.size (W.alloc (.cells #[.int .i64 0, .int .i64 0, .int .i64 0, .int .i64 0, .int .i64 0, .bool false, .bool false, .int .i64 0, .int .i64 0] 23)) := heap_new W _
  have hs : (W.alloc (.cells #[.int .i64 0, .int .i64 0, .int .i64 0, .int .i64 0, .int .i64 0, .bool false, .bool false, .int .i64 0, .int .i64 0] 23)).heap.size = W.heap.size + 1 := by simp
  generalize W.alloc (.cells #[.int .i64 0, .int .i64 0, .int .i64 0, .int .i64 0, .int .i64 0, .bool false, .bool false, .int .i64 0, .int .i64 0] 23) = V at bx hi hs ⊢
  have bz := one_box V (.cells #[.string ⟨#[]⟩, .string ⟨#[46, 97, 113]⟩, .string ⟨#[46, 114, 108]⟩, .string ⟨#[46, 97, 113, 114, 108]⟩] 9)
  have he := heap_new V (.cells #[.string ⟨#[]⟩, .string ⟨#[46, 97, 113]⟩, .string ⟨#[46, 114, 108]⟩, .string ⟨#[46, 97, 113, 114, 108]⟩] 9)
  rw [hs] at he
  exact ⟨(hN.below bx hN.facts.1).below bz (by omega), (hE.below bx).below bz, hi.below bz (by omega), he, (hB.trans (bx.mono hB.size)).trans (bz.mono (Nat.le_trans hB.size bx.size)), by omega, by omega⟩
theorem eat_new (t : List UInt8) (w : World) : EatAt (w.heap.size + 1) ⟨t.toArray⟩ false ((w.alloc (.cells #[.int .i64 0, .int .i64 0, .int .i64 0, .int .i64 0, .int .i64 0, .bool false, .bool false, .int .i64 0, .int .i64 0] 23)).alloc (.cells #[.string ⟨t.toArray⟩, .bool false] 96)) := by
  have hs : (w.alloc (.cells #[.int .i64 0, .int .i64 0, .int .i64 0, .int .i64 0, .int .i64 0, .bool false, .bool false, .int .i64 0, .int .i64 0] 23)).heap.size = w.heap.size + 1 := by simp
  have h := heap_new (w.alloc (.cells #[.int .i64 0, .int .i64 0, .int .i64 0, .int .i64 0, .int .i64 0, .bool false, .bool false, .int .i64 0, .int .i64 0] 23)) (.cells #[.string ⟨t.toArray⟩, .bool false] 96)
  rw [hs] at h
  exact h


/-- the loop over the ends: behind its k-th round -/
def RdWay (y g : Nat) (t : List UInt8) (f : Nat → Ins) (w : World) (x : Value) (W : World) : Prop := (x = .int .i64 0 ∧ RSt y g t (f 0) w W) ∨ (x = .int .i64 1 ∧ RSt y g t (f 1) w W) ∨ (x = .int .i64 2 ∧ RSt y g t (f 2) w W) ∨ (x = .int .i64 3 ∧ RSt y g t (f 3) w W) ∨ (x = .int .i64 4 ∧ RSt y g t (f 4) w W)
theorem RSt.cells {y g : Nat} {t : List UInt8} {i : Ins} {w W : World} (h : RSt y g t i w W) : g < W.heap.size ∧ W.cell? ⟨g, 0, none⟩ = some (.string ⟨#[]⟩) ∧ W.cell? ⟨g, 1, none⟩ = some (.string ⟨#[46, 97, 113]⟩) ∧ W.cell? ⟨g, 2, none⟩ = some (.string ⟨#[46, 114, 108]⟩) ∧ W.cell? ⟨g, 3, none⟩ = some (.string ⟨#[46, 97, 113, 114, 108]⟩) := by
  have f := h.facts.2.2.1
  exact ⟨(Array.getElem?_eq_some_iff.1 h.ends).1, f.1, f.2.1, f.2.2.1, f.2.2.2⟩
theorem RSt.op3 {y g : Nat} {t : List UInt8} {i : Ins} {w W : World} (h : RSt y g t i w W) (x : Int) (a b : Bool) : RSt y g t { i with op := x, aq := a, rl := b } w (((W.setCell ⟨y, 0, none⟩ (.int .i64 x)).setCell ⟨y, 5, none⟩ (.bool a)).setCell ⟨y, 6, none⟩ (.bool b)) := ((h.op x).aq a).rl b
theorem RSt.drew {y g : Nat} {t : List UInt8} {i : Ins} {w W : World} (h : RSt y g t i w W) : RSt y g t i w W.drew := ⟨h.res, h.eat, h.ins, h.ends, h.bel.drew, h.y1, h.gy⟩
theorem RSt.drewN {y g : Nat} {t : List UInt8} {i : Ins} {w W : World} (h : RSt y g t i w W) (n : Nat) : RSt y g t i w (W.drewN n) := ⟨h.res, h.eat, h.ins, h.ends, below_drewN h.bel n, h.y1, h.gy⟩
theorem oth_stored' (n : Nat) (W : World) (j : Ins) : Oth n W (stored W n j) := by
  unfold stored
  exact ((((((((Oth.setCell _ _ _ _).trans (Oth.setCell _ _ _ _)).trans (Oth.setCell _ _ _ _)).trans (Oth.setCell _ _ _ _)).trans (Oth.setCell _ _ _ _)).trans (Oth.setCell _ _ _ _)).trans (Oth.setCell _ _ _ _)).trans (Oth.setCell _ _ _ _)).trans (Oth.setCell _ _ _ _)
theorem RSt.is {y g : Nat} {t : List UInt8} {i j : Ins} {w W : World} (h : RSt y g t i w W) (e : i = j) : RSt y g t j w W := e ▸ h
end Go.Proofs.YtbchecnidiiddaaGreatDoor
