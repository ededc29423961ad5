/-
  Proved here: cand's Number answers the number of a hart's event, First what memory had somewhere; nothing that was there is changed. Condition: a light candidate.
  (With it: Proved here: the kit's LightCand; nothing that was there is changed. Condition: none but that a candidate lies there.)
-/
import Derived.Test.YtmdjkeplfdkoeaaDoorCdNumbered
import Derived.Test.YtmdjkeplfdkoeaaDoorEvRowWords
import Derived.Test.YtmdjkeplfdkoeaaDoorCdLook
namespace Go.Proofs.YtmdjkeplfdkoeaaDoor
set_option linter.unusedVariables false
set_option linter.unusedSimpArgs false
open Go.RowKit
attribute [local go_sem ↓] fold_E fold_SE

/-- little in the first k rows -/
def smallTo (c : Cd) (k : Nat) : Prop := ∀ h, h < k → c.len h ≤ 60 ∧ ∀ j, j < c.len h → small (c.el h j)
theorem smallTo.base {c : Cd} : ∀ (k : Nat), smallTo c k → baseL c.len k ≤ k * 60
  | 0, _ => by simp [baseL]
  | k + 1, h => by
    have ih := smallTo.base k (fun j hj => h j (by omega))
    have h1 := (h k (by omega)).1
    show baseL c.len k + c.len k ≤ _
    omega
structure Lw (c : Cd) : Prop where
  nh : c.nh ≤ 9
  n : c.N ≤ 60
  small : smallTo c c.nh
  fs : c.fs.length ≤ 60
  fr : c.fr.length ≤ 120
  od : c.od.length ≤ 120
def LightC (c : Cd) (w : World) (e : Ending) (w' : World) : Prop := ∃ r, e = .returned (.bool r) ∧ (r = true → Lw c) ∧ Below w.heap.size w w'
theorem LightC.no {c : Cd} {w w' : World} (hb : Below w.heap.size w w') : LightC c w (.returned (.bool false)) w' := ⟨false, rfl, (fun h => by cases h), hb⟩
end Go.Proofs.YtmdjkeplfdkoeaaDoor
namespace Go.Proofs.YtmdjkeplfdkoeaaDoor
set_option linter.unusedVariables false
set_option linter.unusedSimpArgs false
open Go.RowKit
attribute [local go_sem ↓] fold_E fold_SE

def NumbIs (w : World) (n x : Int) (e : Ending) (w' : World) : Prop := e = .returned (.tuple #[.int .i64 n, .int .i64 x]) ∧ Below w.heap.size w w'
end Go.Proofs.YtmdjkeplfdkoeaaDoor
