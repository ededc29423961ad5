/-
  Proved here: the law EventRows answers true of rows; nothing that was there is changed. Condition: the tables of strconv and math/bits as the library lays them; numbers of 64 bits.
-/
import Derived.Test.YtjdfhohchicgbaaDoorEvRowsSkip
import Derived.Maps.OwnOps
import Derived.Maps.OwnSet
namespace Go.Proofs.YtjdfhohchicgbaaDoor
open Go.RowKit Go.Maps
attribute [local go_sem ↓] fold_E fold_SE

theorem law_int : Keyed Tryd.prog 3 := int_keyed Tryd.underlying3
theorem zero_int (w : World) : (zeroValue 3).run Tryd.prog w = .ok (.int .i64 0) w := by kernel_rfl
theorem EvIn.four {e : Ev} {b o : Nat} {w : World} (h : EvIn e b o w) : w.cell? ⟨b, o, none⟩ = some (.int .i64 e.hart) ∧ w.cell? ⟨b, o + 1, none⟩ = some (.int .i64 e.pos) ∧ w.cell? ⟨b, o + 2, none⟩ = some (.int .i64 e.kind) ∧ w.cell? ⟨b, o + 10, none⟩ = some (.int .i64 e.pair) := ⟨h 0 _ rfl, h 1 _ rfl, h 2 _ rfl, h 10 _ rfl⟩
abbrev OM (b n : Nat) (D : DataW Unit) (w : World) : Prop := w.ownsMap Tryd.prog 3 (plainElem (H := Unit) Tryd.prog 3) b n D
theorem OM.on {b n : Nat} {D : DataW Unit} {w w' : World} (h : OM b n D w) (hb : Below w.heap.size w w') : OM b n D w' := by
  obtain ⟨es, clock, h1, h2⟩ := h
  exact ⟨es, clock, (hb.block b (Array.getElem?_eq_some_iff.1 h1).1).trans h1, h2⟩
theorem OM.more {b n : Nat} {D : DataW Unit} {w : World} (h : OM b n D w) : OM b (n + 1) D w := by
  obtain ⟨es, clock, h1, h2, h3, h4⟩ := h
  exact ⟨es, clock, h1, h2, by omega, h4⟩
/-- the pairs met so far, and no others, are in the map -/
def Fresh (ev : Nat → Ev) (k : Nat) (D : DataW Unit) : Prop := IsMap D ∧ ∀ z : Int, (∀ j, j < k → (ev j).kind = 4 → (ev j).pair ≠ z) → D.atKey (.int .i64 z) (.lit (.int .i64 0)) = .lit (.int .i64 0)
theorem Fresh.start (ev : Nat → Ev) : Fresh ev 0 (.map []) := ⟨⟨_, rfl⟩, fun _ _ => rfl⟩
theorem Fresh.skip {ev : Nat → Ev} {k : Nat} {D : DataW Unit} (h : Fresh ev k D) : Fresh ev (k + 1) D := ⟨h.1, fun z hz => h.2 z (fun j hj => hz j (by omega))⟩
theorem Fresh.put {ev : Nat → Ev} {k : Nat} {D : DataW Unit} (h : Fresh ev k D) (m : Int) (h4 : (ev k).kind = 4) (hm : (ev k).pair = m) : Fresh ev (k + 1) (D.put (.int .i64 m) (.lit (.int .i64 1))) := by
  refine ⟨?_, fun z hz => ?_⟩
  · obtain ⟨l, rfl⟩ := h.1
    exact ⟨_, rfl⟩
  · have hne : z ≠ m := fun e => hz k (by omega) h4 (by rw [hm, e])
    rw [atKey_put_other (by simpa using hne)]
    exact h.2 z (fun j hj => hz j (by omega))
end Go.Proofs.YtjdfhohchicgbaaDoor
