/-
  Proved here: what stands behind the steps of TaintLocal. No condition.
-/
import Derived.Test.YtfbnijcmfaeoeaaTaintLocalBase
import Derived.Test.YtfbnijcmfaeoeaaInsnPick
import Derived.Deep.RegionHeld3
import Derived.Deep.CutBlock
import Derived.Deep.DeepCutAuto
namespace Go.Proofs.Ytfbnijcmfaeoeaa
set_option linter.unusedVariables false
open Go.RowKit
attribute [local go_sem ↓] fold_T fold_I fold_ST fold_SD

theorem L5.drew {t : Ta} {l : Tl} {i : Ins} {l2 : Tl} {al dl yl : List Int} {p q : Nat} {tx : Ta} {ta td ty : Value} {w W : World} (h : L5 t l i l2 al dl yl p q tx ta td ty w W) : L5 t l i l2 al dl yl p q tx ta td ty w W.drew := h.on (Below.refl _ _).drew
theorem L5.drewN {t : Ta} {l : Tl} {i : Ins} {l2 : Tl} {al dl yl : List Int} {p q : Nat} {tx : Ta} {ta td ty : Value} {w W : World} (h : L5 t l i l2 al dl yl p q tx ta td ty w W) (m : Nat) : L5 t l i l2 al dl yl p q tx ta td ty w (W.drewN m) := h.on ⟨rfl, rfl, rfl, Nat.le_refl _, fun _ _ => rfl⟩
theorem L5.four {t : Ta} {l : Tl} {i : Ins} {l2 : Tl} {al dl yl : List Int} {p q : Nat} {tx : Ta} {ta td ty : Value} {w W : World} (h : L5 t l i l2 al dl yl p q tx ta td ty w W) : (LoadT (.pointer (some ⟨p, 0, none⟩))).run Try.prog W = .ok tx.V W ∧ W.cell? ⟨p, 32, none⟩ = some tx.way ∧ W.cell? ⟨w.heap.size, 32, none⟩ = some t.way ∧ W.cell? ⟨q, 2, none⟩ = some ty :=
  ⟨run_LoadT h.x, h.x.cw, h.both.at0.cw, h.d.facts.2.2.2.1⟩
theorem put_reads {W : World} {t : Ta} {l : Tl} {k : Nat} {v : Value} {o : List Int} (hk : k < 32) (h : TReads W t l) (hv : ReadsI W v o) : TReads W (t.put k v) (l.put k o) := by
  refine ⟨fun j hj => ?_, h.w⟩
  rw [Ta.put_v t k v hk j, Tl.put_x l k o hk j]
  split
  · exact hv
  · exact h.x j hj
theorem put_short {l : Tl} {k : Nat} {o : List Int} (hk : k < 32) (h : l.short) (ho : o.length ≤ 10000) : (l.put k o).short := by
  refine ⟨fun j hj => ?_, h.2⟩
  rw [Tl.put_x l k o hk j]
  split
  · exact ho
  · exact h.1 j hj
theorem Got.drew {B g : Nat} {t : Ta} {l2 : Tl} {a d y : Value} {al dl yl : List Int} {W : World} (h : Got B g t l2 a d y al dl yl W) : Got B g t l2 a d y al dl yl W.drew := h.on (Below.refl _ _).drew
theorem ten {t : Ta} {l : Tl} {i : Ins} {l2 l3 : Tl} {al dl yl al3 dl3 yl3 : List Int} {p q h dm r1 : Nat} {tx t3 : Ta} {ta td ty fa fd fy : Value} {w W : World} (G : L5 t l i l2 al dl yl p q tx ta td ty w W) (H : Got 0 h t3 l3 fa fd fy al3 dl3 yl3 W) (h1 : dm < 32) (h2 : r1 < 32) :
    W.cell? ⟨q, 0, none⟩ = some ta ∧ W.cell? ⟨q, 1, none⟩ = some td ∧ W.cell? ⟨q, 2, none⟩ = some ty ∧ W.cell? ⟨h + 1, 0, none⟩ = some fa ∧ W.cell? ⟨h + 1, 1, none⟩ = some fd ∧ W.cell? ⟨h + 1, 2, none⟩ = some fy ∧ W.cell? ⟨h, 32, none⟩ = some t3.way ∧ W.cell? ⟨p, 32, none⟩ = some tx.way ∧ W.cell? ⟨h, dm, none⟩ = some (t3.v dm) ∧ W.cell? ⟨p, dm, none⟩ = some (tx.v dm) ∧ W.cell? ⟨h, r1, none⟩ = some (t3.v r1) :=
  ⟨G.d.facts.2.1, G.d.facts.2.2.1, G.d.facts.2.2.2.1, H.deps.facts.2.1, H.deps.facts.2.2.1, H.deps.facts.2.2.2.1, H.box.cw, G.x.cw, H.box.cx dm h1, G.x.cx dm h1, H.box.cx r1 h2⟩
theorem deps_e (a d y a2 d2 y2 : Value) (al dl yl yl2 : List Int) (w : World) (h3 : Hid (yl = yl2)) (ha : ReadsI w a al) (hd : ReadsI w d dl) (hy : ReadsI w y yl) (ha2 : ReadsI w a2 al) (hd2 : ReadsI w d2 dl) (hy2 : ReadsI w y2 yl2) (hn : Hid (al.length ≤ 10000 ∧ dl.length ≤ 10000 ∧ yl.length ≤ 10000)) :
    Calls Try.prog 12 #[.agg #[a, d, y], .agg #[a2, d2, y2]] w fun e w' => SameOk w true e w' :=
  deps_yes a d y a2 d2 y2 al dl yl al dl yl2 w (Lib.hid rfl) (Lib.hid rfl) h3 ha hd hy ha2 hd2 hy2 (Nat.le_trans hn.out.1 (by omega)) (Nat.le_trans hn.out.2.1 (by omega)) (Nat.le_trans hn.out.2.2 (by omega))
theorem same_r (va vb : Value) (a : List Int) (w : World) (ha : ReadsI w va a) (hb : ReadsI w vb a) (hn : Hid (a.length ≤ 10000)) : Calls Try.prog 17 #[va, vb] w fun e w' => SameOk w true e w' :=
  same_yes va vb a a w (Lib.hid rfl) ha hb (Nat.le_trans hn.out (by omega))
theorem same_e (va vb : Value) (a b : List Int) (w : World) (h : Hid (a = b)) (ha : ReadsI w va a) (hb : ReadsI w vb b) (hn : Hid (a.length ≤ 10000)) : Calls Try.prog 17 #[va, vb] w fun e w' => SameOk w true e w' :=
  same_yes va vb a b w h ha hb (Nat.le_trans hn.out (by omega))
end Go.Proofs.Ytfbnijcmfaeoeaa
