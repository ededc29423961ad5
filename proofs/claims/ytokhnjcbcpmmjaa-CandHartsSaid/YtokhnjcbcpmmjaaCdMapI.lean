/-
  Words: a map of the call's own from ints to ints, and what it holds. No condition.
-/
import Derived.Test.YtokhnjcbcpmmjaaCdTurn
import Derived.Maps.OwnOps
import Derived.Maps.OwnSet
namespace Go.Proofs.Ytokhnjcbcpmmjaa
set_option linter.unusedVariables false
set_option linter.unusedSimpArgs false
open Go.RowKit Go.Maps

theorem law_int : Keyed Try.prog 3 := int_keyed Try.underlying3
abbrev OMi (b n : Nat) (D : DataW Unit) (w : World) : Prop := w.ownsMap Try.prog 3 (plainElem (H := Unit) Try.prog 3) b n D
theorem OMi.on {b n : Nat} {D : DataW Unit} {w w' : World} (h : OMi b n D w) (hb : Below w.heap.size w w') : OMi b n D w' := by
  obtain ⟨es, clock, h1, h2⟩ := h
  exact ⟨es, clock, (hb.block b (Array.getElem?_eq_some_iff.1 h1).1).trans h1, h2⟩
theorem OMi.blk {b n : Nat} {D : DataW Unit} {w w' : World} (h : OMi b n D w) (hb : w'.heap[b]? = w.heap[b]?) : OMi b n D w' := by
  obtain ⟨es, clock, h1, h2⟩ := h
  exact ⟨es, clock, hb.trans h1, h2⟩
theorem OMi.lt {b n : Nat} {D : DataW Unit} {w : World} (h : OMi b n D w) : b < w.heap.size := by
  obtain ⟨es, clock, h1, _⟩ := h
  exact (Array.getElem?_eq_some_iff.1 h1).1
/-- the map holds the new numbers below t, and no others -/
structure MetI (B N t : Nat) (D : DataW Unit) : Prop where
  tidy : Tidy D
  size : Maps.size D = t
  at_ : ∀ x : Nat, x < N → nowN B N x < t → ∀ zd, D.atKey (.int .i64 x) zd = .lit (.int .i64 (nowN B N x))
  no : ∀ x : Nat, x < N → t ≤ nowN B N x → Maps.has D (.int .i64 x) = false
theorem MetI.start (B N : Nat) : MetI B N 0 (.map []) := ⟨tidy_empty, rfl, fun x _ h => absurd h (by omega), fun x _ _ => rfl⟩
theorem MetI.put {B N t : Nat} {D : DataW Unit} (h : MetI B N t D) (hB : B ≤ N) (x : Nat) (hx : x < N) (ht : nowN B N x = t) : MetI B N (t + 1) (D.put (.int .i64 x) (.lit (.int .i64 t))) := by
  refine ⟨h.tidy.put (by unfold WideAt.IsKeyLit; trivial) _, ?_, fun y hy hl zd => ?_, fun y hy hl => ?_⟩
  · rw [size_put h.tidy, h.no x hx (by omega), h.size]; rfl
  · by_cases e : y = x
    · subst e
      rw [atKey_put_same h.tidy.isMap (by unfold WideAt.IsKeyLit; trivial), ht]
    · rw [atKey_put_other (by simpa using fun e2 => e (by omega))]
      refine h.at_ y hy ?_ zd
      have := (nowN_inj (m := y) (k := x) hB hy hx)
      have : nowN B N y ≠ t := fun e2 => e (this.1 (by omega))
      omega
  · rw [has_put_other (by simpa using fun e2 => (by have : y = x := by omega
                                                    subst this
                                                    omega))]
    exact h.no y hy (by omega)
theorem zero_int (w : World) : (zeroValue 3).run Try.prog w = .ok (.int .i64 0) w := by kernel_rfl
set_option maxRecDepth 100000 in
theorem wf_small {x : Nat} (h : x ≤ 1000) : (Lit.int .i64 (x : Int)).wf = true := by
  simp [Lit.wf, IntKind.min, IntKind.max, IntKind.bits, IntKind.signed]
  omega
/-- now[x] -/
theorem look_now {B N t n M : Nat} {D : DataW Unit} {w : World} (h : MetI B N t D) (ho : OMi M n D w) (x : Nat) (hx : x < N) (ht : nowN B N x < t) (h1000 : N ≤ 1000) : (Instr.lookup 36 (.map (some M)) (.int .i64 (x : Int)) false).run Try.prog w = .ok (.int .i64 (nowN B N x : Int)) w := by
  obtain ⟨c, hrun, hat, _⟩ := ho.lookup_int law_int Try.underlying36 Try.underlying3 (zero_int w) (keyOf_int_mk Try.underlying3 (wf_small (by omega : x ≤ 1000)))
  rw [h.at_ x hx ht] at hat
  have h2 : (nowN B N x : Int) = c := by simpa only [DataW.lit.injEq, Lit.int.injEq, true_and] using hat
  rw [← h2] at hrun
  exact hrun
end Go.Proofs.Ytokhnjcbcpmmjaa
