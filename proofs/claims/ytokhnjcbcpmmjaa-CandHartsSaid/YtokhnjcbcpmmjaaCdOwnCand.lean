/-
  Proved here: the kit's OwnCand answers a candidate of the call's own; nothing that was there is changed. Condition: a light candidate.
-/
import Derived.Test.YtokhnjcbcpmmjaaCdKeep
namespace Go.Proofs.Ytokhnjcbcpmmjaa
set_option linter.unusedVariables false
set_option linter.unusedSimpArgs false
open Go.RowKit
attribute [local go_sem ↓] fold_E fold_SE

def StoreC (x y : Value) : Sem Unit := Instr.storeAt 26 x y
theorem fold_SC (x y : Value) : Instr.storeAt 26 x y = StoreC x y := rfl
attribute [local go_sem ↓] fold_SC
def CBox (v0 v1 v2 v3 : Value) (n : Nat) (w : World) : Prop := w.heap[n]? = some (.cells #[v0, v1, v2, v3] 26 (0, 0))
theorem CBox.new (v0 v1 v2 v3 : Value) (w : World) : CBox v0 v1 v2 v3 w.heap.size (w.alloc (.cells #[v0, v1, v2, v3] 26)) := Array.getElem?_push_size
theorem CBox.lt {v0 v1 v2 v3 : Value} {n : Nat} {w : World} (h : CBox v0 v1 v2 v3 n w) : n < w.heap.size := (Array.getElem?_eq_some_iff.1 h).1
theorem CBox.facts {v0 v1 v2 v3 : Value} {n : Nat} {w : World} (h : CBox v0 v1 v2 v3 n w) : w.cell? ⟨n, 0, none⟩ = some v0 ∧ w.cell? ⟨n, 1, none⟩ = some v1 ∧ w.cell? ⟨n, 2, none⟩ = some v2 ∧ w.cell? ⟨n, 3, none⟩ = some v3 :=
  ⟨by rw [cell_of_row w n 0 _ _ _ h]; rfl, by rw [cell_of_row w n 1 _ _ _ h]; rfl, by rw [cell_of_row w n 2 _ _ _ h]; rfl, by rw [cell_of_row w n 3 _ _ _ h]; rfl⟩
theorem run_StoreC {x0 x1 x2 x3 y0 y1 y2 y3 : Value} {n : Nat} {w : World} (H : CBox x0 x1 x2 x3 n w) (h0 : y0.oneCell' = true) (h1 : y1.oneCell' = true) (h2 : y2.oneCell' = true) (h3 : y3.oneCell' = true) : (StoreC (.pointer (some ⟨n, 0, none⟩)) (.agg #[y0, y1, y2, y3])).run Try.prog w = .ok () (w.setRow n #[y0, y1, y2, y3]) := by
  unfold StoreC Instr.storeAt Instr.sureAddr
  simp only [Sem.run_bind, Sem.run_pure, Result.andThen_ok]
  exact run_storeVar_row w n _ _ _ _ H (by as_aux_lemma => kernel_rfl) rfl (by simp [h0, h1, h2, h3])
theorem infoEvs : (Try.prog.info? 37).map (fun i => (i.zero, i.size, i.bytes)) = some (some (.slice none 0 0), 1, 24) := by kernel_rfl
theorem owns2_any (v : Value) (n : Nat) (ev : Nat → Ev) (el : Nat → El) (w : World) (h : RowV w v n ev el) (hn : n ≤ 60) (hs : ∀ k, k < n → small (el k)) : Calls Try.prog 9 #[v] w fun e w' => Owns2Is w n ev el e w' := by
  obtain ⟨a, c, rfl, hc, h0 | ⟨b, off, rfl, hr⟩⟩ := h
  · subst h0
    exact owns2_none a c ev el w
  · exact owns2_row n b off c ev el w hn ⟨hr.at_, hr.reads, fun k hk => (hs k hk).n, hr.low, hr.lt⟩
theorem own_mono {W : World} {base base2 size n : Nat} {e : TypeId} {v : Value} {xs : List Value} (h : W.ownsRow base e size v n xs) (hb : base2 ≤ base) : W.ownsRow base2 e size v n xs := by
  refine ⟨h.1, ?_⟩
  rcases h.2 with hn | ⟨g, cap, cur, rfl, hb1, rest⟩
  · exact .inl hn
  · exact .inr ⟨g, cap, cur, rfl, Nat.le_trans hb hb1, rest⟩
theorem CBox.on {v0 v1 v2 v3 : Value} {n : Nat} {w w2 : World} (h : CBox v0 v1 v2 v3 n w) (hb : Below w.heap.size w w2) : CBox v0 v1 v2 v3 n w2 := (hb.block n h.lt).trans h
end Go.Proofs.Ytokhnjcbcpmmjaa
