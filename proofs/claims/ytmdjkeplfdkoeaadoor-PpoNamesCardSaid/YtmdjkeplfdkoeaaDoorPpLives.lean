/-
  Proved here: the document's lives of chapter 10 answers true; nothing that was there is changed. No condition.
-/
import Derived.Test.YtmdjkeplfdkoeaaDoorPpEx
namespace Go.Proofs.YtmdjkeplfdkoeaaDoor
set_option linter.unusedVariables false
set_option linter.unusedSimpArgs false
open Go.RowKit Go.Maps
attribute [local go_sem ↓] fold_E fold_SE

theorem pC0_may : (pC []).may = true := by decide +kernel
theorem pC1_may : (pC [pF]).may = true := by decide +kernel
theorem pC0_ahead : aheadP (pC []) 0 1 = true := by decide +kernel
theorem pC1_ahead : aheadP (pC [pF]) 0 2 = true := by decide +kernel
theorem pC0_first : firstL (pC []) 0 1 = 0 := by decide +kernel
theorem pC1_first : firstL (pC [pF]) 0 2 = 4 := by decide +kernel
theorem pC_lt (es : List Ev) (hm : es.length ≤ 1) (hw : ∀ e ∈ es, WordE e) : Lt (pC es) where
  ew := fun h _ k hk => by
    show WordE (((pEs es)[k]?).getD zeroEv)
    have hk2 : k < (pEs es).length := by rw [pEs_len]; exact hk
    rw [List.getElem?_eq_getElem hk2]
    show WordE (pEs es)[k]
    have hmem := List.getElem_mem hk2
    unfold pEs at hmem
    rcases List.mem_append.1 hmem with h1 | h1
    · rcases List.mem_cons.1 h1 with h2 | h2
      · exact h2 ▸ ⟨by decide, by decide⟩
      · exact hw _ h2
    · rw [List.mem_singleton] at h1
      exact h1 ▸ ⟨by show (Lit.int .u64 16).wf = true; decide, by show (Lit.int .u64 0).wf = true; decide⟩
  nh := by show (1 : Nat) ≤ 9; omega
  n := by show 0 + (es.length + 2) ≤ 60; omega
  small := fun h _ => ⟨by show es.length + 2 ≤ 60; omega, fun k _ => ⟨Nat.zero_le _, Nat.zero_le _, Nat.zero_le _⟩⟩
  fs := Nat.zero_le _
  fr := by show (List.replicate (es.length + 2) (-1 : Int)).length ≤ 120; rw [List.length_replicate]; omega
  od := by show (2 : Nat) ≤ 120; omega
  fw := fun j hj => absurd hj (by show ¬ j < 0; omega)
theorem fence_any (w : World) : Calls Tryd.prog 5 #[.int .i64 1, .int .i64 2] w fun e w' => e = .returned (.slice (some ⟨w.heap.size, 0, none⟩) 1 1) ∧ w'.heap[w.heap.size]? = some (.cells pF.row.toArray 42 (0, 0)) ∧ Below w.heap.size w w' := by
  go_enter Tryd.func5, Tryd.ntmps5
  go_wp2
  go_ret
  exact ⟨rfl, Array.getElem?_push_size, box_below _ _⟩
theorem bt0 (w : World) : Bt [] none 0 w := ⟨by simp, .inl rfl, fun e he => by simp at he⟩
theorem bt1 {w : World} {g : Nat} (h : w.heap[g]? = some (.cells pF.row.toArray 42 (0, 0))) : Bt [pF] (some ⟨g, 0, none⟩) 1 w :=
  ⟨by simp, .inr ⟨_, rfl, fun i u hu => by
    rw [Addr.add_lit, Nat.zero_add, cell_of_row w g i _ _ _ h]
    unfold flat at hu
    rw [List.flatMap_cons, List.flatMap_nil, List.append_nil] at hu
    simpa using hu⟩, fun e he => by
    rw [List.mem_singleton] at he
    subst he
    exact ⟨rfl, rfl, rfl, by decide⟩⟩
set_option maxRecDepth 100000 in
set_option maxHeartbeats 4000000 in
theorem plives_any (w : World) : Calls Tryd.prog 7 #[] w fun e w' => SameOk w true e w' := by
  have K0 := Lib.hid (fun w0 => (show Calls Tryd.prog 4 #[.slice none 0 0] w0 fun e w' => ∃ q, e = .returned (cdV (pC []) q) ∧ CAt (pC []) q w' ∧ Below w0.heap.size w0 w' from pex_any [] none 0 w0 (bt0 w0)))
  have K1 := Lib.hid (fun g w0 (h0 : w0.heap[g]? = some (.cells pF.row.toArray 42 (0, 0))) => (show Calls Tryd.prog 4 #[.slice (some ⟨g, 0, none⟩) 1 1] w0 fun e w' => ∃ q, e = .returned (cdV (pC [pF]) q) ∧ CAt (pC [pF]) q w' ∧ Below w0.heap.size w0 w' from pex_any [pF] (some ⟨g, 0, none⟩) 1 w0 (bt1 h0)))
  have R0 := Lib.hid (fun q w0 (h0 : CAt (pC []) q w0) => (show Calls Tryd.prog 8 #[cdV (pC []) q, .int .i64 0, .int .i64 1] w0 fun e w' => FirstIs w0 0 e w' from by
    have := Rule_ahead (pC []) q w0 (pC_lt [] (by simp) (fun e he => by simp at he)) h0 pC0_may 0 1 (by decide) (by decide) pC0_ahead
    rw [pC0_first] at this
    exact this))
  have R1 := Lib.hid (fun q w0 (h0 : CAt (pC [pF]) q w0) => (show Calls Tryd.prog 8 #[cdV (pC [pF]) q, .int .i64 0, .int .i64 2] w0 fun e w' => FirstIs w0 4 e w' from by
    have := Rule_ahead (pC [pF]) q w0 (pC_lt [pF] (by simp) (fun e he => by rw [List.mem_singleton] at he; subst he; exact ⟨by decide, by decide⟩)) h0 pC1_may 0 2 (by decide) (by decide) pC1_ahead
    rw [pC1_first] at this
    exact this))
  have KF := Lib.hid (fun w0 => fence_any w0)
  go_enter Tryd.func7, Tryd.ntmps7
  go_wp2_with (first
    | (go_at_call 4; (with_reducible refine (K0.out _).mono ?_); rintro e' w1 ⟨q1, rfl, hc, hb⟩; have C1 := Lib.hid hc; have L1 := Lib.hid hb; clear hc hb)
    | (go_at_call 8; (with_reducible refine (R0.out q1 _ C1.out).mono ?_); rintro e' w2 ⟨rfl, hb⟩; have L2 := Lib.hid (L1.out.trans (hb.mono L1.out.size)); clear hb)
    | (go_at_call 5; (with_reducible refine (KF.out _).mono ?_); rintro e' w3 ⟨rfl, hc, hb⟩; have C3 := Lib.hid hc; have L3 := Lib.hid (L2.out.trans (hb.mono L2.out.size)); clear hc hb)
    | (go_at_call 4; (with_reducible refine (K1.out _ _ C3.out).mono ?_); rintro e' w4 ⟨q4, rfl, hc, hb⟩; have C4 := Lib.hid hc; have L4 := Lib.hid (L3.out.trans (hb.mono L3.out.size)); clear hc hb)
    | (go_at_call 8; (with_reducible refine (R1.out q4 _ C4.out).mono ?_); rintro e' w5 ⟨rfl, hb⟩; have L5 := Lib.hid (L4.out.trans (hb.mono L4.out.size)); clear hb))
  go_ret
  exact ⟨rfl, L5.out⟩
end Go.Proofs.YtmdjkeplfdkoeaaDoor
