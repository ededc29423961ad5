/-
  Proved here: the kit's LightDeps, the document's Rising, the law's below, the kit's Deps; nothing that was there is changed. Condition: lists of at most 100,000 numbers.
  (With it: Proved here: the kit's Own and OwnDeps once more, telling also that the new lists lie in rows of ints. Condition: lists of at most 100,000 numbers.)
-/
import Derived.Test.YtokhnjcbcpmmjaaEvDeps
import Derived.Deep.RegionHeld3
import Derived.Deep.DeepCutAuto
namespace Go.Proofs.Ytokhnjcbcpmmjaa
set_option linter.unusedVariables false
set_option linter.unusedSimpArgs false
open Go.RowKit
attribute [local go_sem ↓] fold_E fold_SE fold_SD

/-- a slice that lies in a row of ints -/
def TypedI (w : World) (v : Value) : Prop := ∀ g, v.ownBlock = some g → ∃ cs, w.heap[g]? = some (.cells cs 3 (0, 0))
theorem TypedI.nil (w : World) : TypedI w (.slice none 0 0) := fun g h => by simp [Value.ownBlock] at h
theorem TypedI.on {w w' : World} {v : Value} (h : TypedI w v) (hb : Below w.heap.size w w') : TypedI w' v := fun g hg => by
  obtain ⟨cs, hc⟩ := h g hg
  exact ⟨cs, (hb.block g (Array.getElem?_eq_some_iff.1 hc).1).trans hc⟩
theorem typed_of_own {w : World} {base n : Nat} {v : Value} {xs : List Value} (h : w.ownsRow base 3 1 v n xs) : TypedI w v := fun g hg => by
  rcases h.2 with ⟨rfl, _⟩ | ⟨g', cap, cur, rfl, _, hgg, _⟩
  · simp [Value.ownBlock] at hg
  · simp [Value.ownBlock] at hg
    subst hg
    exact ⟨cur, hgg⟩
def MergedT (w : World) (M : List Int) (e : Ending) (w' : World) : Prop := ∃ v, e = .returned v ∧ ReadsN w.heap.size w' v M ∧ TypedI w' v ∧ Below w.heap.size w w'
set_option maxRecDepth 100000 in
set_option maxHeartbeats 2000000 in
theorem ownT_any (v : Value) (zs : List Int) (w : World) (h : ReadsI w v zs) (hlen : zs.length ≤ 100000) : Calls Try.prog 38 #[v] w fun e w' => MergedT w zs e w' := by
  have HR := Lib.hid (h.alloc (.cells #[] 3))
  have HO := Lib.hid (World.ownsRow_made (base := w.heap.size) (e := 3) (size := 1) w #[] 0 (Nat.le_refl _) (by unfold maxLen; omega) (by simp))
  have HB := Lib.hid (box_below w (.cells #[] 3))
  clear h
  go_enter Try.func38, Try.ntmps38
  go_wp2_with (refine append_reads rfl (.tmp 3) (.tmp 4) rfl w.heap.size _ [] zs rfl HO.out _ rfl HR.out (by simp; omega) HB.out.size ?_; intro v1 w1 hw1 hg1; have H1 := Lib.hid hw1; have HB1 := Lib.hid (HB.out.grown hg1 HB.out.size (fun k hk => (HO.out.lt k hk).1)); clear hw1 hg1)
  go_ret
  exact ⟨_, rfl, readsN_of_own H1.out, typed_of_own H1.out, HB1.out⟩
def TypedD (w : World) (a d y : Value) : Prop := TypedI w a ∧ TypedI w d ∧ TypedI w y
theorem TypedD.on {w w' : World} {a d y : Value} (h : TypedD w a d y) (hb : Below w.heap.size w w') : TypedD w' a d y := ⟨h.1.on hb, h.2.1.on hb, h.2.2.on hb⟩
def DepsT (w : World) (al dl yl : List Int) (e : Ending) (w' : World) : Prop := ∃ a d y, e = .returned (.agg #[a, d, y]) ∧ DepsN w.heap.size w' a d y al dl yl ∧ TypedD w' a d y ∧ Below w.heap.size w w'
theorem typed_row {W : World} {n g : Nat} {v : Value} {zs : List Int} {cs : Array Value} (h : TypedI W v) (hr : ReadsN n W v zs) (hg : g < n) : TypedI (W.setRow g cs) v := fun k hk => by
  obtain ⟨c, hc⟩ := h k hk
  exact ⟨c, (setRow_other _ _ _ _ (by have := hr.2 k hk; omega)).trans hc⟩
set_option maxRecDepth 100000 in
set_option maxHeartbeats 4000000 in
theorem ownDepsT_any (a d y : Value) (al dl yl : List Int) (w : World) (ha : ReadsI w a al) (hd : ReadsI w d dl) (hy : ReadsI w y yl) (na : al.length ≤ 100000) (nd : dl.length ≤ 100000) (ny : yl.length ≤ 100000) :
    Calls Try.prog 28 #[.agg #[a, d, y]] w fun e w' => DepsT w al dl yl e w' := by
  have S0 := Lib.hid (Ow.start a d y al dl yl w ha hd hy)
  clear ha hd hy
  go_enter Try.func28, Try.ntmps28
  go_upto_region 1 with fail
  obtain ⟨W, hW⟩ : ∃ W, Hid ((w.alloc (.cells #[a, d, y] 40)).alloc (.cells #[.slice none 0 0, .slice none 0 0, .slice none 0 0] 40) = W) := ⟨_, Lib.hid rfl⟩
  rw [hW.out] at S0 ⊢
  clear hW
  obtain ⟨f0, f1, f2⟩ := S0.out.f3
  go_region_held3 (fun w' => w'.cell? ⟨w.heap.size, 0, none⟩ = some a ∧ w'.cell? ⟨w.heap.size, 1, none⟩ = some d ∧ w'.cell? ⟨w.heap.size, 2, none⟩ = some y)
    (first | exact S0.out.drew.f3 | exact S3.out.f3set _ | exact S3.out.f3 | exact S2.out.f3 | exact S1.out.f3)
    ((first
      | (go_at_call 38; (with_reducible refine (ownT_any a al _ S0.out.drew.ra na).mono ?_); rintro e w1 ⟨v1, rfl, h1, t1, hb⟩; obtain ⟨a1, c1, rfl⟩ := h1.1.len; have V1 := Lib.hid (h1.mono S0.out.drew.lt); have T1 := Lib.hid t1; have S1 := Lib.hid (S0.out.drew.on hb); clear h1 hb t1)
      | (go_at_call 38; (with_reducible refine (ownT_any d dl _ S1.out.rd nd).mono ?_); rintro e w2 ⟨v2, rfl, h2, t2, hb⟩; obtain ⟨a2, c2, rfl⟩ := h2.1.len; have V2 := Lib.hid (h2.mono S1.out.lt); have T2 := Lib.hid t2; have S2 := Lib.hid (S1.out.on hb); have V12 := Lib.hid (V1.out.on hb); have T12 := Lib.hid (T1.out.on hb); clear h2 hb t2)
      | (go_at_call 38; (with_reducible refine (ownT_any y yl _ S2.out.ry ny).mono ?_); rintro e w3 ⟨v3, rfl, h3, t3, hb⟩; obtain ⟨a3, c3, rfl⟩ := h3.1.len; have V3 := Lib.hid (h3.mono S2.out.lt); have T3 := Lib.hid t3; have S3 := Lib.hid (S2.out.on hb); have V13 := Lib.hid (V12.out.on hb); have V23 := Lib.hid (V2.out.on hb); have T13 := Lib.hid (T12.out.on hb); have T23 := Lib.hid (T2.out.on hb); clear h3 hb t3; have run1 := run_StoreD S3.out.res V13.out.one V23.out.one V3.out.one)))
  have hst := Lib.hid (S3.out.done ⟨V13.out, V23.out, V3.out⟩)
  have hty := Lib.hid (show TypedD (w3.setRow (w.heap.size + 1) #[.slice a1 al.length c1, .slice a2 dl.length c2, .slice a3 yl.length c3]) (.slice a1 al.length c1) (.slice a2 dl.length c2) (.slice a3 yl.length c3) from ⟨typed_row T13.out V13.out (by omega), typed_row T23.out V23.out (by omega), typed_row T3.out V3.out (by omega)⟩)
  go_wp2
  refine bodyPost_ret (deps_end rfl rfl hst.out.2) rfl ?_
  obtain ⟨x1, x2, x3, he, hN, hB⟩ := hst.out.1
  refine ⟨_, _, _, rfl, ?_, hty.out, hB⟩
  simp only [Ending.returned.injEq, Value.agg.injEq, Array.mk.injEq, List.cons.injEq, and_true] at he
  obtain ⟨rfl, rfl, rfl⟩ := he
  exact hN
end Go.Proofs.Ytokhnjcbcpmmjaa
namespace Go.Proofs.Ytokhnjcbcpmmjaa
set_option linter.unusedVariables false
set_option linter.unusedSimpArgs false
open Go.RowKit
attribute [local go_sem ↓] fold_E fold_SE

theorem light_any (a d y : Option Addr) (n1 n2 n3 c1 c2 c3 : Nat) (m : Nat) (w : World) : Calls Try.prog 21 #[.agg #[.slice a n1 c1, .slice d n2 c2, .slice y n3 c3], .int .i64 (m : Int)] w fun e w' => SameOk w (decide (n1 ≤ m) && (decide (n2 ≤ m) && decide (n3 ≤ m))) e w' := by
  by_cases h1 : n1 ≤ m
  · by_cases h2 : n2 ≤ m
    · by_cases h3 : n3 ≤ m
      · have e : Hid ((decide (n1 ≤ m) && (decide (n2 ≤ m) && decide (n3 ≤ m))) = true) := Lib.hid (by simp [h1, h2, h3])
        rw [e.out]
        go_enter Try.func21, Try.ntmps21
        go_wp2
        go_ret
        exact ⟨rfl, box_below _ _⟩
      · have e : Hid ((decide (n1 ≤ m) && (decide (n2 ≤ m) && decide (n3 ≤ m))) = false) := Lib.hid (by simp [h3])
        rw [e.out]
        have h3' : decide (n3 ≤ m) = false := decide_eq_false h3
        go_enter Try.func21, Try.ntmps21
        go_wp2
        go_ret
        exact ⟨rfl, box_below _ _⟩
    · have e : Hid ((decide (n1 ≤ m) && (decide (n2 ≤ m) && decide (n3 ≤ m))) = false) := Lib.hid (by simp [h2])
      rw [e.out]
      have h2' : decide (n2 ≤ m) = false := decide_eq_false h2
      go_enter Try.func21, Try.ntmps21
      go_wp2
      go_ret
      exact ⟨rfl, box_below _ _⟩
  · have e : Hid ((decide (n1 ≤ m) && (decide (n2 ≤ m) && decide (n3 ≤ m))) = false) := Lib.hid (by simp [h1])
    rw [e.out]
    have h1' : decide (n1 ≤ m) = false := decide_eq_false h1
    go_enter Try.func21, Try.ntmps21
    go_wp2
    go_ret
    exact ⟨rfl, box_below _ _⟩
end Go.Proofs.Ytokhnjcbcpmmjaa
