/-
  Proved here: slices.Grow of nil, and the package taint's merge: a new list of all of two that rise; nothing that was there is changed. Condition: at most 100,000 numbers.
-/
import Derived.Test.YtfbnijcmfaeoeaaGreatTaintCheck
import Derived.Test.YtfbnijcmfaeoeaaGreatShelf
import Derived.Lib.AppendZeros
import Derived.Deep.RegionHeld3
import Derived.Deep.AppendLies
import Derived.Deep.QuietTactic
import Derived.BigQuiet
namespace Go.Proofs.YtfbnijcmfaeoeaaGreat
open Go.RowKit

/-- append of what a slice reads as, to a row of the call's own -/
theorem append_reads {ops : Array Oper} {rest : List Oper} {o : Oper} {a : Act} {w : World} {Q : Exit → Act → World → Prop} (hgd : o.guard = none) (s x : Operand)
    (ho : o.op = .call { callee := .builtin .append, args := #[s, x], argTypes := #[22, 22] }) (base : Nat) (v : Value) (xs zs : List Int) (hs : a.eval s = v) (hown : w.ownsRow base 3 1 v xs.length (xs.map (Value.int .i64)))
    (vx : Value) (hx : a.eval x = vx) (hr : ReadsI w vx zs) (hlen : xs.length + zs.length ≤ 1000000) (hbase : base ≤ w.heap.size)
    (h : ∀ v' w', w'.ownsRow base 3 1 v' (xs ++ zs).length ((xs ++ zs).map (Value.int .i64)) → w.grownBy w' v.ownBlock → wpList Tryz.prog ops Q rest (a.put o.dst v') w') : wpList Tryz.prog ops Q (o :: rest) a w := by
  obtain ⟨i0, hi, hz0, hz1, hz2⟩ := info_parts infoInt
  rcases hr with ⟨⟨ad, c, rfl, hc0⟩, rfl⟩ | ⟨b, off, c, rfl, h1, h2, h3, h4⟩
  · cases ad with
    | none =>
      obtain rfl := hc0 rfl
      refine wpList_append_own_none hgd s x _ ho base 3 i0 1 Tryz.underlying22 hi v _ _ hs hown hx ?_
      exact h v w (by simpa using hown) (World.grownBy.refl _ _)
    | some ad =>
      refine wpList_append_own w hgd s x _ ho base 3 i0 (.int .i64 0) 1 8 Tryz.underlying22 hi hz0 hz1 hz2 rfl (by decide) v _ _ hs hown ad 0 c [] hx (by simp) ?_ ?_ (by unfold maxLen; simp at hlen; omega) (by simp at hlen; omega) hbase ?_
      · intro j u hu; simp at hu
      · intro u hu; simp at hu
      · intro v' w' h5 h6 _
        exact h v' w' (by simpa using h5) h6
  · refine wpList_append_own w hgd s x _ ho base 3 i0 (.int .i64 0) 1 8 Tryz.underlying22 hi hz0 hz1 hz2 rfl (by decide) v _ _ hs hown ⟨b, off, none⟩ zs.length c (zs.map (Value.int .i64)) hx (by simp) ?_ ?_ (by unfold maxLen; omega) (by omega) hbase ?_
    · intro j u hu
      have hj : j < zs.length := by
        have := (List.getElem?_eq_some_iff.1 hu).1
        simpa using this
      have ha : (⟨b, off, none⟩ : Addr).add j = ⟨b, off + j, none⟩ := by unfold Addr.add; split <;> simp_all
      rw [ha, h4 j hj]
      rw [← hu]
      simp [atI, hj]
    · exact ints_oneCell .i64 zs
    · intro v' w' h5 h6 _
      exact h v' w' (by simpa using h5) h6
set_option maxHeartbeats 1000000 in
theorem grow_zero (w : World) : Calls Tryz.prog 50 #[.slice none 0 0, .int .i64 0] w fun e w' => e = .returned (.slice none 0 0) ∧ w = w' := by
  go_enter Tryz.func50, Tryz.ntmps50
  go_wp2
  go_ret
  exact ⟨rfl, rfl⟩
/-- a new row with room -/
def Room (w : World) (e : Ending) (w' : World) : Prop := ∃ v, e = .returned v ∧ w'.ownsRow w.heap.size 3 1 v 0 [] ∧ Below w.heap.size w w'
set_option maxHeartbeats 1000000 in
theorem grow_some (n : Nat) (h0 : 0 < n) (hn : n ≤ 1000000) (w : World) : Calls Tryz.prog 50 #[.slice none 0 0, .int .i64 n] w fun e w' => Room w e w' := by
  obtain ⟨i0, hi, hz0, hz1, hz2⟩ := info_parts infoInt
  have happ := Lib.run_append_nil_zeros (P := Tryz.prog) w 22 3 22 3 i0 (.int .i64 0) .i64 .i64 Tryz.underlying22 Tryz.underlying3 hi hz0 n h0 (by omega) (by omega) (by rw [hz2]; omega)
  obtain ⟨C, hC⟩ : ∃ C, C = grownCap w n 0 3 := ⟨_, rfl⟩
  obtain ⟨Z, hZ⟩ : ∃ Z, Z = Builtin.zeroCells (Value.int .i64 0).cells n ++ Builtin.zeroCells (Value.int .i64 0).cells (C - n) := ⟨_, rfl⟩
  rw [← hC, ← hZ] at happ
  have hC1 : n ≤ C := by rw [hC]; exact grownCap_ge w n 0 _
  have hC2 : C ≤ maxLen := by rw [hC]; exact grownCap_le_maxLen w n 0 _ (by unfold maxLen; omega)
  have hZs : Z.size = C * 1 := by rw [hZ]; simp only [Array.size_append, size_zeroCells]; simp [Value.cells]; omega
  have HR := Lib.hid (show Room w (.returned (.slice (some ⟨w.heap.size, 0, none⟩) 0 C)) (w.drew.alloc (.cells Z 3)) from
    ⟨_, rfl, World.ownsRow_made w.drew Z C (Nat.le_refl _) hC2 hZs, ((Below.refl _ _).drew).alloc (Nat.le_refl _) _⟩)
  unfold maxLen at hC2
  have n0 : ¬ (n : Int) < 0 := by omega
  clear hC hZ hZs hi hz0 hz1 hz2
  go_enter Tryz.func50, Tryz.ntmps50
  go_wp2_with (at_builtin; refine Lib.wpList_append_run _ rfl _ _ _ _ rfl _ _ rfl rfl _ _ happ ?_)
  go_ret
  exact HR.out
theorem grow_any (n : Nat) (hn : n ≤ 1000000) (w : World) : Calls Tryz.prog 50 #[.slice none 0 0, .int .i64 n] w fun e w' => Room w e w' := by
  by_cases h0 : n = 0
  · subst h0
    refine (grow_zero w).mono ?_
    rintro e w' ⟨rfl, rfl⟩
    exact ⟨_, rfl, World.ownsRow_nil _ _ _ _, Below.refl _ _⟩
  · exact grow_some n (by omega) hn w
/-- a[1:], where there is a first one -/
theorem slice_tail (w : World) (b off n c : Nat) (hn : n + 1 ≤ c) (hc : c ≤ 9223372036854775807) (x : Int) (zs : List Int) (hz : zs.length = n) (hb : b < w.heap.size) (h : ∀ j, j < n + 1 → w.cell? ⟨b, off + j, none⟩ = some (.int .i64 (atI (x :: zs) j))) :
    ∃ v, (∀ W : World, (Instr.slice 22 (.slice (some ⟨b, off, none⟩) (n + 1) c) (some (.int .i64 1)) none none).run Tryz.prog W = .ok v W) ∧ ReadsI w v zs := by
  refine ⟨sliced (some ⟨b, off, none⟩) 1 (n + 1) c 1, fun W => ?_, ?_⟩
  · have h1 : (1 : Int) ≤ (n : Int) + 1 := by omega
    simp [Instr.slice, run_underlying Tryz.underlying22, Instr.sliceBounds, run_sliceBound, sliced, h1]
  · unfold sliced
    by_cases h1 : c = 1
    · have : zs = [] := List.length_eq_zero_iff.1 (by omega)
      subst this
      refine .inr ⟨b, off, c - 1, ?_, by simp, by omega, hb, fun j hj => absurd hj (by simp)⟩
      rw [if_pos h1]
      simp at hz
      subst hz
      rfl
    · refine .inr ⟨b, off + 1, c - 1, ?_, by omega, by omega, hb, fun j hj => ?_⟩
      · rw [if_neg h1, Option.map_some]
        have ha : (⟨b, off, none⟩ : Addr).add (1 * 1) = ⟨b, off + 1, none⟩ := by unfold Addr.add; split <;> simp_all
        rw [ha, hz]
        rfl
      · have := h (j + 1) (by omega)
        rw [show off + 1 + j = off + (j + 1) by omega, this]
        rfl
/-- a list in the round: there is a first one -/
theorem reads_cons {w : World} {v : Value} {x : Int} {zs : List Int} (h : ReadsI w v (x :: zs)) : ∃ b off c v2, v = .slice (some ⟨b, off, none⟩) (zs.length + 1) c ∧ b < w.heap.size ∧ w.cell? ⟨b, off, none⟩ = some (.int .i64 x) ∧
    (∀ W : World, (Instr.slice 22 (.slice (some ⟨b, off, none⟩) (zs.length + 1) c) (some (.int .i64 1)) none none).run Tryz.prog W = .ok v2 W) ∧ ReadsI w v2 zs := by
  rcases h with ⟨_, h⟩ | ⟨b, off, c, rfl, h1, h2, h3, h4⟩
  · cases h
  · obtain ⟨v2, hv, hr⟩ := slice_tail w b off zs.length c (by simpa using h1) h2 x zs rfl h3 (by simpa using h4)
    refine ⟨b, off, c, v2, rfl, h3, ?_, hv, hr⟩
    simpa [atI] using h4 0 (by simp)
theorem reads_none {w : World} {v : Value} (h : ReadsI w v []) : ∃ a c, v = .slice a 0 c := h.len
def lenOf : Value → Nat | .slice _ n _ => n | _ => 0
/-- what the loop keeps -/
def Merging (w : World) (M : List Int) (va vb vo : Value) (wr : World) : Prop := ∃ A B o : List Int, ReadsI w va A ∧ ReadsI w vb B ∧ wr.ownsRow w.heap.size 3 1 vo o.length (o.map (Value.int .i64)) ∧ Below w.heap.size w wr ∧ o ++ mergeL A B = M ∧ o.length + A.length + B.length ≤ 100000
def Merged (w : World) (M : List Int) (e : Ending) (w' : World) : Prop := ∃ v, e = .returned v ∧ ReadsN w.heap.size w' v M ∧ Below w.heap.size w w'
theorem Merged.mk {w w1 : World} {v : Value} {M o A B : List Int} (hM : o ++ mergeL A B = M) (hz : A = [] ∨ B = []) (h : w1.ownsRow w.heap.size 3 1 v (o ++ A ++ B).length ((o ++ A ++ B).map (Value.int .i64))) (hb : Below w.heap.size w w1) : Merged w M (.returned v) w1 := by
  refine ⟨v, rfl, ?_, hb⟩
  have e : o ++ A ++ B = M := by
    rw [← hM]
    rcases hz with rfl | rfl
    · rw [mergeL_nil]; simp
    · rw [mergeL_nil_r]; simp
  rw [← e]
  exact readsN_of_own h
end Go.Proofs.YtfbnijcmfaeoeaaGreat
