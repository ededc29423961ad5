/-
  Words: a slice of ints as a list; what reads so still reads so where all below is as it was. No condition.
  (With it: Words: lists that rise, and all of two of them joined; what is joined has all of both, rising, each once. No condition.)
-/
import Derived.Test.YtokhnjcbcpmmjaaProg
import Derived.WalkKit
import Derived.Laws.Tables
import Derived.Laws.Rows
import Derived.Laws.NewBlocks
import Derived.Lib.Hide
import Derived.OwnWalk
import Derived.Laws.AppendOwnNone
namespace Go.Proofs.Ytokhnjcbcpmmjaa
set_option linter.unusedVariables false
set_option linter.unusedSimpArgs false
/-- each is above the one ahead, the first above lo -/
def risesFrom : Int → List Int → Bool
  | _, [] => true
  | lo, x :: l => decide (lo < x) && risesFrom x l
def rises (l : List Int) : Bool := risesFrom (-1) l
/-! ### the join as the loops do it -/
/-- number k -/
def atI (l : List Int) (k : Nat) : Int := l.getD k 0
/-! ### rising, number by number -/
theorem risesFrom_take (l : List Int) (lo : Int) (k : Nat) (hk : k < l.length) : risesFrom lo (l.take (k + 1)) = (risesFrom lo (l.take k) && decide (atI (lo :: l) k < atI l k)) := by
  induction l generalizing lo k with
  | nil => simp at hk
  | cons x l ih =>
    cases k with
    | zero => simp [risesFrom, atI]
    | succ k =>
      simp only [List.length_cons] at hk
      rw [List.take_succ_cons, List.take_succ_cons, risesFrom, risesFrom, ih x k (by omega), Bool.and_assoc]
      rfl
theorem risesFrom_pre (l : List Int) (lo : Int) (k : Nat) (h : risesFrom lo (l.take k) = false) : risesFrom lo l = false := by
  induction l generalizing lo k with
  | nil => simp [risesFrom] at h
  | cons x l ih =>
    cases k with
    | zero => simp [risesFrom] at h
    | succ k =>
      rw [List.take_succ_cons, risesFrom, Bool.and_eq_false_iff] at h
      rw [risesFrom, Bool.and_eq_false_iff]
      exact h.imp id (ih x k)
end Go.Proofs.Ytokhnjcbcpmmjaa
namespace Go.Proofs.Ytokhnjcbcpmmjaa
set_option linter.unusedVariables false
set_option linter.unusedSimpArgs false
open Go.RowKit

/-- an empty slice, nil or not -/
def EmptyS (v : Value) : Prop := ∃ (a : Option Addr) (c : Nat), v = .slice a 0 c ∧ (a = none → c = 0)
theorem EmptyS.nil : EmptyS (.slice none 0 0) := ⟨none, 0, rfl, fun _ => rfl⟩
/-- a slice that reads as these numbers -/
def ReadsI (w : World) (v : Value) (zs : List Int) : Prop :=
  (EmptyS v ∧ zs = []) ∨ ∃ b off c, v = .slice (some ⟨b, off, none⟩) zs.length c ∧ zs.length ≤ c ∧ c ≤ 9223372036854775807 ∧ b < w.heap.size ∧ ∀ j, j < zs.length → w.cell? ⟨b, off + j, none⟩ = some (.int .i64 (atI zs j))
theorem ReadsI.nil (w : World) : ReadsI w (.slice none 0 0) [] := .inl ⟨EmptyS.nil, rfl⟩
theorem ReadsI.kept {w w' : World} {v : Value} {zs : List Int} (h : ReadsI w v zs) (hz : w.heap.size ≤ w'.heap.size) (hc : ∀ b o, b < w.heap.size → w'.cell? ⟨b, o, none⟩ = w.cell? ⟨b, o, none⟩) : ReadsI w' v zs := by
  rcases h with h | ⟨b, off, c, e, h1, h2, h3, h4⟩
  · exact .inl h
  · exact .inr ⟨b, off, c, e, h1, h2, Nat.lt_of_lt_of_le h3 hz, fun j hj => (hc b _ h3).trans (h4 j hj)⟩
theorem ReadsI.below {w w' : World} {v : Value} {zs : List Int} (h : ReadsI w v zs) (hb : Below w.heap.size w w') : ReadsI w' v zs :=
  h.kept hb.size fun b o hlt => hb.cell (p := ⟨b, o, none⟩) hlt
theorem ReadsI.alloc {w : World} {v : Value} {zs : List Int} (h : ReadsI w v zs) (o : Obj) : ReadsI (w.alloc o) v zs :=
  h.below ((Below.refl _ _).alloc (Nat.le_refl _) _)
theorem ReadsI.drew {w : World} {v : Value} {zs : List Int} (h : ReadsI w v zs) : ReadsI w.drew v zs := h.below ((Below.refl _ _).drew)
/-- a store far off -/
theorem ReadsI.len {w : World} {v : Value} {zs : List Int} (h : ReadsI w v zs) : ∃ a c, v = .slice a zs.length c := by
  rcases h with ⟨⟨a, c, rfl, _⟩, rfl⟩ | ⟨b, off, c, rfl, _⟩
  · exact ⟨a, c, rfl⟩
  · exact ⟨some ⟨b, off, none⟩, c, rfl⟩
theorem readsI_of_own {w : World} {base : Nat} {v : Value} {zs : List Int} (h : w.ownsRow base 3 1 v zs.length (zs.map (Value.int .i64))) : ReadsI w v zs := by
  have h' := h
  rcases h.2 with ⟨rfl, h0⟩ | ⟨g, cap, cur, rfl, hn, hgg, hcap, hmax, hs, ht⟩
  · exact .inl ⟨EmptyS.nil, List.length_eq_zero_iff.1 h0⟩
  · refine .inr ⟨g, 0, cap, rfl, hcap, by unfold maxLen at hmax; omega, (Array.getElem?_eq_some_iff.1 hgg).1, fun j hj => ?_⟩
    have hc := h'.cells (g := g) (by simp [Value.ownBlock]) j (.int .i64 zs[j]) (by simp [hj])
    have ha : (⟨g, 0, none⟩ : Addr).add j = ⟨g, 0 + j, none⟩ := by unfold Addr.add; split <;> simp_all
    rw [ha] at hc
    rw [hc]; simp [hj, atI]
/-- none of it lies below block n -/
def NewFrom (n : Nat) (v : Value) : Prop := ∀ k, v.ownBlock = some k → n ≤ k
/-- a new list -/
def ReadsN (n : Nat) (w : World) (v : Value) (zs : List Int) : Prop := ReadsI w v zs ∧ NewFrom n v
theorem ReadsN.mono {n m : Nat} {w : World} {v : Value} {zs : List Int} (h : ReadsN n w v zs) (hm : m ≤ n) : ReadsN m w v zs := ⟨h.1, fun k hk => Nat.le_trans hm (h.2 k hk)⟩
theorem ReadsN.nil (n : Nat) (w : World) : ReadsN n w (.slice none 0 0) [] := ⟨ReadsI.nil w, fun _ h => by simp [Value.ownBlock] at h⟩
theorem ReadsN.on {n : Nat} {w w' : World} {v : Value} {zs : List Int} (h : ReadsN n w v zs) (hb : Below w.heap.size w w') : ReadsN n w' v zs := ⟨h.1.below hb, h.2⟩
/-- a store into a block that is none of its own -/
theorem ReadsI.set {w : World} {v : Value} {zs : List Int} (h : ReadsI w v zs) (g k : Nat) (x : Value) (hg : v.ownBlock ≠ some g) : ReadsI (w.setCell ⟨g, k, none⟩ x) v zs := by
  rcases h with h | ⟨b, off, c, e, h1, h2, h3, h4⟩
  · exact .inl h
  · subst e
    have hne : b ≠ g := fun e => hg (by simp [Value.ownBlock, e])
    refine .inr ⟨b, off, c, rfl, h1, h2, by simpa [World.setCell] using h3, fun j hj => ?_⟩
    rw [← h4 j hj]
    exact World.cell?_of_block (Below.heap_setCell w _ x b hne)
theorem readsN_of_own {w : World} {base : Nat} {v : Value} {zs : List Int} (h : w.ownsRow base 3 1 v zs.length (zs.map (Value.int .i64))) : ReadsN base w v zs := ⟨readsI_of_own h, fun k hk => (h.lt k hk).1⟩
theorem infoInt : (Try.prog.info? 3).map (fun i => (i.zero, i.size, i.bytes)) = some (some (.int .i64 0), 1, 8) := by kernel_rfl
theorem retBool {a b : Bool} (h : a = b) : Ending.returned (.bool a) = .returned (.bool b) := by rw [h]
/-- the last one met, ahead of number k -/
def lastE (zs : List Int) (k : Nat) : Int := atI ((-1) :: zs) k
theorem lastE_succ (zs : List Int) (k : Nat) : lastE zs (k + 1) = atI zs k := rfl
theorem rises_step (zs : List Int) (k : Nat) (hk : k < zs.length) : rises (zs.take (k + 1)) = (rises (zs.take k) && decide (lastE zs k < atI zs k)) := risesFrom_take zs (-1) k hk
theorem rises_stop (zs : List Int) (k : Nat) (h : rises (zs.take k) = false) : rises zs = false := risesFrom_pre zs (-1) k h
set_option maxHeartbeats 1000000 in
theorem rising_nil (a : Option Addr) (c : Nat) (w : World) : Calls Try.prog 68 #[.slice a 0 c] w fun e w' => e = .returned (.bool (rises [])) ∧ w = w' := by
  go_enter Try.func68, Try.ntmps68
  go_wp2
  refine wp_loop_rounds 1 ?_
  rw [rounds_succ]
  go_wp2
  go_ret
  exact ⟨rfl, rfl⟩
set_option maxHeartbeats 1000000 in
theorem rising_some (zs : List Int) (b off c : Nat) (w : World) (hlen : zs.length ≤ 100000) (hc : ∀ j, j < zs.length → w.cell? ⟨b, off + j, none⟩ = some (.int .i64 (atI zs j))) :
    Calls Try.prog 68 #[.slice (some ⟨b, off, none⟩) zs.length c] w fun e w' => e = .returned (.bool (rises zs)) ∧ w = w' := by
  have HC := Lib.hid hc
  clear hc
  go_enter Try.func68, Try.ntmps68
  go_wp2
  go_loop [3, 8] (fun l i => ∃ k : Nat, k ≤ zs.length ∧ i = .int .i64 k ∧ l = .int .i64 (lastE zs k) ∧ rises (zs.take k) = true) (fun _ i => zs.length - (intOf i).toNat)
  case atStart => exact ⟨0, Nat.zero_le _, rfl, rfl, by simp [rises, risesFrom]⟩
  case round =>
    obtain ⟨k, hk, rfl, rfl, hr⟩ := hrel
    have HR := Lib.hid hr
    clear hr
    by_cases hlt : k < zs.length
    · have hcell := HC.out k hlt
      have HS := Lib.hid (rises_step zs k hlt)
      have HN := Lib.hid (lastE_succ zs k)
      by_cases hle : atI zs k ≤ lastE zs k
      · go_wp2
        go_ret
        refine ⟨retBool ?_, rfl⟩
        exact (rises_stop zs (k + 1) (by rw [HS.out]; simp; intro _; omega)).symm
      · go_wp2
        go_round
        case rel => exact ⟨k + 1, by omega, by go_num, by rw [HN.out], by rw [HS.out, HR.out]; simp; omega⟩
        case measure => simp [intOf]; omega
    · go_wp2
      go_ret
      refine ⟨retBool ?_, rfl⟩
      have := HR.out
      rw [List.take_of_length_le (by omega)] at this
      exact this.symm
end Go.Proofs.Ytokhnjcbcpmmjaa
