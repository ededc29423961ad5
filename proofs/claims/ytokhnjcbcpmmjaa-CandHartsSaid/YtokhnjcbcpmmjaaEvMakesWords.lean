/-
  Words: the boxes of the law EventMakes; what an event has to have that is made of an ask. No condition.
  (With it: Proved here: the law's lives answers true; nothing that was there is changed. Condition: the tables of strconv and math/bits as the library lays them.)
  (With it: Proved here: event's Of answers the event that an ask makes, or ErrArg; nothing that was there is changed. Condition: numbers of 64 bits; lists of at most 100,000 numbers.)
-/
import Derived.Test.YtokhnjcbcpmmjaaEvMade
import Derived.Test.YtokhnjcbcpmmjaaEvDeps
import Derived.Deep.CutBlock
import Derived.Test.YtokhnjcbcpmmjaaEvKit
namespace Go.Proofs.Ytokhnjcbcpmmjaa
set_option linter.unusedVariables false
set_option linter.unusedSimpArgs false
open Go.RowKit
attribute [local go_sem ↓] fold_E fold_SE

theorem ReadsN.far {n g k : Nat} {w : World} {v : Value} {zs : List Int} (h : ReadsN n w v zs) (x : Value) (hg : g < n) : ReadsN n (w.setCell ⟨g, k, none⟩ x) v zs :=
  ⟨h.1.set g k x (fun e => absurd (h.2 g e) (by omega)), h.2⟩
/-- what reads from above block n reads so still where block n alone was written -/
theorem reads_but {n m B : Nat} {W w9 : World} {v : Value} {zs : List Int} (hv : ReadsN B W v zs) (hn : n < B) (hm : m ≤ B) (ho : ∀ j, j ≠ n → w9.heap[j]? = W.heap[j]?) (hz : w9.heap.size = W.heap.size) : ReadsN m w9 v zs := by
  refine ⟨?_, fun k hk => by have := hv.2 k hk; omega⟩
  rcases hv.1 with h0 | ⟨b, off, c, e, h2, h3, h4, h5⟩
  · exact .inl h0
  · subst e
    have hbn := hv.2 b rfl
    refine .inr ⟨b, off, c, rfl, h2, h3, by omega, fun j hj => ?_⟩
    rw [← h5 j hj]
    exact World.cell?_of_block (ho b (by omega))
end Go.Proofs.Ytokhnjcbcpmmjaa
namespace Go.Proofs.Ytokhnjcbcpmmjaa
set_option linter.unusedVariables false
set_option linter.unusedSimpArgs false
open Go.RowKit
attribute [local go_sem ↓] fold_E fold_SE

def nilL : El := ⟨[], [], []⟩
theorem nil_reads (w : World) (e : Ev) (h : e.a = .slice none 0 0 ∧ e.d = .slice none 0 0 ∧ e.y = .slice none 0 0) : EReads w e nilL := by
  unfold EReads
  rw [h.1, h.2.1, h.2.2]
  exact ⟨ReadsI.nil w, ReadsI.nil w, ReadsI.nil w⟩
end Go.Proofs.Ytokhnjcbcpmmjaa
namespace Go.Proofs.Ytokhnjcbcpmmjaa
set_option linter.unusedVariables false
set_option linter.unusedSimpArgs false
open Go.RowKit
attribute [local go_sem ↓] fold_E fold_SE

theorem ret_int {k : IntKind} {a b : Int} (h : a = b) : Ending.returned (.int k a) = .returned (.int k b) := by rw [h]
def pickI (n m : Int) : Int := if m < 1 then 0 else n % m
theorem tmod_neg (n m : Int) (_hm : 0 < m) (hn : n < 0) : n.tmod m = - ((-n) % m) := by
  obtain ⟨k, rfl⟩ : ∃ k, n = -k := ⟨-n, by omega⟩
  rw [Int.neg_tmod, Int.neg_neg, Int.tmod_eq_emod_of_nonneg (by omega)]
theorem emod_neg (n m : Int) (hm : 0 < m) : n % m = if (-n) % m = 0 then 0 else m - (-n) % m := by
  have h4 : 0 ≤ (-n) % m := Int.emod_nonneg _ (by omega)
  have h5 : (-n) % m < m := Int.emod_lt_of_pos _ (by omega)
  have h := Int.emod_add_mul_ediv (-n) m
  split
  · rename_i h0
    have e : n = 0 + m * (-((-n) / m)) := by rw [Int.mul_neg]; omega
    rw [e, Int.add_mul_emod_self_left]; rfl
  · have e : n = (m - (-n) % m) + m * (-((-n) / m) - 1) := by rw [Int.mul_sub, Int.mul_neg]; omega
    have e2 : n % m = (m - (-n) % m) % m := by rw (occs := .pos [1]) [e]; rw [Int.add_mul_emod_self_left]
    rw [e2, Int.emod_eq_of_lt (by omega) (by omega)]
theorem Pick_any (n m : Int) (hn : -9223372036854775808 ≤ n) (hn' : n ≤ 9223372036854775807) (_hm : m ≤ 9223372036854775807) (w : World) : Calls Try.prog 7 #[.int .i64 n, .int .i64 m] w fun e w' => e = .returned (.int .i64 (pickI n m)) ∧ w = w' := by
  by_cases h1 : m < 1
  · have H := Lib.hid (show pickI n m = 0 by unfold pickI; rw [if_pos h1])
    go_enter Try.func7, Try.ntmps7
    go_wp2
    go_ret
    exact ⟨ret_int (by rw [H.out]), rfl⟩
  · have H := Lib.hid (show pickI n m = n % m by unfold pickI; rw [if_neg h1])
    by_cases h2 : 0 ≤ n
    · have h3 : 0 ≤ n % m := Int.emod_nonneg _ (by omega)
      go_enter Try.func7, Try.ntmps7
      go_wp2
      go_ret
      exact ⟨ret_int (by rw [H.out]), rfl⟩
    · have h3 := tmod_neg n m (by omega) (by omega)
      have h4 : 0 ≤ (-n) % m := Int.emod_nonneg _ (by omega)
      have h5 : (-n) % m < m := Int.emod_lt_of_pos _ (by omega)
      have h7 := emod_neg n m (by omega)
      have H2 := Lib.hid h7
      clear h7
      by_cases h6 : (-n) % m = 0
      · go_enter Try.func7, Try.ntmps7
        go_wp2
        go_ret
        exact ⟨ret_int (by rw [H.out, H2.out, if_pos h6]), rfl⟩
      · go_enter Try.func7, Try.ntmps7
        go_wp2
        go_ret
        exact ⟨ret_int (by rw [H.out, H2.out, if_neg h6]; omega), rfl⟩
theorem pickI_lt (n m : Int) (hm : 1 ≤ m) : 0 ≤ pickI n m ∧ pickI n m < m := by
  unfold pickI
  rw [if_neg (by omega)]
  exact ⟨Int.emod_nonneg _ (by omega), Int.emod_lt_of_pos _ (by omega)⟩
theorem Pick_fit (n : Int) (hn : -9223372036854775808 ≤ n ∧ n ≤ 9223372036854775807) (m : Int) (hm : m ≤ 9223372036854775807) (w : World) : Calls Try.prog 7 #[.int .i64 n, .int .i64 m] w fun e w' => e = .returned (.int .i64 (pickI n m)) ∧ w = w' := Pick_any n m hn.1 hn.2 hm w
theorem EReads.ra {w : World} {e : Ev} {l : El} (h : EReads w e l) : ReadsI w e.a l.a := h.1
theorem EReads.rd {w : World} {e : Ev} {l : El} (h : EReads w e l) : ReadsI w e.d l.d := h.2.1
theorem EReads.ry {w : World} {e : Ev} {l : El} (h : EReads w e l) : ReadsI w e.y l.y := h.2.2
end Go.Proofs.Ytokhnjcbcpmmjaa
