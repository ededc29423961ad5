/-
  Words: what the last stores left; a cell appended to a row of one's own. No condition.
-/
import Derived.Test.YtokhnjcbcpmmjaaCdFew
import Derived.Test.YtokhnjcbcpmmjaaCdRise
import Derived.Test.YtokhnjcbcpmmjaaEvRowWords
namespace Go.Proofs.Ytokhnjcbcpmmjaa
set_option linter.unusedVariables false
set_option linter.unusedSimpArgs false
open Go.RowKit Go.Maps

/-- what was stored last at an address, so much of the order gone through -/
def metL (c : Cd) : Nat → Int → Option Int
  | 0, _ => none
  | k + 1, x => if writesE (c.at (atI c.od k).toNat).1 = true ∧ (c.at (atI c.od k).toNat).1.addr = x then some (c.at (atI c.od k).toNat).1.store else metL c k x
/-- what the last store left somewhere, or what was there at first -/
def LastSet (c : Cd) (p : Int × Int) : Prop := (p ∈ c.fs ∧ metL c c.od.length p.1 = none ∧ p.2 ≠ 0) ∨ (metL c c.od.length p.1 = some p.2 ∧ p.2 ≠ 0)
def fP (fs : List (Int × Int)) (k : Nat) : Int × Int := (fA fs k, fV fs k)
theorem fP_at (fs : List (Int × Int)) (k : Nat) (hk : k < fs.length) : fs[k]? = some (fP fs k) := by
  rw [List.getElem?_eq_getElem hk]
  simp [fP, fA, fV, hk]
theorem take_fP (fs : List (Int × Int)) (k : Nat) (hk : k < fs.length) : fs.take (k + 1) = fs.take k ++ [fP fs k] := by
  rw [List.take_add_one, fP_at fs k hk]; rfl
theorem mem_take_lt {fs : List (Int × Int)} {k : Nat} (hr : ∀ i j, i < j → j < fs.length → fA fs i < fA fs j) (hk : k < fs.length) {p : Int × Int} (hp : p ∈ fs.take k) : p.1 < fA fs k := by
  obtain ⟨i, hi, rfl⟩ := List.mem_iff_getElem.1 hp
  have hi2 : i < k := by rw [List.length_take] at hi; omega
  have := hr i k hi2 hk
  have e : fA fs i = fs[i].1 := by simp [fA, show i < fs.length by omega]
  rw [List.getElem_take]
  omega
theorem append_cell {ops : Array Oper} {rest : List Oper} {o : Oper} {a : Act} {w : World} {Q : Exit → Act → World → Prop} (hgd : o.guard = none) (s x : Operand)
    (ho : o.op = .call { callee := .builtin .append, args := #[s, x], argTypes := #[22, 22] }) (base : Nat) (v : Value) (n : Nat) (xs : List Value) (hs : a.eval s = v) (hown : w.ownsRow base 35 2 v n xs)
    (p q : Int) (g : Nat) (hx : a.eval x = .slice (some ⟨g, 0, none⟩) 1 1) (hr : PairAt p q g w) (hn : n ≤ 1000) (hbase : base ≤ w.heap.size)
    (h : ∀ v' w', w'.ownsRow base 35 2 v' (n + 1) (xs ++ [.int .u64 p, .int .u64 q]) → w.grownBy w' v.ownBlock → wpList Try.prog ops Q rest (a.put o.dst v') w') : wpList Try.prog ops Q (o :: rest) a w := by
  obtain ⟨i0, hi, hz0, hz1, hz2⟩ := info_parts infoCell
  refine wpList_append_own w hgd s x _ ho base 35 i0 (.agg #[.int .u64 0, .int .u64 0]) 2 16 Try.underlying22 hi hz0 hz1 hz2 (by kernel_rfl) (by decide) v n xs hs hown ⟨g, 0, none⟩ 1 1 [.int .u64 p, .int .u64 q] hx rfl ?_ ?_ (by unfold maxLen; omega) (by omega) hbase (fun v' w' h5 h6 _ => h v' w' h5 h6)
  · intro j u hu
    rw [Addr.add_lit, Nat.zero_add, cell_of_row w g j _ _ _ hr]
    simpa using hu
  · intro u hu
    simp only [List.mem_cons, List.not_mem_nil, or_false] at hu
    rcases hu with rfl | rfl <;> rfl
theorem flatC_more (l : List (Int × Int)) (p : Int × Int) : flatC (l ++ [p]) = flatC l ++ [.int .u64 p.1, .int .u64 p.2] := by unfold flatC; simp [encC]
theorem own_len {w : World} {base n : Nat} {v : Value} {xs : List Value} (h : w.ownsRow base 35 2 v n xs) : ∃ a c, v = .slice a n c := by
  rcases h.2 with ⟨rfl, h0⟩ | ⟨g, cap, cur, rfl, _⟩
  · exact ⟨none, 0, by rw [h0]⟩
  · exact ⟨_, _, rfl⟩
end Go.Proofs.Ytokhnjcbcpmmjaa
