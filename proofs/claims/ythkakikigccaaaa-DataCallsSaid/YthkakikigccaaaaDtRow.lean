/-
  Proved here: rows of structs that the program makes itself: one made of zero values, one element stored. No condition.
-/
import Derived.Test.YthkakikigccaaaaDtSort
import Derived.Laws.MakeOwn
import Derived.Laws.OwnMore
namespace Go.Proofs.Ythkakikigccaaaa
open Go.RowKit Go.Lib Go.Sort
set_option linter.unusedVariables false
set_option linter.unusedSimpArgs false

section
variable {α : Type} [Inhabited α] {enc : α → List Value} {k : Nat}
theorem flatK_set (hk : ∀ x, (enc x).length = k) (hk0 : 0 < k) (d : Array α) (i : Nat) (hi : i < d.size) (x : α) : setMany (flatK enc k d) (i * k) (enc x) = flatK enc k (d.setIfInBounds i x) := by
  refine ext_get! (by simp) fun t ht => ?_
  rw [size_setMany, size_flatK] at ht
  rw [get_setMany _ _ _ _ (by rw [size_flatK]; exact ht), get_flatK enc k (d.setIfInBounds i x) t (by simpa using ht), hk]
  by_cases h : i * k ≤ t ∧ t < i * k + k
  · rw [if_pos h]
    have e := (blk_iff k i t hk0).1 h
    have e2 : t % k = t - i * k := by rw [Nat.mod_eq_sub_div_mul, e]
    rw [e, e2, getElem!_set_same d i x hi]
  · rw [if_neg h]
    have e : t / k ≠ i := fun e => h ((blk_iff k i t hk0).2 e)
    rw [get_flatK enc k d t ht]
    congr 2
    have hl : t / k < d.size := by
      rw [Nat.div_lt_iff_lt_mul hk0]; exact ht
    simp [hl, Ne.symm e]
theorem holdsK_set {W : World} {blk off : Nat} {d : Array α} (hk : ∀ x, (enc x).length = k) (hk0 : 0 < k) (h : HoldsK enc k W blk off d) (i : Nat) (hi : i < d.size) (x : α) : HoldsK enc k (W.setCells blk (off + i * k) (enc x)) blk off (d.setIfInBounds i x) := by
  have := holds_setCells_c h (i * k) (enc x) (by rw [hk, size_flatK]; exact rowK_bnd d k i hi)
  rw [flatK_set hk hk0 d i hi x] at this
  exact this
theorem holdsK_on {W W2 : World} {blk off : Nat} {d : Array α} (h : HoldsK enc k W blk off d) (hb : Below W.heap.size W W2) (hl : blk < W.heap.size) : HoldsK enc k W2 blk off d := fun j hj =>
  ⟨(hb.cell (p := ⟨blk, off + j, none⟩) hl).trans (h j hj).1, (hb.frozen (p := ⟨blk, off + j, none⟩) hl).trans (h j hj).2⟩
theorem below_setCells {base : Nat} {w : World} {b : Nat} (hb : base ≤ b) : ∀ (vs : List Value) (o : Nat) (W : World), Below base w W → Below base w (W.setCells b o vs)
  | [], _, _, h => h
  | v :: r, o, W, h => by rw [World.setCells]; exact below_setCells hb r (o + 1) _ (Below.setCell h (by exact hb) _)
end
def seV (s : Se) : List Value := [.string s.p.name, .int .i64 s.p.size, .int .i64 s.p.hart, .int .u64 s.addr]
theorem madeP (n : Nat) (w : World) (T : TypeId) : HoldsK pcV 3 (w.alloc (.cells (madeCells (.agg #[.string ⟨#[]⟩, .int .i64 0, .int .i64 0] : Value).cells (n * 3)) T)) w.heap.size 0 (Array.replicate n (default : Pc)) := by
  intro j hj
  rw [size_flatK, Array.size_replicate] at hj
  have h0 : (madeCells (.agg #[.string ⟨#[]⟩, .int .i64 0, .int .i64 0] : Value).cells (n * 3))[j]? = some ((pcV default)[j % 3]!) := by
    have hs : j < (madeCells (.agg #[.string ⟨#[]⟩, .int .i64 0, .int .i64 0] : Value).cells (n * 3)).size := by simpa [size_madeCells] using hj
    rw [Array.getElem?_eq_getElem hs]
    have h3 : ∀ i : Fin 3, (Value.agg #[.string ⟨#[]⟩, .int .i64 0, .int .i64 0] : Value).cells[i.val]! = (pcV default)[i.val]! := by intro i; rcases i with ⟨i, hi⟩; rcases i with _ | _ | _ | i <;> first | rfl | omega
    have hc : (Value.agg #[.string ⟨#[]⟩, .int .i64 0, .int .i64 0] : Value).cells.size = 3 := rfl
    simp only [madeCells, Array.getElem_map, Array.getElem_range, hc]
    rw [h3 ⟨j % 3, by omega⟩]
  have hf : (flatK pcV 3 (Array.replicate n (default : Pc)))[j]! = (pcV default)[j % 3]! := by
    rw [get_flatK _ _ _ _ (by simpa using hj)]
    congr 2
    simp [show j / 3 < n by omega]
  rw [hf, Nat.zero_add]
  constructor
  · simp [h0]
  · simp
theorem made4 (n : Nat) (w : World) (T : TypeId) : HoldsK seV 4 (w.alloc (.cells (madeCells (.agg #[.string ⟨#[]⟩, .int .i64 0, .int .i64 0, .int .u64 0] : Value).cells (n * 4)) T)) w.heap.size 0 (Array.replicate n (default : Se)) := by
  intro j hj
  rw [size_flatK, Array.size_replicate] at hj
  have h0 : (madeCells (.agg #[.string ⟨#[]⟩, .int .i64 0, .int .i64 0, .int .u64 0] : Value).cells (n * 4))[j]? = some ((seV default)[j % 4]!) := by
    have hs : j < (madeCells (.agg #[.string ⟨#[]⟩, .int .i64 0, .int .i64 0, .int .u64 0] : Value).cells (n * 4)).size := by simpa [size_madeCells] using hj
    rw [Array.getElem?_eq_getElem hs]
    have h3 : ∀ i : Fin 4, (Value.agg #[.string ⟨#[]⟩, .int .i64 0, .int .i64 0, .int .u64 0] : Value).cells[i.val]! = (seV default)[i.val]! := by intro i; rcases i with ⟨i, hi⟩; rcases i with _ | _ | _ | _ | i <;> first | rfl | omega
    have hc : (Value.agg #[.string ⟨#[]⟩, .int .i64 0, .int .i64 0, .int .u64 0] : Value).cells.size = 4 := rfl
    simp only [madeCells, Array.getElem_map, Array.getElem_range, hc]
    rw [h3 ⟨j % 4, by omega⟩]
  have hf : (flatK seV 4 (Array.replicate n (default : Se)))[j]! = (seV default)[j % 4]! := by
    rw [get_flatK _ _ _ _ (by simpa using hj)]
    congr 2
    simp [show j / 4 < n by omega]
  rw [hf, Nat.zero_add]
  constructor
  · simp [h0]
  · simp
theorem info_parts {P : Program} {t : TypeId} {z : Option Value} {s b : Nat} (h : (P.info? t).map (fun i => (i.zero, i.size, i.bytes)) = some (z, s, b)) : ∃ i, P.info? t = some i ∧ i.zero = z ∧ i.size = s ∧ i.bytes = b := by
  cases hi : P.info? t with
  | none => rw [hi] at h; cases h
  | some i => rw [hi] at h; simp at h; exact ⟨i, rfl, h.1, h.2.1, h.2.2⟩
theorem infoP : (Try.prog.info? 63).map (fun i => (i.zero, i.size, i.bytes)) = some (some (.agg #[.string ⟨#[]⟩, .int .i64 0, .int .i64 0]), 3, 32) := by kernel_rfl
theorem infoS : (Try.prog.info? 34).map (fun i => (i.zero, i.size, i.bytes)) = some (some (.agg #[.string ⟨#[]⟩, .int .i64 0, .int .i64 0, .int .u64 0]), 4, 40) := by kernel_rfl
theorem infoPc : (Try.prog.info? 32).map (fun i => (i.zero, i.size, i.bytes)) = some (some (.agg #[.string ⟨#[]⟩, .int .i64 0, .int .i64 0]), 3, 32) := by kernel_rfl
theorem make_ps (n : Nat) (hn : n ≤ 1000) (w : World) : ∃ w', (Instr.makeSlice 51 (.int .i64 (n : Int)) (.int .i64 (n : Int))).run Try.prog w = .ok (.slice (some ⟨w.heap.size, 0, none⟩) n n) w' ∧ HoldsK pcV 3 w' w.heap.size 0 (Array.replicate n default) ∧ Below w.heap.size w w' ∧ w'.heap.size = w.heap.size + 1 := by
  obtain ⟨i0, hi, hz0, hz1, hz2⟩ := info_parts infoP
  have := run_make (P := Try.prog) w 51 63 i0 (.agg #[.string ⟨#[]⟩, .int .i64 0, .int .i64 0]) Try.underlying51 hi hz0 .i64 .i64 (n : Int) (n : Int) (by omega) (Int.le_refl _) (by rw [hz2]; omega) (by omega)
  rw [hz1] at this
  simp only [Int.toNat_natCast] at this
  exact ⟨_, this, madeP n w _, one_below _ _, by simp⟩
theorem make_ss (n : Nat) (hn : n ≤ 1000) (w : World) : ∃ w', (Instr.makeSlice 22 (.int .i64 (n : Int)) (.int .i64 (n : Int))).run Try.prog w = .ok (.slice (some ⟨w.heap.size, 0, none⟩) n n) w' ∧ HoldsK seV 4 w' w.heap.size 0 (Array.replicate n default) ∧ Below w.heap.size w w' ∧ w'.heap.size = w.heap.size + 1 := by
  obtain ⟨i0, hi, hz0, hz1, hz2⟩ := info_parts infoS
  have := run_make (P := Try.prog) w 22 34 i0 (.agg #[.string ⟨#[]⟩, .int .i64 0, .int .i64 0, .int .u64 0]) Try.underlying22 hi hz0 .i64 .i64 (n : Int) (n : Int) (by omega) (Int.le_refl _) (by rw [hz2]; omega) (by omega)
  rw [hz1] at this
  simp only [Int.toNat_natCast] at this
  exact ⟨_, this, made4 n w _, one_below _ _, by simp⟩
/-- an element's cells -/
theorem HoldsK.three {W : World} {B : Nat} {d : Array Pc} (h : HoldsK pcV 3 W B 0 d) {i : Nat} (hi : i < d.size) : W.cell? ⟨B, i * 3, none⟩ = some (.string d[i]!.name) ∧ W.cell? ⟨B, i * 3 + 1, none⟩ = some (.int .i64 d[i]!.size) ∧ W.cell? ⟨B, i * 3 + 2, none⟩ = some (.int .i64 d[i]!.hart) ∧ W.frozen? ⟨B, i * 3, none⟩ = false ∧ W.frozen? ⟨B, i * 3 + 1, none⟩ = false ∧ W.frozen? ⟨B, i * 3 + 2, none⟩ = false := by
  have h0 := Go.Sort.HoldsK.cell h hi (c := 0) (by omega)
  have h1 := Go.Sort.HoldsK.cell h hi (c := 1) (by omega)
  have h2 := Go.Sort.HoldsK.cell h hi (c := 2) (by omega)
  simp only [Nat.zero_add, Nat.add_zero] at h0 h1 h2
  exact ⟨h0.1, h1.1, h2.1, h0.2, h1.2, h2.2⟩
theorem HoldsK.four {W : World} {B : Nat} {d : Array Se} (h : HoldsK seV 4 W B 0 d) {i : Nat} (hi : i < d.size) : (W.cell? ⟨B, i * 4, none⟩ = some (.string d[i]!.p.name) ∧ W.cell? ⟨B, i * 4 + 1, none⟩ = some (.int .i64 d[i]!.p.size) ∧ W.cell? ⟨B, i * 4 + 2, none⟩ = some (.int .i64 d[i]!.p.hart) ∧ W.cell? ⟨B, i * 4 + 3, none⟩ = some (.int .u64 d[i]!.addr)) ∧ (W.frozen? ⟨B, i * 4, none⟩ = false ∧ W.frozen? ⟨B, i * 4 + 1, none⟩ = false ∧ W.frozen? ⟨B, i * 4 + 2, none⟩ = false ∧ W.frozen? ⟨B, i * 4 + 3, none⟩ = false) := by
  have h0 := Go.Sort.HoldsK.cell h hi (c := 0) (by omega)
  have h1 := Go.Sort.HoldsK.cell h hi (c := 1) (by omega)
  have h2 := Go.Sort.HoldsK.cell h hi (c := 2) (by omega)
  have h3 := Go.Sort.HoldsK.cell h hi (c := 3) (by omega)
  simp only [Nat.zero_add, Nat.add_zero] at h0 h1 h2 h3
  exact ⟨⟨h0.1, h1.1, h2.1, h3.1⟩, h0.2, h1.2, h2.2, h3.2⟩
end Go.Proofs.Ythkakikigccaaaa
