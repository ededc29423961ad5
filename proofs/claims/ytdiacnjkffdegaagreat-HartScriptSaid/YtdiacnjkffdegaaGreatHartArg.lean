/-
  Proved here: an instruction, a hart that comes in as an argument is its cells. No condition.
-/
import Derived.Test.YtdiacnjkffdegaaGreatHartWords
import Derived.Test.YtdiacnjkffdegaaGreatHartInsn
import Derived.ProofKit
import Derived.OpenShut
import Derived.RowKit
import Derived.Deep.Fields
namespace Go.Proofs.YtdiacnjkffdegaaGreat
set_option linter.unusedVariables false
set_option linter.unusedSimpArgs false
open Go.ChangeShapes Go.WideShapes Go.ChangeAt Go.RowKit

def insD {H : Type} (i : Ins) : DataW H := .agg [.lit (.int .i64 i.op), .lit (.int .i64 i.rd), .lit (.int .i64 i.rs1), .lit (.int .i64 i.rs2), .lit (.int .i64 i.imm), .lit (.bool i.aq), .lit (.bool i.rl), .lit (.int .i64 i.pred), .lit (.int .i64 i.succ)]
structure WfIns (i : Ins) : Prop where
  op : (Lit.int .i64 i.op).wf = true
  rd : (Lit.int .i64 i.rd).wf = true
  rs1 : (Lit.int .i64 i.rs1).wf = true
  rs2 : (Lit.int .i64 i.rs2).wf = true
  imm : (Lit.int .i64 i.imm).wf = true
  pred : (Lit.int .i64 i.pred).wf = true
  succ : (Lit.int .i64 i.succ).wf = true
theorem cells_u64 : Tryz.prog.cellsOf 22 = 1 := by kernel_rfl
theorem cells_arr : Tryz.prog.cellsOf 23 = 32 := by kernel_rfl
theorem cells_hart : Tryz.prog.cellsOf 25 = 35 := by kernel_rfl
theorem cells_int : Tryz.prog.cellsOf 3 = 1 := by kernel_rfl
theorem cells_i64 : Tryz.prog.cellsOf 2 = 1 := by kernel_rfl
theorem cells_bool : Tryz.prog.cellsOf 4 = 1 := by kernel_rfl
theorem cells_ins : Tryz.prog.cellsOf 34 = 9 := by kernel_rfl
theorem nine_of {l : List Value} (h : l.length = 9) (v0 v1 v2 v3 v4 v5 v6 v7 v8 : Value) (h0 : (l.drop 0).take 1 = [v0]) (h1 : (l.drop 1).take 1 = [v1]) (h2 : (l.drop 2).take 1 = [v2]) (h3 : (l.drop 3).take 1 = [v3]) (h4 : (l.drop 4).take 1 = [v4]) (h5 : (l.drop 5).take 1 = [v5]) (h6 : (l.drop 6).take 1 = [v6]) (h7 : (l.drop 7).take 1 = [v7]) (h8 : (l.drop 8).take 1 = [v8]) :
    l = [v0, v1, v2, v3, v4, v5, v6, v7, v8] := by
  match l, h with
  | [a0, a1, a2, a3, a4, a5, a6, a7, a8], _ =>
    simp at h0 h1 h2 h3 h4 h5 h6 h7 h8
    subst h0 h1 h2 h3 h4 h5 h6 h7 h8
    rfl
theorem nine_xs {α : Type} {l : List α} (h : l.length = 9) : ∃ x0 x1 x2 x3 x4 x5 x6 x7 x8, l = [x0, x1, x2, x3, x4, x5, x6, x7, x8] := by
  match l, h with
  | [x0, x1, x2, x3, x4, x5, x6, x7, x8], _ => exact ⟨x0, x1, x2, x3, x4, x5, x6, x7, x8, rfl⟩
section
variable {H : Type} {enc : TypeId × Value → H} {w : World} {base : Nat} {spare : Nat → Bool} {held : Bool}
set_option maxRecDepth 100000 in
theorem open_ins {r : Reach} {b0 : Nat} {v : Value} {d : DataW H} {p : List MemPlace} (hv : Value.okWide Tryz.prog w r b0 34 v) (h : DataW.Trod enc Tryz.prog w base spare held 34 v d p) :
    ∃ i : Ins, v = i.V ∧ d = insD i ∧ p = [] ∧ WfIns i := by
  obtain ⟨cs, rfl, hsz⟩ := okWide_struct Tryz.underlying34 hv
  rw [cells_ins] at hsz
  obtain ⟨fuel, hf⟩ := h
  obtain ⟨xs, n, _, hx, _, hl, hq⟩ := DataW.trod_struct Tryz.underlying34 hf
  obtain ⟨x0, x1, x2, x3, x4, x5, x6, x7, x8, rfl⟩ := nine_xs (show xs.length = 9 from hl)
  have q0 := hq 0 _ rfl; have q1 := hq 1 _ rfl; have q2 := hq 2 _ rfl; have q3 := hq 3 _ rfl; have q4 := hq 4 _ rfl; have q5 := hq 5 _ rfl; have q6 := hq 6 _ rfl; have q7 := hq 7 _ rfl; have q8 := hq 8 _ rfl
  simp only [List.getElem?_cons_zero, List.getElem?_cons_succ] at q0 q1 q2 q3 q4 q5 q6 q7 q8
  clear hq hf
  obtain ⟨n0, e0, rfl, w0⟩ := DataW.trod_int Tryz.underlying3 q0
  obtain ⟨n1, e1, rfl, w1⟩ := DataW.trod_int Tryz.underlying3 q1
  obtain ⟨n2, e2, rfl, w2⟩ := DataW.trod_int Tryz.underlying3 q2
  obtain ⟨n3, e3, rfl, w3⟩ := DataW.trod_int Tryz.underlying3 q3
  obtain ⟨n4, e4, rfl, w4⟩ := DataW.trod_int Tryz.underlying2 q4
  obtain ⟨b5, e5, rfl⟩ := DataW.trod_bool Tryz.underlying4 q5
  obtain ⟨b6, e6, rfl⟩ := DataW.trod_bool Tryz.underlying4 q6
  obtain ⟨n7, e7, rfl, w7⟩ := DataW.trod_int Tryz.underlying3 q7
  obtain ⟨n8, e8, rfl, w8⟩ := DataW.trod_int Tryz.underlying3 q8
  have hc := nine_of (l := cs.toList) (by simpa using hsz) _ _ _ _ _ _ _ _ _ e0 e1 e2 e3 e4 e5 e6 e7 e8
  simp only [Prod.mk.injEq] at hx
  refine ⟨⟨n0, n1, n2, n3, n4, b5, b6, n7, n8⟩, ?_, hx.1, hx.2, ⟨w0, w1, w2, w3, w4, w7, w8⟩⟩
  congr 1
  exact Array.toList_inj.1 (by rw [hc])
theorem four_xs {α : Type} {l : List α} (h : l.length = 4) : ∃ x0 x1 x2 x3, l = [x0, x1, x2, x3] := by
  match l, h with
  | [x0, x1, x2, x3], _ => exact ⟨x0, x1, x2, x3, rfl⟩
theorem list_of (P : Nat → BitVec 64 → Prop) : ∀ n : Nat, (∀ i, i < n → ∃ b, P i b) → ∃ l : List (BitVec 64), l.length = n ∧ ∀ i, i < n → P i (l.getD i 0)
  | 0, _ => ⟨[], rfl, fun i hi => absurd hi (by omega)⟩
  | n + 1, h => by
    obtain ⟨l, hl, hp⟩ := list_of P n (fun i hi => h i (by omega))
    obtain ⟨b, hb⟩ := h n (by omega)
    refine ⟨l ++ [b], by simp [hl], fun i hi => ?_⟩
    by_cases e : i < n
    · have := hp i e
      rw [List.getD_eq_getElem?_getD, List.getElem?_append_left (by omega), ← List.getD_eq_getElem?_getD]
      exact this
    · have e' : i = n := by omega
      subst e'
      rw [List.getD_eq_getElem?_getD, List.getElem?_append_right (by omega), hl]
      simpa using hb
theorem at_one {l : List Value} {k : Nat} {v : Value} (h : (l.drop k).take 1 = [v]) : l[k]? = some v := by
  have h2 : ((l.drop k).take 1)[0]? = some v := by rw [h]; rfl
  rw [List.getElem?_take_of_lt (by omega), List.getElem?_drop] at h2
  simpa using h2
set_option maxRecDepth 100000 in
theorem open_hart {r : Reach} {b0 : Nat} {v : Value} {d : DataW H} {p : List MemPlace} (hv : Value.okWide Tryz.prog w r b0 25 v) (h : DataW.Trod enc Tryz.prog w base spare held 25 v d p) :
    ∃ h : Ha, v = h.V ∧ p = [] := by
  obtain ⟨cs, rfl, hsz⟩ := okWide_struct Tryz.underlying25 hv
  rw [cells_hart] at hsz
  obtain ⟨fuel, hf⟩ := h
  obtain ⟨xs, n, _, hx, _, hl, hq⟩ := DataW.trod_struct Tryz.underlying25 hf
  obtain ⟨x0, x1, x2, x3, rfl⟩ := four_xs (show xs.length = 4 from hl)
  have q0 := hq 0 _ rfl; have q1 := hq 1 _ rfl; have q2 := hq 2 _ rfl; have q3 := hq 3 _ rfl
  simp only [List.getElem?_cons_zero, List.getElem?_cons_succ, cells_u64, cells_arr, cells_int] at q0 q1 q2 q3
  clear hq hf
  obtain ⟨n0, e0, rfl, w0⟩ := DataW.trod_int Tryz.underlying22 q0
  obtain ⟨n2, e2, rfl, w2⟩ := DataW.trod_int Tryz.underlying3 q2
  obtain ⟨n3, e3, rfl, w3⟩ := DataW.trod_int Tryz.underlying22 q3
  obtain ⟨ys, m, _, rfl, _, hyl, hy⟩ := DataW.trod_array Tryz.underlying23 q1
  obtain ⟨pc, rfl⟩ := wf_U w0
  obtain ⟨code, rfl⟩ := wf_U w3
  have hall : ∀ i, i < 32 → ∃ b : BitVec 64, cs.toList[1 + i]? = some (.int .u64 (U b)) ∧ (∃ z, ys[i]? = some z ∧ z.2 = []) := by
    intro i hi
    have hi2 := hy i hi
    rw [cells_u64] at hi2
    have hz : i < ys.length := by omega
    rw [List.getElem?_eq_getElem hz] at hi2
    obtain ⟨k, ek, ez, wk⟩ := DataW.trod_int Tryz.underlying22 hi2
    obtain ⟨b, rfl⟩ := wf_U wk
    refine ⟨b, ?_, _, List.getElem?_eq_getElem hz, by rw [ez]⟩
    have h1 := at_one ek
    rw [Nat.mul_one] at h1
    have h2 : ((cs.toList.drop 1).take 32)[i]? = some (.int .u64 (U b)) := h1
    rw [List.getElem?_take_of_lt hi, List.getElem?_drop] at h2
    exact h2
  obtain ⟨l, hll, hlp⟩ := list_of _ 32 (fun i hi => (hall i hi).imp fun b hb => hb.1)
  have hp : p = [] := by
    simp only [Prod.mk.injEq] at hx
    rw [hx.2]
    simp only [List.flatMap_cons, List.flatMap_nil, List.nil_append, List.append_nil]
    rw [List.flatMap_eq_nil_iff]
    intro z hz
    obtain ⟨i, hi, rfl⟩ := List.mem_iff_getElem.1 hz
    obtain ⟨_, _, z', hz', hz2⟩ := hall i (by omega)
    rw [List.getElem?_eq_getElem hi] at hz'
    obtain rfl := Option.some.inj hz'
    exact hz2
  refine ⟨⟨pc, l, n2, code, hll⟩, ?_, hp⟩
  show Value.agg cs = Value.agg (hC _)
  congr 1
  apply Array.ext'
  apply List.ext_getElem?
  intro i
  have f0 : cs.toList[0]? = some (.int .u64 (U pc)) := at_one e0
  have f33 : cs.toList[33]? = some (.int .i64 n2) := at_one e2
  have f34 : cs.toList[34]? = some (.int .u64 (U code)) := at_one e3
  have hH := hC_size ⟨pc, l, n2, code, hll⟩
  by_cases c0 : i = 0
  · subst c0
    rw [f0, Array.getElem?_toList]
    exact (hC_pc ⟨pc, l, n2, code, hll⟩).symm
  · by_cases c1 : i < 33
    · obtain ⟨j, rfl⟩ : ∃ j, i = 1 + j := ⟨i - 1, by omega⟩
      rw [hlp j (by omega), Array.getElem?_toList]
      exact (hC_x ⟨pc, l, n2, code, hll⟩ j (by omega)).symm
    · by_cases c2 : i = 33
      · subst c2
        rw [f33, Array.getElem?_toList]
        exact (hC_e ⟨pc, l, n2, code, hll⟩).symm
      · by_cases c3 : i = 34
        · subst c3
          rw [f34, Array.getElem?_toList]
          exact (hC_code ⟨pc, l, n2, code, hll⟩).symm
        · rw [List.getElem?_eq_none (by simp [hsz]; omega), List.getElem?_eq_none (by simp [hH]; omega)]
end
end Go.Proofs.YtdiacnjkffdegaaGreat
