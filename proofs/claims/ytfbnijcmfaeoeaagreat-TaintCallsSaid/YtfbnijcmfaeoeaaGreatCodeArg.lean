/-
  Proved here: an instruction that comes in as an argument is nine cells, and reads as what they hold, in whatever world. No condition.
-/
import Derived.Test.YtfbnijcmfaeoeaaGreatInsnAsk
import Derived.ProofKit
import Derived.OpenShut
import Derived.RowKit
import Derived.Deep.Fields
namespace Go.Proofs.YtfbnijcmfaeoeaaGreat
open Go.ChangeShapes Go.WideShapes Go.ChangeAt Go.RowKit

def insD {H : Type} (i : Ins) : DataW H := .agg [.lit (.int .i64 i.op), .lit (.int .i64 i.rd), .lit (.int .i64 i.rs1), .lit (.int .i64 i.rs2), .lit (.int .i64 i.imm), .lit (.bool i.aq), .lit (.bool i.rl), .lit (.int .i64 i.pred), .lit (.int .i64 i.succ)]
structure WfIns (i : Ins) : Prop where
  op : (Lit.int .i64 i.op).wf = true
  rd : (Lit.int .i64 i.rd).wf = true
  rs1 : (Lit.int .i64 i.rs1).wf = true
  rs2 : (Lit.int .i64 i.rs2).wf = true
  imm : (Lit.int .i64 i.imm).wf = true
  pred : (Lit.int .i64 i.pred).wf = true
  succ : (Lit.int .i64 i.succ).wf = true
theorem cells_int : Tryz.prog.cellsOf 3 = 1 := by kernel_rfl
theorem cells_i64 : Tryz.prog.cellsOf 2 = 1 := by kernel_rfl
theorem cells_bool : Tryz.prog.cellsOf 4 = 1 := by kernel_rfl
theorem cells_ins : Tryz.prog.cellsOf 27 = 9 := by kernel_rfl
theorem nine_of {l : List Value} (h : l.length = 9) (v0 v1 v2 v3 v4 v5 v6 v7 v8 : Value) (h0 : (l.drop 0).take 1 = [v0]) (h1 : (l.drop 1).take 1 = [v1]) (h2 : (l.drop 2).take 1 = [v2]) (h3 : (l.drop 3).take 1 = [v3]) (h4 : (l.drop 4).take 1 = [v4]) (h5 : (l.drop 5).take 1 = [v5]) (h6 : (l.drop 6).take 1 = [v6]) (h7 : (l.drop 7).take 1 = [v7]) (h8 : (l.drop 8).take 1 = [v8]) :
    l = [v0, v1, v2, v3, v4, v5, v6, v7, v8] := by
  match l, h with
  | [a0, a1, a2, a3, a4, a5, a6, a7, a8], _ =>
    simp at h0 h1 h2 h3 h4 h5 h6 h7 h8
    subst h0 h1 h2 h3 h4 h5 h6 h7 h8
    rfl
theorem nine_xs {α : Type} {l : List α} (h : l.length = 9) : ∃ x0 x1 x2 x3 x4 x5 x6 x7 x8, l = [x0, x1, x2, x3, x4, x5, x6, x7, x8] := by
  match l, h with
  | [x0, x1, x2, x3, x4, x5, x6, x7, x8], _ => exact ⟨x0, x1, x2, x3, x4, x5, x6, x7, x8, rfl⟩
section
variable {H : Type} {enc : TypeId × Value → H} {w : World} {base : Nat} {spare : Nat → Bool} {held : Bool}
set_option maxRecDepth 100000 in
theorem open_ins {r : Reach} {b0 : Nat} {v : Value} {d : DataW H} {p : List MemPlace} (hv : Value.okWide Tryz.prog w r b0 27 v) (h : DataW.Trod enc Tryz.prog w base spare held 27 v d p) :
    ∃ i : Ins, v = i.V ∧ d = insD i ∧ p = [] ∧ WfIns i := by
  obtain ⟨cs, rfl, hsz⟩ := okWide_struct Tryz.underlying27 hv
  rw [cells_ins] at hsz
  obtain ⟨fuel, hf⟩ := h
  obtain ⟨xs, n, _, hx, _, hl, hq⟩ := DataW.trod_struct Tryz.underlying27 hf
  obtain ⟨x0, x1, x2, x3, x4, x5, x6, x7, x8, rfl⟩ := nine_xs (show xs.length = 9 from hl)
  have q0 := hq 0 _ rfl; have q1 := hq 1 _ rfl; have q2 := hq 2 _ rfl; have q3 := hq 3 _ rfl; have q4 := hq 4 _ rfl; have q5 := hq 5 _ rfl; have q6 := hq 6 _ rfl; have q7 := hq 7 _ rfl; have q8 := hq 8 _ rfl
  simp only [List.getElem?_cons_zero, List.getElem?_cons_succ] at q0 q1 q2 q3 q4 q5 q6 q7 q8
  clear hq hf
  obtain ⟨n0, e0, rfl, w0⟩ := DataW.trod_int Tryz.underlying3 q0
  obtain ⟨n1, e1, rfl, w1⟩ := DataW.trod_int Tryz.underlying3 q1
  obtain ⟨n2, e2, rfl, w2⟩ := DataW.trod_int Tryz.underlying3 q2
  obtain ⟨n3, e3, rfl, w3⟩ := DataW.trod_int Tryz.underlying3 q3
  obtain ⟨n4, e4, rfl, w4⟩ := DataW.trod_int Tryz.underlying2 q4
  obtain ⟨b5, e5, rfl⟩ := DataW.trod_bool Tryz.underlying4 q5
  obtain ⟨b6, e6, rfl⟩ := DataW.trod_bool Tryz.underlying4 q6
  obtain ⟨n7, e7, rfl, w7⟩ := DataW.trod_int Tryz.underlying3 q7
  obtain ⟨n8, e8, rfl, w8⟩ := DataW.trod_int Tryz.underlying3 q8
  have hc := nine_of (l := cs.toList) (by simpa using hsz) _ _ _ _ _ _ _ _ _ e0 e1 e2 e3 e4 e5 e6 e7 e8
  simp only [Prod.mk.injEq] at hx
  refine ⟨⟨n0, n1, n2, n3, n4, b5, b6, n7, n8⟩, ?_, hx.1, hx.2, ⟨w0, w1, w2, w3, w4, w7, w8⟩⟩
  congr 1
  exact Array.toList_inj.1 (by rw [hc])
set_option maxRecDepth 100000 in
theorem shut_ins {i : Ins} (hw : WfIns i) : DataW.Trod enc Tryz.prog w base spare held 27 i.V (insD i) [] := by
  have h := trod_struct_mk (enc := enc) (w := w) (base := base) (spare := spare) (held := held) (n := 1) (cs := (insCells i).toList) (xs := [(.lit (.int .i64 i.op), []), (.lit (.int .i64 i.rd), []), (.lit (.int .i64 i.rs1), []), (.lit (.int .i64 i.rs2), []), (.lit (.int .i64 i.imm), []), (.lit (.bool i.aq), []), (.lit (.bool i.rl), []), (.lit (.int .i64 i.pred), []), (.lit (.int .i64 i.succ), [])]) Tryz.underlying27 (by rw [cells_ins]; rfl)
    (by simp [cells_int, cells_i64, cells_bool, DataW.trod, Tryz.underlying3, Tryz.underlying2, Tryz.underlying4, hw.op, hw.rd, hw.rs1, hw.rs2, hw.imm, hw.pred, hw.succ])
  exact ⟨_, h⟩
end
theorem wf_u32 {a : Int} (w : (Lit.int .u32 a).wf = true) : ∃ b : BitVec 64, a = U b ∧ b.toNat < 4294967296 := by
  have h : 0 ≤ a ∧ a < 4294967296 := by simp [Lit.wf, IntKind.min, IntKind.max, IntKind.bits, IntKind.signed] at w; omega
  refine ⟨BitVec.ofInt 64 a, ?_, ?_⟩
  · unfold U; rw [BitVec.toNat_ofInt]; omega
  · rw [BitVec.toNat_ofInt]; omega
end Go.Proofs.YtfbnijcmfaeoeaaGreat
