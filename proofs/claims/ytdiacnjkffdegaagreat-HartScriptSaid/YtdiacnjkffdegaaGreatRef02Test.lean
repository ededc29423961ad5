/-
  Proved here: the great test of the document's own Check (layer 2), once for all forms. Condition: as said.
-/
import Derived.Test.YtdiacnjkffdegaaGreatRef02Has
import Derived.Test.YtdiacnjkffdegaaGreatHartInsn
namespace Go.Proofs.YtdiacnjkffdegaaGreat
set_option linter.unusedSimpArgs false
set_option linter.unusedVariables false
open Go.RowKit
def sndC : Code → Code
  | .seq _ y => y
  | c => c
def fstC : Code → Code
  | .seq x _ => x
  | c => c
noncomputable def chkCode : Code := fstC (fstC (sndC (sndC (sndC (sndC (sndC (sndC (sndC (sndC (sndC (sndC (Tryz.f7.body.getD .skip))))))))))))
theorem number_is (op : Int) (v : BitVec 64) (b : Bool) (hb : Hid (numB op (S v) = b)) (w : World) : Calls Tryz.prog 23 #[.int .i64 op, .int .i64 (S v)] w fun e w' => e = .returned (.bool b) ∧ w = w' := hb.out ▸ rnumber_any op v w
/-- what is against an instruction -/
def Bad (f : Int) (E : Bool) (rd rs1 rs2 : Int) (im nb : Bool) (p q : Int) : Prop :=
  f = 0 ∨ E = false ∨ rd < 0 ∨ 31 < rd ∨ rs1 < 0 ∨ 31 < rs1 ∨ rs2 < 0 ∨ 31 < rs2 ∨ (im = true ∧ nb = false) ∨ p < 0 ∨ 15 < p ∨ q < 0 ∨ 15 < q
set_option maxHeartbeats 4000000 in
set_option maxRecDepth 100000 in
theorem chk_reg (op rd rs1 rs2 : Int) (v : BitVec 64) (aq rl : Bool) (p q : Int) (f : Int) (E im nb : Bool) (k0 k1 k2 k3 k4 k5 k6 k7 k8 : Value) (m n : Nat) (x0 x2 x4 x5 x6 x9 x10 x11 x12 x13 x14 x15 x16 x17 x18 x19 x20 x21 x22 x23 x24 x25 x26 x27 x28 x29 x30 x31 x32 x33 x34 x35 x36 x37 x38 x39 x40 x41 x42 x43 x44 x45 x46 x47 x48 x49 x50 x51 x52 x53 x54 x55 x56 x57 : Value) (Q : Exit → Act → World → Prop) (w : World)
    (HN : Hid (numB op (S v) = nb)) (hE : ∀ w, (binOp .neq 34 (.agg #[k0, k1, k2, k3, k4, k5, k6, k7, k8]) (insV op rd rs1 rs2 (S v) aq rl p q)).run Tryz.prog w = .ok (.bool !E) w)
    (d0 : w.cell? ⟨n, 0, none⟩ = some k0) (d1 : w.cell? ⟨n, 1, none⟩ = some k1) (d2 : w.cell? ⟨n, 2, none⟩ = some k2) (d3 : w.cell? ⟨n, 3, none⟩ = some k3) (d4 : w.cell? ⟨n, 4, none⟩ = some k4) (d5 : w.cell? ⟨n, 5, none⟩ = some k5) (d6 : w.cell? ⟨n, 6, none⟩ = some k6) (d7 : w.cell? ⟨n, 7, none⟩ = some k7) (d8 : w.cell? ⟨n, 8, none⟩ = some k8)
    (c0 : w.cell? ⟨m, 0, none⟩ = some (.int .i64 op)) (c1 : w.cell? ⟨m, 1, none⟩ = some (.int .i64 rd)) (c2 : w.cell? ⟨m, 2, none⟩ = some (.int .i64 rs1)) (c3 : w.cell? ⟨m, 3, none⟩ = some (.int .i64 rs2)) (c4 : w.cell? ⟨m, 4, none⟩ = some (.int .i64 (S v)))
    (c5 : w.cell? ⟨m, 5, none⟩ = some (.bool aq)) (c6 : w.cell? ⟨m, 6, none⟩ = some (.bool rl)) (c7 : w.cell? ⟨m, 7, none⟩ = some (.int .i64 p)) (c8 : w.cell? ⟨m, 8, none⟩ = some (.int .i64 q))
    (hq : ∀ (y3 y7 x58 x59 x60 x61 x62 x63 x64 x65 x66 x67 x68 x69 x70 x71 x72 x73 x74 x75 x76 x77 x78 x79 x80 x81 x82 x83 x84 x85 x86 x87 x88 x89 x90 x91 x92 x93 x94 x95 x96 x97 x98 x99 x100 x101 x102 x103 x104 x105 x106 x107 x108 x109 x110 x111 x112 x113 x114 x115 x116 x117 x118 x119 x120 x121 x122 x123 x124 : Value) (r : Bool), (r = true ↔ Bad f E rd rs1 rs2 im nb p q) → Q .normal { tmps := #[x0, .pointer (some ⟨m, 0, none⟩), x2, y3, x4, x5, x6, y7, .pointer (some ⟨n, 0, none⟩), x9, x10, x11, x12, x13, x14, x15, x16, x17, x18, x19, x20, x21, x22, x23, x24, x25, x26, x27, x28, x29, x30, x31, x32, x33, x34, x35, x36, x37, x38, x39, x40, x41, x42, x43, x44, x45, x46, x47, x48, x49, x50, x51, x52, x53, x54, x55, x56, x57, x58, x59, x60, x61, x62, x63, x64, x65, x66, x67, x68, x69, x70, x71, x72, x73, x74, x75, x76, x77, x78, x79, x80, x81, x82, x83, x84, x85, x86, x87, x88, x89, x90, x91, x92, x93, x94, x95, x96, x97, x98, x99, x100, x101, x102, x103, x104, x105, x106, x107, x108, x109, x110, x111, x112, x113, x114, x115, x116, x117, x118, x119, x120, x121, x122, x123, x124, .bool r], defers := [] } w) :
    chkCode.wp Tryz.prog Q { tmps := #[x0, .pointer (some ⟨m, 0, none⟩), x2, .int .i64 f, x4, x5, x6, .bool im, .pointer (some ⟨n, 0, none⟩), x9, x10, x11, x12, x13, x14, x15, x16, x17, x18, x19, x20, x21, x22, x23, x24, x25, x26, x27, x28, x29, x30, x31, x32, x33, x34, x35, x36, x37, x38, x39, x40, x41, x42, x43, x44, x45, x46, x47, x48, x49, x50, x51, x52, x53, x54, x55, x56, x57, undef, undef, undef, undef, undef, undef, undef, undef, undef, undef, undef, undef, undef, undef, undef, undef, undef, undef, undef, undef, undef, undef, undef, undef, undef, undef, undef, undef, undef, undef, undef, undef, undef, undef, undef, undef, undef, undef, undef, undef, undef, undef, undef, undef, undef, undef, undef, undef, undef, undef, undef, undef, undef, undef, undef, undef, undef, undef, undef, undef, undef, undef, undef, undef, undef, undef, undef, undef], defers := [] } w := by
  unfold chkCode
  simp only [Tryz.f7, Option.getD, fstC, sndC, List.append_eq, List.cons_append, List.nil_append]
  unfold Bad at hq
  have HQ := Lib.hid hq
  clear hq
  go_wp2_with (first | (go_at_call 23; (with_reducible refine (number_is op v nb HN _).mono ?_); rintro e w' ⟨rfl, rfl⟩))
  all_goals first
    | (refine HQ.out _ _ _ _ _ _ _ _ _ _ _ _ _ _ _ _ _ _ _ _ _ _ _ _ _ _ _ _ _ _ _ _ _ _ _ _ _ _ _ _ _ _ _ _ _ _ _ _ _ _ _ _ _ _ _ _ _ _ _ _ _ _ _ _ _ _ _ _ _ true ?_; simp_all; done)
    | (refine HQ.out _ _ _ _ _ _ _ _ _ _ _ _ _ _ _ _ _ _ _ _ _ _ _ _ _ _ _ _ _ _ _ _ _ _ _ _ _ _ _ _ _ _ _ _ _ _ _ _ _ _ _ _ _ _ _ _ _ _ _ _ _ _ _ _ _ _ _ _ _ false ?_; simp_all; done)
    | (refine HQ.out _ _ _ _ _ _ _ _ _ _ _ _ _ _ _ _ _ _ _ _ _ _ _ _ _ _ _ _ _ _ _ _ _ _ _ _ _ _ _ _ _ _ _ _ _ _ _ _ _ _ _ _ _ _ _ _ _ _ _ _ _ _ _ _ _ _ _ _ _ true ?_; simp only [true_iff, bne_eq_false_iff_eq, bne_iff_ne, ne_eq, beq_iff_eq] at *; omega)
    | (refine HQ.out _ _ _ _ _ _ _ _ _ _ _ _ _ _ _ _ _ _ _ _ _ _ _ _ _ _ _ _ _ _ _ _ _ _ _ _ _ _ _ _ _ _ _ _ _ _ _ _ _ _ _ _ _ _ _ _ _ _ _ _ _ _ _ _ _ _ _ _ _ false ?_; simp_all; omega)
    | (refine HQ.out _ _ _ _ _ _ _ _ _ _ _ _ _ _ _ _ _ _ _ _ _ _ _ _ _ _ _ _ _ _ _ _ _ _ _ _ _ _ _ _ _ _ _ _ _ _ _ _ _ _ _ _ _ _ _ _ _ _ _ _ _ _ _ _ _ _ _ _ _ _ ?_; have e1 : (E = false) = False := (by simp [*]); have e2 : (im = true ∧ nb = false) = False := (by simp [*]); simp only [Bool.or_eq_true, beq_iff_eq, decide_eq_true_eq, e1, e2, false_or]; omega)
end Go.Proofs.YtdiacnjkffdegaaGreat
