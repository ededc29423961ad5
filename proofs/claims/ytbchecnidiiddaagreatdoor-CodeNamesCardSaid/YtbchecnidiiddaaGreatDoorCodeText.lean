/-
  Proved here: the text of a word as package code makes it: its instruction's text, or a dot and its digits; nothing but the book is changed. Conditions: a word of 32 bits; the tables of Go's library as it lays them.
-/
import Derived.Test.YtbchecnidiiddaaGreatDoorCodeInsn
import Derived.Test.YtbchecnidiiddaaGreatDoorCodeHex
import Derived.Test.YtbchecnidiiddaaGreatDoorInsnText
namespace Go.Proofs.YtbchecnidiiddaaGreatDoor
set_option linter.unusedVariables false
set_option linter.unusedSimpArgs false
open Go.RowKit

/-- the tables of Go's library, as it lays them -/
def Tabs (w : World) : Prop := TabZ w ∧ Lib.TabIs Tryz.prog w "internal/strconv.uint64pow10" .u64 Lib.pow10Tab
def TabB (B : Nat) (w : World) : Prop := B ≤ w.heap.size ∧ ∀ w', Below B w w' → Tabs w'
theorem TabB.on {B : Nat} {w w' : World} (h : TabB B w) (hb : Below B w w') : TabB B w' := ⟨Nat.le_trans h.1 hb.size, fun w2 h2 => h.2 w2 (hb.trans h2)⟩
theorem TabB.here {B : Nat} {w : World} (h : TabB B w) : Tabs w := h.2 w (Below.refl _ _)
theorem TabB.oth {B n : Nat} {w w' : World} (h : TabB B w) (hn : B ≤ n) (ho : Oth n w w') : TabB B w' := h.on ⟨ho.1, ho.2.1, ho.2.2.1, ho.2.2.2.1, fun k hk => ho.2.2.2.2 k (Nat.lt_of_lt_of_le hk h.1) (by omega)⟩
theorem TabB.alloc {B : Nat} {w : World} (h : TabB B w) (o : Obj) : TabB B (w.alloc o) := h.on ((Below.refl _ _).alloc h.1 o)
/-- a word's line of a dump -/
def lineS (b : BitVec 64) : ByteArray := if goodW b then ⟨(toldL (readW b)).toArray⟩ else ⟨#[46]⟩ ++ eightS b.toNat
def LineOk (n : Nat) (s : ByteArray) (w : World) (e : Ending) (w' : World) : Prop := e = .returned (.string s) ∧ BookOk n w' ∧ Oth n w w'
set_option maxRecDepth 100000 in
set_option maxHeartbeats 2000000 in
theorem line_no (B n : Nat) (b : BitVec 64) (hg : goodW b = false) (hlt : b.toNat < 4294967296) (w : World) (hb : BookOk n w) (hT : TabB B w) (hn : B ≤ n) : Calls Tryz.prog 11 #[.pointer (some ⟨n, 0, none⟩), .int .u32 (U b)] w fun e w' => LineOk n (⟨#[46]⟩ ++ eightS b.toNat) w e w' := by
  have K := insn_any n b w hb
  rw [hg] at K
  have HK := Lib.hid K
  have HT := Lib.hid hT
  have HD := Lib.hid (fun W (h : TabB B W) => digitsC_any b.toNat hlt W h.here.1)
  unfold U at HK ⊢
  clear K hb hT
  have hts := eightS_le b.toNat hlt
  obtain ⟨t, ht⟩ : ∃ t, Hid (eightS b.toNat = t) := ⟨_, Lib.hid rfl⟩
  rw [ht.out] at HD hts ⊢
  go_enter Tryz.func11, Tryz.ntmps11
  go_wp2_with (first
    | (go_at_call 9; (with_reducible refine HK.out.mono ?_); rintro e w1 ⟨rfl, hb1, hO1⟩; have B1 := Lib.hid hb1; have O1 := Lib.hid hO1; clear hb1 hO1)
    | (go_at_call 18; (with_reducible refine (HD.out _ ((HT.out.oth hn O1.out).alloc _)).mono ?_); rintro e w2 ⟨rfl, hb2⟩; have B2 := Lib.hid hb2; clear hb2))
  go_ret
  have B3 := (one_box w1 _).trans (B2.out.mono (by simp))
  exact ⟨rfl, B1.out.below B3, O1.out.trans (Oth.of B3)⟩
set_option maxRecDepth 100000 in
set_option maxHeartbeats 2000000 in
theorem line_yes (B n : Nat) (b : BitVec 64) (hg : goodW b = true) (w : World) (hb : BookOk n w) (hT : TabB B w) (hn : B ≤ n) : Calls Tryz.prog 11 #[.pointer (some ⟨n, 0, none⟩), .int .u32 (U b)] w fun e w' => LineOk n ⟨(toldL (readW b)).toArray⟩ w e w' := by
  have K := insn_any n b w hb
  rw [hg, if_pos rfl, if_pos rfl] at K
  have HR := readW_imm b
  obtain ⟨i, hi⟩ : ∃ i, readW b = i := ⟨_, rfl⟩
  rw [hi] at K HR ⊢
  have HK := Lib.hid K
  have HT := Lib.hid hT
  have HX := Lib.hid (fun W (h : TabB B W) => Text_any i HR.1 HR.2 W h.here.2)
  obtain ⟨x, hx⟩ : ∃ x, Hid (errI i.ok = x) := ⟨_, Lib.hid rfl⟩
  obtain ⟨t, ht⟩ : ∃ t, Hid ((⟨(toldL i).toArray⟩ : ByteArray) = t) := ⟨_, Lib.hid rfl⟩
  rw [hx.out, ht.out] at HX
  rw [ht.out]
  clear K hb hT HR hi
  go_enter Tryz.func11, Tryz.ntmps11
  go_wp2_with (first
    | (go_at_call 9; (with_reducible refine HK.out.mono ?_); rintro e w1 ⟨rfl, hb1, hO1⟩; have B1 := Lib.hid hb1; have O1 := Lib.hid hO1; have N1 := Lib.hid (heap_new w1 (.cells #[.int .i64 i.op, .int .i64 i.rd, .int .i64 i.rs1, .int .i64 i.rs2, .int .i64 i.imm, .bool i.aq, .bool i.rl, .int .i64 i.pred, .int .i64 i.succ] 23)); have cl := ins_load (i := i) N1.out; clear hb1 hO1)
    | (go_at_call 19; (with_reducible refine (HX.out _ ((HT.out.oth hn O1.out).alloc _)).mono ?_); rintro e w2 ⟨rfl, hb2⟩; have B2 := Lib.hid hb2; clear hb2))
  go_ret
  have B3 := (one_box w1 _).trans (B2.out.mono (by simp))
  exact ⟨rfl, B1.out.below B3, O1.out.trans (Oth.of B3)⟩
theorem line_any (B n : Nat) (b : BitVec 64) (hlt : b.toNat < 4294967296) (w : World) (hb : BookOk n w) (hT : TabB B w) (hn : B ≤ n) : Calls Tryz.prog 11 #[.pointer (some ⟨n, 0, none⟩), .int .u32 (U b)] w fun e w' => LineOk n (lineS b) w e w' := by
  unfold lineS
  cases hg : goodW b
  · exact line_no B n b hg hlt w hb hT hn
  · exact line_yes B n b hg w hb hT hn
end Go.Proofs.YtbchecnidiiddaaGreatDoor
