/-
  Proved here: the law InsnNames returns true, and writes nothing that was there. Condition: the tables and errors of Go's library read as it lays them.
-/
import Derived.Test.YtplneijbhmhmoaaGreatDoorInsnReadText
import Derived.Test.YtplneijbhmhmoaaGreatDoorInsnReads
import Derived.LoopN
import Derived.Deep.QuietTactic
import Derived.BigQuiet
namespace Go.Proofs.YtplneijbhmhmoaaGreatDoor
open Go.RowKit

theorem Lay.here' {B : Nat} {w w' : World} (h : Lay B w) (hb : Below B w w') (hB : B ≤ w'.heap.size) : Lay w'.heap.size w' :=
  ⟨fun w2 h2 => h.1 w2 (hb.trans (h2.mono hB)), fun w2 h2 => h.2 w2 (hb.trans (h2.mono hB))⟩
def nIns (op rd rs1 rs2 imm pred succ : Int) : Ins := ⟨op, rd, rs1, rs2, imm, false, false, pred, succ⟩
def i1 : Ins := nIns 63 0 0 0 0 0 15
def i4 : Ins := nIns 4 0 1 0 0 0 0
theorem r1_is : readI [102, 101, 110, 99, 101, 32, 48, 44, 32, 105, 111, 114, 119] = i1 ∧ readE [102, 101, 110, 99, 101, 32, 48, 44, 32, 105, 111, 114, 119] = 0 := ⟨by kernel_rfl, by kernel_rfl⟩
theorem r1 (w : World) (hL : Lay w.heap.size w) : Calls Tryz.prog 5 #[.string ⟨#[102, 101, 110, 99, 101, 32, 48, 44, 32, 105, 111, 114, 119]⟩] w fun e w' => e = .returned (.tuple #[.agg #[.int .i64 63, .int .i64 0, .int .i64 0, .int .i64 0, .int .i64 0, .bool false, .bool false, .int .i64 0, .int .i64 15], .int .i64 0]) ∧ Below w.heap.size w w' := by
  have h := Read_any ⟨#[102, 101, 110, 99, 101, 32, 48, 44, 32, 105, 111, 114, 119]⟩ (by decide) w hL
  rw [show (⟨#[102, 101, 110, 99, 101, 32, 48, 44, 32, 105, 111, 114, 119]⟩ : ByteArray).data.toList = [102, 101, 110, 99, 101, 32, 48, 44, 32, 105, 111, 114, 119] from rfl, r1_is.1, r1_is.2] at h
  exact h
theorem r2_is : readI [97, 100, 100, 105, 32, 120, 53, 44, 32, 120, 54, 44, 32, 48, 51] = Ins.zero ∧ readE [97, 100, 100, 105, 32, 120, 53, 44, 32, 120, 54, 44, 32, 48, 51] = 4 := ⟨by kernel_rfl, by kernel_rfl⟩
theorem r2 (w : World) (hL : Lay w.heap.size w) : Calls Tryz.prog 5 #[.string ⟨#[97, 100, 100, 105, 32, 120, 53, 44, 32, 120, 54, 44, 32, 48, 51]⟩] w fun e w' => e = .returned (.tuple #[.agg #[.int .i64 0, .int .i64 0, .int .i64 0, .int .i64 0, .int .i64 0, .bool false, .bool false, .int .i64 0, .int .i64 0], .int .i64 4]) ∧ Below w.heap.size w w' := by
  have h := Read_any ⟨#[97, 100, 100, 105, 32, 120, 53, 44, 32, 120, 54, 44, 32, 48, 51]⟩ (by decide) w hL
  rw [show (⟨#[97, 100, 100, 105, 32, 120, 53, 44, 32, 120, 54, 44, 32, 48, 51]⟩ : ByteArray).data.toList = [97, 100, 100, 105, 32, 120, 53, 44, 32, 120, 54, 44, 32, 48, 51] from rfl, r2_is.1, r2_is.2] at h
  exact h
theorem r3_is : readI [115, 108, 108, 105, 119, 32, 120, 53, 44, 32, 120, 54, 44, 32, 51, 50] = Ins.zero ∧ readE [115, 108, 108, 105, 119, 32, 120, 53, 44, 32, 120, 54, 44, 32, 51, 50] = 4 := ⟨by kernel_rfl, by kernel_rfl⟩
theorem r3 (w : World) (hL : Lay w.heap.size w) : Calls Tryz.prog 5 #[.string ⟨#[115, 108, 108, 105, 119, 32, 120, 53, 44, 32, 120, 54, 44, 32, 51, 50]⟩] w fun e w' => e = .returned (.tuple #[.agg #[.int .i64 0, .int .i64 0, .int .i64 0, .int .i64 0, .int .i64 0, .bool false, .bool false, .int .i64 0, .int .i64 0], .int .i64 4]) ∧ Below w.heap.size w w' := by
  have h := Read_any ⟨#[115, 108, 108, 105, 119, 32, 120, 53, 44, 32, 120, 54, 44, 32, 51, 50]⟩ (by decide) w hL
  rw [show (⟨#[115, 108, 108, 105, 119, 32, 120, 53, 44, 32, 120, 54, 44, 32, 51, 50]⟩ : ByteArray).data.toList = [115, 108, 108, 105, 119, 32, 120, 53, 44, 32, 120, 54, 44, 32, 51, 50] from rfl, r3_is.1, r3_is.2] at h
  exact h
theorem r4_is : readI [106, 97, 108, 114, 32, 120, 48, 44, 32, 48, 40, 120, 49, 41] = i4 ∧ readE [106, 97, 108, 114, 32, 120, 48, 44, 32, 48, 40, 120, 49, 41] = 0 := ⟨by kernel_rfl, by kernel_rfl⟩
theorem r4 (w : World) (hL : Lay w.heap.size w) : Calls Tryz.prog 5 #[.string ⟨#[106, 97, 108, 114, 32, 120, 48, 44, 32, 48, 40, 120, 49, 41]⟩] w fun e w' => e = .returned (.tuple #[.agg #[.int .i64 4, .int .i64 0, .int .i64 1, .int .i64 0, .int .i64 0, .bool false, .bool false, .int .i64 0, .int .i64 0], .int .i64 0]) ∧ Below w.heap.size w w' := by
  have h := Read_any ⟨#[106, 97, 108, 114, 32, 120, 48, 44, 32, 48, 40, 120, 49, 41]⟩ (by decide) w hL
  rw [show (⟨#[106, 97, 108, 114, 32, 120, 48, 44, 32, 48, 40, 120, 49, 41]⟩ : ByteArray).data.toList = [106, 97, 108, 114, 32, 120, 48, 44, 32, 48, 40, 120, 49, 41] from rfl, r4_is.1, r4_is.2] at h
  exact h
theorem mem68 (w : World) : Calls Tryz.prog 6 #[.int .i64 68] w fun e w' => e = .returned (.tuple #[.bool false, .bool true, .int .i64 4]) ∧ Below w.heap.size w w' := by
  have h := Memory_any 68 w
  rw [show loadsB 68 = false by kernel_rfl, show storesB 68 = true by kernel_rfl, show sizeOf' 68 = 4 by kernel_rfl] at h
  exact h
theorem named87 (w : World) : Calls Tryz.prog 8 #[.string ⟨#[97, 109, 111, 109, 97, 120, 117, 46, 100]⟩] w fun e w' => e = .returned (.int .i64 87) ∧ Below w.heap.size w w' := by
  have h := Named_any ⟨#[97, 109, 111, 109, 97, 120, 117, 46, 100]⟩ w
  rw [show (⟨#[97, 109, 111, 109, 97, 120, 117, 46, 100]⟩ : ByteArray).data.toList = [97, 109, 111, 109, 97, 120, 117, 46, 100] from rfl, show namedN [97, 109, 111, 109, 97, 120, 117, 46, 100] = 87 by kernel_rfl] at h
  exact h
theorem name87 (w : World) : Calls Tryz.prog 9 #[.int .i64 87] w fun e w' => e = .returned (.string ⟨#[97, 109, 111, 109, 97, 120, 117, 46, 100]⟩) ∧ Below w.heap.size w w' := by
  have h := Name_any 87 w
  rw [show nameOf 87 = [97, 109, 111, 109, 97, 120, 117, 46, 100] by kernel_rfl] at h
  exact h
theorem name88 (w : World) : Calls Tryz.prog 9 #[.int .i64 88] w fun e w' => e = .returned (.string ⟨#[]⟩) ∧ Below w.heap.size w w' := by
  have h := Name_any 88 w
  rw [show nameOf 88 = [] by kernel_rfl] at h
  exact h
theorem form0 (w : World) : Calls Tryz.prog 10 #[.int .i64 0] w fun e w' => e = .returned (.int .i64 0) ∧ Below w.heap.size w w' := by
  have h := Form_any 0 w
  rw [show formOf 0 = 0 by kernel_rfl] at h
  exact h
theorem check1 (w : World) : Calls Tryz.prog 11 #[.agg #[.int .i64 1, .int .i64 0, .int .i64 0, .int .i64 0, .int .i64 524288, .bool false, .bool false, .int .i64 0, .int .i64 0]] w fun e w' => e = .returned (.int .i64 2) ∧ Below w.heap.size w w' := Check_no (nIns 1 0 0 0 524288 0 0) (Lib.hid (by kernel_rfl)) w
theorem check2 (w : World) : Calls Tryz.prog 11 #[.agg #[.int .i64 64, .int .i64 1, .int .i64 0, .int .i64 0, .int .i64 0, .bool false, .bool false, .int .i64 0, .int .i64 0]] w fun e w' => e = .returned (.int .i64 2) ∧ Below w.heap.size w w' := Check_no (nIns 64 1 0 0 0 0 0) (Lib.hid (by kernel_rfl)) w
theorem reads64_is : readsL (nIns 64 0 0 0 0 0 0) = [10, 17] := by
  unfold readsL
  rw [if_pos (show (nIns 64 0 0 0 0 0 0).op = 64 from rfl)]
  unfold regsL
  rw [sortL_two, if_pos (by decide), compact_two, if_neg (by decide)]
  rfl
/-- a row of 10 and 17 -/
def Two (g : Nat) (w : World) : Prop := w.cell? ⟨g, 0, none⟩ = some (.int .i64 10) ∧ w.cell? ⟨g, 1, none⟩ = some (.int .i64 17)
def GotTwo (w : World) (e : Ending) (w' : World) : Prop := ∃ g c, e = .returned (.slice (some ⟨g, 0, none⟩) 2 c) ∧ Two g w' ∧ g < w'.heap.size ∧ Below w.heap.size w w'
theorem reads64 (w : World) : Calls Tryz.prog 13 #[.agg #[.int .i64 64, .int .i64 0, .int .i64 0, .int .i64 0, .int .i64 0, .bool false, .bool false, .int .i64 0, .int .i64 0]] w (GotTwo w) := by
  refine (Reads_ok (nIns 64 0 0 0 0 0 0) (Lib.hid (by kernel_rfl)) w).mono fun e w' h => ?_
  obtain ⟨g, c, he, hr, hb⟩ := h
  rw [reads64_is] at he hr
  have h0 := hr.2 0 (by decide)
  have h1 := hr.2 1 (by decide)
  refine ⟨g, c, he, ⟨h0, h1⟩, ?_, hb⟩
  unfold World.cell? at h0
  cases hx : w'.heap[g]? with
  | none => simp [hx] at h0
  | some o => exact (Array.getElem?_eq_some_iff.1 hx).1
theorem drew_b (B : Nat) (w : World) (n : Nat) : Below B w (w.drewN n) := ⟨rfl, rfl, rfl, Nat.le_refl _, fun _ _ => rfl⟩
theorem same_two (g h c d : Nat) (w : World) (hg : Two g w) (hh : Two h w) : Calls Tryz.prog 12 #[.slice (some ⟨g, 0, none⟩) 2 c, .slice (some ⟨h, 0, none⟩) 2 d] w fun e w' => e = .returned (.bool true) ∧ Below w.heap.size w w' := by
  obtain ⟨g0, g1⟩ := hg
  obtain ⟨h0, h1⟩ := hh
  go_enter Tryz.func12, Tryz.ntmps12
  go_wp2
  refine wp_loop_rounds 3 ?_
  rw [rounds_succ]
  go_wp2
  go_quiet (fail)
  go_wp2
  rw [rounds_succ]
  go_wp2
  go_quiet (fail)
  go_wp2
  rw [rounds_succ]
  go_wp2
  go_ret
  exact ⟨rfl, drew_b _ _ _⟩
theorem carry {i : Ins} {n : Nat} {w w' : World} (h : InsAt i n w) (hb : Below w.heap.size w w') : InsAt i n w' := InsAt.below h hb (InsAt.facts h).1
theorem two_later {g : Nat} {w : World} (h : Two g w) (hg : g < w.heap.size) (o : Obj) : Two g (w.alloc o) :=
  ⟨((((Below.refl w.heap.size w).alloc (Nat.le_refl _) o).cell hg)).trans h.1, ((((Below.refl w.heap.size w).alloc (Nat.le_refl _) o).cell hg)).trans h.2⟩
theorem two_new (w : World) (t : TypeId) : Two w.heap.size (w.alloc (.cells #[.int .i64 10, .int .i64 17] t)) := by
  constructor <;> simp [go_sem]
set_option maxRecDepth 100000 in
set_option maxHeartbeats 4000000 in
theorem names_any (w : World) (hL : Lay w.heap.size w) : Calls Tryz.prog 3 #[] w fun e w' => e = .returned (.bool true) ∧ Below w.heap.size w w' := by
  have HB := Lib.hid (Below.refl w.heap.size w)
  have HL := Lib.hid hL
  clear hL
  go_enter Tryz.func3, Tryz.ntmps3
  go_wp2_with (first | (go_at_call 5; (with_reducible refine (r1 _ (by first | exact Lay.here' HL.out HB.out HB.out.size | exact Lay.here' HL.out (HB.out.alloc HB.out.size _) (Nat.le_trans HB.out.size (by simp)))).mono ?_); rintro e w1 ⟨rfl, hb⟩; have HBN : Hid (Below w.heap.size w w1) := Lib.hid (by first | exact HB.out.trans (hb.mono HB.out.size) | exact (HB.out.alloc HB.out.size _).trans (hb.mono (Nat.le_trans HB.out.size (by simp)))); clear hb HB; have HB := HBN; clear HBN) | (go_at_call 5; (with_reducible refine (r2 _ (by first | exact Lay.here' HL.out HB.out HB.out.size | exact Lay.here' HL.out (HB.out.alloc HB.out.size _) (Nat.le_trans HB.out.size (by simp)))).mono ?_); rintro e w' ⟨rfl, hb⟩; have HBN : Hid (Below w.heap.size w w') := Lib.hid (by first | exact HB.out.trans (hb.mono HB.out.size) | exact (HB.out.alloc HB.out.size _).trans (hb.mono (Nat.le_trans HB.out.size (by simp)))); have HX1N : Hid (InsAt i1 w1.heap.size w') := Lib.hid (by first | exact carry HX1.out hb | exact carry (InsAt.alloc HX1.out _) hb | exact carry (heap_new w1 _) hb); clear hb HB; have HB := HBN; clear HBN; (try clear HX1); have HX1 := HX1N; clear HX1N) | (go_at_call 5; (with_reducible refine (r3 _ (by first | exact Lay.here' HL.out HB.out HB.out.size | exact Lay.here' HL.out (HB.out.alloc HB.out.size _) (Nat.le_trans HB.out.size (by simp)))).mono ?_); rintro e w' ⟨rfl, hb⟩; have HBN : Hid (Below w.heap.size w w') := Lib.hid (by first | exact HB.out.trans (hb.mono HB.out.size) | exact (HB.out.alloc HB.out.size _).trans (hb.mono (Nat.le_trans HB.out.size (by simp)))); have HX1N : Hid (InsAt i1 w1.heap.size w') := Lib.hid (by first | exact carry HX1.out hb | exact carry (InsAt.alloc HX1.out _) hb | exact carry (heap_new w1 _) hb); clear hb HB; have HB := HBN; clear HBN; (try clear HX1); have HX1 := HX1N; clear HX1N) | (go_at_call 5; (with_reducible refine (r4 _ (by first | exact Lay.here' HL.out HB.out HB.out.size | exact Lay.here' HL.out (HB.out.alloc HB.out.size _) (Nat.le_trans HB.out.size (by simp)))).mono ?_); rintro e w4 ⟨rfl, hb⟩; have HBN : Hid (Below w.heap.size w w4) := Lib.hid (by first | exact HB.out.trans (hb.mono HB.out.size) | exact (HB.out.alloc HB.out.size _).trans (hb.mono (Nat.le_trans HB.out.size (by simp)))); have HX1N : Hid (InsAt i1 w1.heap.size w4) := Lib.hid (by first | exact carry HX1.out hb | exact carry (InsAt.alloc HX1.out _) hb | exact carry (heap_new w1 _) hb); clear hb HB; have HB := HBN; clear HBN; (try clear HX1); have HX1 := HX1N; clear HX1N) | (go_at_call 6; (with_reducible refine (mem68 _).mono ?_); rintro e w' ⟨rfl, hb⟩; have HBN : Hid (Below w.heap.size w w') := Lib.hid (by first | exact HB.out.trans (hb.mono HB.out.size) | exact (HB.out.alloc HB.out.size _).trans (hb.mono (Nat.le_trans HB.out.size (by simp)))); have HX1N : Hid (InsAt i1 w1.heap.size w') := Lib.hid (by first | exact carry HX1.out hb | exact carry (InsAt.alloc HX1.out _) hb | exact carry (heap_new w1 _) hb); have HX4N : Hid (InsAt i4 w4.heap.size w') := Lib.hid (by first | exact carry HX4.out hb | exact carry (InsAt.alloc HX4.out _) hb | exact carry (heap_new w4 _) hb); clear hb HB; have HB := HBN; clear HBN; (try clear HX1); have HX1 := HX1N; clear HX1N; (try clear HX4); have HX4 := HX4N; clear HX4N) | (go_at_call 7; (with_reducible refine (lives_any _ (Lay.tab (B := w.heap.size) HL.out HB.out)).mono ?_); rintro e w' ⟨rfl, hb⟩; have HBN : Hid (Below w.heap.size w w') := Lib.hid (by first | exact HB.out.trans (hb.mono HB.out.size) | exact (HB.out.alloc HB.out.size _).trans (hb.mono (Nat.le_trans HB.out.size (by simp)))); have HX1N : Hid (InsAt i1 w1.heap.size w') := Lib.hid (by first | exact carry HX1.out hb | exact carry (InsAt.alloc HX1.out _) hb | exact carry (heap_new w1 _) hb); have HX4N : Hid (InsAt i4 w4.heap.size w') := Lib.hid (by first | exact carry HX4.out hb | exact carry (InsAt.alloc HX4.out _) hb | exact carry (heap_new w4 _) hb); clear hb HB; have HB := HBN; clear HBN; (try clear HX1); have HX1 := HX1N; clear HX1N; (try clear HX4); have HX4 := HX4N; clear HX4N; obtain ⟨za, a0, a1, a2, a3, a4, a5, a6, a7, a8⟩ := InsAt.facts HX1.out; obtain ⟨zb, b0, b1, b2, b3, b4, b5, b6, b7, b8⟩ := InsAt.facts HX4.out; dsimp only [i1, i4, nIns] at a0 a1 a2 a3 a4 a5 a6 a7 a8 b0 b1 b2 b3 b4 b5 b6 b7 b8) | (go_at_call 8; (with_reducible refine (named87 _).mono ?_); rintro e w' ⟨rfl, hb⟩; have HBN : Hid (Below w.heap.size w w') := Lib.hid (by first | exact HB.out.trans (hb.mono HB.out.size) | exact (HB.out.alloc HB.out.size _).trans (hb.mono (Nat.le_trans HB.out.size (by simp)))); clear hb HB; have HB := HBN; clear HBN) | (go_at_call 9; (with_reducible refine (name87 _).mono ?_); rintro e w' ⟨rfl, hb⟩; have HBN : Hid (Below w.heap.size w w') := Lib.hid (by first | exact HB.out.trans (hb.mono HB.out.size) | exact (HB.out.alloc HB.out.size _).trans (hb.mono (Nat.le_trans HB.out.size (by simp)))); clear hb HB; have HB := HBN; clear HBN) | (go_at_call 9; (with_reducible refine (name88 _).mono ?_); rintro e w' ⟨rfl, hb⟩; have HBN : Hid (Below w.heap.size w w') := Lib.hid (by first | exact HB.out.trans (hb.mono HB.out.size) | exact (HB.out.alloc HB.out.size _).trans (hb.mono (Nat.le_trans HB.out.size (by simp)))); clear hb HB; have HB := HBN; clear HBN) | (go_at_call 10; (with_reducible refine (form0 _).mono ?_); rintro e w' ⟨rfl, hb⟩; have HBN : Hid (Below w.heap.size w w') := Lib.hid (by first | exact HB.out.trans (hb.mono HB.out.size) | exact (HB.out.alloc HB.out.size _).trans (hb.mono (Nat.le_trans HB.out.size (by simp)))); clear hb HB; have HB := HBN; clear HBN) | (go_at_call 11; (with_reducible refine (check1 _).mono ?_); rintro e w' ⟨rfl, hb⟩; have HBN : Hid (Below w.heap.size w w') := Lib.hid (by first | exact HB.out.trans (hb.mono HB.out.size) | exact (HB.out.alloc HB.out.size _).trans (hb.mono (Nat.le_trans HB.out.size (by simp)))); clear hb HB; have HB := HBN; clear HBN) | (go_at_call 11; (with_reducible refine (check2 _).mono ?_); rintro e w' ⟨rfl, hb⟩; have HBN : Hid (Below w.heap.size w w') := Lib.hid (by first | exact HB.out.trans (hb.mono HB.out.size) | exact (HB.out.alloc HB.out.size _).trans (hb.mono (Nat.le_trans HB.out.size (by simp)))); clear hb HB; have HB := HBN; clear HBN) | (go_at_call 13; (with_reducible refine (reads64 _).mono ?_); rintro e w8 ⟨g, c, rfl, hT, hg, hb⟩; have HB8 : Hid (Below w.heap.size w w8) := Lib.hid (HB.out.trans (hb.mono HB.out.size)); have HT := Lib.hid hT; have HG := Lib.hid hg; clear hb hT hg) | (go_at_call 12; (with_reducible refine (same_two _ _ _ _ _ (two_later HT.out HG.out _) (two_new w8 _)).mono ?_); rintro e w9 ⟨rfl, hb⟩; have HB9 : Hid (Below w.heap.size w w9) := Lib.hid ((HB8.out.alloc HB8.out.size _).trans (hb.mono (Nat.le_trans HB8.out.size (by simp)))); clear hb))
  go_ret
  exact ⟨rfl, HB9.out⟩
end Go.Proofs.YtplneijbhmhmoaaGreatDoor
