/-
  Proved here: a word is split into its parts, and parts make the word that has noughts else. Condition: a word has 32 bits, parts' numbers are small.
-/
import Derived.Test.YtbchecnidiiddaaGreatDoorCodeCarry
import Derived.Deep.RegionHeld3
namespace Go.Proofs.YtbchecnidiiddaaGreatDoor
set_option linter.unusedVariables false
open Go.RowKit

def PtV (p : Pt) : Value := .agg #[.int .u32 p.1, .int .u32 p.2.1, .int .u32 p.2.2]
def PtOk (x : Value) (w : World) (e : Ending) (w' : World) : Prop := e = .returned x ∧ Below w.heap.size w w'
theorem hasF_55 (f t : Nat) (w : World) : Calls Tryz.prog 43 #[.agg #[.int .u32 55, .int .u32 f, .int .u32 t]] w fun e w' => PtOk (.bool false) w e w' := by
  go_enter Tryz.func43, Tryz.ntmps43
  go_wp2
  go_ret
  exact ⟨rfl, one_box _ _⟩
theorem hasF_23 (f t : Nat) (w : World) : Calls Tryz.prog 43 #[.agg #[.int .u32 23, .int .u32 f, .int .u32 t]] w fun e w' => PtOk (.bool false) w e w' := by
  go_enter Tryz.func43, Tryz.ntmps43
  go_wp2
  go_ret
  exact ⟨rfl, one_box _ _⟩
theorem hasF_111 (f t : Nat) (w : World) : Calls Tryz.prog 43 #[.agg #[.int .u32 111, .int .u32 f, .int .u32 t]] w fun e w' => PtOk (.bool false) w e w' := by
  go_enter Tryz.func43, Tryz.ntmps43
  go_wp2
  go_ret
  exact ⟨rfl, one_box _ _⟩
theorem hasF_x (c f t : Nat) (h1 : c ≠ 55) (h2 : c ≠ 23) (h3 : c ≠ 111) (w : World) : Calls Tryz.prog 43 #[.agg #[.int .u32 c, .int .u32 f, .int .u32 t]] w fun e w' => PtOk (.bool true) w e w' := by
  have k1 : ((c : Int) == 55) = false := by simp; omega
  have k2 : ((c : Int) == 23) = false := by simp; omega
  have k3 : ((c : Int) == 111) = false := by simp; omega
  clear h1 h2 h3
  go_enter Tryz.func43, Tryz.ntmps43
  go_wp2
  go_ret
  exact ⟨rfl, one_box _ _⟩
theorem hasFunct3_any (p : Pt) (w : World) : Calls Tryz.prog 43 #[PtV p] w fun e w' => PtOk (.bool (hasF p.1)) w e w' := by
  obtain ⟨c, f, t⟩ := p
  by_cases h1 : c = 55
  · subst h1; exact hasF_55 f t w
  by_cases h2 : c = 23
  · subst h2; exact hasF_23 f t w
  by_cases h3 : c = 111
  · subst h3; exact hasF_111 f t w
  have e : hasF c = true := by simp [hasF, h1, h2, h3]
  show Calls _ _ _ w fun e w' => PtOk (.bool (hasF c)) w e w'
  rw [e]; exact hasF_x c f t h1 h2 h3 w
theorem topF_115_1 (t : Nat) (w : World) : Calls Tryz.prog 45 #[.agg #[.int .u32 115, .int .u32 1, .int .u32 t]] w fun e w' => PtOk (.int .i64 20) w e w' := by
  go_enter Tryz.func45, Tryz.ntmps45
  go_wp2
  go_ret
  exact ⟨rfl, one_box _ _⟩
theorem topF_115_5 (t : Nat) (w : World) : Calls Tryz.prog 45 #[.agg #[.int .u32 115, .int .u32 5, .int .u32 t]] w fun e w' => PtOk (.int .i64 20) w e w' := by
  go_enter Tryz.func45, Tryz.ntmps45
  go_wp2
  go_ret
  exact ⟨rfl, one_box _ _⟩
theorem topF_115_x (f : Nat) (g1 : f ≠ 1) (g5 : f ≠ 5) (t : Nat) (w : World) : Calls Tryz.prog 45 #[.agg #[.int .u32 115, .int .u32 f, .int .u32 t]] w fun e w' => PtOk (.int .i64 20) w e w' := by
  have k1 : ((f : Int) == 1) = false := by simp; omega
  have k5 : ((f : Int) == 5) = false := by simp; omega
  clear g1 g5
  go_enter Tryz.func45, Tryz.ntmps45
  go_wp2
  go_ret
  exact ⟨rfl, one_box _ _⟩
theorem topF_51_1 (t : Nat) (w : World) : Calls Tryz.prog 45 #[.agg #[.int .u32 51, .int .u32 1, .int .u32 t]] w fun e w' => PtOk (.int .i64 25) w e w' := by
  go_enter Tryz.func45, Tryz.ntmps45
  go_wp2
  go_ret
  exact ⟨rfl, one_box _ _⟩
theorem topF_51_5 (t : Nat) (w : World) : Calls Tryz.prog 45 #[.agg #[.int .u32 51, .int .u32 5, .int .u32 t]] w fun e w' => PtOk (.int .i64 25) w e w' := by
  go_enter Tryz.func45, Tryz.ntmps45
  go_wp2
  go_ret
  exact ⟨rfl, one_box _ _⟩
theorem topF_51_x (f : Nat) (g1 : f ≠ 1) (g5 : f ≠ 5) (t : Nat) (w : World) : Calls Tryz.prog 45 #[.agg #[.int .u32 51, .int .u32 f, .int .u32 t]] w fun e w' => PtOk (.int .i64 25) w e w' := by
  have k1 : ((f : Int) == 1) = false := by simp; omega
  have k5 : ((f : Int) == 5) = false := by simp; omega
  clear g1 g5
  go_enter Tryz.func45, Tryz.ntmps45
  go_wp2
  go_ret
  exact ⟨rfl, one_box _ _⟩
theorem topF_59_1 (t : Nat) (w : World) : Calls Tryz.prog 45 #[.agg #[.int .u32 59, .int .u32 1, .int .u32 t]] w fun e w' => PtOk (.int .i64 25) w e w' := by
  go_enter Tryz.func45, Tryz.ntmps45
  go_wp2
  go_ret
  exact ⟨rfl, one_box _ _⟩
theorem topF_59_5 (t : Nat) (w : World) : Calls Tryz.prog 45 #[.agg #[.int .u32 59, .int .u32 5, .int .u32 t]] w fun e w' => PtOk (.int .i64 25) w e w' := by
  go_enter Tryz.func45, Tryz.ntmps45
  go_wp2
  go_ret
  exact ⟨rfl, one_box _ _⟩
theorem topF_59_x (f : Nat) (g1 : f ≠ 1) (g5 : f ≠ 5) (t : Nat) (w : World) : Calls Tryz.prog 45 #[.agg #[.int .u32 59, .int .u32 f, .int .u32 t]] w fun e w' => PtOk (.int .i64 25) w e w' := by
  have k1 : ((f : Int) == 1) = false := by simp; omega
  have k5 : ((f : Int) == 5) = false := by simp; omega
  clear g1 g5
  go_enter Tryz.func45, Tryz.ntmps45
  go_wp2
  go_ret
  exact ⟨rfl, one_box _ _⟩
theorem topF_27_1 (t : Nat) (w : World) : Calls Tryz.prog 45 #[.agg #[.int .u32 27, .int .u32 1, .int .u32 t]] w fun e w' => PtOk (.int .i64 25) w e w' := by
  go_enter Tryz.func45, Tryz.ntmps45
  go_wp2
  go_ret
  exact ⟨rfl, one_box _ _⟩
theorem topF_27_5 (t : Nat) (w : World) : Calls Tryz.prog 45 #[.agg #[.int .u32 27, .int .u32 5, .int .u32 t]] w fun e w' => PtOk (.int .i64 25) w e w' := by
  go_enter Tryz.func45, Tryz.ntmps45
  go_wp2
  go_ret
  exact ⟨rfl, one_box _ _⟩
theorem topF_27_x (f : Nat) (g1 : f ≠ 1) (g5 : f ≠ 5) (t : Nat) (w : World) : Calls Tryz.prog 45 #[.agg #[.int .u32 27, .int .u32 f, .int .u32 t]] w fun e w' => PtOk (.int .i64 32) w e w' := by
  have k1 : ((f : Int) == 1) = false := by simp; omega
  have k5 : ((f : Int) == 5) = false := by simp; omega
  clear g1 g5
  go_enter Tryz.func45, Tryz.ntmps45
  go_wp2
  go_ret
  exact ⟨rfl, one_box _ _⟩
theorem topF_19_1 (t : Nat) (w : World) : Calls Tryz.prog 45 #[.agg #[.int .u32 19, .int .u32 1, .int .u32 t]] w fun e w' => PtOk (.int .i64 26) w e w' := by
  go_enter Tryz.func45, Tryz.ntmps45
  go_wp2
  go_ret
  exact ⟨rfl, one_box _ _⟩
theorem topF_19_5 (t : Nat) (w : World) : Calls Tryz.prog 45 #[.agg #[.int .u32 19, .int .u32 5, .int .u32 t]] w fun e w' => PtOk (.int .i64 26) w e w' := by
  go_enter Tryz.func45, Tryz.ntmps45
  go_wp2
  go_ret
  exact ⟨rfl, one_box _ _⟩
theorem topF_19_x (f : Nat) (g1 : f ≠ 1) (g5 : f ≠ 5) (t : Nat) (w : World) : Calls Tryz.prog 45 #[.agg #[.int .u32 19, .int .u32 f, .int .u32 t]] w fun e w' => PtOk (.int .i64 32) w e w' := by
  have k1 : ((f : Int) == 1) = false := by simp; omega
  have k5 : ((f : Int) == 5) = false := by simp; omega
  clear g1 g5
  go_enter Tryz.func45, Tryz.ntmps45
  go_wp2
  go_ret
  exact ⟨rfl, one_box _ _⟩
theorem topF_47_1 (t : Nat) (w : World) : Calls Tryz.prog 45 #[.agg #[.int .u32 47, .int .u32 1, .int .u32 t]] w fun e w' => PtOk (.int .i64 27) w e w' := by
  go_enter Tryz.func45, Tryz.ntmps45
  go_wp2
  go_ret
  exact ⟨rfl, one_box _ _⟩
theorem topF_47_5 (t : Nat) (w : World) : Calls Tryz.prog 45 #[.agg #[.int .u32 47, .int .u32 5, .int .u32 t]] w fun e w' => PtOk (.int .i64 27) w e w' := by
  go_enter Tryz.func45, Tryz.ntmps45
  go_wp2
  go_ret
  exact ⟨rfl, one_box _ _⟩
theorem topF_47_x (f : Nat) (g1 : f ≠ 1) (g5 : f ≠ 5) (t : Nat) (w : World) : Calls Tryz.prog 45 #[.agg #[.int .u32 47, .int .u32 f, .int .u32 t]] w fun e w' => PtOk (.int .i64 27) w e w' := by
  have k1 : ((f : Int) == 1) = false := by simp; omega
  have k5 : ((f : Int) == 5) = false := by simp; omega
  clear g1 g5
  go_enter Tryz.func45, Tryz.ntmps45
  go_wp2
  go_ret
  exact ⟨rfl, one_box _ _⟩
theorem topF_x_1 (c : Nat) (h115 : c ≠ 115) (h51 : c ≠ 51) (h59 : c ≠ 59) (h27 : c ≠ 27) (h19 : c ≠ 19) (h47 : c ≠ 47) (t : Nat) (w : World) : Calls Tryz.prog 45 #[.agg #[.int .u32 c, .int .u32 1, .int .u32 t]] w fun e w' => PtOk (.int .i64 32) w e w' := by
  have k115 : ((c : Int) == 115) = false := by simp; omega
  have k51 : ((c : Int) == 51) = false := by simp; omega
  have k59 : ((c : Int) == 59) = false := by simp; omega
  have k27 : ((c : Int) == 27) = false := by simp; omega
  have k19 : ((c : Int) == 19) = false := by simp; omega
  have k47 : ((c : Int) == 47) = false := by simp; omega
  clear h115 h51 h59 h27 h19 h47
  go_enter Tryz.func45, Tryz.ntmps45
  go_wp2
  go_ret
  exact ⟨rfl, one_box _ _⟩
theorem topF_x_5 (c : Nat) (h115 : c ≠ 115) (h51 : c ≠ 51) (h59 : c ≠ 59) (h27 : c ≠ 27) (h19 : c ≠ 19) (h47 : c ≠ 47) (t : Nat) (w : World) : Calls Tryz.prog 45 #[.agg #[.int .u32 c, .int .u32 5, .int .u32 t]] w fun e w' => PtOk (.int .i64 32) w e w' := by
  have k115 : ((c : Int) == 115) = false := by simp; omega
  have k51 : ((c : Int) == 51) = false := by simp; omega
  have k59 : ((c : Int) == 59) = false := by simp; omega
  have k27 : ((c : Int) == 27) = false := by simp; omega
  have k19 : ((c : Int) == 19) = false := by simp; omega
  have k47 : ((c : Int) == 47) = false := by simp; omega
  clear h115 h51 h59 h27 h19 h47
  go_enter Tryz.func45, Tryz.ntmps45
  go_wp2
  go_ret
  exact ⟨rfl, one_box _ _⟩
theorem topF_x_x (c : Nat) (h115 : c ≠ 115) (h51 : c ≠ 51) (h59 : c ≠ 59) (h27 : c ≠ 27) (h19 : c ≠ 19) (h47 : c ≠ 47) (f : Nat) (g1 : f ≠ 1) (g5 : f ≠ 5) (t : Nat) (w : World) : Calls Tryz.prog 45 #[.agg #[.int .u32 c, .int .u32 f, .int .u32 t]] w fun e w' => PtOk (.int .i64 32) w e w' := by
  have k1 : ((f : Int) == 1) = false := by simp; omega
  have k5 : ((f : Int) == 5) = false := by simp; omega
  clear g1 g5
  have k115 : ((c : Int) == 115) = false := by simp; omega
  have k51 : ((c : Int) == 51) = false := by simp; omega
  have k59 : ((c : Int) == 59) = false := by simp; omega
  have k27 : ((c : Int) == 27) = false := by simp; omega
  have k19 : ((c : Int) == 19) = false := by simp; omega
  have k47 : ((c : Int) == 47) = false := by simp; omega
  clear h115 h51 h59 h27 h19 h47
  go_enter Tryz.func45, Tryz.ntmps45
  go_wp2
  go_ret
  exact ⟨rfl, one_box _ _⟩
theorem topFrom_any (p : Pt) (w : World) : Calls Tryz.prog 45 #[PtV p] w fun e w' => PtOk (.int .i64 (topF p.1 p.2.1 : Nat)) w e w' := by
  obtain ⟨c, f, t⟩ := p
  show Calls _ _ #[.agg #[.int .u32 (c : Nat), .int .u32 (f : Nat), .int .u32 (t : Nat)]] w fun e w' => PtOk (.int .i64 (topF c f : Nat)) w e w'
  by_cases h115 : c = 115
  · subst h115
    by_cases g1 : f = 1
    · subst g1; exact topF_115_1 t w
    by_cases g5 : f = 5
    · subst g5; exact topF_115_5 t w
    have e : topF 115 f = 20 := by simp [topF]
    rw [e]; exact topF_115_x f g1 g5 t w
  by_cases h51 : c = 51
  · subst h51
    by_cases g1 : f = 1
    · subst g1; exact topF_51_1 t w
    by_cases g5 : f = 5
    · subst g5; exact topF_51_5 t w
    have e : topF 51 f = 25 := by simp [topF]
    rw [e]; exact topF_51_x f g1 g5 t w
  by_cases h59 : c = 59
  · subst h59
    by_cases g1 : f = 1
    · subst g1; exact topF_59_1 t w
    by_cases g5 : f = 5
    · subst g5; exact topF_59_5 t w
    have e : topF 59 f = 25 := by simp [topF]
    rw [e]; exact topF_59_x f g1 g5 t w
  by_cases h27 : c = 27
  · subst h27
    by_cases g1 : f = 1
    · subst g1; exact topF_27_1 t w
    by_cases g5 : f = 5
    · subst g5; exact topF_27_5 t w
    have e : topF 27 f = 32 := by simp [topF, g1, g5]
    rw [e]; exact topF_27_x f g1 g5 t w
  by_cases h19 : c = 19
  · subst h19
    by_cases g1 : f = 1
    · subst g1; exact topF_19_1 t w
    by_cases g5 : f = 5
    · subst g5; exact topF_19_5 t w
    have e : topF 19 f = 32 := by simp [topF, g1, g5]
    rw [e]; exact topF_19_x f g1 g5 t w
  by_cases h47 : c = 47
  · subst h47
    by_cases g1 : f = 1
    · subst g1; exact topF_47_1 t w
    by_cases g5 : f = 5
    · subst g5; exact topF_47_5 t w
    have e : topF 47 f = 27 := by simp [topF]
    rw [e]; exact topF_47_x f g1 g5 t w
  by_cases g1 : f = 1
  · subst g1; have e : topF c 1 = 32 := (by simp [topF, h115, h51, h59, h27, h19, h47]); rw [e]; exact topF_x_1 c h115 h51 h59 h27 h19 h47 t w
  by_cases g5 : f = 5
  · subst g5; have e : topF c 5 = 32 := (by simp [topF, h115, h51, h59, h27, h19, h47]); rw [e]; exact topF_x_5 c h115 h51 h59 h27 h19 h47 t w
  have e : topF c f = 32 := by simp [topF, g1, g5, h115, h51, h59, h27, h19, h47]
  rw [e]; exact topF_x_x c h115 h51 h59 h27 h19 h47 f g1 g5 t w
def PtAt (p : Pt) (n : Nat) (w : World) : Prop := w.heap[n]? = some (.cells #[.int .u32 p.1, .int .u32 p.2.1, .int .u32 p.2.2] 70 (0, 0))
theorem PtAt.facts {p : Pt} {n : Nat} {w : World} (h : PtAt p n w) : n < w.heap.size ∧ w.cell? ⟨n, 0, none⟩ = some (.int .u32 p.1) ∧ w.cell? ⟨n, 1, none⟩ = some (.int .u32 p.2.1) ∧ w.cell? ⟨n, 2, none⟩ = some (.int .u32 p.2.2) ∧ (∀ j, w.frozen? ⟨n, j, none⟩ = false) := by
  unfold PtAt at h
  exact ⟨(Array.getElem?_eq_some_iff.1 h).1, by simp [World.cell?, h], by simp [World.cell?, h], by simp [World.cell?, h], fun j => by simp [World.frozen?, h]⟩
theorem PtAt.below {p : Pt} {n B : Nat} {w w' : World} (h : PtAt p n w) (hb : Below B w w') (hn : n < B) : PtAt p n w' := (hb.block n hn).trans h
theorem pt_new (p : Pt) (w : World) : PtAt p w.heap.size (w.alloc (.cells #[.int .u32 p.1, .int .u32 p.2.1, .int .u32 p.2.2] 70)) := heap_new w _
theorem U_ofNat (n : Nat) (h : n < 4294967296) : U (BitVec.ofNat 64 n) = (n : Int) := by unfold U; rw [BitVec.toNat_ofNat]; omega
theorem wrap_small (n : Nat) (h : n < 4294967296) : IntKind.u64.wrap (n : Int) = U (BitVec.ofNat 64 n) := by rw [U_ofNat n h, IntKind.wrap_u64]; omega
theorem topFrom_e (p : Pt) (T : Nat) (hT : Hid (topF p.1 p.2.1 = T)) (w : World) : Calls Tryz.prog 45 #[.agg #[.int .u32 p.1, .int .u32 p.2.1, .int .u32 p.2.2]] w fun e w' => PtOk (.int .i64 (T : Nat)) w e w' := by
  have := topFrom_any p w
  rw [hT.out] at this
  exact this
theorem bare_eq (p : Pt) (T : Nat) (hT : topF p.1 p.2.1 = T) (h1 : p.1 < 4294967296) (h2 : p.2.1 < 4294967296) (h3 : p.2.2 < 4294967296) :
    bits .or .u64 (bits .or .u64 (IntKind.u64.wrap (p.1 : Int)) (IntKind.u64.wrap (IntKind.u64.wrap (p.2.1 : Int) * 4096))) (IntKind.u64.wrap (IntKind.u64.wrap (p.2.2 : Int) * 2 ^ T)) = U (bareP p) := by
  have e : (4096 : Int) = 2 ^ 12 := by decide
  rw [wrap_small _ h1, wrap_small _ h2, wrap_small _ h3, e, shl_U, shl_U, or_U, or_U, ← hT]
  rfl
set_option maxRecDepth 100000 in
set_option maxHeartbeats 1000000 in
theorem bare_any (p : Pt) (h1 : p.1 < 4294967296) (h2 : p.2.1 < 4294967296) (h3 : p.2.2 < 4294967296) (w : World) : Calls Tryz.prog 27 #[PtV p] w fun e w' => PtOk (.int .u64 (U (bareP p))) w e w' := by
  obtain ⟨T, hT⟩ : ∃ T, topF p.1 p.2.1 = T := ⟨_, rfl⟩
  have hT32 : T ≤ 32 := by rw [← hT]; exact topF_le _ _
  have HE := Lib.hid (bare_eq p T hT h1 h2 h3)
  have HT := Lib.hid hT
  have P0 := Lib.hid (pt_new p w)
  have HB := Lib.hid (one_box w (.cells #[.int .u32 p.1, .int .u32 p.2.1, .int .u32 p.2.2] 70))
  clear hT
  unfold PtV
  go_enter Tryz.func27, Tryz.ntmps27
  go_wp2_with fail
  go_name_world W hW
  rw [hW] at P0 HB
  clear hW
  obtain ⟨hz, c0, c1, c2, -⟩ := P0.out.facts
  go_region_held3 (fun w' => w'.cell? ⟨w.heap.size, 0, none⟩ = some (.int .u32 p.1) ∧ w'.cell? ⟨w.heap.size, 1, none⟩ = some (.int .u32 p.2.1) ∧ w'.cell? ⟨w.heap.size, 2, none⟩ = some (.int .u32 p.2.2)) (exact ⟨c0, c1, c2⟩) ((go_at_call 45; (with_reducible refine (topFrom_e p T HT _).mono ?_); rintro e w2 ⟨rfl, hb⟩; obtain ⟨hc2, hf2⟩ := bcell hb; have d0 : w2.cell? ⟨w.heap.size, 0, none⟩ = some (.int .u32 p.1) := (by rw [hc2 _ _ hz]; exact c0); have d1 : w2.cell? ⟨w.heap.size, 1, none⟩ = some (.int .u32 p.2.1) := (by rw [hc2 _ _ hz]; exact c1); have d2 : w2.cell? ⟨w.heap.size, 2, none⟩ = some (.int .u32 p.2.2) := (by rw [hc2 _ _ hz]; exact c2); clear c0 c1 c2; have c0 := d0; have c1 := d1; have c2 := d2; clear d0 d1 d2; have HB2 := Lib.hid hb; clear hb))
  all_goals
    clear hc2 hf2
    go_wp2
    go_ret
    exact ⟨ret_int HE.out, (HB.out.drew).trans (HB2.out.mono (Nat.le_of_lt hz))⟩
theorem bcell2 {W w1 : World} (hb : Below W.heap.size W w1) : ∀ b o, b < W.heap.size → w1.frozen? ⟨b, o, none⟩ = W.frozen? ⟨b, o, none⟩ := fun b o h => hb.frozen (p := ⟨b, o, none⟩) h
theorem hasF_c (c : Nat) (r : Bool) (hr : Hid (hasF c = r)) (w : World) : Calls Tryz.prog 43 #[.agg #[.int .u32 c, .int .u32 0, .int .u32 0]] w fun e w' => PtOk (.bool r) w e w' := by
  rw [← hr.out]; exact hasFunct3_any (c, 0, 0) w
theorem topF_c (c T : Nat) (hT : Hid (topF c 0 = T)) (w : World) : Calls Tryz.prog 45 #[.agg #[.int .u32 c, .int .u32 0, .int .u32 0]] w fun e w' => PtOk (.int .i64 (T : Nat)) w e w' := topFrom_e (c, 0, 0) T hT w
theorem topF_cf (c f T : Nat) (hT : Hid (topF c f = T)) (w : World) : Calls Tryz.prog 45 #[.agg #[.int .u32 c, .int .u32 f, .int .u32 0]] w fun e w' => PtOk (.int .i64 (T : Nat)) w e w' := topFrom_e (c, f, 0) T hT w
theorem Low_b (b : BitVec 64) (w : World) : Calls Tryz.prog 42 #[.int .u64 (U b), .int .i64 7] w fun e w' => e = .returned (.int .u64 (U (low b 7))) ∧ w = w' := by
  have h := Low_any (U b) 7 w
  rw [lowI_U, ck_in _ (by omega) (by omega)] at h
  exact h
theorem Part_3 (b : BitVec 64) (w : World) : Calls Tryz.prog 44 #[.int .u64 (U b), .int .i64 12, .int .i64 3] w fun e w' => e = .returned (.int .u64 (U (part b 12 3))) ∧ w = w' := Part_b b 12 3 (by omega) (by omega) w
theorem Part_T (b : BitVec 64) (T : Nat) (hT : T ≤ 32) (w : World) : Calls Tryz.prog 44 #[.int .u64 (U b), .int .i64 T, .int .i64 (32 - (T : Int))] w fun e w' => e = .returned (.int .u64 (U (part b T (32 - T)))) ∧ w = w' := by
  have e : (32 : Int) - (T : Int) = ((32 - T : Nat) : Int) := by omega
  rw [e]; exact Part_b b T (32 - T) (by omega) (by omega) w
theorem wrapU32_U (b : BitVec 64) (h : b.toNat < 4294967296) : IntKind.u32.wrap (U b) = (b.toNat : Int) := by
  unfold U; rw [IntKind.wrap_u32]; omega
theorem low_lt (b : BitVec 64) (n : Nat) (hn : n ≤ 32) : (low b n).toNat < 4294967296 := by
  have e : low b n = BitVec.setWidth 64 (BitVec.setWidth 32 (low b n)) := by
    refine bits_ext fun j hj => ?_
    rw [BitVec.getLsbD_setWidth, BitVec.getLsbD_setWidth, bit_low]
    by_cases h : j < n
    · have h2 : j < 32 := by omega
      simp [h, hj, h2]
    · simp [h]
  rw [e, BitVec.toNat_setWidth, BitVec.toNat_setWidth]
  omega
theorem part_lt (b : BitVec 64) (f n : Nat) (hn : n ≤ 32) : (part b f n).toNat < 4294967296 := low_lt _ _ hn
set_option maxRecDepth 100000 in
set_option maxHeartbeats 1000000 in
theorem split_false (b : BitVec 64) (hh : hasF (low b 7).toNat = false) (w : World) : Calls Tryz.prog 22 #[.int .u32 (U b)] w fun e w' => PtOk (PtV (splitL b)) w e w' := by
  obtain ⟨c, hc⟩ : ∃ c, (low b 7).toNat = c := ⟨_, rfl⟩
  obtain ⟨f, hf⟩ : ∃ f, (part b 12 3).toNat = f := ⟨_, rfl⟩
  obtain ⟨T, hT⟩ : ∃ T, topF c 0 = T := ⟨_, rfl⟩
  obtain ⟨t, ht⟩ : ∃ t, (part b T (32 - T)).toNat = t := ⟨_, rfl⟩
  have hT32 : T ≤ 32 := by rw [← hT]; exact topF_le _ _
  have HR : Hid (splitL b = (c, 0, t)) := Lib.hid (by
    have e1 : funF b = 0 := by unfold funF; rw [hh]; simp
    have e2 : topN b = T := by unfold topN; rw [e1, hc, hT]
    unfold splitL; rw [e1, e2, hc, ht])
  rw [hc] at hh
  have HH := Lib.hid hh
  have HT := Lib.hid hT
  have w0 : IntKind.u64.wrap (U b) = U b := wrapU_U b
  have w1 : IntKind.u32.wrap (U (low b 7)) = (c : Int) := by rw [wrapU32_U _ (low_lt b 7 (by omega)), hc]
  have w2 : IntKind.u32.wrap (U (part b 12 3)) = (f : Int) := by rw [wrapU32_U _ (part_lt b 12 3 (by omega)), hf]
  have w3 : IntKind.u32.wrap (U (part b T (32 - T))) = (t : Int) := by rw [wrapU32_U _ (part_lt b T (32 - T) (by omega)), ht]
  clear hc hf hT ht hh
  rw [HR.out]
  go_enter Tryz.func22, Tryz.ntmps22
  go_wp2_with (first
    | (go_at_call 42; (with_reducible refine (Low_b b _).mono ?_); rintro e wa ⟨rfl, rfl⟩)
    | (go_at_call 43; (with_reducible refine (hasF_c c false HH _).mono ?_); rintro e wb ⟨rfl, hb⟩; obtain ⟨hc1, hf1⟩ := bcell hb; have R1 : Hid (wb.heap[w.heap.size]? = some (.cells #[.int .u32 0, .int .u32 0, .int .u32 0] 70 (0, 0))) := Lib.hid ((hb.block _ (by simp; omega)).trans ((Lib.alloc_old _ _ _ (by simp)).trans (heap_new w _))); have HB1 := Lib.hid ((((Below.refl w.heap.size w).alloc (Nat.le_refl _) _).alloc (by simp) _).trans (hb.mono (by simp; omega))); have hs1 : w.heap.size + 1 < wb.heap.size := (by have := hb.size; simp at this; omega); have hs0 : w.heap.size < wb.heap.size := (by omega); clear hb)
    | (go_at_call 44; (with_reducible refine (Part_3 b _).mono ?_); rintro e wa ⟨rfl, rfl⟩)
    | (go_at_call 45; (with_reducible refine (topF_c c T HT _).mono ?_); rintro e wd ⟨rfl, hb⟩; obtain ⟨hc2, hf2⟩ := bcell hb; have R2 := Lib.hid ((hb.block _ hs0).trans R1.out); have HB2 := Lib.hid (HB1.out.trans (hb.mono (by omega))); have ht1 : w.heap.size + 1 < wd.heap.size := (by have := hb.size; omega); have ht0 : w.heap.size < wd.heap.size := (by omega); clear hb)
    | (go_at_call 44; (with_reducible refine (Part_T b T hT32 _).mono ?_); rintro e wa ⟨rfl, rfl⟩))
  refine bodyPost_ret (results_cell rfl rfl (run_loadVar_row (P := Tryz.prog) _ w.heap.size 70 70 #[.int .u32 c, .int .u32 0, .int .u32 t] (0, 0) _ (heap_set _ (heap_set _ (heap_set _ ((heap_far _ (by omega)).trans R2.out)))) Tryz.underlying70 rfl (by kernel_rfl))) rfl ⟨rfl, ?_⟩
  exact (((HB2.out.setCell (by simp) _).setCell (by simp) _).setCell (by simp) _).setCell (by simp) _
set_option maxRecDepth 100000 in
set_option maxHeartbeats 1000000 in
theorem split_true (b : BitVec 64) (hh : hasF (low b 7).toNat = true) (w : World) : Calls Tryz.prog 22 #[.int .u32 (U b)] w fun e w' => PtOk (PtV (splitL b)) w e w' := by
  obtain ⟨c, hc⟩ : ∃ c, (low b 7).toNat = c := ⟨_, rfl⟩
  obtain ⟨f, hf⟩ : ∃ f, (part b 12 3).toNat = f := ⟨_, rfl⟩
  obtain ⟨T, hT⟩ : ∃ T, topF c f = T := ⟨_, rfl⟩
  obtain ⟨t, ht⟩ : ∃ t, (part b T (32 - T)).toNat = t := ⟨_, rfl⟩
  have hT32 : T ≤ 32 := by rw [← hT]; exact topF_le _ _
  have HR : Hid (splitL b = (c, f, t)) := Lib.hid (by
    have e1 : funF b = f := by unfold funF; rw [hh]; simp [hf]
    have e2 : topN b = T := by unfold topN; rw [e1, hc, hT]
    unfold splitL; rw [e1, e2, hc, ht])
  rw [hc] at hh
  have HH := Lib.hid hh
  have HT := Lib.hid hT
  have w0 : IntKind.u64.wrap (U b) = U b := wrapU_U b
  have w1 : IntKind.u32.wrap (U (low b 7)) = (c : Int) := by rw [wrapU32_U _ (low_lt b 7 (by omega)), hc]
  have w2 : IntKind.u32.wrap (U (part b 12 3)) = (f : Int) := by rw [wrapU32_U _ (part_lt b 12 3 (by omega)), hf]
  have w3 : IntKind.u32.wrap (U (part b T (32 - T))) = (t : Int) := by rw [wrapU32_U _ (part_lt b T (32 - T) (by omega)), ht]
  clear hc hf hT ht hh
  rw [HR.out]
  go_enter Tryz.func22, Tryz.ntmps22
  go_wp2_with (first
    | (go_at_call 42; (with_reducible refine (Low_b b _).mono ?_); rintro e wa ⟨rfl, rfl⟩)
    | (go_at_call 43; (with_reducible refine (hasF_c c true HH _).mono ?_); rintro e wb ⟨rfl, hb⟩; obtain ⟨hc1, hf1⟩ := bcell hb; have R1 : Hid (wb.heap[w.heap.size]? = some (.cells #[.int .u32 0, .int .u32 0, .int .u32 0] 70 (0, 0))) := Lib.hid ((hb.block _ (by simp; omega)).trans ((Lib.alloc_old _ _ _ (by simp)).trans (heap_new w _))); have HB1 := Lib.hid ((((Below.refl w.heap.size w).alloc (Nat.le_refl _) _).alloc (by simp) _).trans (hb.mono (by simp; omega))); have hs1 : w.heap.size + 1 < wb.heap.size := (by have := hb.size; simp at this; omega); have hs0 : w.heap.size < wb.heap.size := (by omega); clear hb)
    | (go_at_call 44; (with_reducible refine (Part_3 b _).mono ?_); rintro e wa ⟨rfl, rfl⟩)
    | (go_at_call 45; (with_reducible refine (topF_cf c f T HT _).mono ?_); rintro e wd ⟨rfl, hb⟩; obtain ⟨hc2, hf2⟩ := bcell hb; have R2 := Lib.hid ((hb.block w.heap.size (by simp [World.setCell]; omega)).trans ((heap_far _ (by omega)).trans R1.out)); have HB2 := Lib.hid ((HB1.out.setCell (by simp) _).trans (hb.mono (by simp [World.setCell]; omega))); have ht1 : w.heap.size + 1 < wd.heap.size := (by have := hb.size; simp [World.setCell] at this; omega); have ht0 : w.heap.size < wd.heap.size := (by omega); clear hb)
    | (go_at_call 44; (with_reducible refine (Part_T b T hT32 _).mono ?_); rintro e wa ⟨rfl, rfl⟩))
  refine bodyPost_ret (results_cell rfl rfl (run_loadVar_row (P := Tryz.prog) _ w.heap.size 70 70 #[.int .u32 c, .int .u32 f, .int .u32 t] (0, 0) _ (heap_set _ (heap_set _ (heap_set _ ((heap_far _ (by omega)).trans R2.out)))) Tryz.underlying70 rfl (by kernel_rfl))) rfl ⟨rfl, ?_⟩
  exact (((HB2.out.setCell (by simp) _).setCell (by simp) _).setCell (by simp) _).setCell (by simp) _
theorem split_any (b : BitVec 64) (w : World) : Calls Tryz.prog 22 #[.int .u32 (U b)] w fun e w' => PtOk (PtV (splitL b)) w e w' := by
  cases h : hasF (low b 7).toNat
  · exact split_false b h w
  · exact split_true b h w
end Go.Proofs.YtbchecnidiiddaaGreatDoor
