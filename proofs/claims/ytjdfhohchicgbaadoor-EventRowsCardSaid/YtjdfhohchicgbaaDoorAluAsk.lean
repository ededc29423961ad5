/-
  Proved here: ask answers what the table's function does of two words, ErrArg of an op that the table has none for; the branches' and the amos' function literals. No condition.
-/
import Derived.Test.YtjdfhohchicgbaaDoorAluTables
import Derived.Laws.EntriesVeiled
import Derived.WalkLawsBesides
import Derived.Shelf.Abstract
namespace Go.Proofs.YtjdfhohchicgbaaDoor
open Go.RowKit

/-- a function literal that answers what is said of two words -/
def Lit2 (F : Nat) (r : BitVec 64 → BitVec 64 → Value) : Prop :=
  (∀ args w, (callFunc F args).run Tryd.prog w = .ok (.enter F args) w) ∧ ∀ (a b : BitVec 64) (w : World), Calls Tryd.prog F #[.int .u64 (U a), .int .u64 (U b)] w fun e w' => e = .returned (r a b) ∧ w = w'

theorem askU_hit (F g n k : Nat) (r : BitVec 64 → BitVec 64 → Int) (hF : Lit2 F fun a b => .int .u64 (r a b)) (a b : BitVec 64) (w : World) (hk : k < n)
    (hc : w.cell? ⟨g, k, none⟩ = some (.func (.func F) #[] #[])) :
    Calls Tryd.prog 57 #[.slice (some ⟨g, 0, none⟩) n n, .int .i64 (k : Int), .int .u64 (U a), .int .u64 (U b)] w fun e w' => e = .returned (.tuple #[.int .u64 (r a b), .int .i64 0]) ∧ w = w' := by
  obtain ⟨hE, hL⟩ := hF
  have h0 : decide ((k : Int) < 0) = false := by simp
  have h1 : decide (n ≤ k) = false := by simp; omega
  have q : ∀ w, (binOp .eql 96 (.func (.func F) #[] #[]) .nilFunc).run Tryd.prog w = .ok (.bool false) w := fun _ => by kernel_rfl
  have HL := Lib.hid (hL a b)
  clear hL
  go_enter Tryd.func57, Tryd.ntmps57
  go_wp2_with (go_at_fn F; (with_reducible refine (HL.out _).mono ?_); rintro e w' ⟨rfl, rfl⟩)
  go_ret2
  exact ⟨rfl, rfl⟩
theorem askU_nil (g n k : Nat) (a b : BitVec 64) (w : World) (hk : k < n) (hc : w.cell? ⟨g, k, none⟩ = some .nilFunc) :
    Calls Tryd.prog 57 #[.slice (some ⟨g, 0, none⟩) n n, .int .i64 (k : Int), .int .u64 (U a), .int .u64 (U b)] w fun e w' => e = .returned (.tuple #[.int .u64 0, .int .i64 2]) ∧ w = w' := by
  have h0 : decide ((k : Int) < 0) = false := by simp
  have h1 : decide (n ≤ k) = false := by simp; omega
  have q : ∀ w, (binOp .eql 96 .nilFunc .nilFunc).run Tryd.prog w = .ok (.bool true) w := fun _ => by kernel_rfl
  go_enter Tryd.func57, Tryd.ntmps57
  go_wp2
  go_ret2
  exact ⟨rfl, rfl⟩
theorem askU_out (g n : Nat) (op : Int) (a b : BitVec 64) (w : World) (hk : op < 0 ∨ (n : Int) ≤ op) :
    Calls Tryd.prog 57 #[.slice (some ⟨g, 0, none⟩) n n, .int .i64 op, .int .u64 (U a), .int .u64 (U b)] w fun e w' => e = .returned (.tuple #[.int .u64 0, .int .i64 2]) ∧ w = w' := by
  by_cases h : op < 0
  · go_enter Tryd.func57, Tryd.ntmps57
    go_wp2
    go_ret2
    exact ⟨rfl, rfl⟩
  · have h1 : (n : Int) ≤ op := by omega
    clear hk
    go_enter Tryd.func57, Tryd.ntmps57
    go_wp2
    go_ret2
    exact ⟨rfl, rfl⟩

theorem eqb_U (a b : BitVec 64) : (U a == U b) = (a == b) := by
  rw [Bool.eq_iff_iff, beq_iff_eq, beq_iff_eq]; exact ⟨U_inj, fun h => by rw [h]⟩
theorem am_1 (a b : BitVec 64) (w : World) : Calls Tryd.prog 70 #[.int .u64 (U a), .int .u64 (U b)] w fun e w' => e = .returned (.int .u64 (U (b))) ∧ w = w' := by
  go_enter Tryd.func70, Tryd.ntmps70
  go_wp2
  go_ret
  exact ⟨ret_int (by rfl), rfl⟩
theorem am_2 (a b : BitVec 64) (w : World) : Calls Tryd.prog 71 #[.int .u64 (U a), .int .u64 (U b)] w fun e w' => e = .returned (.int .u64 (U (a + b))) ∧ w = w' := by
  go_enter Tryd.func71, Tryd.ntmps71
  go_wp2
  go_ret
  exact ⟨ret_int (by rw [add_U]), rfl⟩
theorem am_3 (a b : BitVec 64) (w : World) : Calls Tryd.prog 72 #[.int .u64 (U a), .int .u64 (U b)] w fun e w' => e = .returned (.int .u64 (U (a ^^^ b))) ∧ w = w' := by
  go_enter Tryd.func72, Tryd.ntmps72
  go_wp2
  go_ret
  exact ⟨ret_int (by rw [xor_U]), rfl⟩
theorem am_4 (a b : BitVec 64) (w : World) : Calls Tryd.prog 73 #[.int .u64 (U a), .int .u64 (U b)] w fun e w' => e = .returned (.int .u64 (U (a &&& b))) ∧ w = w' := by
  go_enter Tryd.func73, Tryd.ntmps73
  go_wp2
  go_ret
  exact ⟨ret_int (by rw [and_U]), rfl⟩
theorem am_5 (a b : BitVec 64) (w : World) : Calls Tryd.prog 74 #[.int .u64 (U a), .int .u64 (U b)] w fun e w' => e = .returned (.int .u64 (U (a ||| b))) ∧ w = w' := by
  go_enter Tryd.func74, Tryd.ntmps74
  go_wp2
  go_ret
  exact ⟨ret_int (by rw [or_U]), rfl⟩
theorem am_6 (a b : BitVec 64) (w : World) : Calls Tryd.prog 75 #[.int .u64 (U a), .int .u64 (U b)] w fun e w' => e = .returned (.int .u64 (U (minSV a b))) ∧ w = w' := by
  have e1 := wrapS_U a
  have e2 := wrapS_U b
  go_enter Tryd.func75, Tryd.ntmps75
  go_wp2
  all_goals
    go_ret
    exact ⟨ret_int (by first | (rw [minSV_l (by omega)]; rw [wrapU_S]; done) | (rw [minSV_r (by omega)]; rw [wrapU_S]; done)), rfl⟩
theorem am_7 (a b : BitVec 64) (w : World) : Calls Tryd.prog 76 #[.int .u64 (U a), .int .u64 (U b)] w fun e w' => e = .returned (.int .u64 (U (maxSV a b))) ∧ w = w' := by
  have e1 := wrapS_U a
  have e2 := wrapS_U b
  go_enter Tryd.func76, Tryd.ntmps76
  go_wp2
  all_goals
    go_ret
    exact ⟨ret_int (by first | (rw [maxSV_l (by omega)]; rw [wrapU_S]; done) | (rw [maxSV_r (by omega)]; rw [wrapU_S]; done)), rfl⟩
theorem am_8 (a b : BitVec 64) (w : World) : Calls Tryd.prog 77 #[.int .u64 (U a), .int .u64 (U b)] w fun e w' => e = .returned (.int .u64 (U (minUV a b))) ∧ w = w' := by
  go_enter Tryd.func77, Tryd.ntmps77
  go_wp2
  all_goals
    go_ret
    exact ⟨ret_int (by first | (rw [minUV_l (by omega)]; done) | (rw [minUV_r (by omega)]; done)), rfl⟩
theorem am_9 (a b : BitVec 64) (w : World) : Calls Tryd.prog 78 #[.int .u64 (U a), .int .u64 (U b)] w fun e w' => e = .returned (.int .u64 (U (maxUV a b))) ∧ w = w' := by
  go_enter Tryd.func78, Tryd.ntmps78
  go_wp2
  all_goals
    go_ret
    exact ⟨ret_int (by first | (rw [maxUV_l (by omega)]; done) | (rw [maxUV_r (by omega)]; done)), rfl⟩
end Go.Proofs.YtjdfhohchicgbaaDoor
