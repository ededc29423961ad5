/-
  Proved here: ask answers what the table's function does of two words, ErrArg of an op that the table has none for; the branches' and the amos' function literals. No condition.
-/
import Derived.Test.YtdiacnjkffdegaaGreatAluTables
import Derived.Laws.EntriesVeiled
import Derived.WalkLawsBesides
import Derived.Shelf.Abstract
namespace Go.Proofs.YtdiacnjkffdegaaGreat
open Go.RowKit

/-- a function literal that answers what is said of two words -/
def Lit2 (F : Nat) (r : BitVec 64 → BitVec 64 → Value) : Prop :=
  (∀ args w, (callFunc F args).run Tryz.prog w = .ok (.enter F args) w) ∧ ∀ (a b : BitVec 64) (w : World), Calls Tryz.prog F #[.int .u64 (U a), .int .u64 (U b)] w fun e w' => e = .returned (r a b) ∧ w = w'

theorem askU_hit (F g n k : Nat) (r : BitVec 64 → BitVec 64 → Int) (hF : Lit2 F fun a b => .int .u64 (r a b)) (a b : BitVec 64) (w : World) (hk : k < n)
    (hc : w.cell? ⟨g, k, none⟩ = some (.func (.func F) #[] #[])) :
    Calls Tryz.prog 81 #[.slice (some ⟨g, 0, none⟩) n n, .int .i64 (k : Int), .int .u64 (U a), .int .u64 (U b)] w fun e w' => e = .returned (.tuple #[.int .u64 (r a b), .int .i64 0]) ∧ w = w' := by
  obtain ⟨hE, hL⟩ := hF
  have h0 : decide ((k : Int) < 0) = false := by simp
  have h1 : decide (n ≤ k) = false := by simp; omega
  have q : ∀ w, (binOp .eql 95 (.func (.func F) #[] #[]) .nilFunc).run Tryz.prog w = .ok (.bool false) w := fun _ => by kernel_rfl
  have HL := Lib.hid (hL a b)
  clear hL
  go_enter Tryz.func81, Tryz.ntmps81
  go_wp2_with (go_at_fn F; (with_reducible refine (HL.out _).mono ?_); rintro e w' ⟨rfl, rfl⟩)
  go_ret2
  exact ⟨rfl, rfl⟩
theorem askU_nil (g n k : Nat) (a b : BitVec 64) (w : World) (hk : k < n) (hc : w.cell? ⟨g, k, none⟩ = some .nilFunc) :
    Calls Tryz.prog 81 #[.slice (some ⟨g, 0, none⟩) n n, .int .i64 (k : Int), .int .u64 (U a), .int .u64 (U b)] w fun e w' => e = .returned (.tuple #[.int .u64 0, .int .i64 2]) ∧ w = w' := by
  have h0 : decide ((k : Int) < 0) = false := by simp
  have h1 : decide (n ≤ k) = false := by simp; omega
  have q : ∀ w, (binOp .eql 95 .nilFunc .nilFunc).run Tryz.prog w = .ok (.bool true) w := fun _ => by kernel_rfl
  go_enter Tryz.func81, Tryz.ntmps81
  go_wp2
  go_ret2
  exact ⟨rfl, rfl⟩
theorem askU_out (g n : Nat) (op : Int) (a b : BitVec 64) (w : World) (hk : op < 0 ∨ (n : Int) ≤ op) :
    Calls Tryz.prog 81 #[.slice (some ⟨g, 0, none⟩) n n, .int .i64 op, .int .u64 (U a), .int .u64 (U b)] w fun e w' => e = .returned (.tuple #[.int .u64 0, .int .i64 2]) ∧ w = w' := by
  by_cases h : op < 0
  · go_enter Tryz.func81, Tryz.ntmps81
    go_wp2
    go_ret2
    exact ⟨rfl, rfl⟩
  · have h1 : (n : Int) ≤ op := by omega
    clear hk
    go_enter Tryz.func81, Tryz.ntmps81
    go_wp2
    go_ret2
    exact ⟨rfl, rfl⟩

theorem askB_hit (F g n k : Nat) (r : BitVec 64 → BitVec 64 → Bool) (hF : Lit2 F fun a b => .bool (r a b)) (a b : BitVec 64) (w : World) (hk : k < n)
    (hc : w.cell? ⟨g, k, none⟩ = some (.func (.func F) #[] #[])) :
    Calls Tryz.prog 83 #[.slice (some ⟨g, 0, none⟩) n n, .int .i64 (k : Int), .int .u64 (U a), .int .u64 (U b)] w fun e w' => e = .returned (.tuple #[.bool (r a b), .int .i64 0]) ∧ w = w' := by
  obtain ⟨hE, hL⟩ := hF
  have h0 : decide ((k : Int) < 0) = false := by simp
  have h1 : decide (n ≤ k) = false := by simp; omega
  have q : ∀ w, (binOp .eql 114 (.func (.func F) #[] #[]) .nilFunc).run Tryz.prog w = .ok (.bool false) w := fun _ => by kernel_rfl
  have HL := Lib.hid (hL a b)
  clear hL
  go_enter Tryz.func83, Tryz.ntmps83
  go_wp2_with (go_at_fn F; (with_reducible refine (HL.out _).mono ?_); rintro e w' ⟨rfl, rfl⟩)
  go_ret2
  exact ⟨rfl, rfl⟩
theorem askB_nil (g n k : Nat) (a b : BitVec 64) (w : World) (hk : k < n) (hc : w.cell? ⟨g, k, none⟩ = some .nilFunc) :
    Calls Tryz.prog 83 #[.slice (some ⟨g, 0, none⟩) n n, .int .i64 (k : Int), .int .u64 (U a), .int .u64 (U b)] w fun e w' => e = .returned (.tuple #[.bool false, .int .i64 2]) ∧ w = w' := by
  have h0 : decide ((k : Int) < 0) = false := by simp
  have h1 : decide (n ≤ k) = false := by simp; omega
  have q : ∀ w, (binOp .eql 114 .nilFunc .nilFunc).run Tryz.prog w = .ok (.bool true) w := fun _ => by kernel_rfl
  go_enter Tryz.func83, Tryz.ntmps83
  go_wp2
  go_ret2
  exact ⟨rfl, rfl⟩
theorem askB_out (g n : Nat) (op : Int) (a b : BitVec 64) (w : World) (hk : op < 0 ∨ (n : Int) ≤ op) :
    Calls Tryz.prog 83 #[.slice (some ⟨g, 0, none⟩) n n, .int .i64 op, .int .u64 (U a), .int .u64 (U b)] w fun e w' => e = .returned (.tuple #[.bool false, .int .i64 2]) ∧ w = w' := by
  by_cases h : op < 0
  · go_enter Tryz.func83, Tryz.ntmps83
    go_wp2
    go_ret2
    exact ⟨rfl, rfl⟩
  · have h1 : (n : Int) ≤ op := by omega
    clear hk
    go_enter Tryz.func83, Tryz.ntmps83
    go_wp2
    go_ret2
    exact ⟨rfl, rfl⟩

theorem eqb_U (a b : BitVec 64) : (U a == U b) = (a == b) := by
  rw [Bool.eq_iff_iff, beq_iff_eq, beq_iff_eq]; exact ⟨U_inj, fun h => by rw [h]⟩
theorem br_1 (a b : BitVec 64) (w : World) : Calls Tryz.prog 130 #[.int .u64 (U a), .int .u64 (U b)] w fun e w' => e = .returned (.bool (a == b)) ∧ w = w' := by
  have e1 := wrapS_U a
  have e2 := wrapS_U b
  go_enter Tryz.func130, Tryz.ntmps130
  go_wp2
  go_ret
  exact ⟨ret_bool (by rw [eqb_U]), rfl⟩
theorem br_2 (a b : BitVec 64) (w : World) : Calls Tryz.prog 131 #[.int .u64 (U a), .int .u64 (U b)] w fun e w' => e = .returned (.bool (a != b)) ∧ w = w' := by
  have e1 := wrapS_U a
  have e2 := wrapS_U b
  go_enter Tryz.func131, Tryz.ntmps131
  go_wp2
  go_ret
  exact ⟨ret_bool (by show (!(U a == U b)) = !(a == b); rw [eqb_U]), rfl⟩
theorem br_3 (a b : BitVec 64) (w : World) : Calls Tryz.prog 132 #[.int .u64 (U a), .int .u64 (U b)] w fun e w' => e = .returned (.bool (decide (S a < S b))) ∧ w = w' := by
  have e1 := wrapS_U a
  have e2 := wrapS_U b
  go_enter Tryz.func132, Tryz.ntmps132
  go_wp2
  go_ret
  exact ⟨ret_bool (by rfl), rfl⟩
theorem br_4 (a b : BitVec 64) (w : World) : Calls Tryz.prog 133 #[.int .u64 (U a), .int .u64 (U b)] w fun e w' => e = .returned (.bool (decide (S b ≤ S a))) ∧ w = w' := by
  have e1 := wrapS_U a
  have e2 := wrapS_U b
  go_enter Tryz.func133, Tryz.ntmps133
  go_wp2
  go_ret
  exact ⟨ret_bool (by rfl), rfl⟩
theorem br_5 (a b : BitVec 64) (w : World) : Calls Tryz.prog 134 #[.int .u64 (U a), .int .u64 (U b)] w fun e w' => e = .returned (.bool (decide (U a < U b))) ∧ w = w' := by
  have e1 := wrapS_U a
  have e2 := wrapS_U b
  go_enter Tryz.func134, Tryz.ntmps134
  go_wp2
  go_ret
  exact ⟨ret_bool (by rfl), rfl⟩
theorem br_6 (a b : BitVec 64) (w : World) : Calls Tryz.prog 135 #[.int .u64 (U a), .int .u64 (U b)] w fun e w' => e = .returned (.bool (decide (U b ≤ U a))) ∧ w = w' := by
  have e1 := wrapS_U a
  have e2 := wrapS_U b
  go_enter Tryz.func135, Tryz.ntmps135
  go_wp2
  go_ret
  exact ⟨ret_bool (by rfl), rfl⟩
end Go.Proofs.YtdiacnjkffdegaaGreat
