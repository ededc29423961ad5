/-
  Proved here: ask answers what the table's function does of two words, ErrArg of an op that the table has none for; the branches' and the amos' function literals. No condition.
-/
import Derived.Test.YtdapbaakcpjafaaAluTables
import Derived.Laws.EntriesVeiled
import Derived.WalkLawsBesides
import Derived.Shelf.Abstract
namespace Go.Proofs.Ytdapbaakcpjafaa
open Go.RowKit

/-- a function literal that answers what is said of two words -/
def Lit2 (F : Nat) (r : BitVec 64 → BitVec 64 → Value) : Prop :=
  (∀ args w, (callFunc F args).run Try.prog w = .ok (.enter F args) w) ∧ ∀ (a b : BitVec 64) (w : World), Calls Try.prog F #[.int .u64 (U a), .int .u64 (U b)] w fun e w' => e = .returned (r a b) ∧ w = w'

theorem askU_hit (F g n k : Nat) (r : BitVec 64 → BitVec 64 → Int) (hF : Lit2 F fun a b => .int .u64 (r a b)) (a b : BitVec 64) (w : World) (hk : k < n)
    (hc : w.cell? ⟨g, k, none⟩ = some (.func (.func F) #[] #[])) :
    Calls Try.prog 27 #[.slice (some ⟨g, 0, none⟩) n n, .int .i64 (k : Int), .int .u64 (U a), .int .u64 (U b)] w fun e w' => e = .returned (.tuple #[.int .u64 (r a b), .int .i64 0]) ∧ w = w' := by
  obtain ⟨hE, hL⟩ := hF
  have h0 : decide ((k : Int) < 0) = false := by simp
  have h1 : decide (n ≤ k) = false := by simp; omega
  have q : ∀ w, (binOp .eql 44 (.func (.func F) #[] #[]) .nilFunc).run Try.prog w = .ok (.bool false) w := fun _ => by kernel_rfl
  have HL := Lib.hid (hL a b)
  clear hL
  go_enter Try.func27, Try.ntmps27
  go_wp2_with (go_at_fn F; (with_reducible refine (HL.out _).mono ?_); rintro e w' ⟨rfl, rfl⟩)
  go_ret2
  exact ⟨rfl, rfl⟩
theorem askU_nil (g n k : Nat) (a b : BitVec 64) (w : World) (hk : k < n) (hc : w.cell? ⟨g, k, none⟩ = some .nilFunc) :
    Calls Try.prog 27 #[.slice (some ⟨g, 0, none⟩) n n, .int .i64 (k : Int), .int .u64 (U a), .int .u64 (U b)] w fun e w' => e = .returned (.tuple #[.int .u64 0, .int .i64 2]) ∧ w = w' := by
  have h0 : decide ((k : Int) < 0) = false := by simp
  have h1 : decide (n ≤ k) = false := by simp; omega
  have q : ∀ w, (binOp .eql 44 .nilFunc .nilFunc).run Try.prog w = .ok (.bool true) w := fun _ => by kernel_rfl
  go_enter Try.func27, Try.ntmps27
  go_wp2
  go_ret2
  exact ⟨rfl, rfl⟩
theorem askU_out (g n : Nat) (op : Int) (a b : BitVec 64) (w : World) (hk : op < 0 ∨ (n : Int) ≤ op) :
    Calls Try.prog 27 #[.slice (some ⟨g, 0, none⟩) n n, .int .i64 op, .int .u64 (U a), .int .u64 (U b)] w fun e w' => e = .returned (.tuple #[.int .u64 0, .int .i64 2]) ∧ w = w' := by
  by_cases h : op < 0
  · go_enter Try.func27, Try.ntmps27
    go_wp2
    go_ret2
    exact ⟨rfl, rfl⟩
  · have h1 : (n : Int) ≤ op := by omega
    clear hk
    go_enter Try.func27, Try.ntmps27
    go_wp2
    go_ret2
    exact ⟨rfl, rfl⟩

theorem askB_hit (F g n k : Nat) (r : BitVec 64 → BitVec 64 → Bool) (hF : Lit2 F fun a b => .bool (r a b)) (a b : BitVec 64) (w : World) (hk : k < n)
    (hc : w.cell? ⟨g, k, none⟩ = some (.func (.func F) #[] #[])) :
    Calls Try.prog 29 #[.slice (some ⟨g, 0, none⟩) n n, .int .i64 (k : Int), .int .u64 (U a), .int .u64 (U b)] w fun e w' => e = .returned (.tuple #[.bool (r a b), .int .i64 0]) ∧ w = w' := by
  obtain ⟨hE, hL⟩ := hF
  have h0 : decide ((k : Int) < 0) = false := by simp
  have h1 : decide (n ≤ k) = false := by simp; omega
  have q : ∀ w, (binOp .eql 34 (.func (.func F) #[] #[]) .nilFunc).run Try.prog w = .ok (.bool false) w := fun _ => by kernel_rfl
  have HL := Lib.hid (hL a b)
  clear hL
  go_enter Try.func29, Try.ntmps29
  go_wp2_with (go_at_fn F; (with_reducible refine (HL.out _).mono ?_); rintro e w' ⟨rfl, rfl⟩)
  go_ret2
  exact ⟨rfl, rfl⟩
theorem askB_nil (g n k : Nat) (a b : BitVec 64) (w : World) (hk : k < n) (hc : w.cell? ⟨g, k, none⟩ = some .nilFunc) :
    Calls Try.prog 29 #[.slice (some ⟨g, 0, none⟩) n n, .int .i64 (k : Int), .int .u64 (U a), .int .u64 (U b)] w fun e w' => e = .returned (.tuple #[.bool false, .int .i64 2]) ∧ w = w' := by
  have h0 : decide ((k : Int) < 0) = false := by simp
  have h1 : decide (n ≤ k) = false := by simp; omega
  have q : ∀ w, (binOp .eql 34 .nilFunc .nilFunc).run Try.prog w = .ok (.bool true) w := fun _ => by kernel_rfl
  go_enter Try.func29, Try.ntmps29
  go_wp2
  go_ret2
  exact ⟨rfl, rfl⟩
theorem askB_out (g n : Nat) (op : Int) (a b : BitVec 64) (w : World) (hk : op < 0 ∨ (n : Int) ≤ op) :
    Calls Try.prog 29 #[.slice (some ⟨g, 0, none⟩) n n, .int .i64 op, .int .u64 (U a), .int .u64 (U b)] w fun e w' => e = .returned (.tuple #[.bool false, .int .i64 2]) ∧ w = w' := by
  by_cases h : op < 0
  · go_enter Try.func29, Try.ntmps29
    go_wp2
    go_ret2
    exact ⟨rfl, rfl⟩
  · have h1 : (n : Int) ≤ op := by omega
    clear hk
    go_enter Try.func29, Try.ntmps29
    go_wp2
    go_ret2
    exact ⟨rfl, rfl⟩

theorem eqb_U (a b : BitVec 64) : (U a == U b) = (a == b) := by
  rw [Bool.eq_iff_iff, beq_iff_eq, beq_iff_eq]; exact ⟨U_inj, fun h => by rw [h]⟩
theorem br_1 (a b : BitVec 64) (w : World) : Calls Try.prog 80 #[.int .u64 (U a), .int .u64 (U b)] w fun e w' => e = .returned (.bool (a == b)) ∧ w = w' := by
  have e1 := wrapS_U a
  have e2 := wrapS_U b
  go_enter Try.func80, Try.ntmps80
  go_wp2
  go_ret
  exact ⟨ret_bool (by rw [eqb_U]), rfl⟩
theorem br_2 (a b : BitVec 64) (w : World) : Calls Try.prog 81 #[.int .u64 (U a), .int .u64 (U b)] w fun e w' => e = .returned (.bool (a != b)) ∧ w = w' := by
  have e1 := wrapS_U a
  have e2 := wrapS_U b
  go_enter Try.func81, Try.ntmps81
  go_wp2
  go_ret
  exact ⟨ret_bool (by show (!(U a == U b)) = !(a == b); rw [eqb_U]), rfl⟩
theorem br_3 (a b : BitVec 64) (w : World) : Calls Try.prog 82 #[.int .u64 (U a), .int .u64 (U b)] w fun e w' => e = .returned (.bool (decide (S a < S b))) ∧ w = w' := by
  have e1 := wrapS_U a
  have e2 := wrapS_U b
  go_enter Try.func82, Try.ntmps82
  go_wp2
  go_ret
  exact ⟨ret_bool (by rfl), rfl⟩
theorem br_4 (a b : BitVec 64) (w : World) : Calls Try.prog 83 #[.int .u64 (U a), .int .u64 (U b)] w fun e w' => e = .returned (.bool (decide (S b ≤ S a))) ∧ w = w' := by
  have e1 := wrapS_U a
  have e2 := wrapS_U b
  go_enter Try.func83, Try.ntmps83
  go_wp2
  go_ret
  exact ⟨ret_bool (by rfl), rfl⟩
theorem br_5 (a b : BitVec 64) (w : World) : Calls Try.prog 84 #[.int .u64 (U a), .int .u64 (U b)] w fun e w' => e = .returned (.bool (decide (U a < U b))) ∧ w = w' := by
  have e1 := wrapS_U a
  have e2 := wrapS_U b
  go_enter Try.func84, Try.ntmps84
  go_wp2
  go_ret
  exact ⟨ret_bool (by rfl), rfl⟩
theorem br_6 (a b : BitVec 64) (w : World) : Calls Try.prog 85 #[.int .u64 (U a), .int .u64 (U b)] w fun e w' => e = .returned (.bool (decide (U b ≤ U a))) ∧ w = w' := by
  have e1 := wrapS_U a
  have e2 := wrapS_U b
  go_enter Try.func85, Try.ntmps85
  go_wp2
  go_ret
  exact ⟨ret_bool (by rfl), rfl⟩
theorem am_1 (a b : BitVec 64) (w : World) : Calls Try.prog 86 #[.int .u64 (U a), .int .u64 (U b)] w fun e w' => e = .returned (.int .u64 (U (b))) ∧ w = w' := by
  go_enter Try.func86, Try.ntmps86
  go_wp2
  go_ret
  exact ⟨ret_int (by rfl), rfl⟩
theorem am_2 (a b : BitVec 64) (w : World) : Calls Try.prog 87 #[.int .u64 (U a), .int .u64 (U b)] w fun e w' => e = .returned (.int .u64 (U (a + b))) ∧ w = w' := by
  go_enter Try.func87, Try.ntmps87
  go_wp2
  go_ret
  exact ⟨ret_int (by rw [add_U]), rfl⟩
theorem am_3 (a b : BitVec 64) (w : World) : Calls Try.prog 88 #[.int .u64 (U a), .int .u64 (U b)] w fun e w' => e = .returned (.int .u64 (U (a ^^^ b))) ∧ w = w' := by
  go_enter Try.func88, Try.ntmps88
  go_wp2
  go_ret
  exact ⟨ret_int (by rw [xor_U]), rfl⟩
theorem am_4 (a b : BitVec 64) (w : World) : Calls Try.prog 89 #[.int .u64 (U a), .int .u64 (U b)] w fun e w' => e = .returned (.int .u64 (U (a &&& b))) ∧ w = w' := by
  go_enter Try.func89, Try.ntmps89
  go_wp2
  go_ret
  exact ⟨ret_int (by rw [and_U]), rfl⟩
theorem am_5 (a b : BitVec 64) (w : World) : Calls Try.prog 90 #[.int .u64 (U a), .int .u64 (U b)] w fun e w' => e = .returned (.int .u64 (U (a ||| b))) ∧ w = w' := by
  go_enter Try.func90, Try.ntmps90
  go_wp2
  go_ret
  exact ⟨ret_int (by rw [or_U]), rfl⟩
theorem am_6 (a b : BitVec 64) (w : World) : Calls Try.prog 91 #[.int .u64 (U a), .int .u64 (U b)] w fun e w' => e = .returned (.int .u64 (U (minSV a b))) ∧ w = w' := by
  have e1 := wrapS_U a
  have e2 := wrapS_U b
  go_enter Try.func91, Try.ntmps91
  go_wp2
  all_goals
    go_ret
    exact ⟨ret_int (by first | (rw [minSV_l (by omega)]; rw [wrapU_S]; done) | (rw [minSV_r (by omega)]; rw [wrapU_S]; done)), rfl⟩
theorem am_7 (a b : BitVec 64) (w : World) : Calls Try.prog 92 #[.int .u64 (U a), .int .u64 (U b)] w fun e w' => e = .returned (.int .u64 (U (maxSV a b))) ∧ w = w' := by
  have e1 := wrapS_U a
  have e2 := wrapS_U b
  go_enter Try.func92, Try.ntmps92
  go_wp2
  all_goals
    go_ret
    exact ⟨ret_int (by first | (rw [maxSV_l (by omega)]; rw [wrapU_S]; done) | (rw [maxSV_r (by omega)]; rw [wrapU_S]; done)), rfl⟩
theorem am_8 (a b : BitVec 64) (w : World) : Calls Try.prog 93 #[.int .u64 (U a), .int .u64 (U b)] w fun e w' => e = .returned (.int .u64 (U (minUV a b))) ∧ w = w' := by
  go_enter Try.func93, Try.ntmps93
  go_wp2
  all_goals
    go_ret
    exact ⟨ret_int (by first | (rw [minUV_l (by omega)]; done) | (rw [minUV_r (by omega)]; done)), rfl⟩
theorem am_9 (a b : BitVec 64) (w : World) : Calls Try.prog 94 #[.int .u64 (U a), .int .u64 (U b)] w fun e w' => e = .returned (.int .u64 (U (maxUV a b))) ∧ w = w' := by
  go_enter Try.func94, Try.ntmps94
  go_wp2
  all_goals
    go_ret
    exact ⟨ret_int (by first | (rw [maxUV_l (by omega)]; done) | (rw [maxUV_r (by omega)]; done)), rfl⟩
end Go.Proofs.Ytdapbaakcpjafaa
