/-
  Proved here: what the package hart's ask comes to: it panics with the end that the chapter has, or answers; it writes nothing that was there. Condition: the registers are 0 to 31.
-/
import Derived.Test.YtdiacnjkffdegaaGreatHartAccess
namespace Go.Proofs.YtdiacnjkffdegaaGreat
open Go.RowKit
abbrev al8 (b : BitVec 64) : Bool := (U b).tmod 8 == 0
/-- how an instruction ends a hart by what it asks for -/
def accE (h : Ha) (op : Int) (a : Nat) (v : BitVec 64) : Option (Int × BitVec 64) := if (sizeOf' op == 8) = false then some (5, 0) else if al8 (h.x a + v) = false then some (4, 0) else none
def sysE (h : Ha) (op : Int) : Option (Int × BitVec 64) := if op = 65 then some (2, 0) else if U (h.x 17) = 0 then some (1, h.x 10) else if U (h.x 17) = 1 then none else some (3, 0)
def askE (h : Ha) (op : Int) (a : Nat) (v : BitVec 64) : Option (Int × BitVec 64) :=
  if formOf op = 4 ∨ formOf op = 5 ∨ formOf op = 11 ∨ formOf op = 12 then accE h op a v else if formOf op = 10 then sysE h op else none
def AskPost : Option (Int × BitVec 64) → Ending → Prop
  | none, e => ∃ u, AskV u ∧ e = .returned u
  | some (how, c), e => e = .panicked (endV how c)
theorem Form_is (op : Int) (f : Int) (hf : Hid (formOf op = f)) (w : World) : Calls Tryz.prog 41 #[.int .i64 op] w fun e w' => e = .returned (.int .i64 f) ∧ Below w.heap.size w w' := hf.out ▸ Form_any op w
theorem access_any (op : Int) (d a b : Nat) (ha : a < 32) (hb : b < 32) (v : BitVec 64) (aq rl : Bool) (p q : Int) (n : Nat) (h : Ha) (w : World) (H : HAt 48 h n w) :
    Calls Tryz.prog 42 #[.pointer (some ⟨n, 0, none⟩), insV op d a b (S v) aq rl p q] w fun e w' => AskPost (accE h op a v) e ∧ Below w.heap.size w w' := by
  unfold accE
  cases hs : (sizeOf' op == 8) with
  | false => rw [if_pos rfl]; exact access_size op d a b v aq rl p q n w hs
  | true =>
    rw [if_neg (by decide)]
    cases hal : ((U (h.x a + v)).tmod 8 == 0) with
    | false => rw [if_pos hal]; exact access_align op d a b ha hb v aq rl p q n h w hs hal H
    | true =>
      rw [if_neg (by simp [al8, hal])]
      cases hst : storesB op with
      | false => exact access_load op d a b ha hb v aq rl p q n h w hs hal hst H
      | true => exact access_store op d a b ha hb v aq rl p q n h w hs hal hst H
set_option maxRecDepth 100000 in
theorem call_any (op : Int) (n : Nat) (h : Ha) (w : World) (H : HAt 48 h n w) :
    Calls Tryz.prog 43 #[.pointer (some ⟨n, 0, none⟩), .int .i64 op] w fun e w' => AskPost (sysE h op) e ∧ Below w.heap.size w w' := by
  have HS := Lib.hid (show sysE h op = if op = 65 then some (2, 0) else if U (h.x 17) = 0 then some (1, h.x 10) else if U (h.x 17) = 1 then none else some (3, 0) from rfl)
  have hn := H.lt
  have c10 : w.cell? ⟨n, 11, none⟩ = some (.int .u64 (U (h.x 10))) := H.cx 10 (by omega)
  have c17 : w.cell? ⟨n, 18, none⟩ = some (.int .u64 (U (h.x 17))) := H.cx 17 (by omega)
  have HB0 := Lib.hid (Below.refl w.heap.size w)
  have HA1 : Hid (AskAt w.heap.size (w.alloc (.cells #[.int .i64 0, .int .u64 0, .int .u64 0, .int .i64 0, .bool false, .bool false, .int .i64 0, .int .i64 0] 37))) := Lib.hid (AskAt.new w 0 0 0 0 false false 0 0)
  have HU : U (0 : BitVec 64) = 0 := by decide +kernel
  by_cases h65 : op = 65
  · rw [HS.out, if_pos h65]
    have b1 : (op == 65) = true := by simp [h65]
    go_enter Tryz.func43, Tryz.ntmps43
    go_wp2_with fail
    refine ⟨rfl, rfl, ?_⟩
    (repeat first | with_reducible exact HB0.out | with_reducible refine Below.drew ?_ | with_reducible refine Below.alloc ?_ (by first | omega | (simp; omega) | simp) _ | with_reducible refine Below.setCell ?_ (by first | omega | (simp; omega) | simp) _)
  · rw [HS.out, if_neg h65]
    have b1 : (op == 65) = false := by simp [h65]
    by_cases h0 : U (h.x 17) = 0
    · rw [if_pos h0]
      have b2 : (U (h.x 17) == 0) = true := by simp [h0]
      clear h0
      go_enter Tryz.func43, Tryz.ntmps43
      go_wp2_with fail
      refine ⟨rfl, rfl, ?_⟩
      (repeat first | with_reducible exact HB0.out | with_reducible refine Below.drew ?_ | with_reducible refine Below.alloc ?_ (by first | omega | (simp; omega) | simp) _ | with_reducible refine Below.setCell ?_ (by first | omega | (simp; omega) | simp) _)
    · rw [if_neg h0]
      have b2 : (U (h.x 17) == 0) = false := by simp [h0]
      clear h0
      by_cases h1 : U (h.x 17) = 1
      · rw [if_pos h1]
        have b3 : (U (h.x 17) == 1) = true := by simp [h1]
        clear h1
        go_enter Tryz.func43, Tryz.ntmps43
        go_wp2_with fail
        (try simp only [Exit.inBlock, Exit.then])
        refine ask_ret (n := w.heap.size) ?_ rfl rfl rfl fun u hu => ⟨⟨u, hu, rfl⟩, ?_⟩
        · (repeat first | with_reducible exact HA1.out | with_reducible exact AskAt.new _ _ _ _ _ _ _ _ _ | with_reducible refine AskAt.drew ?_ | with_reducible refine AskAt.alloc ?_ _ | with_reducible refine AskAt.setCell ?_ _ _ (by first | rfl | simp [Value.oneCell']))
        (repeat first | with_reducible exact HB0.out | with_reducible refine Below.drew ?_ | with_reducible refine Below.alloc ?_ (by first | omega | (simp; omega) | simp) _ | with_reducible refine Below.setCell ?_ (by first | omega | (simp; omega) | simp) _)
      · rw [if_neg h1]
        have b3 : (U (h.x 17) == 1) = false := by simp [h1]
        clear h1
        go_enter Tryz.func43, Tryz.ntmps43
        go_wp2_with fail
        refine ⟨rfl, rfl, ?_⟩
        (repeat first | with_reducible exact HB0.out | with_reducible refine Below.drew ?_ | with_reducible refine Below.alloc ?_ (by first | omega | (simp; omega) | simp) _ | with_reducible refine Below.setCell ?_ (by first | omega | (simp; omega) | simp) _)
end Go.Proofs.YtdiacnjkffdegaaGreat
