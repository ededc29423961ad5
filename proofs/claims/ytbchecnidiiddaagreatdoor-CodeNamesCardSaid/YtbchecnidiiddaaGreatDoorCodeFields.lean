/-
  Proved here: the carrier's register, between, mark and signed, and each field's own function: they carry a field into the carrier's word or out of it; nothing else that was there is changed. No condition.
-/
import Derived.Test.YtbchecnidiiddaaGreatDoorCodeNumber
namespace Go.Proofs.YtbchecnidiiddaaGreatDoor
set_option linter.unusedVariables false
open Go.RowKit

theorem span_get : ∀ (l : List Sp) (k : Nat) (s : Sp), l[k]? = some s → (spanCells l)[k * 3]? = some (.int .i64 s.1) ∧ (spanCells l)[k * 3 + 1]? = some (.int .i64 s.2.1) ∧ (spanCells l)[k * 3 + 2]? = some (.int .i64 s.2.2)
  | [], k, s, h => by simp at h
  | a :: l, 0, s, h => by simp at h; subst h; exact ⟨rfl, rfl, rfl⟩
  | a :: l, k + 1, s, h => by
    have ih := span_get l k s (by simpa using h)
    have e : (k + 1) * 3 = k * 3 + 1 + 1 + 1 := by omega
    rw [e]
    exact ih
theorem spans_new (l : List Sp) (w : World) (t : TypeId) : SpansAt w.heap.size l (w.alloc (.cells (spanCells l).toArray t)) := by
  have h := heap_new w (.cells (spanCells l).toArray t)
  refine ⟨by simp, fun k s hk => ?_⟩
  obtain ⟨h1, h2, h3⟩ := span_get l k s hk
  unfold World.cell?
  rw [h]
  refine ⟨?_, ?_, ?_⟩ <;> simpa
theorem len1 (s : Sp) : 1 = [s].length := rfl
theorem within1 {a b c : Nat} (ha : a ≤ 64) (hb : b ≤ 64) (hc : c ≤ 64) : Within [(a, b, c)] := ⟨by simp, fun s hs => by simp at hs; subst hs; exact ⟨ha, hb, hc⟩⟩
def RetI (c : Nat) (b' : BitVec 64) (x : Value) (o : Bool) (w : World) (e : Ending) (w' : World) : Prop := e = .returned x ∧ CarAt c b' o w' ∧ Oth c w w'
set_option maxRecDepth 100000 in
set_option maxHeartbeats 1000000 in
theorem register_any (c f : Nat) (F : Int) (b : BitVec 64) (x : Int) (o : Bool) (w : World) (hF : F = (f : Int)) (hf : f ≤ 64) (hc : CarAt c b o w) :
    Calls Tryz.prog 84 #[.pointer (some ⟨c, 0, none⟩), .int .i64 x, .int .i64 F] w fun e w' => RetI c (nb o b (B x) [(f, 5, 0)]) (.int .i64 (S (nv o b (B x) [(f, 5, 0)]))) o w e w' := by
  subst hF
  have hz := hc.facts.1
  have hx : IntKind.u64.wrap x = U (B x) := wrapU x
  have hy : wrap64 (U (nv o b (B x) [(f, 5, 0)])) = S (nv o b (B x) [(f, 5, 0)]) := wrapS_U _
  have HW := Lib.hid (within1 hf (show 5 ≤ 64 by omega) (show 0 ≤ 64 by omega))
  have HS : Hid (SpansAt w.heap.size [(f, 5, 0)] (w.alloc (.cells #[.int .i64 (f : Int), .int .i64 5, .int .i64 0] 131))) := Lib.hid (spans_new [(f, 5, 0)] w 131)
  have HB := Lib.hid ((Below.refl w.heap.size w).alloc (Nat.le_refl _) (.cells #[.int .i64 (f : Int), .int .i64 5, .int .i64 0] 131))
  have HC := Lib.hid (hc.below HB.out hz)
  clear hc
  go_enter Tryz.func84, Tryz.ntmps84
  go_wp2_with (go_at_call 86; (with_reducible refine (number_any _ _ _ _ _ _ _ _ _ (len1 _) HW.out HC.out HS.out (by omega)).mono ?_); rintro e w1 ⟨rfl, hC, hO⟩; have HC1 := Lib.hid hC; have HO1 := Lib.hid ((Oth.of HB.out).trans hO); clear hC hO)
  go_ret
  exact ⟨ret_int (wrapS_U _), HC1.out, HO1.out⟩
set_option maxRecDepth 100000 in
set_option maxHeartbeats 1000000 in
theorem between_any (c f : Nat) (F : Int) (b : BitVec 64) (x : Int) (o : Bool) (w : World) (hF : F = (f : Int)) (hf : f ≤ 64) (hc : CarAt c b o w) :
    Calls Tryz.prog 87 #[.pointer (some ⟨c, 0, none⟩), .int .i64 x, .int .i64 F] w fun e w' => RetI c (nb o b (B x) [(f, 4, 0)]) (.int .i64 (S (nv o b (B x) [(f, 4, 0)]))) o w e w' := by
  subst hF
  have hz := hc.facts.1
  have hx : IntKind.u64.wrap x = U (B x) := wrapU x
  have hy : wrap64 (U (nv o b (B x) [(f, 4, 0)])) = S (nv o b (B x) [(f, 4, 0)]) := wrapS_U _
  have HW := Lib.hid (within1 hf (show 4 ≤ 64 by omega) (show 0 ≤ 64 by omega))
  have HS : Hid (SpansAt w.heap.size [(f, 4, 0)] (w.alloc (.cells #[.int .i64 (f : Int), .int .i64 4, .int .i64 0] 131))) := Lib.hid (spans_new [(f, 4, 0)] w 131)
  have HB := Lib.hid ((Below.refl w.heap.size w).alloc (Nat.le_refl _) (.cells #[.int .i64 (f : Int), .int .i64 4, .int .i64 0] 131))
  have HC := Lib.hid (hc.below HB.out hz)
  clear hc
  go_enter Tryz.func87, Tryz.ntmps87
  go_wp2_with (go_at_call 86; (with_reducible refine (number_any _ _ _ _ _ _ _ _ _ (len1 _) HW.out HC.out HS.out (by omega)).mono ?_); rintro e w1 ⟨rfl, hC, hO⟩; have HC1 := Lib.hid hC; have HO1 := Lib.hid ((Oth.of HB.out).trans hO); clear hC hO)
  go_ret
  exact ⟨ret_int (wrapS_U _), HC1.out, HO1.out⟩
theorem flag_U (a : Bool) : U (flagV a) = if a then 1 else 0 := by cases a <;> decide
set_option maxRecDepth 100000 in
set_option maxHeartbeats 1000000 in
theorem mark_true (c f : Nat) (F : Int) (b : BitVec 64) (o : Bool) (w : World) (hF : F = (f : Int)) (hf : f ≤ 64) (hc : CarAt c b o w) :
    Calls Tryz.prog 88 #[.pointer (some ⟨c, 0, none⟩), .bool true, .int .i64 F] w fun e w' => RetI c (nb o b (flagV true) [(f, 1, 0)]) (.bool (nv o b (flagV true) [(f, 1, 0)] == 1)) o w e w' := by
  subst hF
  have hz := hc.facts.1
  have hx : (1 : Int) = U (flagV true) := (flag_U true).symm
  have HX := Lib.hid hx
  obtain ⟨r, hr⟩ : ∃ r, (nv o b (flagV true) [(f, 1, 0)] == 1) = r := ⟨_, rfl⟩
  have hy : (U (nv o b (flagV true) [(f, 1, 0)]) == 1) = r := by
    rw [← hr]
    have e : (1 : Int) = U 1 := by decide
    rw [e, Bool.eq_iff_iff, beq_iff_eq, beq_iff_eq]
    exact ⟨U_inj, fun h => by rw [h]⟩
  rw [hr]
  clear hr hx
  have HW := Lib.hid (within1 hf (show 1 ≤ 64 by omega) (show 0 ≤ 64 by omega))
  have HS : Hid (SpansAt w.heap.size [(f, 1, 0)] (w.alloc (.cells #[.int .i64 (f : Int), .int .i64 1, .int .i64 0] 131))) := Lib.hid (spans_new [(f, 1, 0)] w 131)
  have HB := Lib.hid ((Below.refl w.heap.size w).alloc (Nat.le_refl _) (.cells #[.int .i64 (f : Int), .int .i64 1, .int .i64 0] 131))
  have HC := Lib.hid (hc.below HB.out hz)
  have HN : ∀ w0, CarAt c b o w0 → SpansAt w.heap.size [(f, 1, 0)] w0 → Calls Tryz.prog 86 #[.pointer (some ⟨c, 0, none⟩), .int .u64 1, .slice (some ⟨w.heap.size, 0, none⟩) 1 1] w0 fun e w' => NumOk c (nb o b (flagV true) [(f, 1, 0)]) (nv o b (flagV true) [(f, 1, 0)]) o w0 e w' := fun w0 h1 h2 => by
    rw [HX.out]; exact number_any _ _ _ _ _ _ _ _ _ rfl HW.out h1 h2 (by omega)
  have HNN := Lib.hid HN
  clear HN hc
  go_enter Tryz.func88, Tryz.ntmps88
  go_wp2_with (go_at_call 86; (with_reducible refine (HNN.out _ HC.out HS.out).mono ?_); rintro e w1 ⟨rfl, hC, hO⟩; have HC1 := Lib.hid hC; have HO1 := Lib.hid ((Oth.of HB.out).trans hO); clear hC hO)
  go_ret
  exact ⟨rfl, HC1.out, HO1.out⟩
set_option maxRecDepth 100000 in
set_option maxHeartbeats 1000000 in
theorem mark_false (c f : Nat) (F : Int) (b : BitVec 64) (o : Bool) (w : World) (hF : F = (f : Int)) (hf : f ≤ 64) (hc : CarAt c b o w) :
    Calls Tryz.prog 88 #[.pointer (some ⟨c, 0, none⟩), .bool false, .int .i64 F] w fun e w' => RetI c (nb o b (flagV false) [(f, 1, 0)]) (.bool (nv o b (flagV false) [(f, 1, 0)] == 1)) o w e w' := by
  subst hF
  have hz := hc.facts.1
  have hx : (0 : Int) = U (flagV false) := (flag_U false).symm
  have HX := Lib.hid hx
  obtain ⟨r, hr⟩ : ∃ r, (nv o b (flagV false) [(f, 1, 0)] == 1) = r := ⟨_, rfl⟩
  have hy : (U (nv o b (flagV false) [(f, 1, 0)]) == 1) = r := by
    rw [← hr]
    have e : (1 : Int) = U 1 := by decide
    rw [e, Bool.eq_iff_iff, beq_iff_eq, beq_iff_eq]
    exact ⟨U_inj, fun h => by rw [h]⟩
  rw [hr]
  clear hr hx
  have HW := Lib.hid (within1 hf (show 1 ≤ 64 by omega) (show 0 ≤ 64 by omega))
  have HS : Hid (SpansAt w.heap.size [(f, 1, 0)] (w.alloc (.cells #[.int .i64 (f : Int), .int .i64 1, .int .i64 0] 131))) := Lib.hid (spans_new [(f, 1, 0)] w 131)
  have HB := Lib.hid ((Below.refl w.heap.size w).alloc (Nat.le_refl _) (.cells #[.int .i64 (f : Int), .int .i64 1, .int .i64 0] 131))
  have HC := Lib.hid (hc.below HB.out hz)
  have HN : ∀ w0, CarAt c b o w0 → SpansAt w.heap.size [(f, 1, 0)] w0 → Calls Tryz.prog 86 #[.pointer (some ⟨c, 0, none⟩), .int .u64 0, .slice (some ⟨w.heap.size, 0, none⟩) 1 1] w0 fun e w' => NumOk c (nb o b (flagV false) [(f, 1, 0)]) (nv o b (flagV false) [(f, 1, 0)]) o w0 e w' := fun w0 h1 h2 => by
    rw [HX.out]; exact number_any _ _ _ _ _ _ _ _ _ rfl HW.out h1 h2 (by omega)
  have HNN := Lib.hid HN
  clear HN hc
  go_enter Tryz.func88, Tryz.ntmps88
  go_wp2_with (go_at_call 86; (with_reducible refine (HNN.out _ HC.out HS.out).mono ?_); rintro e w1 ⟨rfl, hC, hO⟩; have HC1 := Lib.hid hC; have HO1 := Lib.hid ((Oth.of HB.out).trans hO); clear hC hO)
  go_ret
  exact ⟨rfl, HC1.out, HO1.out⟩
theorem mark_any (c f : Nat) (F : Int) (b : BitVec 64) (a o : Bool) (w : World) (hF : F = (f : Int)) (hf : f ≤ 64) (hc : CarAt c b o w) :
    Calls Tryz.prog 88 #[.pointer (some ⟨c, 0, none⟩), .bool a, .int .i64 F] w fun e w' => RetI c (nb o b (flagV a) [(f, 1, 0)]) (.bool (nv o b (flagV a) [(f, 1, 0)] == 1)) o w e w' := by
  cases a
  · exact mark_false c f F b o w hF hf hc
  · exact mark_true c f F b o w hF hf hc
set_option maxRecDepth 100000 in
set_option maxHeartbeats 1000000 in
theorem signed_any (c g cap n k : Nat) (K : Int) (b : BitVec 64) (x : Int) (o : Bool) (l : List Sp) (w : World) (hK : K = (k : Int)) (hk : k ≤ 64) (hn : n = l.length) (hl : Within l) (hc : CarAt c b o w) (hg : SpansAt g l w) (hcg : g ≠ c) :
    Calls Tryz.prog 85 #[.pointer (some ⟨c, 0, none⟩), .int .i64 x, .int .i64 K, .slice (some ⟨g, 0, none⟩) n cap] w fun e w' => RetI c (nb o b (B x) l) (.int .i64 (S (sign (nv o b (B x) l) k))) o w e w' := by
  subst hK
  have hx : IntKind.u64.wrap x = U (B x) := wrapU x
  have HY : Hid (signI (U (nv o b (B x) l)) k = S (sign (nv o b (B x) l) k)) := Lib.hid (by rw [signI_S, ck_in _ (by omega) (by omega)]; rfl)
  have HN := Lib.hid (fun w0 (h : w0 = w) => (h ▸ number_any c g cap n b (B x) o l w hn hl hc hg hcg : Calls Tryz.prog 86 #[.pointer (some ⟨c, 0, none⟩), .int .u64 (U (B x)), .slice (some ⟨g, 0, none⟩) n cap] w0 fun e w' => NumOk c (nb o b (B x) l) (nv o b (B x) l) o w e w'))
  clear hn hl hc hg hcg
  go_enter Tryz.func85, Tryz.ntmps85
  go_wp2_with (first
    | (go_at_call 86; (with_reducible refine (HN.out _ rfl).mono ?_); rintro e w1 ⟨rfl, hC, hO⟩; have HC1 := Lib.hid hC; have HO1 := Lib.hid hO; clear hC hO)
    | (go_at_call 109; (with_reducible refine (Sign_any _ _ _).mono ?_); rintro e w2 ⟨rfl, rfl⟩))
  go_ret
  exact ⟨by rw [← HY.out]; rfl, HC1.out, HO1.out⟩
end Go.Proofs.YtbchecnidiiddaaGreatDoor
