/-
  Proved here: the law's lives answers true; nothing that was there is changed. No condition.
  (With it: Proved here: the law's example, as a candidate; nothing that was there is changed. No condition.)
-/
import Derived.Test.YtokhnjcbcpmmjaaCdLastWalk
import Derived.Test.YtokhnjcbcpmmjaaCdSame
namespace Go.Proofs.Ytokhnjcbcpmmjaa
set_option linter.unusedVariables false
set_option linter.unusedSimpArgs false
open Go.RowKit
attribute [local go_sem ↓] fold_E fold_SE

def exA : Ev := ⟨0, 0, 2, 8, 0, 1, false, false, 0, 0, 0, .slice none 0 0, .slice none 0 0, .slice none 0 0⟩
def exB : Ev := ⟨1, 0, 1, 8, 1, 0, false, false, 0, 0, 0, .slice none 0 0, .slice none 0 0, .slice none 0 0⟩
def exC (f : Int) : Cd := ⟨2, fun _ => 1, fun h _ => if h = 0 then exA else exB, fun _ _ => nilL, [], [-1, f], [0, 1]⟩
theorem ex_may0 : (exC 0).may = true := by decide +kernel
theorem ex_may1 : (exC (-1)).may = false := by decide +kernel
theorem exA_flat : exA.flat := ⟨rfl, rfl, rfl⟩
theorem exB_flat : exB.flat := ⟨rfl, rfl, rfl⟩
theorem ex_lt (f : Int) : Lt (exC f) where
  ew := fun h _ k _ => by show WordE (if h = 0 then exA else exB); split <;> exact ⟨by decide, by decide⟩
  nh := by show (2 : Nat) ≤ 9; omega
  n := by show (2 : Nat) ≤ 60; omega
  small := fun h _ => ⟨by show (1 : Nat) ≤ 60; omega, fun k _ => ⟨Nat.zero_le _, Nat.zero_le _, Nat.zero_le _⟩⟩
  fs := Nat.zero_le _
  fr := by simp [exC]
  od := by show (2 : Nat) ≤ 120; omega
  fw := fun j hj => absurd hj (by simp [exC])
theorem five_block {w : World} {n : Nat} {x : Obj} (o1 o2 o3 o4 o5 : Obj) (h : w.heap[n]? = some x) : (((((w.alloc o1).alloc o2).alloc o3).alloc o4).alloc o5).heap[n]? = some x := push_old _ _ _ _ (push_old _ _ _ _ (push_old _ _ _ _ (push_old _ _ _ _ (push_old _ _ _ _ h))))
theorem five_at (w : World) (o1 o2 o3 o4 o5 : Obj) : (((((w.alloc o1).alloc o2).alloc o3).alloc o4).alloc o5).heap[w.heap.size]? = some o1 ∧ (((((w.alloc o1).alloc o2).alloc o3).alloc o4).alloc o5).heap[w.heap.size + 1]? = some o2 ∧ (((((w.alloc o1).alloc o2).alloc o3).alloc o4).alloc o5).heap[w.heap.size + 2]? = some o3 ∧ (((((w.alloc o1).alloc o2).alloc o3).alloc o4).alloc o5).heap[w.heap.size + 3]? = some o4 ∧ (((((w.alloc o1).alloc o2).alloc o3).alloc o4).alloc o5).heap[w.heap.size + 4]? = some o5 :=
  ⟨push_old _ _ _ _ (push_old _ _ _ _ (push_old _ _ _ _ (push_old _ _ _ _ (push_new w o1 _ rfl)))), push_old _ _ _ _ (push_old _ _ _ _ (push_old _ _ _ _ (push_new _ o2 _ (by simp)))), push_old _ _ _ _ (push_old _ _ _ _ (push_new _ o3 _ (by simp))), push_old _ _ _ _ (push_new _ o4 _ (by simp)), push_new _ o5 _ (by simp)⟩
theorem five_below (w : World) (o1 o2 o3 o4 o5 : Obj) : Below w.heap.size w (((((w.alloc o1).alloc o2).alloc o3).alloc o4).alloc o5) := (((((Below.refl _ _).alloc (Nat.le_refl _) o1).alloc (by simp) o2).alloc (by simp; omega) o3).alloc (by simp; omega) o4).alloc (by simp; omega) o5
theorem ex_row (e : Ev) (b : Nat) (w : World) (h : w.heap[b]? = some (.cells #[.int .i64 e.hart, .int .i64 e.pos, .int .i64 e.kind, .int .u64 e.addr, .int .u64 e.load, .int .u64 e.store, .bool e.aq, .bool e.rl, .int .i64 e.pred, .int .i64 e.succ, .int .i64 e.pair, e.a, e.d, e.y] 42 (0, 0))) (hn : e.a = .slice none 0 0 ∧ e.d = .slice none 0 0 ∧ e.y = .slice none 0 0) (hl : 0 ≤ e.addr) : Rw 1 b 0 (fun _ => e) (fun _ => nilL) w :=
  ⟨fun k hk j v hv => by
    obtain rfl : k = 0 := by omega
    rw [cell_of_row w b _ _ _ _ h]
    simpa using hv, fun k _ => nil_reads w e hn, fun k _ => hl, fun _ => (Array.getElem?_eq_some_iff.1 h).1⟩
def ExIs (f : Int) (w : World) (e : Ending) (w' : World) : Prop := ∃ q, e = .returned (cdV (exC f) q) ∧ CAt (exC f) q w' ∧ Below w.heap.size w w'
set_option maxRecDepth 100000 in
set_option maxHeartbeats 8000000 in
theorem example_any (f : Int) (w : World) : Calls Try.prog 13 #[.int .i64 f] w fun e w' => ExIs f w e w' := by
  go_enter Try.func13, Try.ntmps13
  go_upto_region 1 with fail
  obtain ⟨W0, hW0⟩ : ∃ W, Hid (w.alloc (.cells #[.slice none 0 0, .slice none 0 0, .slice none 0 0, .slice none 0 0] 26) = W) := ⟨_, Lib.hid rfl⟩
  have X0 : Hid (W0.heap[w.heap.size]? = some (.cells #[.slice none 0 0, .slice none 0 0, .slice none 0 0, .slice none 0 0] 26 (0, 0))) := Lib.hid (by rw [← hW0.out]; exact Array.getElem?_push_size)
  have B0 : Hid (Below w.heap.size w W0) := Lib.hid (by rw [← hW0.out]; exact box_below _ _)
  rw [hW0.out]
  clear hW0
  go_upto_region 2 with (refine store_ev (EvAt.new zeroEv W0) exA exA_flat rfl (.tmp 3) (.tmp 5) rfl rfl rfl ?_; intro w1 D1 ho1 hb1 hz1; have E1 := Lib.hid D1; have A1 := Lib.hid ((box_below W0 (.cells #[.int .i64 0, .int .i64 0, .int .i64 0, .int .u64 0, .int .u64 0, .int .u64 0, .bool false, .bool false, .int .i64 0, .int .i64 0, .int .i64 0, .slice none 0 0, .slice none 0 0, .slice none 0 0] 42)).trans hb1); clear D1 ho1 hb1 hz1)
  go_upto_region 3 with (refine store_ev (EvAt.new zeroEv w1) exB exB_flat rfl (.tmp 4) (.tmp 6) rfl rfl rfl ?_; intro w2 D2 ho2 hb2 hz2; have E2 := Lib.hid D2; have A2 := Lib.hid ((box_below w1 (.cells #[.int .i64 0, .int .i64 0, .int .i64 0, .int .u64 0, .int .u64 0, .int .u64 0, .bool false, .bool false, .int .i64 0, .int .i64 0, .int .i64 0, .slice none 0 0, .slice none 0 0, .slice none 0 0] 42)).trans hb2); clear D2 ho2 hb2 hz2)
  have X2 := Lib.hid ((A2.out.block w.heap.size (by have := A1.out.size; have := (Array.getElem?_eq_some_iff.1 X0.out).1; omega)).trans ((A1.out.block w.heap.size (Array.getElem?_eq_some_iff.1 X0.out).1).trans X0.out))
  have B2 : Hid (Below w.heap.size w w2) := Lib.hid ((B0.out.trans (A1.out.mono B0.out.size)).trans (A2.out.mono (Nat.le_trans B0.out.size A1.out.size)))
  have l1 : (LoadE (.pointer (some ⟨W0.heap.size, 0, none⟩))).run Try.prog w2 = .ok (.agg #[.int .i64 0, .int .i64 0, .int .i64 2, .int .u64 8, .int .u64 0, .int .u64 1, .bool false, .bool false, .int .i64 0, .int .i64 0, .int .i64 0, .slice none 0 0, .slice none 0 0, .slice none 0 0]) w2 := run_LoadE (E1.out.on A2.out)
  have l2 : (LoadE (.pointer (some ⟨w1.heap.size, 0, none⟩))).run Try.prog (w2.alloc (.cells #[.int .i64 0, .int .i64 0, .int .i64 2, .int .u64 8, .int .u64 0, .int .u64 1, .bool false, .bool false, .int .i64 0, .int .i64 0, .int .i64 0, .slice none 0 0, .slice none 0 0, .slice none 0 0] 42)) = .ok (.agg #[.int .i64 1, .int .i64 0, .int .i64 1, .int .u64 8, .int .u64 1, .int .u64 0, .bool false, .bool false, .int .i64 0, .int .i64 0, .int .i64 0, .slice none 0 0, .slice none 0 0, .slice none 0 0]) (w2.alloc (.cells #[.int .i64 0, .int .i64 0, .int .i64 2, .int .u64 8, .int .u64 0, .int .u64 1, .bool false, .bool false, .int .i64 0, .int .i64 0, .int .i64 0, .slice none 0 0, .slice none 0 0, .slice none 0 0] 42)) := run_LoadE (E2.out.on (box_below _ _))
  have H5 := Lib.hid (five_block (.cells #[.int .i64 0, .int .i64 0, .int .i64 2, .int .u64 8, .int .u64 0, .int .u64 1, .bool false, .bool false, .int .i64 0, .int .i64 0, .int .i64 0, .slice none 0 0, .slice none 0 0, .slice none 0 0] 42) (.cells #[.int .i64 1, .int .i64 0, .int .i64 1, .int .u64 8, .int .u64 1, .int .u64 0, .bool false, .bool false, .int .i64 0, .int .i64 0, .int .i64 0, .slice none 0 0, .slice none 0 0, .slice none 0 0] 42) (.cells #[.slice (some ⟨w2.heap.size, 0, none⟩) 1 1, .slice (some ⟨w2.heap.size + 1, 0, none⟩) 1 1] 37) (.cells #[.int .i64 (-1), .int .i64 f] 3) (.cells #[.int .i64 0, .int .i64 1] 3) X2.out)
  have A5 := Lib.hid (five_at w2 (.cells #[.int .i64 0, .int .i64 0, .int .i64 2, .int .u64 8, .int .u64 0, .int .u64 1, .bool false, .bool false, .int .i64 0, .int .i64 0, .int .i64 0, .slice none 0 0, .slice none 0 0, .slice none 0 0] 42) (.cells #[.int .i64 1, .int .i64 0, .int .i64 1, .int .u64 8, .int .u64 1, .int .u64 0, .bool false, .bool false, .int .i64 0, .int .i64 0, .int .i64 0, .slice none 0 0, .slice none 0 0, .slice none 0 0] 42) (.cells #[.slice (some ⟨w2.heap.size, 0, none⟩) 1 1, .slice (some ⟨w2.heap.size + 1, 0, none⟩) 1 1] 37) (.cells #[.int .i64 (-1), .int .i64 f] 3) (.cells #[.int .i64 0, .int .i64 1] 3))
  have B5 := Lib.hid (five_below w2 (.cells #[.int .i64 0, .int .i64 0, .int .i64 2, .int .u64 8, .int .u64 0, .int .u64 1, .bool false, .bool false, .int .i64 0, .int .i64 0, .int .i64 0, .slice none 0 0, .slice none 0 0, .slice none 0 0] 42) (.cells #[.int .i64 1, .int .i64 0, .int .i64 1, .int .u64 8, .int .u64 1, .int .u64 0, .bool false, .bool false, .int .i64 0, .int .i64 0, .int .i64 0, .slice none 0 0, .slice none 0 0, .slice none 0 0] 42) (.cells #[.slice (some ⟨w2.heap.size, 0, none⟩) 1 1, .slice (some ⟨w2.heap.size + 1, 0, none⟩) 1 1] 37) (.cells #[.int .i64 (-1), .int .i64 f] 3) (.cells #[.int .i64 0, .int .i64 1] 3))
  go_wp2_with (refine store_cand H5.out rfl _ _ _ _ _ _ _ _ _ _ _ _ rfl (.tmp 2) (.tmp 15) rfl rfl rfl ?_; intro w9 h9 ho9 hb9 hz9; have H9 := Lib.hid h9; have O9 := Lib.hid ho9; have B9 := Lib.hid hb9; clear h9 ho9 hb9 hz9)
  obtain ⟨a1, a2, a3, a4, a5⟩ := A5.out
  have hs2 : w.heap.size < w2.heap.size := (Array.getElem?_eq_some_iff.1 X2.out).1
  have k1 := (O9.out w2.heap.size (by omega)).trans a1
  have k2 := (O9.out (w2.heap.size + 1) (by omega)).trans a2
  have k3 := (O9.out (w2.heap.size + 2) (by omega)).trans a3
  have k4 := (O9.out (w2.heap.size + 3) (by omega)).trans a4
  have k5 := (O9.out (w2.heap.size + 4) (by omega)).trans a5
  have l1 := (Array.getElem?_eq_some_iff.1 k1).1
  have l2 := (Array.getElem?_eq_some_iff.1 k2).1
  have l3 := (Array.getElem?_eq_some_iff.1 k3).1
  have l4 := (Array.getElem?_eq_some_iff.1 k4).1
  have l5 := (Array.getElem?_eq_some_iff.1 k5).1
  refine bodyPost_ret (v := cdV (exC f) ⟨none, 0, some ⟨w2.heap.size + 2, 0, none⟩, 2, some ⟨w2.heap.size + 3, 0, none⟩, 2, some ⟨w2.heap.size + 4, 0, none⟩, 2⟩) ?_ rfl ⟨_, rfl, ⟨.inl ⟨EmptyS.nil, rfl⟩, .inr ⟨w2.heap.size + 2, 0, rfl, ⟨fun h hh => ?_, fun _ => l3⟩⟩, Nat.le_refl _, .inr ⟨w2.heap.size + 3, 0, 2, rfl, by show (2 : Nat) ≤ 2; omega, by omega, l4, fun j hj => ?_⟩, .inr ⟨w2.heap.size + 4, 0, 2, rfl, by show (2 : Nat) ≤ 2; omega, by omega, l5, fun j hj => ?_⟩⟩, ?_⟩
  · exact results_cell_row Try.results13 _ w9 _ _ _ (0, 0) _ rfl H9.out Try.underlying26 rfl (by as_aux_lemma => kernel_rfl)
  · have hh' : h < 2 := hh
    rcases h with _ | _ | h
    · refine ⟨.slice (some ⟨w2.heap.size, 0, none⟩) 1 1, by rw [cell_of_row w9 _ _ _ _ _ k3]; rfl, _, 1, rfl, Nat.le_refl _, .inr ⟨w2.heap.size, 0, rfl, ex_row exA w2.heap.size w9 k1 ⟨rfl, rfl, rfl⟩ (by decide)⟩⟩
    · refine ⟨.slice (some ⟨w2.heap.size + 1, 0, none⟩) 1 1, by rw [cell_of_row w9 _ _ _ _ _ k3]; rfl, _, 1, rfl, Nat.le_refl _, .inr ⟨w2.heap.size + 1, 0, rfl, ex_row exB (w2.heap.size + 1) w9 k2 ⟨rfl, rfl, rfl⟩ (by decide)⟩⟩
    · omega
  · have hj' : j < 2 := hj
    rcases j with _ | _ | j
    · rw [cell_of_row w9 _ _ _ _ _ k4]; rfl
    · rw [cell_of_row w9 _ _ _ _ _ k4]; rfl
    · omega
  · have hj' : j < 2 := hj
    rcases j with _ | _ | j
    · rw [cell_of_row w9 _ _ _ _ _ k5]; rfl
    · rw [cell_of_row w9 _ _ _ _ _ k5]; rfl
    · omega
  · exact (B2.out.trans (B5.out.mono B2.out.size)).trans (B9.out.mono (Nat.le_refl _))
end Go.Proofs.Ytokhnjcbcpmmjaa
namespace Go.Proofs.Ytokhnjcbcpmmjaa
set_option linter.unusedVariables false
set_option linter.unusedSimpArgs false
open Go.RowKit
attribute [local go_sem ↓] fold_E fold_SE

theorem ex_met (x : Int) : metL (exC 0) 2 x = if (8 : Int) = x then some 1 else none := by
  have e1 : atI (exC 0).od 1 = 1 := rfl
  have e0 : atI (exC 0).od 0 = 0 := rfl
  have a1 : ((exC 0).at (1 : Int).toNat).1 = exB := by rfl
  have a0 : ((exC 0).at (0 : Int).toNat).1 = exA := by rfl
  unfold metL
  rw [e1, a1]
  have w1 : writesE exB = false := by decide +kernel
  rw [if_neg (by rw [w1]; simp)]
  unfold metL
  rw [e0, a0]
  have w0 : writesE exA = true := by decide +kernel
  by_cases hx : (8 : Int) = x
  · rw [if_pos ⟨w0, hx⟩, if_pos hx]; rfl
  · rw [if_neg (fun h => hx h.2), if_neg hx]; rfl
theorem ex_last {l : List (Int × Int)} (hs : ∀ i j, i < j → j < l.length → fA l i < fA l j) (hm : ∀ p, p ∈ l ↔ LastSet (exC 0) p) : l = [(8, 1)] := by
  have hset : ∀ p, LastSet (exC 0) p ↔ p = (8, 1) := fun p => by
    unfold LastSet
    have hf : (exC 0).fs = [] := rfl
    have hn : (exC 0).od.length = 2 := rfl
    rw [hf, hn, ex_met]
    constructor
    · rintro (⟨h, _⟩ | ⟨h, _⟩)
      · simp at h
      · by_cases hx : (8 : Int) = p.1
        · rw [if_pos hx] at h
          exact Prod.ext hx.symm (Option.some.inj h).symm
        · rw [if_neg hx] at h; cases h
    · rintro rfl
      exact .inr ⟨by simp, by simp⟩
  have hmem : ∀ p, p ∈ l ↔ p = (8, 1) := fun p => (hm p).trans (hset p)
  match l, hs, hmem with
  | [], _, h => exact absurd ((h (8, 1)).2 rfl) (by simp)
  | [p], _, h => rw [(h p).1 (by simp)]
  | p :: q :: r, hs, h =>
    have h1 := (h p).1 (by simp)
    have h2 := (h q).1 (by simp)
    have := hs 0 1 (by omega) (by simp)
    subst h1 h2
    simp [fA] at this
theorem Last_ex (q : Cv) (w : World) (h : CAt (exC 0) q w) : Calls Try.prog 11 #[cdV (exC 0) q] w fun e w' => ∃ v, e = .returned v ∧ ReadsF w' v [(8, 1)] ∧ Below w.heap.size w w' :=
  (Last_yes (exC 0) q w (ex_lt 0) h ex_may0).mono fun e w' ⟨v, l, h1, h2, h3, h4, h5, _⟩ => by
    have := ex_last h3 h4
    subst this
    exact ⟨v, h1, h2, h5⟩
theorem one_cell (w : World) (x y : Int) : ReadsF (w.alloc (.cells #[.int .u64 x, .int .u64 y] 35)) (.slice (some ⟨w.heap.size, 0, none⟩) 1 1) [(x, y)] := by
  have h : (w.alloc (.cells #[.int .u64 x, .int .u64 y] 35)).heap[w.heap.size]? = some (.cells #[.int .u64 x, .int .u64 y] 35 (0, 0)) := Array.getElem?_push_size
  refine .inr ⟨w.heap.size, 0, 1, rfl, Nat.le_refl _, by omega, (Array.getElem?_eq_some_iff.1 h).1, fun j hj => ?_⟩
  obtain rfl : j = 0 := by simpa using hj
  exact ⟨by rw [cell_of_row _ _ _ _ _ _ h]; rfl, by rw [cell_of_row _ _ _ _ _ _ h]; rfl⟩
set_option maxRecDepth 100000 in
set_option maxHeartbeats 4000000 in
theorem lives_any (w : World) : Calls Try.prog 4 #[] w fun e w' => SameOk w true e w' := by
  have K0 := Lib.hid (fun w0 => example_any 0 w0)
  have K1 := Lib.hid (fun w0 => example_any (-1) w0)
  have KL := Lib.hid Last_ex
  have KC := Lib.hid (fun q w0 h => check_c (exC 0) q w0 (ex_lt 0) h true ex_may0)
  have KD := Lib.hid (fun q w0 h => check_c (exC (-1)) q w0 (ex_lt (-1)) h false ex_may1)
  go_enter Try.func4, Try.ntmps4
  go_upto_region 2 with (first
    | (go_at_call 13; (with_reducible refine (K0.out _).mono ?_); rintro e' w1 ⟨q1, rfl, hc, hb⟩; have C1 := Lib.hid hc; have L1 := Lib.hid hb; clear hc hb)
    | (go_at_call 11; (with_reducible refine (KL.out q1 w1 C1.out).mono ?_); rintro e' w2 ⟨v, rfl, hr, hb⟩; have R2 := Lib.hid hr; have L2 := Lib.hid (L1.out.trans (hb.mono L1.out.size)); clear hr hb C1 L1))
  go_wp2_with (first
    | (go_at_call 13; (with_reducible refine (K0.out _).mono ?_); rintro e' w3 ⟨q3, rfl, hc, hb⟩; have C3 := Lib.hid hc; have L3 := Lib.hid (L2.out.trans (hb.mono L2.out.size)); have R3 := Lib.hid (R2.out.below hb); clear hc hb)
    | (go_at_call 6; (with_reducible refine (KC.out q3 w3 C3.out).mono ?_); rintro e' w4 ⟨rfl, hb⟩; have L4 := Lib.hid (L3.out.trans (hb.mono L3.out.size)); have R4 := Lib.hid (R3.out.below hb); clear hb C3)
    | (go_at_call 13; (with_reducible refine (K1.out _).mono ?_); rintro e' w5 ⟨q5, rfl, hc, hb⟩; have C5 := Lib.hid hc; have L5 := Lib.hid (L4.out.trans (hb.mono L4.out.size)); have R5 := Lib.hid (R4.out.below hb); clear hc hb)
    | (go_at_call 6; (with_reducible refine (KD.out q5 w5 C5.out).mono ?_); rintro e' w6 ⟨rfl, hb⟩; have L6 := Lib.hid (L5.out.trans (hb.mono L5.out.size)); have R6 := Lib.hid ((R5.out.below hb).below (box_below w6 (.cells #[.int .u64 8, .int .u64 1] 35))); have M6 := Lib.hid (L6.out.trans ((box_below w6 (.cells #[.int .u64 8, .int .u64 1] 35)).mono L6.out.size)); have Q6 := Lib.hid (one_cell w6 8 1); clear hb C5)
    | (go_at_call 10; (with_reducible refine (sameC_any v _ [(8, 1)] [(8, 1)] _ R6.out Q6.out (by simp)).mono ?_); rintro e' w7 ⟨rfl, hb⟩; have L7 := Lib.hid (M6.out.trans (hb.mono M6.out.size)); clear hb))
  go_ret
  exact ⟨by simp, L7.out⟩
end Go.Proofs.Ytokhnjcbcpmmjaa
