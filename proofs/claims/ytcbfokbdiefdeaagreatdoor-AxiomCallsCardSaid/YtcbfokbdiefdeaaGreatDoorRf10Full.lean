/-
  Proved here: the document's Full tells what package ppo's does; nothing that was there is changed. Condition: a light candidate.
  (With it: Proved here: the document's View.Rule tells the first rule that holds; nothing that was there is changed. Condition: a light candidate that may be.)
  (With it: Proved here: the document's View.whole tells what leads to what by steps; nothing that was there is changed. Condition: a light candidate that may be.)
  (With it: Proved here: the document's Of answers a view of all events and whether the candidate may be; its Rule, Holds, Whole, Pairs, Full follow; nothing that was there is changed. Condition: a light candidate.)
  (With it: Proved here: the document's Rule, Holds, Whole, Pairs tell what package ppo's do; nothing that was there is changed. Condition: a light candidate.)
-/
import Derived.Test.YtcbfokbdiefdeaaGreatDoorRf10Holds
import Derived.Maps.OwnOps
import Derived.Maps.OwnSet
namespace Go.Proofs.YtcbfokbdiefdeaaGreatDoor
set_option linter.unusedVariables false
set_option linter.unusedSimpArgs false
open Go.RowKit Go.Maps
attribute [local go_sem ↓] fold_E fold_SE

theorem firstFrom_hit (f : Nat → Bool) : ∀ (n r k : Nat), r ≤ k → k < r + n → f k = true → (∀ j, r ≤ j → j < k → f j = false) → firstFrom f r n = k + 1
  | 0, r, k, h1, h2, _, _ => by omega
  | n + 1, r, k, h1, h2, h3, h4 => by
    unfold firstFrom
    by_cases e : r = k
    · subst e; rw [h3]; rfl
    · rw [h4 r (Nat.le_refl _) (by omega)]
      exact firstFrom_hit f n (r + 1) k (by omega) (by omega) h3 (fun j h5 h6 => h4 j (by omega) h6)
theorem holdsR_at {c : Cd} {a b : Int} {j : Nat} (h1 : 1 ≤ j) (h2 : j ≤ 13) : holdsR c a b (j : Int) = (aheadP c a b && ruleB c a.toNat b.toNat (j - 1)) := by
  unfold holdsR
  rw [decide_eq_true (show (1 : Int) ≤ j by omega), decide_eq_true (show (j : Int) ≤ 13 by omega), Int.toNat_natCast]; rfl
theorem ruleL_at {c : Cd} {a b : Int} {k : Nat} (h1 : 1 ≤ k) (h2 : k ≤ 13) (h : holdsR c a b (k : Int) = true) (hn : ∀ j : Nat, 1 ≤ j → j < k → holdsR c a b (j : Int) = false) : ruleL c a b = k := by
  rw [holdsR_at h1 h2, Bool.and_eq_true] at h
  unfold ruleL
  rw [h.1, if_pos rfl]
  unfold firstL
  rw [firstFrom_hit _ 13 0 (k - 1) (by omega) (by omega) h.2 (fun j _ h4 => by
    have := hn (j + 1) (by omega) (by omega)
    rw [holdsR_at (by omega) (by omega), h.1, Bool.true_and] at this
    exact this)]
  omega
theorem ruleL_none {c : Cd} {a b : Int} (hn : ∀ j : Nat, 1 ≤ j → j < 14 → holdsR c a b (j : Int) = false) : ruleL c a b = 0 := by
  unfold ruleL
  cases h : aheadP c a b with
  | false => rfl
  | true =>
    rw [if_pos rfl]
    unfold firstL
    rw [firstFrom_zero]
    intro j _ h4
    have := hn (j + 1) (by omega) (by omega)
    rw [holdsR_at (by omega) (by omega), h, Bool.true_and] at this
    exact this
set_option maxRecDepth 100000 in
set_option maxHeartbeats 8000000 in
theorem ruleV_any (c : Cd) (q : Cv) (es : List Ev) (aA : Option Addr) (cA base : Nat) (w : World) (hL : Lt c) (hm : c.may = true) (h : Vh c q es aA cA base w) (a b : Int) :
    Calls Tryz.prog 56 #[vwV c q aA cA, .int .i64 a, .int .i64 b] w fun e w' => FirstIs w (ruleL c a b) e w' := by
  have S0 := Lib.hid (Vr.start h)
  have KH := Lib.hid (fun w0 (h0 : Vh c q es aA cA base w0) (k : Int) (r : Bool) (hr : holdsR c a b k = r) => holdsV_any c q es aA cA base w0 hL hm h0 a b k r hr)
  clear h hL hm
  go_enter Tryz.func56, Tryz.ntmps56
  go_wp2
  go_loopw [7] (fun vi wr => ∃ k : Nat, 1 ≤ k ∧ k ≤ 14 ∧ vi = .int .i64 (k : Int) ∧ Hid (∀ j : Nat, 1 ≤ j → j < k → holdsR c a b (j : Int) = false) ∧ Hid (Vr c q es aA cA base w.heap.size w wr)) (fun vi _ => 14 - (intOf vi).toNat)
  case atStart => exact ⟨1, by omega, by omega, by first | rfl | simp, Lib.hid (fun j h1 h2 => absurd h1 (by omega)), S0⟩
  case round =>
    clear S0
    obtain ⟨k, hk1, hk14, rfl, HN, S⟩ := hrel
    by_cases hkl : k ≤ 13
    · have g1 : decide (k ≤ 13) = true := by simpa using hkl
      have g1' : decide ((k : Int) ≤ 13) = true := by simp; omega
      obtain ⟨y0, y1, y2, y3, y4⟩ := S.out.facts
      obtain ⟨z, hz⟩ : ∃ z, Hid (holdsR c a b (k : Int) = z) := ⟨_, Lib.hid rfl⟩
      have KH1 := Lib.hid (fun w0 h0 => KH.out w0 h0 (k : Int) z hz.out)
      cases z with
      | true =>
        have HR := Lib.hid (ruleL_at hk1 hkl hz.out HN.out)
        clear hkl
        go_wp2_with (go_at_call 73; (with_reducible refine (KH1.out _ S.out.vh).mono ?_); rintro e' w1 ⟨rfl, hb⟩; have S1 := Lib.hid (S.out.on hb); clear hb)
        go_ret
        exact ⟨by rw [HR.out]; rfl, S1.out.below⟩
      | false =>
        have HN2 : Hid (∀ j : Nat, 1 ≤ j → j < k + 1 → holdsR c a b (j : Int) = false) := Lib.hid (fun j h1 h2 => by
          by_cases e : j = k
          · subst e; exact hz.out
          · exact HN.out j h1 (by omega))
        go_wp2_with (go_at_call 73; (with_reducible refine (KH1.out _ S.out.vh).mono ?_); rintro e' w1 ⟨rfl, hb⟩; have S1 := Lib.hid (S.out.on hb); clear hb)
        go_roundw
        case rel => exact ⟨k + 1, by omega, by omega, by go_num, HN2, S1⟩
        case measure => simp [intOf]; omega
    · have g1 : decide (k ≤ 13) = false := by simpa using hkl
      have g1' : decide ((k : Int) ≤ 13) = false := by simp; omega
      obtain rfl : k = 14 := by omega
      have HR := Lib.hid (ruleL_none HN.out)
      go_wp2
      go_ret
      exact ⟨by rw [HR.out]; rfl, S.out.below⟩
end Go.Proofs.YtcbfokbdiefdeaaGreatDoor
namespace Go.Proofs.YtcbfokbdiefdeaaGreatDoor
set_option linter.unusedVariables false
set_option linter.unusedSimpArgs false
open Go.RowKit Go.Maps
attribute [local go_sem ↓] fold_E fold_SE

/-! a map of ints by ints: which numbers have a one -/
/-! what is led to -/
end Go.Proofs.YtcbfokbdiefdeaaGreatDoor
namespace Go.Proofs.YtcbfokbdiefdeaaGreatDoor
set_option linter.unusedVariables false
set_option linter.unusedSimpArgs false
open Go.RowKit Go.Maps
attribute [local go_sem ↓] fold_E fold_SE

set_option maxRecDepth 100000 in
set_option maxHeartbeats 4000000 in
theorem rall9_no (c : Cd) (q : Cv) (w : World) (hL : Lt c) (hX : ∀ h, h < c.nh → ∀ k, k < c.len h → PairFits (c.ev h k)) (h : CAt c q w) (hm : c.may = false) : Calls Tryz.prog 22 #[cdV c q] w fun e w' => e = .returned (.slice none 0 0) ∧ Below w.heap.size w w' := by
  have S0 := Lib.hid (Lk.start h)
  have KC := Lib.hid (fun w0 h0 => rcheck9_is c q w0 hL hX h0 false hm)
  clear h hL hX hm
  obtain ⟨x0, x1, x2, x3⟩ := S0.out.box.facts
  go_enter Tryz.func22, Tryz.ntmps22
  go_wp2_with (go_at_call 23; (with_reducible refine (KC.out _ S0.out.at_).mono ?_); rintro e' w1 ⟨rfl, hb⟩; have S1 := Lib.hid (S0.out.on hb); clear hb)
  go_ret
  exact ⟨rfl, S1.out.below⟩
def StoreW (x y : Value) : Sem Unit := Instr.storeAt 76 x y
theorem fold_SW (x y : Value) : Instr.storeAt 76 x y = StoreW x y := rfl
attribute [local go_sem ↓] fold_SW
def VBox (v0 v1 v2 v3 v4 : Value) (n : Nat) (w : World) : Prop := w.heap[n]? = some (.cells #[v0, v1, v2, v3, v4] 76 (0, 0))
theorem VBox.lt {v0 v1 v2 v3 v4 : Value} {n : Nat} {w : World} (h : VBox v0 v1 v2 v3 v4 n w) : n < w.heap.size := (Array.getElem?_eq_some_iff.1 h).1
theorem VBox.on {v0 v1 v2 v3 v4 : Value} {n : Nat} {w w2 : World} (h : VBox v0 v1 v2 v3 v4 n w) (hb : Below w.heap.size w w2) : VBox v0 v1 v2 v3 v4 n w2 := (hb.block n h.lt).trans h
theorem run_StoreW {x0 x1 x2 x3 x4 y0 y1 y2 y3 y4 : Value} {n : Nat} {w : World} (H : VBox x0 x1 x2 x3 x4 n w) (h0 : y0.oneCell' = true) (h1 : y1.oneCell' = true) (h2 : y2.oneCell' = true) (h3 : y3.oneCell' = true) (h4 : y4.oneCell' = true) : (StoreW (.pointer (some ⟨n, 0, none⟩)) (.agg #[y0, y1, y2, y3, y4])).run Tryz.prog w = .ok () (w.setRow n #[y0, y1, y2, y3, y4]) := by
  unfold StoreW Instr.storeAt Instr.sureAddr
  simp only [Sem.run_bind, Sem.run_pure, Result.andThen_ok]
  exact run_storeVar_row w n _ _ _ _ H (by as_aux_lemma => kernel_rfl) rfl (by simp [h0, h1, h2, h3, h4])
theorem two_end {P : Program} {fn : Func} {tmps : Array Value} {t u : Tmp} {ty : TypeId} {ad : Addr} {v : Value} {w : World} (h : fn.results = #[.cell t ty, .tmp u]) (hb : tmps[t]?.getD undef = .pointer (some ad)) (hl : (loadVar ty ad).run P w = .ok v w) :
    (results fn tmps).run P w = .ok (.tuple #[v, tmps[u]?.getD undef]) w := by
  simp [results, h, hb, asAddr, hl]
/-- what Of answers of one that may be -/
def OfYes (c : Cd) (q : Cv) (w : World) (e : Ending) (w' : World) : Prop := ∃ es aA cA base, e = .returned (.tuple #[vwV c q aA cA, .bool true]) ∧ Vh c q es aA cA base w' ∧ Below w.heap.size w w'
/-- of one that may not -/
def OfNo (c : Cd) (q : Cv) (w : World) (e : Ending) (w' : World) : Prop := e = .returned (.tuple #[.agg #[.slice q.aF c.fs.length q.cF, .slice q.aH c.nh q.cH, .slice q.aR c.fr.length q.cR, .slice q.aO c.od.length q.cO, .slice none 0 0], .bool false]) ∧ Below w.heap.size w w'
/-- the candidate's box, the result's -/
structure Ob (c : Cd) (q : Cv) (w W : World) : Prop where
  lk : Lk c q w W
  res : VBox (.slice none 0 0) (.slice none 0 0) (.slice none 0 0) (.slice none 0 0) (.slice none 0 0) (w.heap.size + 1) W
theorem Ob.on {c : Cd} {q : Cv} {w W W2 : World} (h : Ob c q w W) (hb : Below W.heap.size W W2) : Ob c q w W2 := ⟨h.lk.on hb, h.res.on hb⟩
theorem Ob.start {c : Cd} {q : Cv} {w : World} (h : CAt c q w) : Ob c q w ((w.alloc (.cells #[.slice q.aF c.fs.length q.cF, .slice q.aH c.nh q.cH, .slice q.aR c.fr.length q.cR, .slice q.aO c.od.length q.cO] 26)).alloc (.cells #[.slice none 0 0, .slice none 0 0, .slice none 0 0, .slice none 0 0, .slice none 0 0] 76)) := by
  refine ⟨(Lk.start h).on (box_below _ _), ?_⟩
  have := (Array.getElem?_push_size : ((w.alloc (.cells #[.slice q.aF c.fs.length q.cF, .slice q.aH c.nh q.cH, .slice q.aR c.fr.length q.cR, .slice q.aO c.od.length q.cO] 26)).alloc (.cells #[.slice none 0 0, .slice none 0 0, .slice none 0 0, .slice none 0 0, .slice none 0 0] 76)).heap[(w.alloc (.cells #[.slice q.aF c.fs.length q.cF, .slice q.aH c.nh q.cH, .slice q.aR c.fr.length q.cR, .slice q.aO c.od.length q.cO] 26)).heap.size]? = some (.cells #[.slice none 0 0, .slice none 0 0, .slice none 0 0, .slice none 0 0, .slice none 0 0] 76 (0, 0)))
  simp only [World.size_alloc] at this
  exact this
theorem below_row {w W : World} {n : Nat} (h : Below w.heap.size w W) (hn : w.heap.size ≤ n) (cs : Array Value) : Below w.heap.size w (W.setRow n cs) := h.trans ⟨rfl, rfl, rfl, by simp, fun j hj => setRow_other _ _ _ _ (by omega)⟩
theorem reads_vrow {n : Nat} {W : World} {cs : Array Value} {v : Value} {zs : List Int} {v0 v1 v2 v3 v4 : Value} (hb : VBox v0 v1 v2 v3 v4 n W) (h : ReadsI W v zs) (ht : TypedI W v) : ReadsI (W.setRow n cs) v zs ∧ TypedI (W.setRow n cs) v := by
  have hne : ∀ g, v.ownBlock = some g → (W.setRow n cs).heap[g]? = W.heap[g]? := fun g hg => by
    obtain ⟨c, hc⟩ := ht g hg
    refine setRow_other _ _ _ _ (fun e => ?_)
    subst e
    rw [hb] at hc
    simp at hc
  refine ⟨?_, fun g hg => by obtain ⟨c, hc⟩ := ht g hg; exact ⟨c, (hne g hg).trans hc⟩⟩
  rcases h with h0 | ⟨b, off, c, rfl, h1, h2, h3, h4⟩
  · exact .inl h0
  · refine .inr ⟨b, off, c, rfl, h1, h2, by simpa using h3, fun j hj => ?_⟩
    rw [← h4 j hj]
    exact World.cell?_of_block (hne b rfl)
theorem ra_row {c : Cd} {es : List Ev} {v : Value} {base n : Nat} {W : World} {cs : Array Value} {v0 v1 v2 v3 v4 : Value} (hb : VBox v0 v1 v2 v3 v4 n W) (h : Ra c es v base W) (hn : n < base) : Ra c es v base (W.setRow n cs) :=
  ⟨own_but h.own (fun g hg => setRow_other _ _ _ _ (by have := (h.own.lt g hg).1; omega)),
   ⟨h.cp.like, fun j e hj => ⟨(reads_vrow hb (h.cp.reads j e hj).1 (h.cp.typed j e hj).1).1, (reads_vrow hb (h.cp.reads j e hj).2.1 (h.cp.typed j e hj).2.1).1, (reads_vrow hb (h.cp.reads j e hj).2.2 (h.cp.typed j e hj).2.2).1⟩,
    fun j e hj => ⟨(reads_vrow hb (h.cp.reads j e hj).1 (h.cp.typed j e hj).1).2, (reads_vrow hb (h.cp.reads j e hj).2.1 (h.cp.typed j e hj).2.1).2, (reads_vrow hb (h.cp.reads j e hj).2.2 (h.cp.typed j e hj).2.2).2⟩⟩, h.len⟩
set_option maxRecDepth 100000 in
set_option maxHeartbeats 8000000 in
theorem of_no (c : Cd) (q : Cv) (w : World) (hL : Lt c) (hX : ∀ h, h < c.nh → ∀ k, k < c.len h → PairFits (c.ev h k)) (h : CAt c q w) (hm : c.may = false) : Calls Tryz.prog 44 #[cdV c q] w fun e w' => OfNo c q w e w' := by
  have S0 := Lib.hid (Ob.start h)
  have KC := Lib.hid (fun w0 h0 => rcheck9_is c q w0 hL hX h0 false hm)
  have KA := Lib.hid (fun w0 h0 => rall9_no c q w0 hL hX h0 hm)
  clear h hL hX hm
  go_enter Tryz.func44, Tryz.ntmps44
  go_upto_region 1 with fail
  go_name_world W1 hW1
  rw [hW1] at S0
  clear hW1
  have SD := Lib.hid (S0.out.on (Below.refl _ _).drew)
  go_region_held3 (fun w' => w'.cell? ⟨w.heap.size, 0, none⟩ = some (.slice q.aF c.fs.length q.cF) ∧ w'.cell? ⟨w.heap.size, 1, none⟩ = some (.slice q.aH c.nh q.cH) ∧ w'.cell? ⟨w.heap.size, 2, none⟩ = some (.slice q.aR c.fr.length q.cR) ∧ w'.cell? ⟨w.heap.size, 3, none⟩ = some (.slice q.aO c.od.length q.cO))
    (first | exact SD.out.lk.box.facts | exact S2.out.lk.box.facts | exact S3.out.lk.box.facts | exact S4.out.box.facts)
    ((first
      | (go_at_call 22; (with_reducible refine (KA.out _ SD.out.lk.at_).mono ?_); rintro e' w2 ⟨rfl, hb⟩; have S2 := Lib.hid (SD.out.on hb); clear hb)
      | (go_at_call 23; (with_reducible refine (KC.out _ S2.out.lk.at_).mono ?_); rintro e' w3 ⟨rfl, hb⟩; have S3 := Lib.hid (S2.out.on hb); have run1 := run_StoreW (y0 := .slice q.aF c.fs.length q.cF) (y1 := .slice q.aH c.nh q.cH) (y2 := .slice q.aR c.fr.length q.cR) (y3 := .slice q.aO c.od.length q.cO) (y4 := .slice none 0 0) S3.out.res rfl rfl rfl rfl rfl; have S4 : Hid (Lk c q w (w3.setRow (w.heap.size + 1) #[.slice q.aF c.fs.length q.cF, .slice q.aH c.nh q.cH, .slice q.aR c.fr.length q.cR, .slice q.aO c.od.length q.cO, .slice none 0 0])) := Lib.hid ⟨(setRow_other _ _ _ _ (by omega)).trans S3.out.lk.box, below_row S3.out.lk.below (by omega) _, S3.out.lk.here⟩; clear hb)))
  have HB : Hid (VBox (.slice q.aF c.fs.length q.cF) (.slice q.aH c.nh q.cH) (.slice q.aR c.fr.length q.cR) (.slice q.aO c.od.length q.cO) (.slice none 0 0) (w.heap.size + 1) (w3.setRow (w.heap.size + 1) #[.slice q.aF c.fs.length q.cF, .slice q.aH c.nh q.cH, .slice q.aR c.fr.length q.cR, .slice q.aO c.od.length q.cO, .slice none 0 0])) := Lib.hid (setRow_heap _ _ _ _ _ _ S3.out.res)
  go_wp2
  refine bodyPost_ret (two_end rfl rfl (run_loadVar_row _ _ _ _ _ _ _ HB.out Tryz.underlying76 rfl (by as_aux_lemma => kernel_rfl))) rfl ?_
  exact ⟨rfl, S4.out.below⟩
set_option maxRecDepth 100000 in
set_option maxHeartbeats 8000000 in
theorem of_yes (c : Cd) (q : Cv) (w : World) (hL : Lt c) (hX : ∀ h, h < c.nh → ∀ k, k < c.len h → PairFits (c.ev h k)) (h : CAt c q w) (hm : c.may = true) : Calls Tryz.prog 44 #[cdV c q] w fun e w' => OfYes c q w e w' := by
  have S0 := Lib.hid (Ob.start h)
  have KC := Lib.hid (fun w0 h0 => rcheck9_is c q w0 hL hX h0 true hm)
  have KA := Lib.hid (fun w0 h0 => rall9_yes c q w0 hL hX h0 hm)
  clear h hL hX hm
  go_enter Tryz.func44, Tryz.ntmps44
  go_upto_region 1 with fail
  go_name_world W1 hW1
  rw [hW1] at S0
  clear hW1
  have SD := Lib.hid (S0.out.on (Below.refl _ _).drew)
  go_region_held3 (fun w' => w'.cell? ⟨w.heap.size, 0, none⟩ = some (.slice q.aF c.fs.length q.cF) ∧ w'.cell? ⟨w.heap.size, 1, none⟩ = some (.slice q.aH c.nh q.cH) ∧ w'.cell? ⟨w.heap.size, 2, none⟩ = some (.slice q.aR c.fr.length q.cR) ∧ w'.cell? ⟨w.heap.size, 3, none⟩ = some (.slice q.aO c.od.length q.cO))
    (first | exact SD.out.lk.box.facts | exact S2.out.lk.box.facts | exact S3.out.lk.box.facts | exact S4.out.box.facts)
    ((first
      | (go_at_call 22; (with_reducible refine (KA.out _ SD.out.lk.at_).mono ?_); rintro e' w2 ⟨v, es, base, rfl, hbase, hra, hb⟩; obtain ⟨aA, cA, rfl⟩ := own_form hra.own; have S2 := Lib.hid (SD.out.on hb); have A2 := Lib.hid hra; have HBS : Hid (w.heap.size + 1 < base) := Lib.hid (Nat.lt_of_lt_of_le SD.out.res.lt hbase); clear hb hra hbase)
      | (go_at_call 23; (with_reducible refine (KC.out _ S2.out.lk.at_).mono ?_); rintro e' w3 ⟨rfl, hb⟩; have S3 := Lib.hid (S2.out.on hb); have A3 := Lib.hid (A2.out.on hb); have run1 := run_StoreW (y0 := .slice q.aF c.fs.length q.cF) (y1 := .slice q.aH c.nh q.cH) (y2 := .slice q.aR c.fr.length q.cR) (y3 := .slice q.aO c.od.length q.cO) (y4 := .slice aA c.N cA) S3.out.res rfl rfl rfl rfl rfl; have S4 : Hid (Lk c q w (w3.setRow (w.heap.size + 1) #[.slice q.aF c.fs.length q.cF, .slice q.aH c.nh q.cH, .slice q.aR c.fr.length q.cR, .slice q.aO c.od.length q.cO, .slice aA c.N cA])) := Lib.hid ⟨(setRow_other _ _ _ _ (by omega)).trans S3.out.lk.box, below_row S3.out.lk.below (by omega) _, S3.out.lk.here⟩; clear hb)))
  have HB : Hid (VBox (.slice q.aF c.fs.length q.cF) (.slice q.aH c.nh q.cH) (.slice q.aR c.fr.length q.cR) (.slice q.aO c.od.length q.cO) (.slice aA c.N cA) (w.heap.size + 1) (w3.setRow (w.heap.size + 1) #[.slice q.aF c.fs.length q.cF, .slice q.aH c.nh q.cH, .slice q.aR c.fr.length q.cR, .slice q.aO c.od.length q.cO, .slice aA c.N cA])) := Lib.hid (setRow_heap _ _ _ _ _ _ S3.out.res)
  go_wp2
  refine bodyPost_ret (two_end rfl rfl (run_loadVar_row _ _ _ _ _ _ _ HB.out Tryz.underlying76 rfl (by as_aux_lemma => kernel_rfl))) rfl ?_
  exact ⟨es, aA, cA, base, rfl, ⟨ra_row S3.out.res A3.out HBS.out, S4.out.here.below S4.out.below⟩, S4.out.below⟩
end Go.Proofs.YtcbfokbdiefdeaaGreatDoor
namespace Go.Proofs.YtcbfokbdiefdeaaGreatDoor
set_option linter.unusedVariables false
set_option linter.unusedSimpArgs false
open Go.RowKit Go.Maps
attribute [local go_sem ↓] fold_E fold_SE

theorem Vr.made {c : Cd} {q : Cv} {es : List Ev} {aA : Option Addr} {cA base : Nat} {w w1 : World} (h : Vh c q es aA cA base w1) (hb : Below w.heap.size w w1) : Vr c q es aA cA base w1.heap.size w (w1.alloc (.cells #[.slice q.aF c.fs.length q.cF, .slice q.aH c.nh q.cH, .slice q.aR c.fr.length q.cR, .slice q.aO c.od.length q.cO, .slice aA c.N cA] 76)) :=
  ⟨Array.getElem?_push_size, h.on (box_below _ _), hb.trans ((box_below _ _).mono hb.size)⟩
attribute [local irreducible] wpStill
set_option maxRecDepth 100000 in
set_option maxHeartbeats 8000000 in
theorem rPairs_any (c : Cd) (q : Cv) (w : World) (hL : Lt c) (hX : ∀ h, h < c.nh → ∀ k, k < c.len h → PairFits (c.ev h k)) (h : CAt c q w) : Calls Tryz.prog 25 #[cdV c q] w fun e w' => ∃ a cp base, e = .returned (.slice a (pairsW c).length cp) ∧ w'.ownsRow base 53 2 (.slice a (pairsW c).length cp) (pairsW c).length (rowP2 (pairsW c)) ∧ Below w.heap.size w w' := by
  have S0 := Lib.hid (Lk.start h)
  obtain ⟨x0, x1, x2, x3⟩ := S0.out.box.facts
  cases hm : c.may with
  | false =>
    have KO := Lib.hid (fun w0 h0 => of_no c q w0 hL hX h0 hm)
    have HZ := Lib.hid (show pairsW c = [] by unfold pairsW; rw [hm]; rfl)
    rw [HZ.out]
    clear h hL hX hm
    go_enter Tryz.func25, Tryz.ntmps25
    go_upto_region 2 with (go_at_call 44; (with_reducible refine (KO.out _ S0.out.at_).mono ?_); rintro e' w1 ⟨rfl, hb⟩; have B1 := Lib.hid (S0.out.below.trans (hb.mono S0.out.below.size)); clear hb x0 x1 x2 x3)
    have B2 := Lib.hid (B1.out.alloc B1.out.size (.cells #[.slice q.aF c.fs.length q.cF, .slice q.aH c.nh q.cH, .slice q.aR c.fr.length q.cR, .slice q.aO c.od.length q.cO, .slice none 0 0] 76))
    have y4 : (w1.alloc (.cells #[.slice q.aF c.fs.length q.cF, .slice q.aH c.nh q.cH, .slice q.aR c.fr.length q.cR, .slice q.aO c.od.length q.cO, .slice none 0 0] 76)).cell? ⟨w1.heap.size, 4, none⟩ = some (.slice none 0 0) := by rw [cell_of_row _ w1.heap.size 4 _ _ _ Array.getElem?_push_size]; rfl
    go_wp2
    refine wp_loop_rounds 1 ?_
    rw [rounds_succ]
    go_wp2
    go_ret
    exact ⟨none, 0, w.heap.size, rfl, World.ownsRow_nil _ _ _ _, B2.out⟩
  | true =>
    have KO := Lib.hid (fun w0 h0 => of_yes c q w0 hL hX h0 hm)
    have KM := Lib.hid (fun es aA cA base w0 h0 a b => ruleV_any c q es aA cA base w0 hL hm h0 a b)
    obtain ⟨L, hLL⟩ : ∃ L, pairsW c = L := ⟨_, rfl⟩
    have HLL := Lib.hid hLL
    have HN60 := hL.n
    have HLen : Hid (L.length ≤ 3600) := Lib.hid (by rw [← hLL]; unfold pairsW; rw [hm, if_pos rfl]; have := pairsOut_len c hL.n c.N 0; omega)
    have HW : Hid (pairsOut c c.N 0 = L) := Lib.hid (by rw [← hLL]; unfold pairsW; rw [hm]; rfl)
    rw [hLL]
    clear h hL hX hm hLL
    go_enter Tryz.func25, Tryz.ntmps25
    go_upto_region 2 with (go_at_call 44; (with_reducible refine (KO.out _ S0.out.at_).mono ?_); rintro e' w1 ⟨es, aA, cA, base, rfl, hv, hb⟩; have V1 := Lib.hid (Vr.made hv (S0.out.below.trans (hb.mono S0.out.below.size))); obtain ⟨y0, y1, y2, y3, y4⟩ := V1.out.facts; clear hv hb x0 x1 x2 x3)
    clear y0 y1 y2 y3 y4
    obtain ⟨gV, hgV⟩ : ∃ z, w1.heap.size = z := ⟨_, rfl⟩
    go_name_world W2 hW2
    rw [hW2, hgV] at V1
    rw [hgV]
    clear hW2 hgV S0
    go_wp2
    go_loopw [5, 6] (fun vp vi wr => ∃ (n : Nat) (done : List (Nat × Nat)), vi = .int .i64 (n : Int) ∧ n ≤ c.N ∧ Hid (done ++ pairsOut c (c.N - n) n = L) ∧ Hid (wr.ownsRow W2.heap.size 53 2 vp done.length (rowP2 done)) ∧ Hid (Below W2.heap.size W2 wr)) (fun _ vi _ => c.N - (intOf vi).toNat)
    case atStart => exact ⟨0, [], rfl, by omega, Lib.hid (by rw [← HW.out]; rfl), Lib.hid (World.ownsRow_nil _ _ _ _), Lib.hid (Below.refl _ _)⟩
    case round =>
      obtain ⟨n, done, rfl, hn, HG, HO, HB⟩ := hrel
      have VA := Lib.hid (V1.out.on HB.out)
      obtain ⟨y0, y1, y2, y3, y4⟩ := VA.out.facts
      by_cases hlt : n < c.N
      · have d1 : decide (n < c.N) = true := by simpa using hlt
        have hni : (n : Int) < (c.N : Int) := by omega
        have HG2 : Hid (done ++ pairsIn c n (c.N - (n + 1)) (n + 1) ++ pairsOut c (c.N - (n + 1)) (n + 1) = L) := Lib.hid (by
          rw [← HG.out, show c.N - n = (c.N - (n + 1)) + 1 by omega, List.append_assoc]; rfl)
        clear HG
        go_wp2
        go_loopw [5, 7] (fun vp vb wq => ∃ (b : Nat) (dn : List (Nat × Nat)), vb = .int .i64 (b : Int) ∧ n < b ∧ b ≤ c.N ∧ Hid (dn ++ pairsIn c n (c.N - b) b ++ pairsOut c (c.N - (n + 1)) (n + 1) = L) ∧ Hid (wq.ownsRow W2.heap.size 53 2 vp dn.length (rowP2 dn)) ∧ Hid (Below W2.heap.size W2 wq)) (fun _ vb _ => c.N - (intOf vb).toNat)
        case atStart => exact ⟨n + 1, done, by first | rfl | simp, by omega, by omega, HG2, HO, HB⟩
        case round =>
          clear HO HB HG2 VA y0 y1 y2 y3 y4
          obtain ⟨b, dn, rfl, hnb, hbN, HG, HO, HB⟩ := hrel
          have VB := Lib.hid (V1.out.on HB.out)
          have hdl : dn.length ≤ 100000 := by
            have h1 := congrArg List.length HG.out
            rw [List.length_append, List.length_append] at h1
            have := HLen.out; omega
          go_upto_region 7 with fail
          have BD := Lib.hid ((Below.refl wr.heap.size wr).drew)
          have VD := Lib.hid (VB.out.on BD.out)
          have BD2 := Lib.hid (HB.out.trans (BD.out.mono HB.out.size))
          have OD := Lib.hid (own_on HO.out BD.out)
          obtain ⟨y0, y1, y2, y3, y4⟩ := VD.out.facts
          by_cases hlb : b < c.N
          · have d4 : decide (b < c.N) = true := by simpa using hlb
            have d4' : decide ((b : Int) < (c.N : Int)) = true := by simp; omega
            have hbi : (b : Int) < (c.N : Int) := by omega
            have hb0 : (0 : Int) ≤ (b : Int) := by omega
            have hn0 : (0 : Int) ≤ (n : Int) := by omega
            have HI : Hid (pairsIn c n (c.N - b) b = if (c.at n).1.hart = (c.at b).1.hart then (if ruleL c n b ≠ 0 then [(n, b)] else []) ++ pairsIn c n (c.N - (b + 1)) (b + 1) else []) := Lib.hid (by rw [show c.N - b = (c.N - (b + 1)) + 1 by omega]; rfl)
            obtain ⟨g, cap, ev, _, hra⟩ := VD.out.vh.ra.rall (by omega)
            injection ev with ev1 ev2 ev3
            subst ev1 ev3
            clear ev2
            have hcn : wr.drew.cell? ⟨g, n * 14, none⟩ = some (.int .i64 (c.at n).1.hart) := by
              have := hra.at_ n hlt 0 _ rfl
              obtain ⟨_, _, _, e1⟩ := hra.like n hlt
              rw [Nat.zero_add, Nat.add_zero, e1] at this
              exact this
            have hcb : wr.drew.cell? ⟨g, b * 14, none⟩ = some (.int .i64 (c.at b).1.hart) := by
              have := hra.at_ b hlb 0 _ rfl
              obtain ⟨_, _, _, e1⟩ := hra.like b hlb
              rw [Nat.zero_add, Nat.add_zero, e1] at this
              exact this
            clear hra
            by_cases hh : (c.at n).1.hart = (c.at b).1.hart
            · have e1 : ((c.at b).1.hart == (c.at n).1.hart) = true := by simpa using hh.symm
              have e2 : decide ((c.at b).1.hart = (c.at n).1.hart) = true := by simpa using hh.symm
              obtain ⟨x, hx⟩ : ∃ x, ruleL c n b = x := ⟨_, rfl⟩
              have KM1 := Lib.hid (fun w0 h0 => KM.out es (some ⟨g, 0, none⟩) cA base w0 h0 (n : Int) (b : Int))
              rw [hx] at KM1
              refine wp_region_still_tail 19 (by kernel_rfl) (by kernel_rfl) ?_
              simp only [List.take_succ_cons, List.take_zero, List.drop_succ_cons, List.drop_zero]
              iterate 19 (first | (refine wpStill_skip (by as_aux_lemma => kernel_rfl) ?_; simp only [Act.put, List.setIfInBounds_toArray, List.set_cons_succ, List.set_cons_zero]) | still_step)
              refine wpStill_nil ?_
              change wpList _ _ _ _ _ (World.drew _)
              by_cases hx0 : x = 0
              · have HG3 : Hid (dn ++ pairsIn c n (c.N - (b + 1)) (b + 1) ++ pairsOut c (c.N - (n + 1)) (n + 1) = L) := Lib.hid (by
                  rw [← HG.out, HI.out, if_pos hh, hx, if_neg (by simp [hx0])]; rfl)
                subst hx0
                clear hh hx
                go_wp2_with (go_at_call 56; (with_reducible refine (KM1.out _ VD.out.vh).mono ?_); rintro e' w3 ⟨rfl, hb3⟩; have O3 := Lib.hid (own_on OD.out hb3); have B3 := Lib.hid (BD2.out.trans (hb3.mono BD2.out.size)); clear hb3)
                go_roundw
                case rel => exact ⟨b + 1, dn, by first | rfl | simp, by omega, by omega, HG3, O3, B3⟩
                case measure => simp [intOf]; omega
              · have HG3 : Hid ((dn ++ [(n, b)]) ++ pairsIn c n (c.N - (b + 1)) (b + 1) ++ pairsOut c (c.N - (n + 1)) (n + 1) = L) := Lib.hid (by
                  rw [← HG.out, HI.out, if_pos hh, hx, if_pos hx0]; simp)
                have d3 : decide (0 < x) = true := by simp; omega
                have d3' : decide ((0 : Int) < (x : Int)) = true := by simp; omega
                clear hh hx hx0
                go_wp2_with (first
                  | (go_at_call 56; (with_reducible refine (KM1.out _ VD.out.vh).mono ?_); rintro e' w3 ⟨rfl, hb3⟩; have O3 := Lib.hid (own_on OD.out hb3); have B3 := Lib.hid (BD2.out.trans (hb3.mono BD2.out.size)); clear hb3)
                  | (at_builtin; (refine append_pair rfl (.tmp 52) (.tmp 56) rfl W2.heap.size _ dn.length _ rfl (O3.out.alloc _) (n : Int) (b : Int) w3.heap.size rfl Array.getElem?_push_size hdl (by have := B3.out.size; simp; omega) ?_; intro v' w4 ho hg; have O4 := Lib.hid ho; have B4 := Lib.hid ((B3.out.alloc B3.out.size _).grown hg (by have := B3.out.size; simp; omega) (fun k hk => (O3.out.lt k hk).1)); clear ho hg)))
                go_roundw
                case rel => exact ⟨b + 1, dn ++ [(n, b)], by first | rfl | simp, by omega, by omega, HG3, Lib.hid (by rw [rowP2_more, List.length_append]; exact O4.out), B4⟩
                case measure => simp [intOf]; omega
            · have e1 : ((c.at b).1.hart == (c.at n).1.hart) = false := by simp; exact fun e => hh e.symm
              have e2 : decide ((c.at b).1.hart = (c.at n).1.hart) = false := by simp; exact fun e => hh e.symm
              have HG3 : Hid (dn ++ pairsOut c (c.N - (n + 1)) (n + 1) = L) := Lib.hid (by rw [← HG.out, HI.out, if_neg hh]; simp)
              clear hh
              refine wp_region_still_tail 19 (by kernel_rfl) (by kernel_rfl) ?_
              simp only [List.take_succ_cons, List.take_zero, List.drop_succ_cons, List.drop_zero]
              iterate 19 (first | (refine wpStill_skip (by as_aux_lemma => kernel_rfl) ?_; simp only [Act.put, List.setIfInBounds_toArray, List.set_cons_succ, List.set_cons_zero]) | still_step)
              refine wpStill_nil ?_
              change wpList _ _ _ _ _ (World.drew _)
              go_wp2
              go_roundw
              case rel => exact ⟨n + 1, dn, by first | rfl | simp, by omega, HG3, OD, BD2⟩
              case measure => simp [intOf]; omega
          · have d4 : decide (b < c.N) = false := by simpa using hlb
            have d4' : decide ((b : Int) < (c.N : Int)) = false := by simp; omega
            have HG3 : Hid (dn ++ pairsOut c (c.N - (n + 1)) (n + 1) = L) := Lib.hid (by rw [← HG.out, show c.N - b = 0 by omega]; simp [pairsIn])
            refine wp_region_still_tail 19 (by kernel_rfl) (by kernel_rfl) ?_
            simp only [List.take_succ_cons, List.take_zero, List.drop_succ_cons, List.drop_zero]
            iterate 19 (first | (refine wpStill_skip (by as_aux_lemma => kernel_rfl) ?_; simp only [Act.put, List.setIfInBounds_toArray, List.set_cons_succ, List.set_cons_zero]) | still_step)
            refine wpStill_nil ?_
            change wpList _ _ _ _ _ (World.drew _)
            go_wp2
            go_roundw
            case rel => exact ⟨n + 1, dn, by first | rfl | simp, by omega, HG3, OD, BD2⟩
            case measure => simp [intOf]; omega
      · have d1 : decide (n < c.N) = false := by simpa using hlt
        have hn1 : decide ((n : Int) < (c.N : Int)) = false := by simp; omega
        have HD : Hid (done = L) := Lib.hid (by have := HG.out; rw [show c.N - n = 0 by omega] at this; simpa [pairsOut] using this)
        rw [HD.out] at HO
        obtain ⟨aO, cO, rfl⟩ := own_form HO.out
        go_wp2
        go_ret
        exact ⟨_, _, _, rfl, HO.out, V1.out.below.trans (HB.out.mono V1.out.below.size)⟩
end Go.Proofs.YtcbfokbdiefdeaaGreatDoor
namespace Go.Proofs.YtcbfokbdiefdeaaGreatDoor
set_option linter.unusedVariables false
set_option linter.unusedSimpArgs false
open Go.RowKit Go.Maps
attribute [local go_sem ↓] fold_E fold_SE

attribute [local irreducible] wpStill

end Go.Proofs.YtcbfokbdiefdeaaGreatDoor
