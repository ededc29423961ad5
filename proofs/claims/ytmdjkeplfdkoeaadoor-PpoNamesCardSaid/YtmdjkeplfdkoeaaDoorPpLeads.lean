/-
  Proved here: ppo's leads: whether steps lead from one event to another behind it; nothing that was there is changed. Condition: a light candidate that may be.
-/
import Derived.Test.YtmdjkeplfdkoeaaDoorPpGrow2
namespace Go.Proofs.YtmdjkeplfdkoeaaDoor
set_option linter.unusedVariables false
set_option linter.unusedSimpArgs false
open Go.RowKit Go.Maps
attribute [local go_sem ↓] fold_E fold_SE

/-- where the search stands: what is reached, what is fresh -/
structure Ls (c : Cd) (a b R X : Nat) : Prop where
  r : R < 18446744073709551616
  x : X < 18446744073709551616
  sound : ∀ k, R.testBit k = true → Reach c a k
  xs : ∀ k, X.testBit k = true → k ≤ b ∧ (k = a ∨ R.testBit k = true)
  closed : ∀ y, (y = a ∨ R.testBit y = true) → X.testBit y = false → ∀ m, m ≤ b → edge c y m = true → R.testBit m = true
theorem Ls.next {c : Cd} {a b R X R' M : Nat} {G : Bool} {ys : List Nat} (h : Ls c a b R X) (hy : ∀ k, X.testBit k = true ↔ k ∈ ys) (g : Gr R (DoneF c b ys) R' M G) : Ls c a b R' M := by
  refine ⟨g.r, g.m, fun k hk => ?_, fun k hk => ?_, fun y hy1 hy2 m hm he => ?_⟩
  · rcases (g.rb k).1 hk with h1 | ⟨_, y, h2, h3⟩
    · exact h.sound k h1
    · rcases (h.xs y ((hy y).2 h2)).2 with rfl | h4
      · exact .one h3
      · exact .more (h.sound y h4) h3
  · have := (g.mb k).1 hk
    exact ⟨this.1.1, .inr ((g.rb k).2 (.inr this.1))⟩
  · have hyR : y = a ∨ R.testBit y = true := by
      rcases hy1 with h1 | h1
      · exact .inl h1
      · rcases (g.rb y).1 h1 with h2 | h2
        · exact .inr h2
        · refine .inr ?_
          cases hr : R.testBit y with
          | true => rfl
          | false => rw [(g.mb y).2 ⟨h2, by rw [hr]; simp⟩] at hy2; cases hy2
    cases hx : X.testBit y with
    | true => exact (g.rb m).2 (.inr ⟨hm, y, (hy y).1 hx, he⟩)
    | false => exact (g.rb m).2 (.inl (h.closed y hyR hx m hm he))
theorem Ls.done {c : Cd} {a b R X : Nat} (h : Ls c a b R X) (hX : ∀ k, ¬ X.testBit k = true) : R.testBit b = reachB c a b := by
  have key : ∀ m, Reach c a m → m ≤ b → R.testBit m = true := by
    intro m hm
    induction hm with
    | one h1 => exact fun hb => h.closed a (.inl rfl) (by simpa using hX a) _ hb h1
    | more h1 h2 ih =>
      intro hb
      have := (edge_in h2).1
      exact h.closed _ (.inr (ih (by omega))) (by simpa using hX _) _ hb h2
  cases hr : reachB c a b with
  | true => exact key b ((reachB_iff c a b).1 hr) (Nat.le_refl _)
  | false =>
    cases h1 : R.testBit b with
    | false => rfl
    | true => rw [(reachB_iff c a b).2 (h.sound b h1)] at hr; cases hr
theorem Gr.more {R : Nat} {D : Nat → Prop} {R' M : Nat} (h : Gr R D R' M true) : R < R' := by
  have hle : R ||| R' = R' := by
    apply Nat.eq_of_testBit_eq
    intro k
    rw [Nat.testBit_or]
    cases h1 : R.testBit k with
    | false => simp
    | true => rw [(h.rb k).2 (.inl h1)]; rfl
  have h1 : R ≤ R ||| R' := Nat.left_le_or
  rw [hle] at h1
  rcases Nat.lt_or_eq_of_le h1 with h2 | rfl
  · exact h2
  · exfalso
    have : (true : Bool) = false := h.g.2 fun k hk => ((h.mb k).1 hk).2 ((h.rb k).2 (.inr ((h.mb k).1 hk).1))
    cases this
theorem Ls.start {c : Cd} {a b : Nat} (hab : a ≤ b) (h64 : a < 64) : Ls c a b 0 (0 ||| 2 ^ a) := by
  have hb : ∀ k, (0 ||| 2 ^ a).testBit k = decide (a = k) := fun k => by rw [bit_put]; simp
  refine ⟨by omega, or_bit 0 a (by omega) h64, fun k hk => by simp at hk, fun k hk => ?_, fun y hy hx => ?_⟩
  · rw [hb k, decide_eq_true_eq] at hk
    subst hk; exact ⟨hab, .inl rfl⟩
  · rw [hb y, decide_eq_false_iff_not] at hx
    rcases hy with h1 | h1
    · exact absurd h1.symm hx
    · simp at h1
/-- how much the search has left -/
def leftL (gr : Nat) (G : Bool) (w : World) : Nat := if G then 18446744073709551617 - (match w.cell? ⟨gr, 0, none⟩ with | some v => (intOf v).toNat | none => 0) else 0
theorem leftL_at {gr R : Nat} {w : World} (G : Bool) (h : SetAt R gr w) : leftL gr G w = if G then 18446744073709551617 - R else 0 := by
  unfold leftL; rw [h.cell]; rfl
def boolOf : Value → Bool | .bool b => b | _ => false
/-- the search's sets in memory -/
structure Lsw (c : Cd) (a b R X gr gx : Nat) (G : Bool) (w0 w : World) : Prop where
  ls : Ls c a b R X
  sr : SetAt R gr w
  sx : SetAt X gx w
  bel : Below w0.heap.size w0 w
  ge : w0.heap.size ≤ gr
  g : G = false → ∀ k, ¬ X.testBit k = true
set_option maxRecDepth 100000 in
set_option maxHeartbeats 4000000 in
theorem leads_any (c : Cd) (p : Vp) (w : World) (hv : Vw c (finK c) p w) (hx : Rx c) (hk : ∀ n, n < c.N → 1 ≤ (c.at n).1.kind ∧ (c.at n).1.kind ≤ 6) (hT : TabT w) (a b : Nat) (hab : a < b) (hb : b < c.N) (r : Bool) (hr : reachB c a b = r) :
    Calls Tryd.prog 17 #[.pointer (some ⟨p.g, 0, none⟩), .int .i64 (a : Int), .int .i64 (b : Int)] w fun e w' => SaysB w r e w' := by
  have HN60 := hx.n60
  have hbz : ((b : Int) + 1 - 1) = b := by omega
  have KE := Lib.hid (fun W => setEmpty_any ((b : Int) + 1) (by omega) (by omega) W)
  have KG := Lib.hid (fun W (h0 : Below w.heap.size w W) R X gr gx (hR : R < 18446744073709551616) (hX : X < 18446744073709551616) (sR : SetAt R gr W) (sX : SetAt X gx W) (hgr : w.heap.size ≤ gr) hxb => grow_any c p w W hv hx hk hT h0 b hb R X gr gx hR hX sR sX hgr hxb)
  have HR := Lib.hid hr
  have S0 : Hid (SetAt 0 w.heap.size (w.alloc (.cells #[.int .u64 0] 38))) := Lib.hid (by unfold SetAt; rw [heap_alloc_at, if_pos rfl]; rfl)
  have S1 : Hid (SetAt 0 (w.heap.size + 1) ((w.alloc (.cells #[.int .u64 0] 38)).alloc (.cells #[.int .u64 0] 38))) := Lib.hid (by unfold SetAt; rw [heap_alloc_at, if_pos (by simp)]; rfl)
  have S2 : Hid (SetAt 0 w.heap.size ((w.alloc (.cells #[.int .u64 0] 38)).alloc (.cells #[.int .u64 0] 38))) := Lib.hid (by unfold SetAt; rw [heap_alloc_at, if_neg (by simp)]; exact S0.out)
  have P0 : Hid (∀ w3, (((w.alloc (.cells #[.int .u64 0] 38)).alloc (.cells #[.int .u64 0] 38)).setCell ⟨w.heap.size + 1, 0, none⟩ (.int .u64 ((0 ||| 2 ^ a : Nat) : Int))).drew = w3 → Lsw c a b 0 (0 ||| 2 ^ a) w.heap.size (w.heap.size + 1) true w w3) := Lib.hid (by
    rintro w3 rfl
    refine ⟨Ls.start (by omega) (by omega), ?_, S1.out.put, ?_, Nat.le_refl _, fun h => by cases h⟩
    · exact (Below.heap_setCell _ ⟨w.heap.size + 1, 0, none⟩ _ w.heap.size (by simp)).trans S2.out
    · exact ((((Below.refl _ w).alloc (Nat.le_refl _) _).alloc (by simp) _).setCell (p := ⟨w.heap.size + 1, 0, none⟩) (by show w.heap.size ≤ w.heap.size + 1; omega) _).drew)
  have L0 : Hid (Ls c a b 0 (0 ||| 2 ^ a)) := Lib.hid (Ls.start (by omega) (by omega))
  have ha64 : a < 64 := by omega
  have hb64 : b < 64 := by omega
  clear hv hx hk hT hr
  go_enter Tryd.func17, Tryd.ntmps17
  go_wp2_with (first
    | (go_at_call 25; (with_reducible refine (KE.out _).mono ?_); rintro e' w1 ⟨rfl, rfl⟩)
    | (go_at_call 26; (with_reducible refine (setPut_any 0 (w.heap.size + 1) a (by omega) ha64 _ S1.out).mono ?_); rintro e' w3 ⟨⟨v3, rfl⟩, hw3⟩; have A3 := Lib.hid (P0.out _ hw3); clear hw3))
  go_loopw [8, 9] (fun vf vg wr => ∃ (R X gx : Nat) (G : Bool), vf = setV gx ∧ vg = .bool G ∧ Hid (Lsw c a b R X w.heap.size gx G w wr)) (fun vf vg wr => leftL w.heap.size (boolOf vg) wr)
  case atStart => exact ⟨0, 0 ||| 2 ^ a, w.heap.size + 1, true, rfl, rfl, A3⟩
  case round =>
    obtain ⟨R, X, gx, G, rfl, rfl, HL⟩ := hrel
    cases G with
    | true =>
      have KG1 := Lib.hid (KG.out wr HL.out.bel R X w.heap.size gx HL.out.ls.r HL.out.ls.x HL.out.sr HL.out.sx (Nat.le_refl _) (fun k hk => (HL.out.ls.xs k hk).1))
      have HM := Lib.hid (leftL_at true HL.out.sr)
      go_wp2_with (go_at_call 27; (with_reducible refine (KG1.out).mono ?_); rintro e' w4 ⟨R', M, G', ys, g', rfl, hy, hg, hs, hm, hge, hne, hbl⟩; have HL2 : Hid (Lsw c a b R' M w.heap.size g' G' w w4) := Lib.hid ⟨HL.out.ls.next hy hg, hs, hm, hbl, Nat.le_refl _, fun h => hg.g.1 h⟩; have HM2 := Lib.hid (leftL_at G' hs); have HG2 := Lib.hid hg; clear hy hg hs hm hge hne hbl)
      go_roundw
      case rel => exact ⟨R', M, g', G', rfl, rfl, HL2⟩
      case measure =>
        have e1 := HM.out
        have e2 := HM2.out
        have r1 := HL.out.ls.r
        have r2 := HL2.out.ls.r
        simp only [boolOf]
        rw [e1, e2]
        cases G' with
        | true => have := HG2.out.more; simp only [if_true]; omega
        | false => simp only [if_true]; simp; omega
    | false =>
      have KH := Lib.hid (setHas_any R w.heap.size b HL.out.ls.r hb64 wr HL.out.sr r (by rw [HL.out.ls.done (HL.out.g rfl)]; exact HR.out))
      go_wp2_with (go_at_call 28; (with_reducible refine (KH.out).mono ?_); rintro e' w4 ⟨rfl, rfl⟩)
      go_ret
      exact ⟨rfl, HL.out.bel⟩
end Go.Proofs.YtmdjkeplfdkoeaaDoor
