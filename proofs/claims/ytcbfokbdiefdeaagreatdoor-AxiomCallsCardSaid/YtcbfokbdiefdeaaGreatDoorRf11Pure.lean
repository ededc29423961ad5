/-
  Words: the document's source and pair axiom, purely: they are those of the axioms' words. No condition.
-/
import Derived.Test.YtcbfokbdiefdeaaGreatDoorAxLaws
import Derived.Test.YtcbfokbdiefdeaaGreatDoorAxPairs
import Derived.Test.YtcbfokbdiefdeaaGreatDoorRf09Pure
namespace Go.Proofs.YtcbfokbdiefdeaaGreatDoor
set_option linter.unusedVariables false
set_option linter.unusedSimpArgs false
open Go.RowKit

/-- may a number be read by n, as the document says? -/
def okR (c : Cd) (n k : Nat) : Bool := !decide (k = n) && (writesE (c.at k).1 && (decide ((c.at k).1.addr = (c.at n).1.addr) && ((decide ((c.at k).1.hart = (c.at n).1.hart) && decide ((c.at k).1.pos < (c.at n).1.pos)) || decide (plN c (k : Int) < plN c (n : Int)))))
/-- the best of so many -/
def srcR (c : Cd) (n : Nat) : Nat → Int
  | 0 => -1
  | k + 1 => if (okR c n k && (decide (srcR c n k < 0) || decide (plN c (srcR c n k) < plN c (k : Int)))) = true then (k : Int) else srcR c n k
theorem okR_iff {c : Cd} {n k : Nat} : okR c n k = true ↔ k ≠ n ∧ writesE (c.at k).1 = true ∧ (c.at k).1.addr = (c.at n).1.addr ∧ (((c.at k).1.hart = (c.at n).1.hart ∧ (c.at k).1.pos < (c.at n).1.pos) ∨ plN c (k : Int) < plN c (n : Int)) := by
  unfold okR
  simp only [Bool.and_eq_true, Bool.or_eq_true, Bool.not_eq_true', decide_eq_true_eq, decide_eq_false_iff_not, ne_eq]
theorem srcR_in (c : Cd) (n : Nat) : ∀ k, srcR c n k = -1 ∨ ∃ m : Nat, srcR c n k = m ∧ m < k
  | 0 => .inl rfl
  | k + 1 => by
    unfold srcR
    split
    · exact .inr ⟨k, rfl, by omega⟩
    · rcases srcR_in c n k with h | ⟨m, h1, h2⟩
      · exact .inl h
      · exact .inr ⟨m, h1, by omega⟩
theorem srcR_step {c : Cd} (hm : c.may = true) {n k : Nat} (hk : k < c.N) : srcR c n (k + 1) = if okR c n k = true then latN c (srcR c n k) (k : Int) else srcR c n k := by
  show (if (okR c n k && (decide (srcR c n k < 0) || decide (plN c (srcR c n k) < plN c (k : Int)))) = true then (k : Int) else srcR c n k) = _
  cases ho : okR c n k with
  | false => rfl
  | true =>
    rw [if_pos rfl, Bool.true_and]
    unfold latN
    rcases srcR_in c n k with h0 | ⟨m, h1, h2⟩
    · rw [h0]
      obtain ⟨p, _, hp, _⟩ := place_of hm k hk (mem_writes (okR_iff.1 ho).2.1)
      have hz : plN c (-1) = -1 := rfl
      rw [if_pos (by simp), if_pos (by rw [hz, hp]; omega)]
    · rw [h1]
      have : decide ((m : Int) < 0) = false := by simp
      rw [this, Bool.false_or]
      by_cases hl : plN c (m : Int) < plN c (k : Int)
      · rw [if_pos (by simpa using hl), if_pos hl]
      · rw [if_neg (by simpa using hl), if_neg hl]
theorem srcR_is {c : Cd} (hm : c.may = true) (n : Nat) : ∀ k, k ≤ c.N → Best c (fun m => m < k ∧ okR c n m = true) (srcR c n k)
  | 0, _ => Best.nil c (fun m h => by omega)
  | k + 1, hk => by
    have ih := srcR_is hm n k (by omega)
    rw [srcR_step hm (by omega)]
    cases ho : okR c n k with
    | true =>
      rw [if_pos rfl]
      refine (ih.or (Best.one c k)).iff (fun m => ?_)
      constructor
      · rintro (⟨h1, h2⟩ | rfl)
        · exact ⟨by omega, h2⟩
        · exact ⟨by omega, ho⟩
      · rintro ⟨h1, h2⟩
        by_cases e : m = k
        · exact .inr e
        · exact .inl ⟨by omega, h2⟩
    | false =>
      rw [if_neg (by simp)]
      refine ih.iff (fun m => ?_)
      constructor
      · rintro ⟨h1, h2⟩; exact ⟨by omega, h2⟩
      · rintro ⟨h1, h2⟩
        by_cases e : m = k
        · subst e; rw [ho] at h2; cases h2
        · exact ⟨by omega, h2⟩
theorem srcR_no {c : Cd} {n k : Nat} (h : okR c n k = false) : srcR c n (k + 1) = srcR c n k := by
  show (if (okR c n k && (decide (srcR c n k < 0) || decide (plN c (srcR c n k) < plN c (k : Int)))) = true then (k : Int) else srcR c n k) = _
  rw [h]; rfl
theorem srcR_yes {c : Cd} {n k : Nat} (h : okR c n k = true) (hb : (decide (srcR c n k < 0) || decide (plN c (srcR c n k) < plN c (k : Int))) = true) : srcR c n (k + 1) = k := by
  show (if (okR c n k && (decide (srcR c n k < 0) || decide (plN c (srcR c n k) < plN c (k : Int)))) = true then (k : Int) else srcR c n k) = _
  rw [h, hb]; rfl
theorem srcR_keep {c : Cd} {n k : Nat} (hb : (decide (srcR c n k < 0) || decide (plN c (srcR c n k) < plN c (k : Int))) = false) : srcR c n (k + 1) = srcR c n k := by
  show (if (okR c n k && (decide (srcR c n k < 0) || decide (plN c (srcR c n k) < plN c (k : Int)))) = true then (k : Int) else srcR c n k) = _
  rw [hb, Bool.and_false]; rfl
/-- places tell numbers apart -/
theorem plN_inj {c : Cd} (hm : c.may = true) {a b : Nat} (ha : a < c.N) (hb : b < c.N) (hma : memE (c.at a).1 = true) (hmb : memE (c.at b).1 = true) (h : plN c (a : Int) = plN c (b : Int)) : a = b := by
  obtain ⟨p, _, hp, hp2⟩ := place_of hm a ha hma
  obtain ⟨r, _, hr, hr2⟩ := place_of hm b hb hmb
  have : p = r := by omega
  subst this
  omega
theorem Best.one_only {c : Cd} (hm : c.may = true) {P : Nat → Prop} {s t : Int} (hP : ∀ m, P m → m < c.N ∧ writesE (c.at m).1 = true) (hs : Best c P s) (ht : Best c P t) : s = t := by
  rcases hs.1 with h1 | ⟨m, h1, h2⟩
  · rcases ht.1 with h3 | ⟨k, h3, h4⟩
    · rw [h1, h3]
    · have h := hs.2 k h4
      rw [h1] at h
      obtain ⟨p, _, hp, _⟩ := place_of hm k (hP k h4).1 (mem_writes (hP k h4).2)
      have hz : plN c (-1) = -1 := rfl
      rw [hz] at h; omega
  · rcases ht.1 with h3 | ⟨k, h3, h4⟩
    · have h := ht.2 m h2
      rw [h3] at h
      obtain ⟨p, _, hp, _⟩ := place_of hm m (hP m h2).1 (mem_writes (hP m h2).2)
      have hz : plN c (-1) = -1 := rfl
      rw [hz] at h; omega
    · have e1 := hs.2 k h4
      have e2 := ht.2 m h2
      rw [h1] at e1
      rw [h3] at e2
      have := plN_inj hm (hP m h2).1 (hP k h4).1 (mem_writes (hP m h2).2) (mem_writes (hP k h4).2) (by omega)
      rw [h1, h3, this]
/-- whoever stands ahead in program order -/
theorem pos_ahead {c : Cd} (hm : c.may = true) {a b : Nat} (ha : a < c.N) (hb : b < c.N) (hh : (c.at a).1.hart = (c.at b).1.hart) : (c.at a).1.pos < (c.at b).1.pos ↔ a < b := by
  obtain ⟨h, j, hh1, hj, en, _, eh, ep, _⟩ := may_num hm a ha
  obtain ⟨h', j', hh', hj', en', _, eh', ep', _⟩ := may_num hm b hb
  have e : h = h' := by omega
  subst e
  rw [ep, ep']
  omega
/-- the document's source is ours -/
theorem srcR_src {c : Cd} (hm : c.may = true) (n : Nat) (hn : n < c.N) (hr : readsE (c.at n).1 = true) : srcR c n c.N = srcW c n := by
  refine Best.one_only hm (P := fun m => Po c n m ∨ Ho c n m) ?_ ?_ (srcW_is hm n hn)
  · rintro m (h | h)
    · exact ⟨h.2.1.1, h.2.1.2.1⟩
    · exact ⟨h.2.1.1, h.2.1.2.1⟩
  · refine (srcR_is hm n c.N (Nat.le_refl _)).iff (fun m => ?_)
    constructor
    · rintro ⟨h1, h2⟩
      obtain ⟨h3, h4, h5, h6⟩ := okR_iff.1 h2
      rcases h6 with ⟨h7, h8⟩ | h6
      · exact .inr ⟨hr, ⟨h1, h4, h5⟩, (pos_ahead hm h1 hn h7).1 h8, h7⟩
      · exact .inl ⟨hr, ⟨h1, h4, h5⟩, h6⟩
    · rintro (⟨_, ⟨h1, h4, h5⟩, h6⟩ | ⟨_, ⟨h1, h4, h5⟩, h6, h7⟩)
      · exact ⟨h1, okR_iff.2 ⟨fun e => by subst e; omega, h4, h5, .inr h6⟩⟩
      · exact ⟨h1, okR_iff.2 ⟨by omega, h4, h5, .inl ⟨h7, (pos_ahead hm h1 hn h7).2 h6⟩⟩⟩
/-- who does not read has no source, and reads from none -/
theorem src_none {c : Cd} (hm : c.may = true) (n : Nat) (hn : n < c.N) (hr : readsE (c.at n).1 = false) : srcW c n = -1 := by
  rcases (srcW_is hm n hn).1 with h | ⟨m, _, h | h⟩
  · exact h
  · have := h.1; rw [hr] at this; cases this
  · have := h.1; rw [hr] at this; cases this
/-- a pair of which the order is broken -/
theorem ordB_gt {c : Cd} (hm : c.may = true) {a b : Nat} (h : (a, b) ∈ pairsW c) : ordB c (a, b) = decide (plN c (b : Int) < plN c (a : Int)) := by
  have hr := (mem_pairsW hm a b).1 h
  have hah := rule_ahead hr
  have hlt := aheadP_in hah
  have hmem : memE (c.at a).1 = true ∧ memE (c.at b).1 = true := by
    unfold aheadP at hah
    simp only [Bool.and_eq_true, decide_eq_true_eq, Int.toNat_natCast] at hah
    exact ⟨hah.2.2.2.2.1, hah.2.2.2.2.2⟩
  have hne : plN c (a : Int) ≠ plN c (b : Int) := fun e => by
    have := plN_inj hm (by omega) (by omega) hmem.1 hmem.2 e
    omega
  unfold ordB latN
  by_cases h1 : plN c (a : Int) < plN c (b : Int)
  · simp only [if_pos h1]
    rw [decide_eq_false (by omega), decide_eq_false (by omega)]
  · simp only [if_neg h1]
    rw [decide_eq_true trivial, decide_eq_true (by omega)]
end Go.Proofs.YtcbfokbdiefdeaaGreatDoor
