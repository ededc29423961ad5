/-
  Proved here: pieces laid by rank are all's ahead of hart 0's and so on, each in order; the chapter's example comes out. No condition.
-/
import Derived.Test.YthkakikigccaaaaDtOwn
import Derived.Deep.QuietTactic
namespace Go.Proofs.Ythkakikigccaaaa
open Go.RowKit Go.Lib Go.Sort
set_option linter.unusedVariables false
set_option linter.unusedSimpArgs false

def ofH (l : List Pc) (h : Int) : List Pc := l.filter (eqH h)
/-- hart by hart, all's first: n of them -/
def layN (l : List Pc) : Nat → List Pc
  | 0 => []
  | n + 1 => layN l n ++ ofH l ((n : Int) - 1)
def layL (l : List Pc) : List Pc := layN l 9
theorem rk_is {p : Pc} (h : mayB p = true) : rk p = p.hart + 1 := by
  have := mayB_facts h
  unfold rk wrap64; omega
theorem pick_ofH {l : List Pc} (hm : ∀ p ∈ l, mayB p = true) (h : Int) (n : Nat) : pick rk h (ofH l ((n : Int) - 1)) = if h = n then pick rk h l else [] := by
  unfold pick ofH
  rw [List.filter_filter]
  by_cases e : h = n
  · rw [if_pos e]
    apply List.filter_congr
    intro p hp
    rw [rk_is (hm p hp)]
    unfold eqH
    rw [Bool.eq_iff_iff]; simp; omega
  · rw [if_neg e, List.filter_eq_nil_iff]
    intro p hp
    rw [rk_is (hm p hp)]
    unfold eqH
    simp; omega
theorem pick_layN {l : List Pc} (hm : ∀ p ∈ l, mayB p = true) (h : Int) : ∀ n : Nat, pick rk h (layN l n) = if 0 ≤ h ∧ h < n then pick rk h l else []
  | 0 => by rw [if_neg (by omega)]; rfl
  | n + 1 => by
    unfold layN
    rw [pick_append, pick_layN hm h n, pick_ofH hm h n]
    by_cases h1 : h = n
    · rw [if_neg (by omega), if_pos h1, if_pos (by omega)]; rfl
    · rw [if_neg h1, List.append_nil]
      by_cases h2 : 0 ≤ h ∧ h < n
      · rw [if_pos h2, if_pos (by omega)]
      · rw [if_neg h2, if_neg (by omega)]
theorem rank_layN {l : List Pc} (hm : ∀ p ∈ l, mayB p = true) : ∀ n : Nat, ∀ p ∈ layN l n, p ∈ l ∧ rk p < n
  | 0, p, hp => by simp [layN] at hp
  | n + 1, p, hp => by
    unfold layN at hp
    rcases List.mem_append.1 hp with h | h
    · have := rank_layN hm n p h; exact ⟨this.1, by omega⟩
    · have h1 := List.mem_filter.1 h
      have h2 := h1.2
      unfold eqH at h2
      rw [rk_is (hm p h1.1)]
      exact ⟨h1.1, by simp at h2; omega⟩
theorem up_layN {l : List Pc} (hm : ∀ p ∈ l, mayB p = true) : ∀ n : Nat, Up rk (layN l n)
  | 0 => by simp [Up, layN]
  | n + 1 => by
    unfold Up layN
    rw [List.pairwise_append]
    have hr : ∀ p ∈ ofH l ((n : Int) - 1), rk p = n := fun p hp => by
      have h1 := List.mem_filter.1 hp
      have h2 := h1.2
      unfold eqH at h2
      rw [rk_is (hm p h1.1)]; simp at h2; omega
    refine ⟨up_layN hm n, ?_, fun a ha b hb => ?_⟩
    · rw [List.pairwise_iff_getElem]
      intro i j hi hj _
      rw [hr _ (List.getElem_mem hi), hr _ (List.getElem_mem hj)]; exact Int.le_refl _
    · have := (rank_layN hm n a ha).2
      rw [hr b hb]; omega
theorem lay_unique {l z : List Pc} (hm : ∀ p ∈ l, mayB p = true) (st : St rk l z) : z = layL l := by
  refine St.unique st.up (up_layN hm 9) fun h => ?_
  rw [st.same]
  show _ = pick rk h (layN l 9)
  rw [pick_layN hm h 9]
  by_cases h9 : 0 ≤ h ∧ h < (9 : Nat)
  · rw [if_pos h9]
  · rw [if_neg h9]
    unfold pick
    rw [List.filter_eq_nil_iff]
    intro p hp
    have := mayB_facts (hm p hp)
    rw [rk_is (hm p hp)]; simp; omega
theorem two_ok : ckE twoL = 0 := by
  apply ck_good
  intro j hj
  have : j = 0 ∨ j = 1 := by simp [twoL] at hj; omega
  rcases this with rfl | rfl
  · simp [errAt, errP, twoL, mayB, ownB, pA, hasB, sumS]
    decide
  · simp [errAt, errP, twoL, mayB, ownB, pA, pB, hasB, likeB, sumS]
    decide
theorem two_lay : layL twoL = [pB, pA] := rfl
theorem two_seats : seatsL [pB, pA] = [⟨pB, 1048576⟩, ⟨pA, 1048584⟩] := by
  simp [seatsL, seatAt, List.range_succ, sumS, plI, pB, pA]
theorem below_drewL {B : Nat} {a w : World} (h : RowKit.Below B a w) (n : Nat) : RowKit.Below B a (w.drewN n) := ⟨h.os, h.tape, h.output, h.size, h.block⟩
/-- what Lay tells of the chapter's pieces -/
structure TwoAt (B : Nat) (W : World) : Prop where
  a0 : W.cell? ⟨B, 0, none⟩ = some (.string ⟨#[98]⟩)
  a1 : W.cell? ⟨B, 1, none⟩ = some (.int .i64 1)
  a2 : W.cell? ⟨B, 2, none⟩ = some (.int .i64 (-1))
  a3 : W.cell? ⟨B, 3, none⟩ = some (.int .u64 1048576)
  b0 : W.cell? ⟨B, 4, none⟩ = some (.string ⟨#[97]⟩)
  b1 : W.cell? ⟨B, 5, none⟩ = some (.int .i64 2)
  b2 : W.cell? ⟨B, 6, none⟩ = some (.int .i64 1)
  b3 : W.cell? ⟨B, 7, none⟩ = some (.int .u64 1048584)
  lt : B < W.heap.size
def TwoOut (w : World) (e : Ending) (w' : World) : Prop := ∃ B, e = .returned (.tuple #[.slice (some ⟨B, 0, none⟩) 2 2, .int .i64 0]) ∧ TwoAt B w' ∧ Below w.heap.size w w'
theorem TwoAt.sm {B : Nat} {W : World} (h : TwoAt B W) : Sm W (some ⟨B, 0, none⟩) [⟨pB, 1048576⟩, ⟨pA, 1048584⟩] := by
  refine .inr ⟨B, 0, rfl, ⟨fun k hk => ?_, h.lt⟩⟩
  have : k = 0 ∨ k = 1 := by simp at hk; omega
  rcases this with rfl | rfl
  · exact ⟨⟨h.a0, h.a1, h.a2⟩, h.a3⟩
  · exact ⟨⟨h.b0, h.b1, h.b2⟩, h.b3⟩
theorem lay_two (a : Option Addr) (c : Nat) (w : World) (hl : Sl w a twoL) : Calls Try.prog 7 #[.slice a 2 c] w (TwoOut w) := by
  refine (Lay_good a c twoL w (by decide) hl twoW two_ok).mono ?_
  rintro e w' ⟨B, d, z, rfl, h1, h2, h3, h4, h5, h6⟩
  have hz := lay_unique (up_all (ck_up two_ok)) h5
  rw [hz, two_lay, two_seats] at h4
  have hs : d.size = 2 := by have := congrArg List.length h4; simpa using this
  have e0 : d[0]! = ⟨pB, 1048576⟩ := by
    have : d[0]? = some ⟨pB, 1048576⟩ := by rw [← Array.getElem?_toList, h4]; rfl
    simp [getElem!_def, this]
  have e1 : d[1]! = ⟨pA, 1048584⟩ := by
    have : d[1]? = some ⟨pA, 1048584⟩ := by rw [← Array.getElem?_toList, h4]; rfl
    simp [getElem!_def, this]
  have q0 := (HoldsK.four h3 (i := 0) (by omega)).1
  have q1 := (HoldsK.four h3 (i := 1) (by omega)).1
  rw [e0] at q0
  rw [e1] at q1
  exact ⟨B, rfl, ⟨q0.1, q0.2.1, q0.2.2.1, q0.2.2.2, q1.1, q1.2.1, q1.2.2.1, q1.2.2.2, h2⟩, h6⟩
set_option maxHeartbeats 1000000 in
theorem lives_any (w : World) : Calls Try.prog 12 #[] w fun e w' => e = .returned (.bool true) ∧ Below w.heap.size w w' := by
  have KT := two_any w
  have mixed : Try.prog.follows .mixedOrders = true := by kernel_rfl
  have s1 : ((⟨#[98]⟩ : ByteArray).toList == (⟨#[98]⟩ : ByteArray).toList) = true := by simp
  have s2 : ((⟨#[97]⟩ : ByteArray).toList == (⟨#[97]⟩ : ByteArray).toList) = true := by simp
  go_enter Try.func12, Try.ntmps12
  go_wp2_with fail
  refine KT.mono ?_
  rintro e w1 ⟨a, c, rfl, hs, hb⟩
  have HS := Lib.hid hs
  have HB := Lib.hid hb
  clear hs hb KT
  have KL := Lib.hid (lay_two a c w1 HS.out)
  have h2 : (twoL.length : Nat) = 2 := rfl
  rw [h2]
  clear h2
  go_wp2_with (go_at_call 7; refine KL.out.mono ?_; rintro e w2 ⟨B, rfl, hT, hb⟩; have HT := Lib.hid hT; have HB2 := Lib.hid (HB.out.trans (hb.mono HB.out.size)); clear hb hT; obtain ⟨a0, a1, a2, a3, b0, b1, b2, b3, lt⟩ := HT.out)
  first
    | (go_ret; exact ⟨rfl, HB2.out⟩)
    | (go_quiet (fail); go_wp2; go_ret; exact ⟨rfl, below_drewL HB2.out nq⟩)
end Go.Proofs.Ythkakikigccaaaa
