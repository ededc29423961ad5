/-
  Proved here: the document's Lay puts the pieces down hart by hart, all's first. Condition: numbers of 64 bits, at most 40 pieces.
-/
import Derived.Test.YthkakikigccaaaaDtSame
import Derived.Test.YthkakikigccaaaaDtRef
namespace Go.Proofs.Ythkakikigccaaaa
open Go.RowKit Go.Lib
set_option linter.unusedVariables false
set_option linter.unusedSimpArgs false

theorem rLay_bad (a : Option Addr) (c : Nat) (l : List Pc) (w : World) (hn : l.length ≤ maxLen) (hl : Sl w a l) (hw : ∀ p ∈ l, PcW p) (e : Int) (he : ckE l = e) (h0 : e ≠ 0) :
    Calls Try.prog 17 #[.slice a l.length c] w fun x w' => x = .returned (.tuple #[.slice none 0 0, .int .i64 e]) ∧ Below w.heap.size w w' := by
  have H := rCheck_any a c l w hn hl hw
  rw [he] at H
  have z1 : (e == 0) = false := by simpa using h0
  have z2 : (e != 0) = true := by simpa using h0
  clear he
  go_enter Try.func17, Try.ntmps17
  go_wp2_with (go_at_call 22; (with_reducible refine H.mono ?_); rintro e w' ⟨rfl, hb⟩; have HB := Lib.hid hb; clear hb)
  go_ret2
  exact ⟨rfl, HB.out⟩
theorem lay_len {l : List Pc} (hm : ∀ p ∈ l, mayB p = true) : (layL l).length = l.length := by
  have key : ∀ n : Nat, (layN l n).length = l.countP fun p => decide (rk p < n) := by
    intro n
    induction n with
    | zero =>
      symm
      rw [List.countP_eq_zero.2]
      · rfl
      · intro p hp
        have := mayB_facts (hm p hp)
        rw [rk_is (hm p hp)]; simp; omega
    | succ n ih =>
      unfold layN
      rw [List.length_append, ih]
      unfold ofH
      rw [← List.countP_eq_length_filter]
      clear ih
      induction l with
      | nil => rfl
      | cons p l il =>
        have il' := il fun q hq => hm q (List.mem_cons_of_mem _ hq)
        have hp := rk_is (hm p (List.mem_cons_self ..))
        simp only [List.countP_cons]
        rw [hp]
        have e1 : eqH ((n : Int) - 1) p = decide (p.hart + 1 = n) := by unfold eqH; rw [Bool.eq_iff_iff]; simp; omega
        rw [e1]
        simp only [decide_eq_true_eq]
        split <;> split <;> split <;> omega
  unfold layL
  rw [key 9, List.countP_eq_length]
  intro p hp
  have := mayB_facts (hm p hp)
  rw [rk_is (hm p hp)]; simp; omega
/-- what is laid down when pieces i of hart n - 1 have been looked at -/
def laid (l : List Pc) (n i : Nat) : List Pc := layN l n ++ ofH (l.take i) ((n : Int) - 1)
theorem laid_zero (l : List Pc) (n : Nat) : laid l n 0 = layN l n := by simp [laid, ofH]
theorem laid_full (l : List Pc) (n : Nat) : laid l n l.length = layN l (n + 1) := by simp [laid, layN]
theorem laid_yes {l : List Pc} {n i : Nat} (h : i < l.length) (e : eqH ((n : Int) - 1) l[i] = true) : laid l n (i + 1) = laid l n i ++ [l[i]] := by
  unfold laid ofH
  rw [List.take_succ_eq_append_getElem h, List.filter_append]
  simp [e]
theorem laid_no {l : List Pc} {n i : Nat} (h : i < l.length) (e : eqH ((n : Int) - 1) l[i] = false) : laid l n (i + 1) = laid l n i := by
  unfold laid ofH
  rw [List.take_succ_eq_append_getElem h, List.filter_append]
  simp [e]
theorem layN_len (l : List Pc) : ∀ n : Nat, (layN l n).length ≤ n * l.length
  | 0 => by simp [layN]
  | n + 1 => by
    unfold layN
    have := layN_len l n
    have h2 : (ofH l ((n : Int) - 1)).length ≤ l.length := List.length_filter_le ..
    rw [List.length_append, Nat.succ_mul]; omega
theorem laid_len (l : List Pc) (n i : Nat) (hn : n ≤ 9) (hl : l.length ≤ 40) : (laid l n i).length ≤ 400 := by
  unfold laid
  have h1 := layN_len l n
  have h2 : (ofH (l.take i) ((n : Int) - 1)).length ≤ (l.take i).length := List.length_filter_le ..
  have h3 : (l.take i).length ≤ l.length := by rw [List.length_take]; omega
  have h4 : n * l.length ≤ 9 * 40 := Nat.mul_le_mul hn hl
  rw [List.length_append]; omega
theorem laid_mem {l : List Pc} (hm : ∀ p ∈ l, mayB p = true) (n i : Nat) : ∀ p ∈ laid l n i, p ∈ l := fun p hp => by
  rcases List.mem_append.1 hp with h | h
  · exact (rank_layN hm n p h).1
  · exact List.mem_of_mem_take (List.mem_filter.1 h).1
theorem sum_few : ∀ Y : List Pc, (∀ p ∈ Y, 0 ≤ p.size ∧ p.size ≤ 65536) → 0 ≤ sumS Y ∧ sumS Y ≤ 65536 * Y.length
  | [], _ => by simp [sumS]
  | p :: Y, h => by
    have h1 := sum_few Y fun q hq => h q (List.mem_cons_of_mem _ hq)
    have h2 := h p (List.mem_cons_self ..)
    have e : sumS (p :: Y) = p.size + sumS Y := by simp [sumS]
    rw [e, List.length_cons]
    push_cast
    omega
theorem laid_sum {l : List Pc} (hm : ∀ p ∈ l, mayB p = true) (n i : Nat) (hn : n ≤ 9) (hl : l.length ≤ 40) : 0 ≤ sumS (laid l n i) ∧ sumS (laid l n i) ≤ 26214400 := by
  have h1 := sum_few (laid l n i) fun p hp => by
    have := mayB_facts (hm p (laid_mem hm n i p hp)); omega
  have h2 := laid_len l n i hn hl
  omega
theorem sum_snoc (Y : List Pc) (p : Pc) : sumS (Y ++ [p]) = sumS Y + p.size := by
  induction Y with
  | nil => simp [sumS]
  | cons q Y ih =>
    have e : ∀ (q : Pc) (Z : List Pc), sumS (q :: Z) = q.size + sumS Z := fun q Z => by simp [sumS]
    rw [List.cons_append, e, e, ih]; omega
/-- what the row's slot holds -/
def RowIs (B : Nat) (Y : List Pc) (v : Value) (s : Int) (w : World) : Prop := w.ownsRow B 34 4 v (seatsL Y).length (flatS (seatsL Y)) ∧ s = plI (sumS Y)
theorem seV_cells (w : World) (t : Se) (ty : TypeId) (j : Nat) (u : Value) (h : (seV t)[j]? = some u) : (w.alloc (.cells #[.string t.p.name, .int .i64 t.p.size, .int .i64 t.p.hart, .int .u64 t.addr] ty)).cell? ⟨w.heap.size, j, none⟩ = some u := by
  rw [cell_of_row _ w.heap.size j _ ty (0, 0) (heap_alloc_new w _)]
  match j, h with
  | 0, h => simpa [seV] using h
  | 1, h => simpa [seV] using h
  | 2, h => simpa [seV] using h
  | 3, h => simpa [seV] using h
  | j + 4, h => simp [seV] at h
set_option maxHeartbeats 2000000 in
set_option maxRecDepth 100000 in
theorem rLay_good (a : Option Addr) (c : Nat) (l : List Pc) (w : World) (hn : l.length ≤ 40) (hl : Sl w a l) (hw : ∀ p ∈ l, PcW p) (he : ckE l = 0) :
    Calls Try.prog 17 #[.slice a l.length c] w fun x w' => ∃ b cc, x = .returned (.tuple #[.slice b l.length cc, .int .i64 0]) ∧ Sm w' b (seatsL (layL l)) ∧ Below w.heap.size w w' := by
  have H := rCheck_any a c l w (by unfold maxLen; omega) hl hw
  rw [he] at H
  have HM := Lib.hid (up_all (ck_up he))
  have HL := Lib.hid hl
  clear he hl
  go_enter Try.func17, Try.ntmps17
  go_wp2_with (go_at_call 22; (with_reducible refine H.mono ?_); rintro e w1 ⟨rfl, hb⟩; have HB := Lib.hid hb; clear hb)
  go_loopw [5, 6, 7] (fun vo va vh wr => ∃ n : Nat, n ≤ 9 ∧ vh = .int .i64 ((n : Int) - 1) ∧ ∃ s : Int, va = .int .u64 s ∧ Hid (RowIs w.heap.size (layN l n) vo s wr) ∧ Hid (Below w.heap.size w wr)) (fun _ _ vh _ => 9 - (intOf vh + 1).toNat)
  case atStart => exact ⟨0, by omega, rfl, 1048576, rfl, Lib.hid ⟨World.ownsRow_nil _ _ _ _, rfl⟩, HB⟩
  case round =>
    obtain ⟨n, hn9, rfl, s, rfl, HR, HBW⟩ := hrel
    by_cases hlt : n < 9
    · have z1 : (n : Int) - 1 < 8 := by omega
      go_wp2
      go_loopw [5, 6, 8] (fun vo va vi w2 => ∃ i : Nat, i ≤ l.length ∧ vi = .int .i64 i ∧ ∃ s : Int, va = .int .u64 s ∧ Hid (RowIs w.heap.size (laid l n i) vo s w2) ∧ Hid (Below w.heap.size w w2)) (fun _ _ vi _ => l.length - (intOf vi).toNat)
      case atStart => exact ⟨0, Nat.zero_le _, rfl, s, rfl, Lib.hid (by rw [laid_zero]; exact HR.out), HBW⟩
      case round =>
        obtain ⟨i, hi, rfl, s, rfl, HRI, HBI⟩ := hrel
        by_cases hil : i < l.length
        · obtain ⟨b, off, ha, hbl, hP⟩ := Sl.at_ HL.out hil
          subst ha
          obtain ⟨p, hp⟩ : ∃ p, p = l[i] := ⟨_, rfl⟩
          rw [← hp] at hP
          have HQ := Lib.hid (And.intro hbl hP)
          obtain ⟨_, _, s1, s2, g1, g2⟩ := mayB_facts (HM.out p (by rw [hp]; exact List.getElem_mem hil))
          have HP := Lib.hid hp
          clear hp
          obtain ⟨n1, n2, n3⟩ := hP.below hbl HBI.out
          clear hP hbl
          by_cases hh : p.hart = (n : Int) - 1
          · have HY : Hid (laid l n (i + 1) = laid l n i ++ [p]) := Lib.hid (by rw [HP.out]; exact laid_yes hil (by rw [← HP.out]; simp [eqH, hh]))
            have z4 : (p.hart == (n : Int) - 1) = true := by simpa using hh
            have HH := Lib.hid hh
            clear hh
            have hsum := laid_sum HM.out n i hn9 hn
            have hs0 : s = 1048576 + 8 * sumS (laid l n i) := HRI.out.2
            have sl : 0 ≤ s := by omega
            have sh : s ≤ 300000000 := by omega
            have HS : Hid (s = plI (sumS (laid l n i))) := Lib.hid hs0
            clear hsum hs0
            have hlen : (seatsL (laid l n i)).length ≤ 1000 := by rw [seatsL_len]; have := laid_len l n i hn9 hn; omega
            have HLEN := Lib.hid hlen
            clear hlen
            have HBA := Lib.hid (HBI.out.trans ((one_below wr (.cells #[.string p.name, .int .i64 p.size, .int .i64 p.hart, .int .u64 s] 34)).mono HBI.out.size))
            have HO := Lib.hid (HRI.out.1.alloc (.cells #[.string p.name, .int .i64 p.size, .int .i64 p.hart, .int .u64 s] 34))
            have HC := Lib.hid (seV_cells wr ⟨p, s⟩ 34)
            go_wp2_with (refine append_seat rfl (.tmp 31) (.tmp 38) rfl w.heap.size u5 (seatsL (laid l n i)).length (flatS (seatsL (laid l n i))) rfl HO.out wr.heap.size ⟨p, s⟩ rfl HC.out HLEN.out HBA.out.size ?_; intro v3 w3 hw3 hg3; have HR3 := Lib.hid hw3; have HB3 := Lib.hid (HBA.out.grown hg3 HBA.out.size (fun k hk => (HO.out.lt k hk).1)); clear hw3 hg3; obtain ⟨n1, n2, n3⟩ := HQ.out.2.below HQ.out.1 HB3.out)
            go_roundw
            case rel => exact ⟨i + 1, by omega, by go_num, s + 8 * p.size, by congr 1, Lib.hid (by unfold RowIs; rw [HY.out, seatsL_snoc, List.length_append, List.length_singleton, flatS_snoc, ← HS.out, sum_snoc]; exact ⟨HR3.out, by rw [HS.out]; unfold plI; omega⟩), HB3⟩
            case measure => simp [intOf]; omega
          · have HY : Hid (laid l n (i + 1) = laid l n i) := Lib.hid (laid_no hil (by rw [← HP.out]; simpa [eqH] using hh))
            have z4 : (p.hart == (n : Int) - 1) = false := by simpa using hh
            clear hh
            go_wp2
            go_roundw
            case rel => exact ⟨i + 1, by omega, by go_num, s, rfl, Lib.hid (by rw [HY.out]; exact HRI.out), HBI⟩
            case measure => simp [intOf]; omega
        · obtain rfl : i = l.length := by omega
          go_wp2
          go_roundw
          case rel => exact ⟨n + 1, by omega, by go_num, s, rfl, Lib.hid (by rw [← laid_full]; exact HRI.out), HBI⟩
          case measure => simp [intOf]; omega
    · obtain rfl : n = 9 := by omega
      obtain ⟨b, cc, hv, hs⟩ := ss_of_own HR.out.1
      subst hv
      have HS := Lib.hid hs
      have HE : Hid ((seatsL (layN l 9)).length = l.length) := Lib.hid (by rw [seatsL_len]; exact lay_len HM.out)
      clear hs
      go_wp2
      go_ret2
      exact ⟨b, cc, by rw [HE.out]; rfl, HS.out, HBW.out⟩
end Go.Proofs.Ythkakikigccaaaa
