/-
  Proved here: package data's Part and the document's answer as the words of lists tell; nothing that was there is changed. Condition: numbers of 64 bits.
-/
import Derived.Test.YthkakikigccaaaaDtLay
namespace Go.Proofs.Ythkakikigccaaaa
open Go.RowKit
set_option linter.unusedVariables false
set_option linter.unusedSimpArgs false

def sumF (f : Pc → Bool) (l : List Pc) : Int := sumS (l.filter f)
theorem sumF_take {f : Pc → Bool} {l : List Pc} {k : Nat} (h : k < l.length) : sumF f (l.take (k + 1)) = sumF f (l.take k) + if f l[k] = true then l[k].size else 0 := by
  unfold sumF
  rw [List.take_succ_eq_append_getElem h, List.filter_append, sumS_append]
  cases hf : f l[k] <;> simp [hf, sumS]
theorem sumF_nonneg {f : Pc → Bool} {L : List Pc} (h : ∀ p ∈ L, 0 ≤ p.size) : 0 ≤ sumF f L := sumS_nonneg (fun p hp => h p (List.mem_filter.1 hp).1)
theorem sumF_two {f g : Pc → Bool} (hd : ∀ p, f p = true → g p = false) : ∀ {L : List Pc}, (∀ p ∈ L, 0 ≤ p.size) → sumF f L + sumF g L ≤ sumS L
  | [], _ => by simp [sumF, sumS]
  | x :: L, h => by
    have ih := sumF_two hd (L := L) (fun p hp => h p (by simp [hp]))
    have hx := h x (by simp)
    have e : sumS (x :: L) = x.size + sumS L := rfl
    have e1 : ∀ q : Pc → Bool, sumF q (x :: L) = (if q x = true then x.size else 0) + sumF q L := fun q => by
      unfold sumF; rw [List.filter_cons]; split
      · rfl
      · omega
    rw [e, e1, e1]
    by_cases hf : f x = true
    · rw [if_pos hf, if_neg (by rw [hd x hf]; simp)]; omega
    · rw [if_neg hf]; split <;> omega
/-- ahead of a hart's, and its own -/
def ltH (h : Int) (p : Pc) : Bool := decide (p.hart < h)
def eqH (h : Int) (p : Pc) : Bool := p.hart == h
theorem lt_eq (h : Int) (p : Pc) (e : ltH h p = true) : eqH h p = false := by
  simp only [ltH, decide_eq_true_eq] at e
  simp only [eqH, beq_eq_false_iff_ne, ne_eq]; omega
theorem up_pos {l : List Pc} {k : Nat} (h : OkUp l l.length) : ∀ p ∈ l.take k, 0 ≤ p.size := fun p hp => by
  have := mayB_facts (up_all h p (List.mem_of_mem_take hp)); omega
structure PB (l : List Pc) (h : Int) (k : Nat) : Prop where
  a : 0 ≤ sumF (ltH h) (l.take k)
  o : 0 ≤ sumF (eqH h) (l.take k)
  s : sumF (ltH h) (l.take k) + sumF (eqH h) (l.take k) ≤ 65536
theorem pb {l : List Pc} (hU : OkUp l l.length) (h : Int) (k : Nat) (hk : k ≤ l.length) : PB l h k := by
  have hp := up_pos (k := k) hU
  have h2 := sumF_two (lt_eq h) hp
  have h3 := sum_le (hU.less hk) hk
  exact ⟨sumF_nonneg hp, sumF_nonneg hp, by omega⟩
/-- where a hart's part begins and ends -/
def fromI (l : List Pc) (h : Int) : Int := plI (sumF (ltH h) l)
def toI (l : List Pc) (h : Int) : Int := plI (sumF (ltH h) l + sumF (eqH h) l)
def partE (l : List Pc) (h : Int) : Int := if ckE l = 0 then (if ownB h = true then 0 else 2) else ckE l
def partF (l : List Pc) (h : Int) : Int := if partE l h = 0 then fromI l h else 0
def partT (l : List Pc) (h : Int) : Int := if partE l h = 0 then toI l h else 0
def PartOut (l : List Pc) (h : Int) (w : World) (e : Ending) (w' : World) : Prop := e = .returned (.tuple #[.int .u64 (partF l h), .int .u64 (partT l h), .int .i64 (partE l h)]) ∧ Below w.heap.size w w'
theorem part_bad {l : List Pc} {h e : Int} (he : partE l h = e) (h0 : e ≠ 0) (w w' : World) (hb : Below w.heap.size w w') : PartOut l h w (.returned (.tuple #[.int .u64 0, .int .u64 0, .int .i64 e])) w' :=
  ⟨by unfold partF partT; rw [he, if_neg h0, if_neg h0], hb⟩
set_option maxHeartbeats 1000000 in
set_option maxRecDepth 100000 in
theorem Part_any (a : Option Addr) (c : Nat) (l : List Pc) (h : Int) (w : World) (hn : l.length ≤ maxLen) (hl : Sl w a l) (hw : ∀ p ∈ l, PcW p) (h1 : -9223372036854775808 ≤ h) (h2 : h ≤ 9223372036854775807) :
    Calls Try.prog 9 #[.slice a l.length c, .int .i64 h] w (PartOut l h w) := by
  have H := Check_any a c l w hn hl hw
  have HL := Lib.hid hl
  unfold maxLen at hn
  obtain ⟨ce, hce⟩ : ∃ e, ckE l = e := ⟨_, rfl⟩
  rw [hce] at H
  have HCE := Lib.hid hce
  clear hce hl
  by_cases h0 : ce = 0
  · subst h0
    have HU := Lib.hid (ck_up HCE.out)
    have KO := Lib.hid (fun W => isOwner_any h W)
    obtain ⟨q, hq⟩ : ∃ q, ownB h = q := ⟨_, rfl⟩
    rw [hq] at KO
    have HQ := Lib.hid hq
    clear hq
    cases q with
    | false =>
      have HE : Hid (partE l h = 2) := Lib.hid (by unfold partE; rw [if_pos HCE.out, HQ.out]; rfl)
      go_enter Try.func9, Try.ntmps9
      go_wp2_with (first | (go_at_call 13; (with_reducible refine H.mono ?_); rintro e w1 ⟨rfl, hb⟩; have HB := Lib.hid hb; clear hb) | (go_at_call 27; (with_reducible refine (KO.out _).mono ?_); rintro e w2 ⟨rfl, rfl⟩))
      go_ret3
      exact part_bad HE.out (by omega) _ _ HB.out
    | true =>
      have HE : Hid (partE l h = 0) := Lib.hid (by unfold partE; rw [if_pos HCE.out, HQ.out]; rfl)
      go_enter Try.func9, Try.ntmps9
      go_wp2_with (first | (go_at_call 13; (with_reducible refine H.mono ?_); rintro e w1 ⟨rfl, hb⟩; have HB := Lib.hid hb; clear hb) | (go_at_call 27; (with_reducible refine (KO.out _).mono ?_); rintro e w2 ⟨rfl, rfl⟩))
      go_loopw [8, 9, 22] (fun va vo vi wr => ∃ k : Nat, k ≤ l.length ∧ vi = .int .i64 k ∧ ∃ x y : Int, va = .int .i64 x ∧ vo = .int .i64 y ∧ Hid (x = sumF (ltH h) (l.take k) ∧ y = sumF (eqH h) (l.take k)) ∧ Hid (Below w.heap.size w wr)) (fun _ _ vi _ => l.length - (intOf vi).toNat)
      case atStart => exact ⟨0, Nat.zero_le _, rfl, 0, 0, rfl, rfl, Lib.hid ⟨by simp [sumF, sumS], by simp [sumF, sumS]⟩, HB⟩
      case round =>
        obtain ⟨k, hk, rfl, x, y, rfl, rfl, HXY, HBW⟩ := hrel
        have hpb := pb HU.out h k hk
        have x0 : 0 ≤ x := by rw [HXY.out.1]; exact hpb.a
        have y0 : 0 ≤ y := by rw [HXY.out.2]; exact hpb.o
        have xy : x + y ≤ 65536 := by rw [HXY.out.1, HXY.out.2]; exact hpb.s
        clear hpb
        by_cases hlt : k < l.length
        · obtain ⟨b, off, ha, hbl, hP⟩ := Sl.at_ (HL.out.below HBW.out) hlt
          subst ha
          obtain ⟨p, hp⟩ : ∃ p, p = l[k] := ⟨_, rfl⟩
          rw [← hp] at hP
          obtain ⟨_, _, s1, s2, g1, g2⟩ := mayB_facts (up_all HU.out p (by rw [hp]; exact List.getElem_mem hlt))
          have HN : Hid (sumF (ltH h) (l.take (k + 1)) = x + (if ltH h p = true then p.size else 0) ∧ sumF (eqH h) (l.take (k + 1)) = y + (if eqH h p = true then p.size else 0)) := Lib.hid ⟨by rw [sumF_take hlt, ← HXY.out.1, ← hp], by rw [sumF_take hlt, ← HXY.out.2, ← hp]⟩
          clear hp
          obtain ⟨n1, n2, n3⟩ := hP
          have HB2 := Lib.hid (HBW.out.trans ((one_below wr (.cells #[.string p.name, .int .i64 p.size, .int .i64 p.hart] 32)).mono HBW.out.size))
          have r1 : IntKind.i64.wrap ((k : Int) + 1) = (k : Int) + 1 := by rw [IntKind.wrap_i64]; omega
          rcases Int.lt_trichotomy p.hart h with hh | hh | hh
          · have E : Hid (ltH h p = true ∧ eqH h p = false) := Lib.hid ⟨by simp [ltH, hh], by simp [eqH]; omega⟩
            go_wp2
            go_roundw
            case rel => exact ⟨k + 1, by omega, by go_num, x + p.size, y, rfl, rfl, Lib.hid ⟨by rw [HN.out.1, E.out.1]; simp, by rw [HN.out.2, E.out.2]; simp⟩, HB2⟩
            case measure => simp [intOf]; omega
          · have E : Hid (ltH h p = false ∧ eqH h p = true) := Lib.hid ⟨by simp [ltH]; omega, by simp [eqH]; omega⟩
            have z1 : ¬ p.hart < h := by omega
            have z2 : (p.hart == h) = true := by simpa using hh
            have HH := Lib.hid hh
            clear hh
            go_wp2
            go_roundw
            case rel => exact ⟨k + 1, by omega, by go_num, x, y + p.size, rfl, rfl, Lib.hid ⟨by rw [HN.out.1, E.out.1]; simp, by rw [HN.out.2, E.out.2]; simp⟩, HB2⟩
            case measure => simp [intOf]; omega
          · have E : Hid (ltH h p = false ∧ eqH h p = false) := Lib.hid ⟨by simp [ltH]; omega, by simp [eqH]; omega⟩
            have z1 : ¬ p.hart < h := by omega
            have z2 : (p.hart == h) = false := by simp; omega
            go_wp2
            go_roundw
            case rel => exact ⟨k + 1, by omega, by go_num, x, y, rfl, rfl, Lib.hid ⟨by rw [HN.out.1, E.out.1]; simp, by rw [HN.out.2, E.out.2]; simp⟩, HB2⟩
            case measure => simp [intOf]; omega
        · obtain rfl : k = l.length := by omega
          have HF : Hid (plI x = partF l h ∧ plI (x + y) = partT l h) := Lib.hid (by unfold partF partT fromI toI; rw [HE.out, if_pos rfl, if_pos rfl, HXY.out.1, HXY.out.2, List.take_length]; exact ⟨rfl, rfl⟩)
          go_wp2_with (go_at_call 28; (with_reducible refine (place_any _ _ (by omega) (by omega)).mono ?_); rintro e w3 ⟨rfl, rfl⟩)
          go_ret3
          exact ⟨by rw [← HF.out.1, ← HF.out.2, HE.out]; rfl, HBW.out⟩
  · have HE : Hid (partE l h = ce) := Lib.hid (by unfold partE; rw [HCE.out, if_neg h0])
    have z1 : (ce == 0) = false := by simpa using h0
    have z2 : (ce != 0) = true := by simpa using h0
    have H0 := Lib.hid h0
    clear h0
    go_enter Try.func9, Try.ntmps9
    go_wp2_with (go_at_call 13; (with_reducible refine H.mono ?_); rintro e w1 ⟨rfl, hb⟩; have HB := Lib.hid hb; clear hb)
    go_ret3
    exact part_bad HE.out H0.out _ _ HB.out
end Go.Proofs.Ythkakikigccaaaa
