/-
  Proved here: what the package insn's writer puts is held behind what was there, and nothing else is changed but new blocks: WriteString on it, put. Conditions: at most 2^47 bytes; the pieces lie in a block of their own.
-/
import Derived.Test.YtbchecnidiiddaaGreatDoorInsnStand
import Derived.Test.YtbchecnidiiddaaGreatDoorInsnBuilder
import Derived.Lib.OthersKept
namespace Go.Proofs.YtbchecnidiiddaaGreatDoor
open Go.RowKit

abbrev Kept (b : Nat) (w w' : World) : Prop := Lib.OthersKept 5 (some b) w w'
def Wrote (b : Nat) (l : List UInt8) (w w' : World) : Prop := IsW b b l w' ∧ Below b w w' ∧ Kept b w w'
theorem Wrote.is {b : Nat} {l : List UInt8} {w w' : World} (h : Wrote b l w w') : IsW b b l w' := h.1
theorem Wrote.trans {b : Nat} {l1 l2 : List UInt8} {w w1 w2 : World} (h1 : Wrote b l1 w w1) (h2 : Wrote b l2 w1 w2) : Wrote b l2 w w2 := ⟨h2.1, h1.2.1.trans h2.2.1, h1.2.2.trans h2.2.2⟩
theorem IsW.lt {b : Nat} {l : List UInt8} {w : World} (h : IsW b b l w) : b < w.heap.size := by
  rcases h with ⟨_, v, hb, _⟩ | ⟨_, v, hb, _⟩
  · exact (Array.getElem?_eq_some_iff.1 hb).1
  · exact (Array.getElem?_eq_some_iff.1 hb).1
theorem WB.alloc {b : Nat} {p : Value} {l : List UInt8} {w : World} (h : WB b b p l w) (o : Obj) : WB b b p l (w.alloc o) := by
  obtain ⟨hB, v, hb, hown, hne⟩ := h
  exact ⟨hB, v, (Lib.alloc_old w o b (Array.getElem?_eq_some_iff.1 hb).1).trans hb, hown.alloc o, hne⟩
theorem IsW.alloc {b : Nat} {l : List UInt8} {w : World} (h : IsW b b l w) (o : Obj) : IsW b b l (w.alloc o) := by
  rcases h with h | h
  · exact Or.inl (WB.alloc h o)
  · exact Or.inr (WB.alloc h o)
theorem WB.iterAt {b : Nat} {p : Value} {l : List UInt8} {w : World} (h : WB b b p l w) {k : Nat} {s : ByteArray} {pos : Nat} (hk : w.heap[k]? = some (.stringIter s pos)) (pos' : Nat) : WB b b p l (w.iterAt k s pos') := by
  obtain ⟨hB, v, hb, hown, hne⟩ := h
  have hkb : b ≠ k := by
    intro e1
    rw [e1, hk] at hb
    cases hb
  refine ⟨hB, v, (Lib.iterAt_other w k b s pos' hkb).trans hb, ⟨hown.1, ?_⟩, hne⟩
  rcases hown.2 with hn | ⟨g, cap, cur, hv, hbg, hg, rest⟩
  · exact .inl hn
  · have hkg : g ≠ k := by
      intro e1
      rw [e1, hk] at hg
      cases hg
    exact .inr ⟨g, cap, cur, hv, hbg, (Lib.iterAt_other w k g s pos' hkg).trans hg, rest⟩
theorem IsW.iterAt {b : Nat} {l : List UInt8} {w : World} (h : IsW b b l w) {k : Nat} {s : ByteArray} {pos : Nat} (hk : w.heap[k]? = some (.stringIter s pos)) (pos' : Nat) : IsW b b l (w.iterAt k s pos') :=
  h.elim (fun x => .inl (WB.iterAt x hk pos')) (fun x => .inr (WB.iterAt x hk pos'))
theorem Wrote.refl {b : Nat} {l : List UInt8} {w : World} (h : IsW b b l w) : Wrote b l w w := ⟨h, Below.refl _ _, Lib.OthersKept.refl _ _ _⟩
theorem Wrote.alloc {b : Nat} {l : List UInt8} {w w1 : World} (h : Wrote b l w w1) (o : Obj) : Wrote b l w (w1.alloc o) :=
  ⟨h.1.alloc o, h.2.1.alloc (Nat.le_of_lt h.1.lt) o, h.2.2.alloc o⟩

theorem copyCheck_k (b : Nat) (l : List UInt8) (w : World) (h : IsW b b l w) :
    Calls Tryz.prog 97 #[.pointer (some ⟨b, 0, none⟩)] w fun e w' => e = .returned (.tuple #[]) ∧ WB b b (.pointer (some ⟨b, 0, none⟩)) l w' ∧ Below b w w' ∧ Kept b w w' := by
  rcases h with h | h
  · refine (copyCheck_fresh b w h.cell0 h.shape h.frozen0).mono ?_
    rintro e w' ⟨rfl, rfl⟩
    exact ⟨rfl, h.used _, (Below.refl b w).setCell (p := ⟨b, 0, none⟩) h.1 _, (Lib.OthersKept.refl _ _ w).setCell ⟨b, 0, none⟩ rfl _⟩
  · refine (copyCheck_used b w h.cell0).mono ?_
    rintro e w' ⟨rfl, rfl⟩
    exact ⟨rfl, h, Below.refl b _, Lib.OthersKept.refl _ _ _⟩
theorem ownsRow_kind {w : World} {B : Nat} {e : TypeId} {v : Value} {n : Nat} {xs : List Value} (h : w.ownsRow B e 1 v n xs) : ∀ g, v.ownBlock = some g → ∃ c fz, w.heap[g]? = some (.cells c e fz) := by
  intro g hg
  rcases h.2 with ⟨rfl, _⟩ | ⟨g', cap, cur, rfl, _, hgg, _⟩
  · simp [Value.ownBlock] at hg
  · simp [Value.ownBlock] at hg
    subst hg
    exact ⟨cur, _, hgg⟩

set_option maxHeartbeats 1000000 in
set_option maxRecDepth 100000 in
theorem WriteString_k (b : Nat) (l : List UInt8) (s : ByteArray) (w : World) (h : IsW b b l w) (hlen : l.length + s.size ≤ 140737488355328) :
    Calls Tryz.prog 69 #[.pointer (some ⟨b, 0, none⟩), .string s] w fun e w' => e = .returned (.tuple #[.int .i64 s.size, .nilIface]) ∧ Wrote b (l ++ s.data.toList) w w' := by
  have hBw : b ≤ w.heap.size := Nat.le_of_lt h.lt
  obtain ⟨i0, hi, hz0, hz1, hz2⟩ := info_parts infoU8
  go_enter Tryz.func69, Tryz.ntmps69
  go_wp2_with (go_at_call 97; (with_reducible refine (copyCheck_k b l _ h).mono ?_))
  rintro e w1 ⟨rfl, h1, hb1, hk1⟩
  obtain ⟨hB, v, hbk, hown, hne⟩ := h1
  have c0 : w1.cell? ⟨b, 0, none⟩ = some (.pointer (some ⟨b, 0, none⟩)) := by rw [Lib.cell_of_heap hbk]; rfl
  have c1 : w1.cell? ⟨b, 1, none⟩ = some v := by rw [Lib.cell_of_heap hbk]; rfl
  rw [Lib.byteCells_length] at hown
  go_wp2_with (at_builtin; refine Lib.wpList_append_own_string _ rfl _ _ 31 9 rfl b 5 i0 Tryz.underlying31 Tryz.underlying9 hi hz0 hz1 hz2 _ _ _ rfl hown s rfl ?c3 ?c4 ?c5 ?_)
  case c3 => unfold maxLen; omega
  case c4 => omega
  case c5 => have := hb1.size; omega
  intro v' w2 hown' hgrow _
  have hlt : b < w1.heap.size := by
    rcases Nat.lt_or_ge b w1.heap.size with h' | h'
    · exact h'
    · simp [Array.getElem?_eq_none h'] at hbk
  have hb2 : w2.heap[b]? = some (.cells #[.pointer (some ⟨b, 0, none⟩), v] 86 (0, 0)) := by
    rw [hgrow.block b hlt (fun e => hne e.symm)]
    exact hbk
  have d0 : w2.cell? ⟨b, 0, none⟩ = some (.pointer (some ⟨b, 0, none⟩)) := by rw [Lib.cell_of_heap hb2]; rfl
  have d1 : w2.cell? ⟨b, 1, none⟩ = some v := by rw [Lib.cell_of_heap hb2]; rfl
  have f1 : w2.frozen? ⟨b, 1, none⟩ = false := Lib.frozen_of_heap hb2 1
  obtain ⟨ao, n', cap, rfl⟩ : ∃ ao n' cap, v' = .slice ao n' cap := by
    rcases hown'.2 with ⟨hv, _⟩ | ⟨g, cap, cur, hv, _⟩
    · exact ⟨_, _, _, hv⟩
    · exact ⟨_, _, _, hv⟩
  clear c0 c1
  go_wp2
  go_ret2
  refine ⟨rfl, Or.inr ?_, ?_, ?_⟩
  · refine Lib.BuilderAt.put (T := 86) (e := 5) hB hb2 (bs' := Lib.byteCells (l ++ s.data.toList)) ?_ (by decide)
    have e1 : Lib.byteCells (l ++ s.data.toList) = Lib.byteCells l ++ Lib.strCells s := by simp [Lib.byteCells, Lib.strCells]
    rw [e1]
    simpa [Lib.strCells_length, Lib.byteCells_length] using hown'
  · exact (hb1.grown hgrow (by have := hb1.size; omega) (fun k hk => (hown.lt k hk).1)).setCell (p := ⟨b, 1, none⟩) hB _
  · exact (hk1.grown hgrow (ownsRow_kind hown)).setCell ⟨b, 1, none⟩ rfl _

/-! ### put -/
def strV (p : List UInt8) : Value := .string ⟨p.toArray⟩
set_option maxHeartbeats 1000000 in
theorem put_k (ps : List (List UInt8)) (g cap b : Nat) (l : List UInt8) (w : World) (h : IsW b b l w) (hg : w.heap[g]? = some (.cells (ps.map strV).toArray 9 (0, 0))) (hn : ps.length ≤ 4) (hlen : l.length + ps.flatten.length ≤ 100000) :
    Calls Tryz.prog 30 #[.pointer (some ⟨b, 0, none⟩), .slice (some ⟨g, 0, none⟩) ps.length cap] w fun e w' => e = .returned (.tuple #[]) ∧ Wrote b (l ++ ps.flatten) w w' := by
  have H := Lib.hid h
  clear h
  have HG := Lib.hid hg
  clear hg
  go_enter Tryz.func30, Tryz.ntmps30
  go_wp2
  go_loopw [8] (fun i wr => ∃ k : Nat, k ≤ ps.length ∧ i = .int .i64 k ∧ Wrote b (l ++ (ps.take k).flatten) w wr) (fun i _ => ps.length - (intOf i).toNat)
  case atStart => exact ⟨0, Nat.zero_le _, rfl, by simpa using Wrote.refl H.out⟩
  case round =>
    obtain ⟨k, hk, rfl, hw⟩ := hrel
    have HW := Lib.hid hw
    clear hw
    by_cases hlt : k < ps.length
    · have hb : g ≠ b := by
        intro e
        have h0 := HG.out
        rcases H.out with ⟨_, v, hb, _⟩ | ⟨_, v, hb, _⟩
        · rw [e, hb] at h0; injection Option.some.inj h0 with _ h1; exact absurd h1 (by decide)
        · rw [e, hb] at h0; injection Option.some.inj h0 with _ h1; exact absurd h1 (by decide)
      have hgr : wr.heap[g]? = some (.cells (ps.map strV).toArray 9 (0, 0)) := HW.out.2.2 g _ HG.out (fun e => hb (Option.some.inj e)) (fun c fz e => by injection e with _ h1; exact absurd h1 (by decide))
      have hc : wr.cell? ⟨g, k, none⟩ = some (.string ⟨(ps[k]).toArray⟩) := by
        rw [Lib.cell_of_heap hgr]
        simp [hlt, strV]
      clear hgr
      have hfl : (ps.take (k + 1)).flatten = (ps.take k).flatten ++ ps[k] := by rw [List.take_succ_eq_append_getElem hlt, List.flatten_append, List.flatten_cons, List.flatten_nil, List.append_nil]
      have hle : (l ++ (ps.take k).flatten).length + (⟨(ps[k]).toArray⟩ : ByteArray).size ≤ 140737488355328 := by
        have h1 : (ps.take (k + 1)).flatten.length ≤ ps.flatten.length := by
          have e := congrArg List.length (congrArg List.flatten (List.take_append_drop (k + 1) ps))
          rw [List.flatten_append, List.length_append] at e; omega
        rw [hfl, List.length_append] at h1
        rw [List.length_append]
        show _ + (ps[k]).toArray.size ≤ _
        rw [List.size_toArray]; omega
      have HLE := Lib.hid hle
      have HFL := Lib.hid hfl
      clear hle hfl hb
      go_wp2_with (go_at_call 69; (with_reducible refine (WriteString_k b _ _ _ HW.out.is HLE.out).mono ?_); rintro e w1 ⟨rfl, hw1⟩; have HW1 := Lib.hid hw1; clear hw1)
      go_roundw
      case rel =>
        refine ⟨k + 1, by omega, by go_num, ?_⟩
        rw [HFL.out, ← List.append_assoc]
        exact HW.out.trans HW1.out
      case measure => simp [intOf]; omega
    · go_wp2
      go_end0
      have e : k = ps.length := by omega
      subst e
      exact ⟨rfl, by simpa using HW.out⟩
theorem put_one (s : List UInt8) (b : Nat) (l : List UInt8) (w : World) (g : Nat) (hgw : Hid (w.heap.size = g)) (h : IsW b b l w) (hlen : l.length + s.length ≤ 100000) :
    Calls Tryz.prog 30 #[.pointer (some ⟨b, 0, none⟩), .slice (some ⟨g, 0, none⟩) 1 1] (w.alloc (.cells #[.string ⟨s.toArray⟩] 9)) fun e w' => e = .returned (.tuple #[]) ∧ Wrote b (l ++ s) w w' := by
  obtain rfl := hgw.out
  have hg : (w.alloc (.cells #[.string ⟨s.toArray⟩] 9)).heap[w.heap.size]? = some (.cells (([s] : List (List UInt8)).map strV).toArray 9 (0, 0)) := heap_new _ _
  refine (put_k [s] w.heap.size 1 b l _ (h.alloc _) hg (by simp) (by simpa using hlen)).mono ?_
  rintro e w' ⟨rfl, h1⟩
  refine ⟨rfl, ?_⟩
  have := (Wrote.alloc (Wrote.refl h) (.cells #[.string ⟨s.toArray⟩] 9)).trans h1
  simpa using this
theorem put_two (s t : List UInt8) (b : Nat) (l : List UInt8) (w : World) (g : Nat) (hgw : Hid (w.heap.size = g)) (h : IsW b b l w) (hlen : l.length + (s.length + t.length) ≤ 100000) :
    Calls Tryz.prog 30 #[.pointer (some ⟨b, 0, none⟩), .slice (some ⟨g, 0, none⟩) 2 2] (w.alloc (.cells #[.string ⟨s.toArray⟩, .string ⟨t.toArray⟩] 9)) fun e w' => e = .returned (.tuple #[]) ∧ Wrote b (l ++ (s ++ t)) w w' := by
  obtain rfl := hgw.out
  have hg : (w.alloc (.cells #[.string ⟨s.toArray⟩, .string ⟨t.toArray⟩] 9)).heap[w.heap.size]? = some (.cells (([s, t] : List (List UInt8)).map strV).toArray 9 (0, 0)) := heap_new _ _
  refine (put_k [s, t] w.heap.size 2 b l _ (h.alloc _) hg (by simp) (by simpa using hlen)).mono ?_
  rintro e w' ⟨rfl, h1⟩
  refine ⟨rfl, ?_⟩
  have := (Wrote.alloc (Wrote.refl h) (.cells #[.string ⟨s.toArray⟩, .string ⟨t.toArray⟩] 9)).trans h1
  simpa using this
end Go.Proofs.YtbchecnidiiddaaGreatDoor
