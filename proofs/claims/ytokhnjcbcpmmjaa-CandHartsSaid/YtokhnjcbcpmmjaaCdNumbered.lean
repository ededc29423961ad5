/-
  Proved here: cand's numbered answers the events of rows by number, in memory of its own; nothing that was there is changed. Condition: at most 60 events.
  (With it: Proved here: copy at structs: as many elements as the shorter of the two has go over; the row before and behind them stays. Condition: as said.)
  (With it: Proved here: cand's counter makes a closure that carries a sum; length answers how many events rows have together; nothing that was there is changed. Condition: at most 1,000 events.)
-/
import Derived.Test.YtokhnjcbcpmmjaaRf07Pure
import Derived.Deep.CutBlock
import Derived.Outline
import Derived.Laws.CopyOwn
import Derived.Laws.MakeOwn
import Derived.Deep.RegionHeld3
namespace Go.Proofs.Ytokhnjcbcpmmjaa
set_option linter.unusedVariables false
set_option linter.unusedSimpArgs false
open Go.RowKit
attribute [local go_sem ↓] fold_E fold_SE

/-- the sum that a counter carries -/
def SumAt (g s : Nat) (w : World) : Prop := w.heap[g]? = some (.cells #[.int .i64 (s : Int)] 3 (0, 0))
theorem SumAt.lt {g s : Nat} {w : World} (h : SumAt g s w) : g < w.heap.size := (Array.getElem?_eq_some_iff.1 h).1
theorem SumAt.cell {g s : Nat} {w : World} (h : SumAt g s w) : w.cell? ⟨g, 0, none⟩ = some (.int .i64 (s : Int)) := by rw [cell_of_row w g 0 _ _ _ h]; rfl
theorem SumAt.free {g s : Nat} {w : World} (h : SumAt g s w) : w.frozen? ⟨g, 0, none⟩ = false := frozen_of_row w g 0 _ _ h
theorem SumAt.on {g s : Nat} {w w' : World} (h : SumAt g s w) (hb : Below w.heap.size w w') : SumAt g s w' := (hb.block g h.lt).trans h
def CounterIs (w : World) (e : Ending) (w' : World) : Prop := e = .returned (.func (.func 52) #[] #[.pointer (some ⟨w.heap.size, 0, none⟩)]) ∧ SumAt w.heap.size 0 w' ∧ Below w.heap.size w w' ∧ w'.heap.size = w.heap.size + 1
theorem counter_any (w : World) : Calls Try.prog 33 #[] w fun e w' => CounterIs w e w' := by
  go_enter Try.func33, Try.ntmps33
  go_wp2
  go_ret
  refine ⟨rfl, ?_, ?_, ?_⟩
  · have h0 : (w.alloc (.cells #[.int .i64 0] 3)).heap[w.heap.size]? = some (.cells #[.int .i64 0] 3 (0, 0)) := Array.getElem?_push_size
    exact h0
  · exact box_below w _
  · simp
/-- one row is told -/
def CountIs (g s n : Nat) (w : World) (e : Ending) (w' : World) : Prop := e = .returned (.int .i64 (s : Int)) ∧ SumAt g (s + n) w' ∧ Below g w w' ∧ (∀ j, j ≠ g → w'.heap[j]? = w.heap[j]?) ∧ w'.heap.size = w.heap.size
theorem count_any (a : Option Addr) (n c g s : Nat) (w : World) (h : SumAt g s w) (hs : s + n ≤ 100000) : Calls Try.prog 52 #[.slice a n c, .pointer (some ⟨g, 0, none⟩)] w fun e w' => CountIs g s n w e w' := by
  have H := Lib.hid h
  have h1 := h.cell
  have h2 := h.free
  clear h
  go_enter Try.func52, Try.ntmps52
  go_wp2
  go_ret
  refine ⟨rfl, ?_, ?_, ?_, ?_⟩
  · have := set_at _ _ 0 (.int .i64 ((s : Int) + (n : Int))) _ _ _ H.out
    unfold SumAt
    rw [this]
    simp
  · exact (Below.refl _ _).setCell (p := ⟨g, 0, none⟩) (Nat.le_refl _) _
  · exact fun j hj => Below.heap_setCell w _ _ j hj
  · simp [World.setCell]
def LenIs (w : World) (n : Nat) (e : Ending) (w' : World) : Prop := e = .returned (.int .i64 (n : Int)) ∧ Below w.heap.size w w'
set_option maxRecDepth 100000 in
set_option maxHeartbeats 4000000 in
theorem length_any (c : Cd) (k : Nat) (a : Option Addr) (cp : Nat) (w : World) (hk : k ≤ 9) (hn : baseL c.len k ≤ 60) (h : HsAt c k a w) : Calls Try.prog 22 #[.slice a k cp] w fun e w' => LenIs w (baseL c.len k) e w' := by
  have HV := Lib.hid h
  clear h
  go_enter Try.func22, Try.ntmps22
  go_wp2_with (go_at_call 33; (with_reducible refine (counter_any _).mono ?_); rintro e' w1 ⟨rfl, hs, hb, hz⟩; have S1 := Lib.hid hs; have L1 := Lib.hid hb; clear hs hb hz)
  go_loopw [9] (fun vi wr => ∃ (j : Nat), j ≤ k ∧ vi = .int .i64 j ∧ Hid (SumAt w.heap.size (baseL c.len j) wr) ∧ Below w.heap.size w wr) (fun vi _ => k - (intOf vi).toNat)
  case atStart => exact ⟨0, Nat.zero_le _, rfl, S1, L1.out⟩
  case round =>
    obtain ⟨j, hj, rfl, hS, hbel⟩ := hrel
    have HL := Lib.hid hbel
    clear hbel
    by_cases hlt : j < k
    · obtain ⟨b, off, a2, c2, rfl, hc, _, _⟩ := (HV.out.below HL.out).row j hlt
      have hm := Lib.hid (baseL_lt c.len j k hlt)
      go_wp2_with (go_at_call 52; (with_reducible refine (count_any a2 (c.len j) c2 w.heap.size (baseL c.len j) wr hS.out (by have := hm.out; omega)).mono ?_); rintro e' w2 ⟨rfl, hs, hb, ho, hz⟩; have S2 := Lib.hid hs; have L2 := Lib.hid (HL.out.trans hb); clear hs hb ho hz)
      go_roundw
      case rel => exact ⟨j + 1, by omega, by go_num, S2, L2.out⟩
      case measure => simp [intOf]; omega
    · obtain rfl : j = k := by omega
      go_wp2_with (go_at_call 52; (with_reducible refine (count_any none 0 0 w.heap.size (baseL c.len j) wr hS.out (by omega)).mono ?_); rintro e' w2 ⟨rfl, hs, hb, ho, hz⟩; have L2 := Lib.hid (HL.out.trans hb); clear hs hb ho hz)
      go_ret
      exact ⟨rfl, L2.out⟩
end Go.Proofs.Ytokhnjcbcpmmjaa
namespace Go.Proofs.Ytokhnjcbcpmmjaa
set_option linter.unusedVariables false
set_option linter.unusedSimpArgs false
open Go.RowKit

theorem run_copy_rowK {P : Program} (w : World) (dT sT ty elem : TypeId) (g o dLen dCap : Nat) (a : Addr) (sLen sCap sz : Nat) (cur : Array Value) (t : TypeId) (cs : List Value)
    (hu : P.underlying dT = some (.slice elem)) (hs : (P.info? elem).map (·.size) = some sz)
    (hg : w.heap[g]? = some (.cells cur t (0, 0))) (hn : cs.length = Nat.min sLen dLen * sz)
    (hsrc : ∀ j v, cs[j]? = some v → w.cell? (a.add j) = some v) (hfit : o + cs.length ≤ cur.size) (h1 : ∀ v ∈ cs, v.oneCell' = true) :
    (Builtin.copy_ #[dT, sT] ty #[.slice (some ⟨g, o, none⟩) dLen dCap, .slice (some a) sLen sCap]).run P w =
      .ok (goInt (Nat.min sLen dLen)) (w.setRow g (cur.toList.take o ++ cs ++ cur.toList.drop (o + cs.length)).toArray) := by
  have hl := run_loadCells_list (P := P) w a cs hsrc
  have hst := run_storeCells_at P g o t cs 0 cur w hg (by simpa using hfit) h1
  cases hq : P.info? elem with
  | none => simp [hq] at hs
  | some i =>
    have hi : i.size = sz := by simpa [hq] using hs
    simp [Builtin.copy_, run_underlying hu, Builtin.lenOf, Builtin.firstCells, sizeOf, typeInfo, hq, hi, ← hn, hl, hst]
theorem run_copy_noneK {P : Program} (w : World) (dT sT ty elem : TypeId) (dp sp : Option Addr) (dLen dCap sLen sCap : Nat)
    (hu : P.underlying dT = some (.slice elem)) (hs : ((P.info? elem).map (·.size)).isSome = true) (hn : Nat.min sLen dLen = 0) :
    (Builtin.copy_ #[dT, sT] ty #[.slice dp dLen dCap, .slice sp sLen sCap]).run P w = .ok (goInt 0) w := by
  cases hq : P.info? elem with
  | none => simp [hq] at hs
  | some i =>
    cases dp <;> cases sp <;> simp [Builtin.copy_, run_underlying hu, Builtin.lenOf, Builtin.firstCells, sizeOf, typeInfo, hq, hn, loadCells, loadCellsFrom, storeCells]
theorem wpList_copy_spliceK {P : Program} {w : World} {ops : Array Oper} {rest : List Oper} {o : Oper} {a : Act} {Q : Exit → Act → World → Prop} (hgd : o.guard = none) (d s : Operand) (dT sT : TypeId)
    (ho : o.op = .call { callee := .builtin .copy, args := #[d, s], argTypes := #[dT, sT] }) (elem : TypeId) (hu : P.underlying dT = some (.slice elem)) (sz : Nat) (hsz : (P.info? elem).map (·.size) = some sz) (hz : 0 < sz)
    (dp sp : Option Addr) (dLen dCap sLen sCap : Nat) (hd : a.eval d = .slice dp dLen dCap) (hs : a.eval s = .slice sp sLen sCap)
    (g off : Nat) (cur : List Value) (t : TypeId) (hg : w.heap[g]? = some (.cells cur.toArray t (0, 0))) (cs : List Value) (hn : cs.length = Nat.min sLen dLen * sz)
    (hpos : 0 < cs.length → dp = some ⟨g, off, none⟩ ∧ ∃ ad, sp = some ad ∧ ∀ j v, cs[j]? = some v → w.cell? (ad.add j) = some v)
    (hfit : off + cs.length ≤ cur.length) (h1 : ∀ v ∈ cs, v.oneCell' = true) (B : Nat) (w0 : World) (hb : Below B w0 w) (hBg : B ≤ g)
    (h : ∀ w', Hid (w'.heap[g]? = some (.cells (splice cur off cs).toArray t (0, 0))) → Below B w0 w' → (∀ j, j ≠ g → w'.heap[j]? = w.heap[j]?) → w'.heap.size = w.heap.size → Below g w w' → wpList P ops Q rest (a.put o.dst (goInt (Nat.min sLen dLen))) w') :
    wpList P ops Q (o :: rest) a w := by
  refine wpList_plain hgd fun K hK => ?_
  by_cases h0 : cs.length = 0
  · obtain rfl : cs = [] := List.eq_nil_of_length_eq_zero h0
    have hm : Nat.min sLen dLen = 0 := by
      rcases Nat.mul_eq_zero.1 (show Nat.min sLen dLen * sz = 0 by simpa using hn.symm) with h2 | h2
      · exact h2
      · omega
    have hrun := run_copy_noneK (P := P) w dT sT o.type elem dp sp dLen dCap sLen sCap hu (by rw [hsz]; rfl) hm
    have hw := h w (show _ = _ by simpa [splice] using hg) hb (fun _ _ => rfl) rfl (Below.refl _ _)
    rw [hm] at hw
    unfold Oper.wp
    simp [execOp, ho, resolve, invoke, builtin, hd, hs, hrun, Result.andThen]
    exact hK _ _ hw
  · obtain ⟨rfl, ad, rfl, hsrc⟩ := hpos (by omega)
    have hrun := run_copy_rowK (P := P) w dT sT o.type elem g off dLen dCap ad sLen sCap sz cur.toArray t cs hu hsz hg hn hsrc (by simpa using hfit) h1
    have hw := h (w.setRow g (cur.take off ++ cs ++ cur.drop (off + cs.length)).toArray) (show _ = _ by simpa [splice] using setRow_heap w g _ _ t _ hg) (_root_.Go.below_setRow hb hBg _) (fun j hj => setRow_other _ _ _ _ hj) (by simp [World.setRow]) (_root_.Go.below_setRow (Below.refl _ _) (Nat.le_refl _) _)
    unfold Oper.wp
    simp only [List.append_assoc] at hrun hw
    simp [execOp, ho, resolve, invoke, builtin, hd, hs, hrun, Result.andThen]
    exact hK _ _ hw
end Go.Proofs.Ytokhnjcbcpmmjaa
namespace Go.Proofs.Ytokhnjcbcpmmjaa
set_option linter.unusedVariables false
set_option linter.unusedSimpArgs false
open Go.RowKit
attribute [local go_sem ↓] fold_E fold_SE

/-- the block of so many harts' events, noughts behind -/
def fillE (c : Cd) (n k : Nat) : List Value := flat ((allP c k).map (·.1)) ++ flat (List.replicate (n - baseL c.len k) zeroEv)
theorem flat_len (es : List Ev) : (flat es).length = es.length * 14 := by
  induction es with
  | nil => rfl
  | cons e es ih => unfold flat at *; rw [List.flatMap_cons, List.length_append, ih, row_len]; simp; omega
theorem flat_app (a b : List Ev) : flat (a ++ b) = flat a ++ flat b := by unfold flat; simp
theorem fill_len (c : Cd) (n k : Nat) (h : baseL c.len k ≤ n) : (fillE c n k).length = n * 14 := by
  unfold fillE
  rw [List.length_append, flat_len, flat_len, List.length_map, allP_len, List.length_replicate]
  omega
theorem fill_step (c : Cd) (n k : Nat) (h : baseL c.len (k + 1) ≤ n) : splice (fillE c n k) (baseL c.len k * 14) (flat ((rowP c k).map (·.1))) = fillE c n (k + 1) := by
  unfold splice fillE
  have hl : (flat ((allP c k).map (·.1))).length = baseL c.len k * 14 := by rw [flat_len, List.length_map, allP_len]
  have hr : (flat ((rowP c k).map (·.1))).length = c.len k * 14 := by rw [flat_len, List.length_map, rowP_len]
  rw [List.take_append_of_le_length (by rw [hl]; exact Nat.le_refl _), ← hl, List.take_length, hr, List.drop_append, List.drop_eq_nil_of_le (by omega)]
  have hsp : n - baseL c.len k = c.len k + (n - baseL c.len (k + 1)) := by show _ = _ + (n - (baseL c.len k + c.len k)); simp only [baseL] at h; omega
  rw [hsp, ← List.replicate_append_replicate, flat_app (List.replicate (c.len k) zeroEv)]
  have hz : (flat (List.replicate (c.len k) zeroEv)).length = c.len k * 14 := by rw [flat_len, List.length_replicate]
  rw [List.nil_append, show (flat ((allP c k).map (·.1))).length + c.len k * 14 - (flat ((allP c k).map (·.1))).length = c.len k * 14 by omega, ← hz, List.drop_left']
  · rw [← List.append_assoc, ← flat_app, ← List.map_append]; rfl
  · rfl
theorem made_zero (n : Nat) : (madeCells zeroEv.V.cells (n * 14)).toList = flat (List.replicate n zeroEv) := by
  apply List.ext_getElem?
  intro j
  rcases Nat.lt_or_ge j (n * 14) with h | h
  · have h1 : (List.replicate n zeroEv)[j / 14]? = some zeroEv := by rw [List.getElem?_replicate, if_pos (by omega)]
    have h3 : ∀ i : Fin 14, zeroEv.row[i.val]? = some (zeroEv.V.cells[i.val]!) := by intro i; rcases i with ⟨i, hi⟩; rcases i with _ | _ | _ | _ | _ | _ | _ | _ | _ | _ | _ | _ | _ | _ | i <;> first | rfl | omega
    have h2 := flat_at (List.replicate n zeroEv) (j / 14) (j % 14) zeroEv _ h1 (h3 ⟨j % 14, by omega⟩)
    rw [show j / 14 * 14 + j % 14 = j by omega] at h2
    rw [h2]
    have hj : j < (madeCells zeroEv.V.cells (n * 14)).toList.length := by simpa [size_madeCells] using h
    rw [List.getElem?_eq_getElem hj]
    simp [madeCells, Value.cells, Ev.V]
  · rw [List.getElem?_eq_none (by simpa [size_madeCells] using h), List.getElem?_eq_none (by rw [flat_len, List.length_replicate]; exact h)]
theorem make_evs (n : Nat) (hn : n ≤ 60) (w : World) : (Instr.makeSlice 37 (.int .i64 (n : Int)) (.int .i64 (n : Int))).run Try.prog w = .ok (.slice (some ⟨w.heap.size, 0, none⟩) n n) (w.alloc (.cells (flat (List.replicate n zeroEv)).toArray 42)) := by
  obtain ⟨i0, hi, hz0, hz1, hz2⟩ := info_parts infoEv
  have := run_make (P := Try.prog) w 37 42 i0 zeroEv.V Try.underlying37 hi hz0 .i64 .i64 (n : Int) (n : Int) (by omega) (Int.le_refl _) (by rw [hz2]; omega) (by omega)
  rw [this, hz1]
  have h2 := made_zero n
  simp only [Int.toNat_natCast]
  rw [← h2, Array.toArray_toList]
/-- the events by number, in block g -/
def NumIs (c : Cd) (k : Nat) (w : World) (e : Ending) (w' : World) : Prop := ∃ g, e = .returned (.slice (some ⟨g, 0, none⟩) (baseL c.len k) (baseL c.len k)) ∧ w.heap.size ≤ g ∧ w'.heap[g]? = some (.cells (flat ((allP c k).map (·.1))).toArray 42 (0, 0)) ∧ Below w.heap.size w w'
/-- where numbered stands: k rows told -/
structure NumS (c : Cd) (n k A g : Nat) (w wx : World) : Prop where
  all : wx.heap[A]? = some (.cells (fillE c n k).toArray 42 (0, 0))
  sum : SumAt g (baseL c.len k) wx
  ne : A ≠ g
  la : w.heap.size ≤ A
  lg : w.heap.size ≤ g
  below : Below w.heap.size w wx
theorem fill_zero (c : Cd) (n : Nat) : fillE c n 0 = flat (List.replicate n zeroEv) := by unfold fillE; rfl
theorem NumS.one (c : Cd) (n : Nat) {w w1 w2 : World} (h1 : Below w.heap.size w w1) (hs : SumAt (w1.alloc (.cells (flat (List.replicate n zeroEv)).toArray 42)).heap.size 0 w2) (hb : Below (w1.alloc (.cells (flat (List.replicate n zeroEv)).toArray 42)).heap.size (w1.alloc (.cells (flat (List.replicate n zeroEv)).toArray 42)) w2) :
    NumS c n 0 w1.heap.size (w1.heap.size + 1) w w2 := by
  have hz : (w1.alloc (.cells (flat (List.replicate n zeroEv)).toArray 42)).heap.size = w1.heap.size + 1 := by simp
  have h2 := (box_below w1 (.cells (flat (List.replicate n zeroEv)).toArray 42))
  have h0 : (w1.alloc (.cells (flat (List.replicate n zeroEv)).toArray 42)).heap[w1.heap.size]? = some (.cells (flat (List.replicate n zeroEv)).toArray 42 (0, 0)) := Array.getElem?_push_size
  refine ⟨?_, by rw [← hz]; exact hs, by omega, h1.size, by have := h1.size; omega, h1.trans ((h2.mono h1.size).trans (hb.mono (by have := h1.size; omega)))⟩
  rw [fill_zero, ← h0]
  exact hb.block _ (by omega)
theorem NumS.two (c : Cd) (n : Nat) {w w1 w2 : World} (h1 : Below w.heap.size w w1) (hs : SumAt w1.heap.size 0 w2) (hb : Below w1.heap.size w1 w2) (hz : w2.heap.size = w1.heap.size + 1) :
    NumS c n 0 w2.heap.size w1.heap.size w (w2.alloc (.cells (flat (List.replicate n zeroEv)).toArray 42)) := by
  have h2 := (box_below w2 (.cells (flat (List.replicate n zeroEv)).toArray 42))
  have h0 : (w2.alloc (.cells (flat (List.replicate n zeroEv)).toArray 42)).heap[w2.heap.size]? = some (.cells (flat (List.replicate n zeroEv)).toArray 42 (0, 0)) := Array.getElem?_push_size
  have hw2 : w.heap.size ≤ w2.heap.size := by have := h1.size; omega
  refine ⟨?_, hs.on h2, by omega, hw2, h1.size, h1.trans ((hb.mono h1.size).trans (h2.mono hw2))⟩
  rw [fill_zero, ← h0]
theorem min_len {a b n : Nat} (h : a ≤ b) (hn : n = a * 14) : n = Nat.min a b * 14 := by rw [hn]; congr 1; exact (Nat.min_eq_left h).symm
/-- the counter was told a row -/
structure NumT (c : Cd) (n k s A g : Nat) (w wx : World) : Prop where
  all : wx.heap[A]? = some (.cells (fillE c n k).toArray 42 (0, 0))
  sum : SumAt g s wx
  ne : A ≠ g
  la : w.heap.size ≤ A
  lg : w.heap.size ≤ g
  below : Below w.heap.size w wx
theorem NumS.told {c : Cd} {n k A g s : Nat} {w wr w2 : World} (h : NumS c n k A g w wr) (hs : SumAt g s w2) (hb : Below g wr w2) (ho : ∀ j, j ≠ g → w2.heap[j]? = wr.heap[j]?) (_hz : w2.heap.size = wr.heap.size) : NumT c n k s A g w w2 :=
  ⟨(ho A h.ne).trans h.all, hs, h.ne, h.la, h.lg, h.below.trans (hb.mono h.lg)⟩
theorem NumT.filled {c : Cd} {n k A g : Nat} {w w2 w3 : World} (h : NumT c n k (baseL c.len k + c.len k) A g w w2) (hf : w3.heap[A]? = some (.cells (fillE c n (k + 1)).toArray 42 (0, 0))) (hb : Below w.heap.size w w3) (ho : ∀ j, j ≠ A → w3.heap[j]? = w2.heap[j]?) : NumS c n (k + 1) A g w w3 :=
  ⟨hf, (ho g (Ne.symm h.ne)).trans h.sum, h.ne, h.la, h.lg, hb⟩
theorem info14 : (Try.prog.info? 42).map (·.size) = some 14 := by kernel_rfl
theorem row_cells {n b off : Nat} {ev : Nat → Ev} {el : Nat → El} {w : World} (h : Rw n b off ev el w) : ∀ j v, (flat ((List.range n).map ev))[j]? = some v → w.cell? ⟨b, off + j, none⟩ = some v := by
  intro j v hv
  have hl : j < n * 14 := by
    have := (List.getElem?_eq_some_iff.1 hv).1
    rwa [flat_len, List.length_map, List.length_range] at this
  have hk : j / 14 < n := by omega
  have he : ((List.range n).map ev)[j / 14]? = some (ev (j / 14)) := by simp [hk]
  have hrow : ∃ u, (ev (j / 14)).row[j % 14]? = some u := by
    have : j % 14 < (ev (j / 14)).row.length := by rw [row_len]; omega
    exact ⟨_, List.getElem?_eq_getElem this⟩
  obtain ⟨u, hu⟩ := hrow
  have h2 := flat_at _ (j / 14) (j % 14) _ u he hu
  rw [show j / 14 * 14 + j % 14 = j by omega] at h2
  obtain rfl : v = u := by rw [hv] at h2; exact Option.some.inj h2
  have := h.at_ (j / 14) hk (j % 14) v (by unfold Ev.row at hu; simpa using hu)
  rw [show off + j / 14 * 14 + j % 14 = off + j by omega] at this
  exact this
theorem rowP_evs (c : Cd) (j : Nat) : (rowP c j).map (·.1) = (List.range (c.len j)).map (c.ev j) := by unfold rowP; rw [List.map_map]; rfl
theorem row_src {c : Cd} {j c2 : Nat} {a2 : Option Addr} {w : World} {cs : List Value} (h : RowV w (.slice a2 (c.len j) c2) (c.len j) (c.ev j) (c.el j)) (hcs : flat ((rowP c j).map (·.1)) = cs) (hp : 0 < c.len j) : ∃ ad, a2 = some ad ∧ ∀ i v, cs[i]? = some v → w.cell? (ad.add i) = some v := by
  obtain ⟨a, cc, e, _, h⟩ := h
  injection e with e1 e2 e3
  subst e1
  rcases h with h | ⟨b, off, e, h⟩
  · omega
  · subst e
    refine ⟨_, rfl, fun i v hv => ?_⟩
    rw [Addr.add_lit]
    rw [← hcs, rowP_evs] at hv
    exact row_cells h i v hv
theorem one_src {c : Cd} {j c2 : Nat} {a2 : Option Addr} {w : World} (h : RowV w (.slice a2 (c.len j) c2) (c.len j) (c.ev j) (c.el j)) : ∀ v ∈ flat ((rowP c j).map (·.1)), v.oneCell' = true := by
  intro v hv
  unfold flat at hv
  rw [List.mem_flatMap] at hv
  obtain ⟨e, he, hv⟩ := hv
  rw [rowP_evs, List.mem_map] at he
  obtain ⟨i, hi, rfl⟩ := he
  have hi' := List.mem_range.1 hi
  obtain ⟨a, cc, e, _, h⟩ := h
  rcases h with h | ⟨b, off, _, h⟩
  · omega
  · have hf := (h.reads i hi').flat
    simp only [Ev.row, List.mem_cons, List.not_mem_nil, or_false] at hv
    rcases hv with rfl | rfl | rfl | rfl | rfl | rfl | rfl | rfl | rfl | rfl | rfl | rfl | rfl | rfl <;> first | rfl | exact hf.1 | exact hf.2.1 | exact hf.2.2
set_option maxRecDepth 100000 in
set_option maxHeartbeats 4000000 in
theorem numbered_any (c : Cd) (k : Nat) (a : Option Addr) (cp : Nat) (w : World) (hk : k ≤ 9) (hn : baseL c.len k ≤ 60) (h : HsAt c k a w) : Calls Try.prog 23 #[.slice a k cp] w fun e w' => NumIs c k w e w' := by
  have HV := Lib.hid h
  have KL := Lib.hid (fun w0 (h0 : HsAt c k a w0) => length_any c k a cp w0 hk hn h0)
  have hm := make_evs (baseL c.len k) hn
  clear h
  go_enter Try.func23, Try.ntmps23
  go_upto_region 1 with fail
  go_cut [3, 4] (fun t3 t4 wx => ∃ A g, t3 = .slice (some ⟨A, 0, none⟩) (baseL c.len k) (baseL c.len k) ∧ t4 = .func (.func 52) #[] #[.pointer (some ⟨g, 0, none⟩)] ∧ Hid (NumS c (baseL c.len k) 0 A g w wx))
  case first =>
    have HV0 := Lib.hid (HV.out.below (Below.refl w.heap.size w).drew)
    go_region_law (first
      | (go_simp; go_at_call 22; (with_reducible refine (KL.out _ HV0.out).mono ?_); rintro e' w1 ⟨rfl, hb⟩; have L1 := Lib.hid ((Below.refl w.heap.size w).drew.trans hb); clear hb)
      | (go_simp; go_at_call 33; (with_reducible refine (counter_any _).mono ?_); rintro e' w2 ⟨rfl, hs, hb, hz⟩; have S2 := Lib.hid hs; have L2 := Lib.hid hb; have Z2 := Lib.hid hz; clear hs hb hz))
    all_goals
      go_wp2_with fail
      go_meet
      first
        | exact ⟨_, _, rfl, rfl, Lib.hid (NumS.one c _ L1.out S2.out L2.out)⟩
        | exact ⟨_, _, rfl, rfl, Lib.hid (NumS.two c _ L1.out S2.out L2.out Z2.out)⟩
        | skip
  case rest =>
    obtain ⟨A, g, rfl, rfl, S0⟩ := hcut
    go_wp2
    go_loopw [13] (fun vi wr => ∃ (j : Nat), j ≤ k ∧ vi = .int .i64 j ∧ Hid (NumS c (baseL c.len k) j A g w wr)) (fun vi _ => k - (intOf vi).toNat)
    case atStart => exact ⟨0, Nat.zero_le _, rfl, S0⟩
    case round =>
      obtain ⟨j, hj, rfl, hS⟩ := hrel
      by_cases hlt : j < k
      · obtain ⟨b, off, a2, c2, rfl, hc0, hbs, hr0⟩ := HV.out.row j hlt
        have hc := (hS.out.below.cell (p := ⟨b, off + j, none⟩) hbs).trans hc0
        have HR := Lib.hid hr0
        clear hc0 hr0
        have hm := Lib.hid (baseL_lt c.len j k hlt)
        have hjl : baseL c.len j ≤ baseL c.len k := by have := hm.out; omega
        obtain ⟨cs, hcs⟩ : ∃ cs, Hid (flat ((rowP c j).map (·.1)) = cs) := ⟨_, Lib.hid rfl⟩
        have hcl : Hid (cs.length = c.len j * 14) := Lib.hid (by rw [← hcs.out, flat_len, List.length_map, rowP_len])
        have hst : Hid (splice (fillE c (baseL c.len k) j) (baseL c.len j * 14) cs = fillE c (baseL c.len k) (j + 1)) := Lib.hid (by rw [← hcs.out]; exact fill_step c _ j hm.out)
        by_cases hend : baseL c.len k = baseL c.len j
        · have hne : decide (baseL c.len k = baseL c.len j) = true := by simpa using hend
          go_wp2_with (first
            | (go_at_call 52; (with_reducible refine (count_any a2 (c.len j) c2 g (baseL c.len j) wr hS.out.sum (by have := hm.out; omega)).mono ?_); rintro e' w2 ⟨rfl, hs, hb, ho, hz⟩; have S2 := Lib.hid (hS.out.told hs hb ho hz); clear hs hb ho hz)
            | (refine wpList_copy_spliceK rfl (.tmp 21) (.tmp 22) 37 37 rfl 42 Try.underlying37 14 info14 (by decide) _ _ _ _ _ _ rfl rfl A (baseL c.len j * 14) (fillE c (baseL c.len k) j) 42 S2.out.all cs (min_len (by have := hm.out; omega) hcl.out) (fun hp => by have := hcl.out; have := hm.out; first | exact ⟨rfl, row_src (HR.out.below S2.out.below) hcs.out (by omega)⟩ | (exfalso; omega)) (by have := hcl.out; have := hm.out; rw [fill_len c _ j hjl]; omega) (by rw [← hcs.out]; exact one_src HR.out) w.heap.size w S2.out.below S2.out.la ?_; intro w3 hf hb3 ho3 hz3 hbA; have S3 := Lib.hid (S2.out.filled (by rw [← hst.out]; exact hf.out) hb3 ho3); clear hf hb3 ho3 hz3 hbA))
          rw [hend] at S3 ⊢
          go_roundw
          case rel => exact ⟨j + 1, by omega, by go_num, S3⟩
          case measure => simp [intOf]; omega
        · have hne : decide (baseL c.len k = baseL c.len j) = false := by simpa using hend
          go_wp2_with (first
            | (go_at_call 52; (with_reducible refine (count_any a2 (c.len j) c2 g (baseL c.len j) wr hS.out.sum (by have := hm.out; omega)).mono ?_); rintro e' w2 ⟨rfl, hs, hb, ho, hz⟩; have S2 := Lib.hid (hS.out.told hs hb ho hz); clear hs hb ho hz)
            | (refine wpList_copy_spliceK rfl (.tmp 21) (.tmp 22) 37 37 rfl 42 Try.underlying37 14 info14 (by decide) _ _ _ _ _ _ rfl rfl A (baseL c.len j * 14) (fillE c (baseL c.len k) j) 42 S2.out.all cs (min_len (by have := hm.out; omega) hcl.out) (fun hp => by have := hcl.out; have := hm.out; first | exact ⟨rfl, row_src (HR.out.below S2.out.below) hcs.out (by omega)⟩ | (exfalso; omega)) (by have := hcl.out; have := hm.out; rw [fill_len c _ j hjl]; omega) (by rw [← hcs.out]; exact one_src HR.out) w.heap.size w S2.out.below S2.out.la ?_; intro w3 hf hb3 ho3 hz3 hbA; have S3 := Lib.hid (S2.out.filled (by rw [← hst.out]; exact hf.out) hb3 ho3); clear hf hb3 ho3 hz3 hbA))
          go_roundw
          case rel => exact ⟨j + 1, by omega, by go_num, S3⟩
          case measure => simp [intOf]; omega
      · obtain rfl : j = k := by omega
        go_wp2
        go_ret
        have := hS.out.all
        unfold fillE at this
        rw [Nat.sub_self] at this
        exact ⟨A, rfl, hS.out.la, by simpa [flat] using this, hS.out.below⟩
end Go.Proofs.Ytokhnjcbcpmmjaa
