/-
  Proved here: a taint that comes in as an argument is its cells, and its lists read as what they hold. No condition.
-/
import Derived.Test.YtfbnijcmfaeoeaaGreatTaintTable
import Derived.Deep.Slices
import Derived.ProofKit
import Derived.OpenShut
import Derived.ChangeOld
import Derived.RowKit
import Derived.Deep.Fields
namespace Go.Proofs.YtfbnijcmfaeoeaaGreat
open Go.ChangeShapes Go.WideShapes Go.ChangeAt Go.RowKit Go.Deep

/-- a slice of ints that came in, as the row's frame tells of it -/
theorem arg_reads {w : World} {x : Addr} {len cap : Nat} {zs : List Int} (hl : len ≤ cap) (hm : cap ≤ maxLen) (hz : zs.length = cap) (hpos : 0 < len)
    (hcell : ∀ i, i < zs.length → w.cell? (x.add i) = some (.int .i64 (zs.getD i 0))) : ReadsI w (.slice (some x) len cap) (zs.take len) := by
  have hlen : (zs.take len).length = len := by rw [List.length_take]; omega
  obtain ⟨b, off, spot⟩ := x
  have hspot : spot = none := by
    have hc := hcell 0 (by omega)
    simpa [Addr.add] using World.cell?_spot hc
  subst hspot
  have hb : b < w.heap.size := by
    have hc := hcell 0 (by omega)
    rw [Addr.add_lit] at hc
    exact World.block_lt_of_cell? w _ hc
  refine .inr ⟨b, off, cap, by rw [hlen], by omega, by unfold maxLen at hm; omega, hb, fun j hj => ?_⟩
  rw [hlen] at hj
  have hc := hcell j (by omega)
  rw [Addr.add_lit] at hc
  rw [hc]
  unfold atI
  simp [List.getD, hj]
theorem take_one_at {l : List Value} {k : Nat} {v : Value} (h : (l.drop k).take 1 = [v]) : l[k]? = some v := by
  have h2 : ((l.drop k).take 1)[0]? = some v := by rw [h]; rfl
  rw [List.getElem?_take_of_lt (by omega), List.getElem?_drop] at h2
  simpa using h2
theorem cells_taint : Tryz.prog.cellsOf 25 = 33 := by kernel_rfl
theorem cells_ints : Tryz.prog.cellsOf 22 = 1 := by kernel_rfl
section
variable {H : Type} {enc : TypeId × Value → H} {w : World} {base : Nat} {held : Bool}
/-- a slice of ints, opened -/
theorem open_list {fuel : Nat} {cs : List Value} {x : DataW H × List MemPlace} (h : DataW.trod enc Tryz.prog w base (fun _ => true) held fuel 22 cs = some x) :
    ∃ (v : Value) (l : List Int), cs = [v] ∧ ReadsI w v l := by
  rcases open_ints Tryz.underlying22 Tryz.underlying3 (by kernel_rfl) h with ⟨hcs, _⟩ | ⟨x, l, c, zs, hcs, _, hl, hm, hz, _, hcell, hwz⟩
  · exact ⟨_, [], hcs, ReadsI.nil w⟩
  · rcases Nat.eq_zero_or_pos l with h0 | h0
    · subst h0
      exact ⟨_, [], hcs, .inl ⟨⟨some x, c, rfl, fun e => by cases e⟩, rfl⟩⟩
    · exact ⟨_, zs.take l, hcs, arg_reads hl hm (by simpa using hz) h0 hcell⟩
set_option maxRecDepth 100000 in
theorem open_taint {r : Reach} {b0 : Nat} {v : Value} {d : DataW H} {p : List MemPlace} (hv : Value.okWide Tryz.prog w r b0 25 v) (h : DataW.Trod enc Tryz.prog w base (fun _ => true) held 25 v d p) :
    ∃ (t : Ta) (l : Tl), v = t.V ∧ TReads w t l := by
  obtain ⟨cs, rfl, hsz⟩ := okWide_struct Tryz.underlying25 hv
  rw [cells_taint] at hsz
  obtain ⟨fuel, hf⟩ := h
  obtain ⟨xs, n, _, hx, _, hl, hq⟩ := DataW.trod_struct Tryz.underlying25 hf
  have q0 := hq 0 _ rfl
  have q1 := hq 1 _ rfl
  rw [List.getElem?_eq_getElem (show 0 < xs.length by rw [hl]; decide)] at q0
  rw [List.getElem?_eq_getElem (show 1 < xs.length by rw [hl]; decide)] at q1
  obtain ⟨ys, k, _, _, _, hyl, hy⟩ := DataW.trod_array Tryz.underlying23 q0
  have hlen : cs.toList.length = 33 := by simpa using hsz
  have each : ∀ i, ∃ p : Value × List Int, i < 32 → cs.toList[i]? = some p.1 ∧ ReadsI w p.1 p.2 := by
    intro i
    by_cases hi : i < 32
    · have qi := hy i (by omega)
      rw [List.getElem?_eq_getElem (by omega)] at qi
      obtain ⟨v, l, e, hr⟩ := open_list qi
      have e' : (((cs.toList.drop 0).take 32).drop (i * 1)).take 1 = [v] := e
      have e2 := take_one_at e'
      rw [Nat.mul_one, List.getElem?_take_of_lt hi, List.drop_zero] at e2
      exact ⟨(v, l), fun _ => ⟨e2, hr⟩⟩
    · exact ⟨(undef, []), fun h => absurd h hi⟩
  obtain ⟨vw, lw, ew, hw⟩ := open_list q1
  have ew' : (cs.toList.drop 32).take 1 = [vw] := ew
  have ew2 := take_one_at ew'
  obtain ⟨f, hf2⟩ := Classical.axiomOfChoice each
  have hv32 : ((List.range 32).map fun k => (f k).1).length = 32 := by simp
  have hl32 : ((List.range 32).map fun k => (f k).2).length = 32 := by simp
  have hget : ∀ k, k < 32 → ((List.range 32).map fun k => (f k).1)[k]? = some (f k).1 := fun k hk => by simp [hk]
  have hgetl : ∀ k, k < 32 → ((List.range 32).map fun k => (f k).2)[k]? = some (f k).2 := fun k hk => by simp [hk]
  refine ⟨⟨(List.range 32).map fun k => (f k).1, vw, hv32⟩, ⟨(List.range 32).map fun k => (f k).2, lw, hl32⟩, ?_, fun k hk => ?_, hw⟩
  · show Value.agg cs = Value.agg (tC _)
    congr 1
    refine Array.toList_inj.1 (List.ext_getElem? fun i => ?_)
    show cs.toList[i]? = (((List.range 32).map fun k => (f k).1) ++ [vw])[i]?
    rcases Nat.lt_or_ge i 32 with hi | hi
    · rw [List.getElem?_append_left (by omega), hget i hi]
      exact (hf2 i hi).1
    · rw [List.getElem?_append_right (by omega), hv32]
      rcases Nat.eq_or_lt_of_le hi with h | h
      · subst h
        exact ew2
      · rw [List.getElem?_eq_none (by omega), List.getElem?_eq_none (by simp; omega)]
  · unfold Ta.v Tl.x
    rw [List.getD_eq_getElem?_getD, List.getD_eq_getElem?_getD, hget k hk, hgetl k hk]
    exact (hf2 k hk).2
end
end Go.Proofs.YtfbnijcmfaeoeaaGreat
