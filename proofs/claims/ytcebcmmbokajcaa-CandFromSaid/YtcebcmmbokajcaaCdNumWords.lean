/-
  Words: what an order that may be tells of places; what the law CandNumbers stands on. No condition.
-/
import Derived.Test.YtcebcmmbokajcaaCdLives
import Derived.Test.YtcebcmmbokajcaaCdLight
import Derived.Test.YtcebcmmbokajcaaCdNumber
import Derived.Test.YtcebcmmbokajcaaCdFresh
import Derived.Test.YtcebcmmbokajcaaCdRef
import Derived.Test.YtcebcmmbokajcaaCdEvent
namespace Go.Proofs.Ytcebcmmbokajcaa
set_option linter.unusedVariables false
set_option linter.unusedSimpArgs false
open Go.RowKit

theorem Lw.lt {c : Cd} (h : Lw c) (he : ∀ h, h < c.nh → ∀ k, k < c.len h → WordE (c.ev h k)) (hf : ∀ j, j < c.fs.length → (0 ≤ fA c.fs j ∧ fA c.fs j < 18446744073709551616) ∧ (0 ≤ fV c.fs j ∧ fV c.fs j < 18446744073709551616)) : Lt c :=
  ⟨he, h.nh, h.n, h.small, h.fs, h.fr, h.od, hf⟩
theorem waits_mem (c : Cd) : ∀ (k n : Nat), waitsL c k n = true → memE (c.at n).1 = true
  | 0, _, h => h
  | k + 1, n, h => by
    have h2 : (waitsL c k n && decide ((n : Int) ≠ atI c.od k)) = true := h
    rw [Bool.and_eq_true] at h2
    exact waits_mem c k n h2.1
theorem waits_out (c : Cd) : ∀ (k n : Nat), memE (c.at n).1 = true → (∀ j, j < k → atI c.od j ≠ (n : Int)) → waitsL c k n = true
  | 0, _, h, _ => h
  | k + 1, n, h, hn => by
    show (waitsL c k n && decide ((n : Int) ≠ atI c.od k)) = true
    have hk : (n : Int) ≠ atI c.od k := fun e => hn k (by omega) e.symm
    rw [waits_out c k n h (fun j hj => hn j (by omega))]
    simpa using hk
theorem plc_none (c : Cd) (n : Nat) : ∀ (k : Nat), (∀ j, j < k → atI c.od j ≠ (n : Int)) → plcL c k n = -1
  | 0, _ => rfl
  | k + 1, h => by
    show (if (n : Int) = atI c.od k then (k : Int) else plcL c k n) = -1
    rw [if_neg (fun e => h k (by omega) e.symm)]
    exact plc_none c n k (fun j hj => h j (by omega))
theorem plc_some (c : Cd) (n : Nat) : ∀ (k : Nat), (∃ j, j < k ∧ atI c.od j = (n : Int)) → ∃ p : Nat, p < k ∧ plcL c k n = (p : Int) ∧ atI c.od p = (n : Int)
  | 0, ⟨_, h, _⟩ => by omega
  | k + 1, ⟨j, hj, he⟩ => by
    by_cases hk : (n : Int) = atI c.od k
    · exact ⟨k, by omega, by show (if (n : Int) = atI c.od k then (k : Int) else plcL c k n) = _; rw [if_pos hk], hk.symm⟩
    · have hjk : j < k := by
        rcases Nat.lt_or_ge j k with h | h
        · exact h
        · obtain rfl : j = k := by omega
          exact absurd he.symm hk
      obtain ⟨p, h1, h2, h3⟩ := plc_some c n k ⟨j, hjk, he⟩
      exact ⟨p, by omega, by show (if (n : Int) = atI c.od k then (k : Int) else plcL c k n) = _; rw [if_neg hk]; exact h2, h3⟩
theorem ord_mem {c : Cd} (hm : c.may = true) (k n : Nat) (hk : k < c.od.length) (h : atI c.od k = (n : Int)) : memE (c.at n).1 = true := by
  have := all_at _ _ (may_ord hm).1 k hk
  unfold ordAt at this
  rw [Bool.and_eq_true, h, Int.toNat_natCast] at this
  exact waits_mem c k n this.2
/-- one of memory's has its place -/
theorem place_mem {c : Cd} (hm : c.may = true) (n : Nat) (hn : n < c.N) (h : memE (c.at n).1 = true) : ∃ p : Nat, p < c.od.length ∧ plcL c c.od.length n = (p : Int) ∧ atI c.od p = (n : Int) := by
  refine plc_some c n _ ?_
  refine Classical.byContradiction fun hno => ?_
  have h1 := waits_out c c.od.length n h (fun j hj e => hno ⟨j, hj, e⟩)
  rw [countW_zero _ _ (may_ord hm).2 n hn] at h1
  cases h1
/-- a fence none -/
theorem place_not {c : Cd} (hm : c.may = true) (n : Nat) (h : memE (c.at n).1 = false) : plcL c c.od.length n = -1 :=
  plc_none c n _ (fun j hj e => by rw [ord_mem hm j n hj e] at h; cases h)
theorem count_ord {c : Cd} : ∀ (k : Nat), ordL c k = true → countW (waitsL c k) c.N + k = countW (fun n => memE (c.at n).1) c.N
  | 0, _ => rfl
  | k + 1, h => by
    unfold ordL at h
    rw [all_succ, Bool.and_eq_true] at h
    have := count_ord k h.1
    have := ord_step c k h.2
    omega
theorem count_mem {c : Cd} (hm : c.may = true) : countW (fun n => memE (c.at n).1) c.N = c.od.length := by
  have := count_ord c.od.length (may_ord hm).1
  rw [(may_ord hm).2] at this
  omega
/-- the law's lists -/
structure Nu (c : Cd) (q : Cv) (es : List Ev) (g1 g2 : Nat) (w W : World) : Prop where
  lk : Lk c q w W
  len : es.length = c.N
  blk : W.heap[g1]? = some (.cells (flat es).toArray 50 (0, 0))
  cp : Cp (fun n => (c.at n).1) (fun n => (c.at n).2) es W
  pl : IntsAt (plcL c c.od.length) c.N g2 W
theorem Nu.on {c : Cd} {q : Cv} {es : List Ev} {g1 g2 : Nat} {w W W2 : World} (h : Nu c q es g1 g2 w W) (hb : Below W.heap.size W W2) : Nu c q es g1 g2 w W2 :=
  ⟨h.lk.on hb, h.len, (hb.block g1 (Array.getElem?_eq_some_iff.1 h.blk).1).trans h.blk, h.cp.on hb, h.pl.on hb⟩
/-- an event of the copy -/
theorem Nu.ev {c : Cd} {q : Cv} {es : List Ev} {g1 g2 : Nat} {w W : World} (h : Nu c q es g1 g2 w W) (n : Nat) (hn : n < c.N) : ∃ a d y, EvIn ((c.at n).1.lists a d y) g1 (n * 14) W ∧ EReads W ((c.at n).1.lists a d y) (c.at n).2 := by
  have hlt : n < es.length := by rw [h.len]; exact hn
  have he : es[n]? = some es[n] := List.getElem?_eq_getElem hlt
  obtain ⟨a, d, y, hl⟩ := h.cp.like n _ he
  have hr := h.cp.reads n _ he
  rw [hl] at he hr
  refine ⟨a, d, y, fun j v hv => ?_, hr⟩
  have := flat_at es n j _ v he (by unfold Ev.row; simpa using hv)
  rw [cell_of_row W g1 (n * 14 + j) _ _ _ h.blk]
  simpa using this
/-- an event of the copy, and its own -/
structure Sx (c : Cd) (q : Cv) (es : List Ev) (g1 g2 b off b2 off2 c2 h j K : Nat) (va vd vy : Value) (w W : World) : Prop where
  nu : Nu c q es g1 g2 w W
  e1 : EvIn ((c.ev h j).lists va vd vy) g1 (K * 14) W
  e2 : EvIn (c.ev h j) b2 (off2 + j * 14) W
  s1 : W.cell? ⟨w.heap.size, 1, none⟩ = some (.slice (some ⟨b, off, none⟩) c.nh q.cH)
  s2 : W.cell? ⟨b, off + h, none⟩ = some (.slice (some ⟨b2, off2, none⟩) (c.len h) c2)
  r1 : EReads W ((c.ev h j).lists va vd vy) (c.el h j)
  r2 : EReads W (c.ev h j) (c.el h j)
  lt : b2 < W.heap.size
theorem Sx.on {c : Cd} {q : Cv} {es : List Ev} {g1 g2 b off b2 off2 c2 h j K : Nat} {va vd vy : Value} {w W W2 : World} (x : Sx c q es g1 g2 b off b2 off2 c2 h j K va vd vy w W) (hb : Below W.heap.size W W2) : Sx c q es g1 g2 b off b2 off2 c2 h j K va vd vy w W2 :=
  ⟨x.nu.on hb, x.e1.below hb (Array.getElem?_eq_some_iff.1 x.nu.blk).1, x.e2.below hb x.lt, (hb.cell (p := ⟨w.heap.size, 1, none⟩) x.nu.lk.box.lt).trans x.s1, (hb.cell (p := ⟨b, off + h, none⟩) (World.block_lt_of_cell? W _ x.s2)).trans x.s2, x.r1.below hb, x.r2.below hb, Nat.lt_of_lt_of_le x.lt hb.size⟩
theorem Sx.four {c : Cd} {q : Cv} {es : List Ev} {g1 g2 b off b2 off2 c2 h j K : Nat} {va vd vy : Value} {w W : World} (x : Sx c q es g1 g2 b off b2 off2 c2 h j K va vd vy w W) : (LoadE (.pointer (some ⟨g1, K * 14, none⟩))).run Try.prog W = .ok ((c.ev h j).lists va vd vy).V W ∧ W.cell? ⟨w.heap.size, 1, none⟩ = some (.slice (some ⟨b, off, none⟩) c.nh q.cH) ∧ W.cell? ⟨b, off + h, none⟩ = some (.slice (some ⟨b2, off2, none⟩) (c.len h) c2) ∧ (LoadE (.pointer (some ⟨b2, off2 + j * 14, none⟩))).run Try.prog W = .ok (c.ev h j).V W :=
  ⟨x.e1.load, x.s1, x.s2, x.e2.load⟩
theorem lists_kind (e : Ev) (a d y : Value) : memE (e.lists a d y) = memE e := rfl
end Go.Proofs.Ytcebcmmbokajcaa
