/-
  Proved here: what a map that was filled from the first cells, then by the order, then emptied by a list of what is last, holds. No condition.
-/
import Derived.Test.YtcebcmmbokajcaaCdNumWords
namespace Go.Proofs.Ytcebcmmbokajcaa
set_option linter.unusedVariables false
set_option linter.unusedSimpArgs false
open Go.RowKit Go.Maps

/-- so many of the first cells -/
def wF (fs : List (Int × Int)) : Nat → Int → Option Int
  | 0, _ => none
  | k + 1, x => if fA fs k = x then some (fV fs k) else wF fs k x
theorem wF_mem (fs : List (Int × Int)) : ∀ (k : Nat) (x v : Int), wF fs k x = some v → ∃ i, i < k ∧ fA fs i = x ∧ fV fs i = v
  | 0, _, _, h => by cases h
  | k + 1, x, v, h => by
    unfold wF at h
    split at h
    · rename_i hx; cases h; exact ⟨k, by omega, hx, rfl⟩
    · obtain ⟨i, h1, h2⟩ := wF_mem fs k x v h; exact ⟨i, by omega, h2⟩
theorem wF_at {fs : List (Int × Int)} (hr : ∀ i j, i < j → j < fs.length → fA fs i < fA fs j) : ∀ (k i : Nat), k ≤ fs.length → i < k → wF fs k (fA fs i) = some (fV fs i)
  | 0, i, _, h => by omega
  | k + 1, i, hk, h => by
    unfold wF
    by_cases e : i = k
    · subst e; rw [if_pos rfl]
    · have := hr i k (by omega) (by omega)
      rw [if_neg (by omega)]; exact wF_at hr k i (by omega) (by omega)
/-- and so many of the order -/
def wO (c : Cd) (k : Nat) (x : Int) : Option Int := (metL c k x).or (wF c.fs c.fs.length x)
theorem wO_next (c : Cd) (k : Nat) (y : Int) : wO c (k + 1) y = if writesE (c.at (atI c.od k).toNat).1 = true ∧ (c.at (atI c.od k).toNat).1.addr = y then some (c.at (atI c.od k).toNat).1.store else wO c k y := by
  show (if writesE (c.at (atI c.od k).toNat).1 = true ∧ (c.at (atI c.od k).toNat).1.addr = y then some (c.at (atI c.od k).toNat).1.store else metL c k y).or _ = _
  split <;> rfl
/-- and so many of a list struck out -/
def wL (c : Cd) (l : List (Int × Int)) : Nat → Int → Option Int
  | 0, x => wO c c.od.length x
  | k + 1, x => if fA l k = x then some 0 else wL c l k x
theorem wL_out (c : Cd) (l : List (Int × Int)) : ∀ (k : Nat) (x : Int), (∀ i, i < k → fA l i ≠ x) → wL c l k x = wO c c.od.length x
  | 0, _, _ => rfl
  | k + 1, x, h => by
    unfold wL
    rw [if_neg (h k (by omega))]
    exact wL_out c l k x (fun i hi => h i (by omega))
theorem wL_in (c : Cd) (l : List (Int × Int)) : ∀ (k i : Nat) (x : Int), i < k → fA l i = x → wL c l k x = some 0
  | 0, i, _, h, _ => by omega
  | k + 1, i, x, h, hx => by
    unfold wL
    by_cases e : fA l k = x
    · rw [if_pos e]
    · rw [if_neg e]
      have : i ≠ k := fun he => e (he ▸ hx)
      exact wL_in c l k i x (by omega) hx
theorem fP_get (l : List (Int × Int)) (i : Nat) (hi : i < l.length) : l[i] = (fA l i, fV l i) := by
  simp [fA, fV, hi]
theorem wO_last {c : Cd} (hr : ∀ i j, i < j → j < c.fs.length → fA c.fs i < fA c.fs j) {p : Int × Int} (h : LastSet c p) : wO c c.od.length p.1 = some p.2 := by
  rcases h with ⟨h1, h2, _⟩ | ⟨h1, _⟩
  · obtain ⟨i, hi, e⟩ := List.mem_iff_getElem.1 h1
    rw [fP_get _ i hi] at e
    subst e
    unfold wO
    rw [h2]
    exact wF_at hr c.fs.length i (Nat.le_refl _) hi
  · unfold wO; rw [h1]; rfl
theorem wO_of {c : Cd} {x v : Int} (h : wO c c.od.length x = some v) (hv : v ≠ 0) : LastSet c (x, v) := by
  unfold wO at h
  cases hm : metL c c.od.length x with
  | none =>
    rw [hm] at h
    obtain ⟨i, hi, h1, h2⟩ := wF_mem _ _ _ _ h
    refine .inl ⟨List.mem_iff_getElem.2 ⟨i, hi, ?_⟩, hm, hv⟩
    rw [fP_get _ i hi, h1, h2]
  | some u =>
    rw [hm] at h
    cases h
    exact .inr ⟨hm, hv⟩
theorem wL_now {c : Cd} {l : List (Int × Int)} (hr : ∀ i j, i < j → j < c.fs.length → fA c.fs i < fA c.fs j) (hs : ∀ i j, i < j → j < l.length → fA l i < fA l j) (hm : ∀ p, p ∈ l ↔ LastSet c p) (k : Nat) (hk : k < l.length) : wL c l k (fA l k) = some (fV l k) ∧ fV l k ≠ 0 := by
  have h1 : LastSet c (fA l k, fV l k) := (hm _).1 (by rw [← fP_get l k hk]; exact List.getElem_mem hk)
  refine ⟨?_, ?_⟩
  · rw [wL_out c l k _ (fun i hi => by have := hs i k hi hk; omega)]
    exact wO_last hr h1
  · rcases h1 with ⟨_, _, h⟩ | ⟨_, h⟩ <;> exact h
theorem wL_end {c : Cd} {l : List (Int × Int)} (hm : ∀ p, p ∈ l ↔ LastSet c p) {x v : Int} (h : wL c l l.length x = some v) : v = 0 := by
  by_cases hv : v = 0
  · exact hv
  by_cases he : ∃ i, i < l.length ∧ fA l i = x
  · obtain ⟨i, hi, e⟩ := he
    rw [wL_in c l l.length i x hi e] at h
    cases h
    rfl
  · rw [wL_out c l l.length x (fun i hi e => he ⟨i, hi, e⟩)] at h
    obtain ⟨i, hi, e⟩ := List.mem_iff_getElem.1 ((hm _).2 (wO_of h hv))
    rw [fP_get _ i hi] at e
    exact absurd ⟨i, hi, (Prod.mk.inj e).1⟩ he
theorem Lk.put {c : Cd} {q : Cv} {w W W2 : World} {M : Nat} (h : Lk c q w W) (hg : W.grownBy W2 (some M)) (hM : w.heap.size < M) : Lk c q w W2 :=
  ⟨(hg.block _ h.box.lt (by simp; omega)).trans h.box, h.below.grown hg h.below.size (fun k hk => by cases hk; omega), h.here⟩
theorem first_six {c : Cd} {q : Cv} {w W : World} (h : Lk c q w W) {b off : Nat} (hq : q.aF = some ⟨b, off, none⟩) (hb : b < w.heap.size) (hc : CellsIn w b off c.fs) (k : Nat) (hk : k < c.fs.length) :
    W.cell? ⟨w.heap.size, 0, none⟩ = some (.slice (some ⟨b, off, none⟩) c.fs.length q.cF) ∧ W.cell? ⟨w.heap.size, 1, none⟩ = some (.slice q.aH c.nh q.cH) ∧ W.cell? ⟨w.heap.size, 2, none⟩ = some (.slice q.aR c.fr.length q.cR) ∧ W.cell? ⟨w.heap.size, 3, none⟩ = some (.slice q.aO c.od.length q.cO) ∧ W.cell? ⟨b, off + k * 2, none⟩ = some (.int .u64 (fA c.fs k)) ∧ W.cell? ⟨b, off + k * 2 + 1, none⟩ = some (.int .u64 (fV c.fs k)) := by
  obtain ⟨u0, u1, u2, u3⟩ := h.box.facts
  rw [hq] at u0
  obtain ⟨c0, c1⟩ := hc k hk
  exact ⟨u0, u1, u2, u3, (h.below.cell (p := ⟨b, off + k * 2, none⟩) hb).trans c0, (h.below.cell (p := ⟨b, off + k * 2 + 1, none⟩) hb).trans c1⟩
/-- the candidate's box, and the events that were answered -/
structure Wn (c : Cd) (q : Cv) (es : List Ev) (g : Nat) (w W : World) : Prop where
  lk : Lk c q w W
  blk : W.heap[g]? = some (.cells (flat es).toArray 50 (0, 0))
  like : ∀ n, n < c.N → ∃ a d y, es[n]? = some ((c.at n).1.lists a d y) ∧ ((c.at n).1.lists a d y).flat
theorem Wn.on {c : Cd} {q : Cv} {es : List Ev} {g : Nat} {w W W2 : World} (h : Wn c q es g w W) (hb : Below W.heap.size W W2) : Wn c q es g w W2 :=
  ⟨h.lk.on hb, (hb.block g (Array.getElem?_eq_some_iff.1 h.blk).1).trans h.blk, h.like⟩
theorem Wn.put {c : Cd} {q : Cv} {es : List Ev} {g : Nat} {w W W2 : World} {M : Nat} (h : Wn c q es g w W) (hg : W.grownBy W2 (some M)) (hM : w.heap.size < M) (hgM : M < g) : Wn c q es g w W2 :=
  ⟨h.lk.put hg hM, (hg.block g (Array.getElem?_eq_some_iff.1 h.blk).1 (by simp; omega)).trans h.blk, h.like⟩
theorem Wn.of {c : Cd} {q : Cv} {es : List Ev} {g : Nat} {w W : World} (h : Lk c q w W) (hlen : es.length = c.N) (hblk : W.heap[g]? = some (.cells (flat es).toArray 50 (0, 0))) (hcp : Cp (fun n => (c.at n).1) (fun n => (c.at n).2) es W) : Wn c q es g w W :=
  ⟨h, hblk, fun n hn => by
    have hlt : n < es.length := by rw [hlen]; exact hn
    have he : es[n]? = some es[n] := List.getElem?_eq_getElem hlt
    obtain ⟨a, d, y, hl⟩ := hcp.like n _ he
    have hr := (hcp.reads n _ he).flat
    rw [hl] at hr he
    exact ⟨a, d, y, he, hr⟩⟩
theorem Wn.ev {c : Cd} {q : Cv} {es : List Ev} {g : Nat} {w W : World} (h : Wn c q es g w W) (n : Nat) (hn : n < c.N) : ∃ a d y, (LoadE (.pointer (some ⟨g, n * 14, none⟩))).run Try.prog W = .ok ((c.at n).1.lists a d y).V W ∧ ((c.at n).1.lists a d y).flat := by
  obtain ⟨a, d, y, he, hf⟩ := h.like n hn
  refine ⟨a, d, y, EvIn.load (e := (c.at n).1.lists a d y) (fun j v hv => ?_), hf⟩
  have := flat_at es n j _ v he (by unfold Ev.row; simpa using hv)
  rw [cell_of_row W g (n * 14 + j) _ _ _ h.blk]
  simpa using this
/-- the map, and what is last -/
structure Wl (M n : Nat) (D : DataW Unit) (v : Value) (l : List (Int × Int)) (w W : World) : Prop where
  map : OMu M n D W
  reads : ReadsF W v l
  below : Below w.heap.size w W
  hM : w.heap.size < M
theorem Wl.on {M n : Nat} {D : DataW Unit} {v : Value} {l : List (Int × Int)} {w W W2 : World} (h : Wl M n D v l w W) (hb : Below W.heap.size W W2) : Wl M n D v l w W2 :=
  ⟨h.map.on hb, h.reads.below hb, h.below.trans (hb.mono h.below.size), h.hM⟩
theorem no_cell {w : World} {M i : Nat} {n : Nat} {D : DataW Unit} (h : OMu M n D w) : w.cell? ⟨M, i, none⟩ = none := by
  obtain ⟨es, clock, h1, _⟩ := h
  simp [World.cell?, h1]
theorem Wl.put {M n n2 : Nat} {D D2 : DataW Unit} {v : Value} {l : List (Int × Int)} {w W W2 : World} (h : Wl M n D v l w W) (hg : W.grownBy W2 (some M)) (hO : OMu M n2 D2 W2) : Wl M n2 D2 v l w W2 :=
  ⟨hO, by
    rcases h.reads with h0 | ⟨b, off, cp, e, h1, h2, h3, h4⟩
    · exact .inl h0
    · rcases Nat.eq_zero_or_pos l.length with hz | hz
      · exact .inr ⟨b, off, cp, e, h1, h2, Nat.lt_of_lt_of_le h3 hg.size, fun j hj => absurd hj (by omega)⟩
      · have hne : b ≠ M := fun he => by
          have := (h4 0 hz).1
          rw [he, no_cell h.map] at this
          cases this
        have hbk := hg.block b h3 (by simp; omega)
        refine .inr ⟨b, off, cp, e, h1, h2, Nat.lt_of_lt_of_le h3 hg.size, fun j hj => ?_⟩
        obtain ⟨c0, c1⟩ := h4 j hj
        exact ⟨by rw [← c0]; simp [World.cell?, hbk], by rw [← c1]; simp [World.cell?, hbk]⟩,
   h.below.grown hg h.below.size (fun k hk => by cases hk; have := h.hM; omega), h.hM⟩
/-- the map gone through -/
structure Wr (M r n : Nat) (D : DataW Unit) (left : Lit → Bool) (cnt : Nat) (w wr : World) : Prop where
  rng : wr.ranges Try.prog 31 (plainElem (H := Unit) Try.prog 31) M r n D left cnt
  below : Below w.heap.size w wr
  hr : w.heap.size ≤ r
theorem Wr.next {M r n : Nat} {D : DataW Unit} {left left2 : Lit → Bool} {cnt cnt2 : Nat} {w wr w2 : World} (h : Wr M r n D left cnt w wr) (hr : w2.ranges Try.prog 31 (plainElem (H := Unit) Try.prog 31) M r n D left2 cnt2) (hg : wr.grownBy w2 (some r)) : Wr M r n D left2 cnt2 w w2 :=
  ⟨hr, h.below.grown hg h.below.size (fun k hk => by cases hk; exact h.hr), h.hr⟩
theorem look_still {M n : Nat} {D : DataW Unit} {f : Int → Option Int} {x y : Int} {w : World} (h : OMu M n D w) (hM : MetD f D) (hf : f x = some y) (hwx : (Lit.int .u64 x).wf = true) : (Instr.lookup 63 (.map (some M)) (.int .u64 x) false).run Try.prog w = .ok (.int .u64 y) w := by
  obtain ⟨cc, hrun, hat, _⟩ := World.ownsMap.lookup_int h law_u64 Try.underlying63 Try.underlying31 (zero_u64 _) (keyOf_int_mk Try.underlying31 hwx)
  rw [hM.at_ x y hf] at hat
  have h3 : y = cc := congrArg (fun d : DataW Unit => match d with | .lit (.int _ z) => z | _ => 0) hat
  rw [h3]
  exact hrun
theorem metL_from (c : Cd) : ∀ (k : Nat) (x v : Int), metL c k x = some v → ∃ j, j < k ∧ (c.at (atI c.od j).toNat).1.addr = x
  | 0, _, _, h => by cases h
  | k + 1, x, v, h => by
    unfold metL at h
    split at h
    · rename_i hx; exact ⟨k, by omega, hx.2⟩
    · obtain ⟨j, h1, h2⟩ := metL_from c k x v h; exact ⟨j, by omega, h2⟩
/-- an address at which something is last is a word -/
theorem last_wf {c : Cd} (hL : Lt c) (hm : c.may = true) {p : Int × Int} (h : LastSet c p) : (Lit.int .u64 p.1).wf = true := by
  rcases h with ⟨h1, _⟩ | ⟨h1, _⟩
  · obtain ⟨i, hi, e⟩ := List.mem_iff_getElem.1 h1
    rw [fP_get _ i hi] at e
    subst e
    have := (hL.fw i hi).1
    exact WalkArith.wf_u64 (by omega)
  · obtain ⟨j, hj, e⟩ := metL_from c _ _ _ h1
    obtain ⟨h2, h3⟩ := may_in hm j hj
    rw [← e]
    exact (hL.word _ (by omega)).1
theorem l_wf {c : Cd} (hL : Lt c) (hm : c.may = true) {l : List (Int × Int)} (hl : ∀ p, p ∈ l ↔ LastSet c p) (k : Nat) (hk : k < l.length) : (Lit.int .u64 (fA l k)).wf = true :=
  last_wf hL hm (p := (fA l k, fV l k)) ((hl _).1 (by rw [← fP_get l k hk]; exact List.getElem_mem hk))
theorem wpStill_lookup {P : Program} {ops : Array Oper} {w : World} {Q : Act → Prop} {a : Act} {o : Oper} {rest : List Oper} {t : TypeId} (m x : Operand) (mv xv v : Value) (hw : Region.wanted o (yielded ops a.tmps) = true) (ho : o.op = .lookup t m x false) (hm : a.eval m = mv) (hx : a.eval x = xv)
    (hr : (Instr.lookup t mv xv false).run P w = .ok v w) (k : wpStill P ops w Q rest (a.put o.dst v)) : wpStill P ops w Q (o :: rest) a := by
  refine wpStill_val v hw ?_ k
  unfold execOp
  rw [ho]
  simp only [hm, hx, Sem.run_bind, hr, Result.andThen_ok]
  rfl
end Go.Proofs.Ytcebcmmbokajcaa
