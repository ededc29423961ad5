/-
  Proved here: two copies of a candidate in boxes of their own: what each keeps while the other's box is changed; append of one number as a step of a region that draws. No condition.
  (With it: Proved here: the copy with one From another, with its Order cut at the front, with a number more in its Order; what fits. No condition.)
-/
import Derived.Test.YtcebcmmbokajcaaCdCopyAs
import Derived.Laws.OwnMore
namespace Go.Proofs.Ytcebcmmbokajcaa
set_option linter.unusedVariables false
set_option linter.unusedSimpArgs false
open Go.RowKit

theorem findX_none (c : Cd) (n : Nat) : findX c n (-1) = (!readsE (c.at n).1 || (c.at n).1.load == valL c.fs (c.at n).1.addr) := by
  unfold findX
  cases readsE (c.at n).1 <;> simp
theorem findX_some (c : Cd) (n f : Nat) (hf : f < c.N) : findX c n f = (readsE (c.at n).1 && (decide (f ≠ n) && (writesE (c.at f).1 && ((c.at f).1.addr == (c.at n).1.addr && (c.at f).1.store == (c.at n).1.load)))) := by
  have hw : withinB (f : Int) c.N = true := by unfold withinB; simp; omega
  have h1 : ((f : Int) == -1) = false := by simp
  have h2 : ¬ (f : Int) = -1 := by omega
  unfold findX
  rw [hw, h1, if_neg h2]
  cases hr : readsE (c.at n).1
  · simp
  · by_cases e : f = n
    · subst e; simp
    · have e2 : ¬ (f : Int) = (n : Int) := by omega
      simp [e, e2]
theorem CAt.low {c : Cd} {q : Cv} {W : World} (h : CAt c q W) (j : Nat) (hj : j < c.nh) (k : Nat) (hk : k < c.len j) : 0 ≤ (c.ev j k).addr := by
  obtain ⟨_, _, a2, c2, _, _, _, a3, c3, _, _, h0 | ⟨b, off, _, hr⟩⟩ := h.harts.row j hj
  · omega
  · exact hr.low k hk
theorem own_some {W : World} {base size n : Nat} {e : TypeId} {a : Option Addr} {m c : Nat} {xs : List Value} (h : W.ownsRow base e size (.slice a m c) n xs) (hn : n ≠ 0) : ∃ g, a = some ⟨g, 0, none⟩ ∧ base ≤ g ∧ g < W.heap.size := by
  rcases h.2 with ⟨_, h0⟩ | ⟨g, cap, cur, e, hb, hgg, _⟩
  · exact absurd h0 hn
  · injection e with e1 e2 e3
    exact ⟨g, e1, hb, (Array.getElem?_eq_some_iff.1 hgg).1⟩
/-- an event of those that were answered -/
def evE (es : List Ev) (k : Nat) : Ev := (es[k]?).getD zeroEv
/-- what is as it was while a From is judged -/
structure Zf (c : Cd) (q : Cv) (es : List Ev) (g1 : Nat) (v0 v1 v2 v3 : Value) (gX : Nat) (d : Cd) (qx : Cv) (w W : World) : Prop where
  lk : Lk c q w W
  ev : ∀ k, k < c.N → EvIn (evE es k) g1 (k * 14) W
  lt : g1 < W.heap.size
  x : CBox v0 v1 v2 v3 gX W
  p : CAt d qx W
theorem Zf.on {c : Cd} {q : Cv} {es : List Ev} {g1 : Nat} {v0 v1 v2 v3 : Value} {gX : Nat} {d : Cd} {qx : Cv} {w W W2 : World} (h : Zf c q es g1 v0 v1 v2 v3 gX d qx w W) (hb : Below W.heap.size W W2) : Zf c q es g1 v0 v1 v2 v3 gX d qx w W2 :=
  ⟨h.lk.on hb, fun k hk => (h.ev k hk).below hb h.lt, Nat.lt_of_lt_of_le h.lt hb.size, h.x.on hb, h.p.below hb⟩
theorem Zf.seven {c : Cd} {q : Cv} {es : List Ev} {g1 : Nat} {v0 v1 v2 v3 : Value} {gX : Nat} {d : Cd} {qx : Cv} {w W : World} (h : Zf c q es g1 v0 v1 v2 v3 gX d qx w W) {n : Nat} (hn : n < c.N) :
    W.cell? ⟨w.heap.size, 0, none⟩ = some (.slice q.aF c.fs.length q.cF) ∧ W.cell? ⟨w.heap.size, 1, none⟩ = some (.slice q.aH c.nh q.cH) ∧ W.cell? ⟨w.heap.size, 2, none⟩ = some (.slice q.aR c.fr.length q.cR) ∧ W.cell? ⟨w.heap.size, 3, none⟩ = some (.slice q.aO c.od.length q.cO) ∧ (LoadE (.pointer (some ⟨g1, n * 14, none⟩))).run Try.prog W = .ok (evE es n).V W ∧ W.cell? ⟨g1, n * 14 + 3, none⟩ = some (.int .u64 (evE es n).addr) ∧ W.cell? ⟨g1, n * 14 + 4, none⟩ = some (.int .u64 (evE es n).load) := by
  obtain ⟨a, b, c2, d2⟩ := h.lk.box.facts
  exact ⟨a, b, c2, d2, (h.ev n hn).load, h.ev n hn 3 _ rfl, h.ev n hn 4 _ rfl⟩
theorem Zf.ten {c : Cd} {q : Cv} {es : List Ev} {g1 : Nat} {v0 v1 v2 v3 : Value} {gX : Nat} {d : Cd} {qx : Cv} {w W : World} (h : Zf c q es g1 v0 v1 v2 v3 gX d qx w W) {n k : Nat} (hn : n < c.N) (hk : k < c.N) :
    W.cell? ⟨w.heap.size, 0, none⟩ = some (.slice q.aF c.fs.length q.cF) ∧ W.cell? ⟨w.heap.size, 1, none⟩ = some (.slice q.aH c.nh q.cH) ∧ W.cell? ⟨w.heap.size, 2, none⟩ = some (.slice q.aR c.fr.length q.cR) ∧ W.cell? ⟨w.heap.size, 3, none⟩ = some (.slice q.aO c.od.length q.cO) ∧ (LoadE (.pointer (some ⟨g1, n * 14, none⟩))).run Try.prog W = .ok (evE es n).V W ∧ W.cell? ⟨g1, n * 14 + 3, none⟩ = some (.int .u64 (evE es n).addr) ∧ W.cell? ⟨g1, n * 14 + 4, none⟩ = some (.int .u64 (evE es n).load) ∧ (LoadE (.pointer (some ⟨g1, k * 14, none⟩))).run Try.prog W = .ok (evE es k).V W ∧ W.cell? ⟨g1, k * 14 + 3, none⟩ = some (.int .u64 (evE es k).addr) ∧ W.cell? ⟨g1, k * 14 + 5, none⟩ = some (.int .u64 (evE es k).store) := by
  obtain ⟨a, b, c2, d2, e, f, g⟩ := h.seven hn
  exact ⟨a, b, c2, d2, e, f, g, (h.ev k hk).load, h.ev k hk 3 _ rfl, h.ev k hk 5 _ rfl⟩
theorem evE_at {es : List Ev} {g n : Nat} {W : World} (hblk : W.heap[g]? = some (.cells (flat es).toArray 50 (0, 0))) (hn : n < es.length) : EvIn (evE es n) g (n * 14) W := fun j v hv => by
  have he : es[n]? = some (evE es n) := by unfold evE; rw [List.getElem?_eq_getElem hn]; rfl
  have := flat_at es n j _ v he (by unfold Ev.row; simpa using hv)
  rw [cell_of_row W g (n * 14 + j) _ _ _ hblk]
  simpa using this
theorem evE_like {c : Cd} {es : List Ev} {W : World} (hcp : Cp (fun n => (c.at n).1) (fun n => (c.at n).2) es W) {n : Nat} (hn : n < es.length) : ∃ a d y, evE es n = (c.at n).1.lists a d y := by
  have he : es[n]? = some (evE es n) := by unfold evE; rw [List.getElem?_eq_getElem hn]; rfl
  exact hcp.like n _ he
theorem CBox.onB {v0 v1 v2 v3 : Value} {n : Nat} {w w2 : World} (h : CBox v0 v1 v2 v3 n w) (hb : Below w.heap.size w w2) : CBox v0 v1 v2 v3 n w2 := h.on hb
/-- what fits, by the events that were answered -/
theorem fit_none {c : Cd} {es : List Ev} {n : Nat} (hl : ∃ a d y, evE es n = (c.at n).1.lists a d y) : findX c n (-1) = (!readsE (evE es n) || (evE es n).load == valL c.fs (evE es n).addr) := by
  obtain ⟨a, d, y, e⟩ := hl
  rw [findX_none, e]
  rfl
theorem fit_some {c : Cd} {es : List Ev} {n f : Nat} (hf : f < c.N) (hl : ∃ a d y, evE es n = (c.at n).1.lists a d y) (hl2 : ∃ a d y, evE es f = (c.at f).1.lists a d y) : findX c n f = (readsE (evE es n) && (decide (f ≠ n) && (writesE (evE es f) && ((evE es f).addr == (evE es n).addr && (evE es f).store == (evE es n).load)))) := by
  obtain ⟨a, d, y, e⟩ := hl
  obtain ⟨a2, d2, y2, e2⟩ := hl2
  rw [findX_some c n f hf, e, e2]
  rfl
/-- the copy, in later worlds -/
structure OwnP (c : Cd) (gB lo : Nat) (vF vR vO vH : Value) (ess : List (List Ev)) (vals : List Value) (w W : World) : Prop where
  first : W.ownsRow w.heap.size 33 2 vF c.fs.length (flatC c.fs)
  from_ : W.ownsRow w.heap.size 3 1 vR c.fr.length (intsV c.fr)
  order : W.ownsRow w.heap.size 3 1 vO c.od.length (intsV c.od)
  rows : RowsE lo W c c.nh ess vals
  own : W.ownsRow lo 38 1 vH c.nh vals
  ord : Od w gB lo vF vR vO
theorem OwnC.p {c : Cd} {gB lo : Nat} {vF vR vO vH : Value} {ess : List (List Ev)} {vals : List Value} {w W : World} (h : OwnC c gB lo vF vR vO vH ess vals w W) : OwnP c gB lo vF vR vO vH ess vals w W := ⟨h.first, h.from_, h.order, h.rows, h.own, h.ord⟩
theorem OwnP.keep {c : Cd} {gB lo : Nat} {vF vR vO vH : Value} {ess : List (List Ev)} {vals : List Value} {w W W2 : World} (h : OwnP c gB lo vF vR vO vH ess vals w W) (hk : Keep w.heap.size W W2) : OwnP c gB lo vF vR vO vH ess vals w W2 := by
  have hl : w.heap.size ≤ lo := by have := h.ord.lo1; have := h.ord.lo2; omega
  exact ⟨own_keep h.first hk, own_keep h.from_ hk, own_keep h.order hk, h.rows.keep (hk.mono hl), own_keep h.own (hk.mono hl), h.ord⟩
theorem OwnP.on {c : Cd} {gB lo : Nat} {vF vR vO vH : Value} {ess : List (List Ev)} {vals : List Value} {w W W2 : World} (h : OwnP c gB lo vF vR vO vH ess vals w W) (hb : Below W.heap.size W W2) : OwnP c gB lo vF vR vO vH ess vals w W2 := h.keep (.of_below hb)
/-- no two of the copy's lists share a block -/
theorem OwnP.first_ne {c : Cd} {gB lo : Nat} {vF vR vO vH : Value} {ess : List (List Ev)} {vals : List Value} {w W : World} {base n : Nat} {v : Value} {xs : List Value} (h : OwnP c gB lo vF vR vO vH ess vals w W) (hv : W.ownsRow base 3 1 v n xs) : ∀ g, vF.ownBlock = some g → v.ownBlock ≠ some g := fun g h1 h2 => by
  rcases h.first.2 with ⟨rfl, _⟩ | ⟨g1, cap, cur, rfl, _, hgg, _⟩
  · simp [Value.ownBlock] at h1
  rcases hv.2 with ⟨rfl, _⟩ | ⟨g2, cap2, cur2, rfl, _, hgg2, _⟩
  · simp [Value.ownBlock] at h2
  simp [Value.ownBlock] at h1 h2
  subst h1
  subst h2
  rw [hgg] at hgg2
  simp at hgg2
/-- another From -/
theorem OwnP.setFrom {c : Cd} {gB lo g : Nat} {aF aO aH : Option Addr} {cF cR cO cH : Nat} {ess : List (List Ev)} {vals : List Value} {w W : World} (h : OwnP c gB lo (.slice aF c.fs.length cF) (.slice (some ⟨g, 0, none⟩) c.fr.length cR) (.slice aO c.od.length cO) (.slice aH c.nh cH) ess vals w W)
    (hl : ∀ h, h < c.nh → ∀ k, k < c.len h → 0 ≤ (c.ev h k).addr) (n : Nat) (hn : n < c.fr.length) (f : Int) :
    CAt (c.copy ess (c.fr.set n f) c.od) ⟨aF, cF, aH, cH, some ⟨g, 0, none⟩, cR, aO, cO⟩ (W.setCell ⟨g, n, none⟩ (.int .i64 f)) ∧ W.frozen? ⟨g, n, none⟩ = false ∧ ∃ u, W.cell? ⟨g, n, none⟩ = some u := by
  have hg := h.ord.r g (by simp [Value.ownBlock])
  have hk : Keep lo W (W.setCell ⟨g, n, none⟩ (.int .i64 f)) := .set hg.2.2 _
  have hst := World.ownsRow.stored h.from_ n (.int .i64 f)
  have hR : (W.setCell ⟨g, n, none⟩ (.int .i64 f)).ownsRow w.heap.size 3 1 (.slice (some ⟨g, 0, none⟩) (c.fr.set n f).length cR) (c.fr.set n f).length ((c.fr.set n f).map (Value.int .i64)) := by
    rw [List.length_set, List.map_set]
    exact hst.1
  refine ⟨copy_cat (h.rows.keep hk) hl (base := lo) (bF := w.heap.size) ?_ (own_keep h.own hk) (readsI_of_own hR) (readsI_of_own (base := w.heap.size) ?_), World.ownsRow.frozenAt h.from_ n, ?_⟩
  · exact own_but h.first (fun j hj => Below.heap_setCell W ⟨g, n, none⟩ _ j (by show j ≠ g; intro e; subst e; exact h.first_ne h.from_ j hj (by simp [Value.ownBlock])))
  · exact own_but h.order (fun j hj => Below.heap_setCell W ⟨g, n, none⟩ _ j (by show j ≠ g; intro e; subst e; exact h.ord.ro j (by simp [Value.ownBlock]) hj))
  · have := World.ownsRow.cellAt h.from_ n (by omega)
    rw [this]
    exact ⟨_, List.getElem?_eq_getElem (by unfold intsV; rw [List.length_map]; exact hn)⟩
/-- the Order cut at the front -/
theorem OwnP.cut {c : Cd} {gB lo g : Nat} {aF aR aH : Option Addr} {cF cR cO cH : Nat} {ess : List (List Ev)} {vals : List Value} {w W : World} (h : OwnP c gB lo (.slice aF c.fs.length cF) (.slice aR c.fr.length cR) (.slice (some ⟨g, 0, none⟩) c.od.length cO) (.slice aH c.nh cH) ess vals w W)
    (hl : ∀ h, h < c.nh → ∀ k, k < c.len h → 0 ≤ (c.ev h k).addr) (h0 : 0 < c.od.length) :
    CAt (c.copy ess c.fr c.od.tail) ⟨aF, cF, aH, cH, aR, cR, some ⟨g, 1, none⟩, cO - 1⟩ W := by
  refine copy_cat h.rows hl h.first h.own (readsI_of_own h.from_) ?_
  rcases h.order.2 with ⟨e, _⟩ | ⟨g', cap, cur, e, hb, hgg, hc, hm, hs, ht⟩
  · cases e
  · injection e with e1 e2 e3
    injection e1 with e1
    injection e1 with e1
    subst e1
    subst e3
    refine .inr ⟨g, 1, cO - 1, by rw [List.length_tail], by rw [List.length_tail]; omega, by unfold maxLen at hm; omega, (Array.getElem?_eq_some_iff.1 hgg).1, fun j hj => ?_⟩
    rw [List.length_tail] at hj
    have := World.ownsRow.cellAt h.order (1 + j) (by omega)
    rw [this]
    unfold intsV
    rw [List.getElem?_map, List.getElem?_eq_getElem (by omega)]
    simp [atI, show 1 + j < c.od.length by omega, show j < c.od.length - 1 by omega, Nat.add_comm 1 j]
/-- a number more in the Order -/
theorem OwnP.more {c : Cd} {gB lo : Nat} {aF aR aH aO2 : Option Addr} {cF cR cH cO2 : Nat} {vO : Value} {ess : List (List Ev)} {vals : List Value} {w W W2 : World} (h : OwnP c gB lo (.slice aF c.fs.length cF) (.slice aR c.fr.length cR) vO (.slice aH c.nh cH) ess vals w W)
    (hl : ∀ h, h < c.nh → ∀ k, k < c.len h → 0 ≤ (c.ev h k).addr) {base : Nat} (x : Int) (ho : W2.ownsRow base 3 1 (.slice aO2 (c.od ++ [x]).length cO2) (c.od ++ [x]).length ((c.od ++ [x]).map (Value.int .i64))) (hg : W.grownBy W2 vO.ownBlock) :
    CAt (c.copy ess c.fr (c.od ++ [x])) ⟨aF, cF, aH, cH, aR, cR, aO2, cO2⟩ W2 := by
  have hk : Keep lo W W2 := ⟨hg.size, fun j h1 h2 => hg.block j h2 (fun e => by have := h.ord.o j e.symm; omega)⟩
  refine copy_cat (h.rows.keep hk) hl (base := lo) (bF := w.heap.size) ?_ (own_keep h.own hk) (readsI_of_own (base := w.heap.size) ?_) (readsI_of_own ho)
  · exact own_but h.first (fun j hj => hg.block j (h.first.lt j hj).2 (fun e => h.first_ne h.order j hj e.symm))
  · exact own_but h.from_ (fun j hj => hg.block j (h.from_.lt j hj).2 (fun e => h.ord.ro j hj e.symm))
end Go.Proofs.Ytcebcmmbokajcaa
namespace Go.Proofs.Ytcebcmmbokajcaa
set_option linter.unusedVariables false
set_option linter.unusedSimpArgs false
open Go.RowKit

/-- append of one number, as a step of a region that draws -/
theorem step_append_int {ops : Array Oper} {o : Oper} {a : Act} {w : World} {K : Act → World → Prop} {Q : Exit → Act → World → Prop} {E : Prop} (hgd : o.guard = none) (s x : Operand)
    (ho : o.op = .call { callee := .builtin .append, args := #[s, x], argTypes := #[24, 24] }) (base : Nat) (v : Value) (xs : List Int) (hs : a.eval s = v) (hown : w.ownsRow base 3 1 v xs.length (xs.map (Value.int .i64)))
    (r : Int) (g : Nat) (hx : a.eval x = .slice (some ⟨g, 0, none⟩) 1 1) (hr : w.heap[g]? = some (.cells #[.int .i64 r] 3 (0, 0))) (hn : xs.length ≤ 100000) (hbase : base ≤ w.heap.size)
    (h : ∀ v' w', w'.ownsRow base 3 1 v' (xs ++ [r]).length ((xs ++ [r]).map (Value.int .i64)) → w.grownBy w' v.ownBlock → K (a.put o.dst v') w') : if Region.wanted o (yielded ops a.tmps) = true then Oper.wp Try.prog o a w K Q else E := by
  have hw : Region.wanted o (yielded ops a.tmps) = true := by simp [Region.wanted, hgd]
  rw [if_pos hw]
  obtain ⟨i0, hi, hz0, hz1, hz2⟩ := info_parts infoInt
  refine wp_append_own w s x _ ho base 3 i0 (.int .i64 0) 1 8 Try.underlying24 hi hz0 hz1 hz2 rfl (by decide) v _ _ hs hown ⟨g, 0, none⟩ 1 1 [.int .i64 r] hx rfl ?_ ?_ (by unfold maxLen; omega) (by omega) hbase (fun v' w' h5 h6 _ => h v' w' (by simpa using h5) h6)
  · intro j u hu
    rw [Addr.add_lit, Nat.zero_add, cell_of_row w g j _ _ _ hr]
    simpa using hu
  · intro u hu
    simp only [List.mem_cons, List.not_mem_nil, or_false] at hu
    subst hu
    rfl
theorem Keep.put {lo n : Nat} {B W W2 : World} (h : Keep lo B W) (ho : n < lo ∨ B.heap.size ≤ n) (hb : ∀ j, j ≠ n → W2.heap[j]? = W.heap[j]?) (hz : W.heap.size ≤ W2.heap.size) : Keep lo B W2 :=
  ⟨Nat.le_trans h.size hz, fun j h1 h2 => (hb j (by omega)).trans (h.block j h1 h2)⟩
theorem Keep.refl (lo : Nat) (W : World) : Keep lo W W := ⟨Nat.le_refl _, fun _ _ _ => rfl⟩
theorem Keep.on {lo : Nat} {B W W2 : World} (h : Keep lo B W) (hb : Below W.heap.size W W2) : Keep lo B W2 := h.trans (.of_below hb)
theorem own_cap {W : World} {base size n c : Nat} {e : TypeId} {a : Option Addr} {m : Nat} {xs : List Value} (h : W.ownsRow base e size (.slice a m c) n xs) (hn : n ≠ 0) : n ≤ c := by
  rcases h.2 with ⟨_, h0⟩ | ⟨g, cap, cur, e, hb, hgg, hc, _⟩
  · exact absurd h0 hn
  · injection e with e1 e2 e3
    omega
/-- a copy: what it is made of, the worlds ahead of it and behind -/
structure Cq where
  gB : Nat
  lo : Nat
  aF : Option Addr
  cF : Nat
  aR : Option Addr
  cR : Nat
  aO : Option Addr
  cO : Nat
  aH : Option Addr
  cH : Nat
  ess : List (List Ev)
  vals : List Value
  A : World
  B : World
def Cq.ok (d : Cq) (c : Cd) (W : World) : Prop := OwnP c d.gB d.lo (.slice d.aF c.fs.length d.cF) (.slice d.aR c.fr.length d.cR) (.slice d.aO c.od.length d.cO) (.slice d.aH c.nh d.cH) d.ess d.vals d.A W
def Cq.box (d : Cq) (c : Cd) (n : Nat) (W : World) : Prop := CBox (.slice d.aF c.fs.length d.cF) (.slice d.aH c.nh d.cH) (.slice d.aR c.fr.length d.cR) (.slice d.aO c.od.length d.cO) n W
def Cq.out (d : Cq) (n : Nat) : Prop := n < d.A.heap.size ∨ d.B.heap.size ≤ n
/-- two copies in boxes -/
structure Yz (c : Cd) (q : Cv) (ny nz : Nat) (y z : Cq) (w W : World) : Prop where
  lk : Lk c q w W
  boxY : y.box c ny W
  boxZ : z.box c nz W
  okY : y.ok c y.B
  okZ : z.ok c z.B
  ky : Keep y.A.heap.size y.B W
  kz : Keep z.A.heap.size z.B W
  oy1 : y.out ny
  oy2 : y.out nz
  oz1 : z.out ny
  oz2 : z.out nz
  ne : ny ≠ nz
  hy : w.heap.size < ny
  hz : w.heap.size < nz
  yz : y.B.heap.size ≤ z.A.heap.size
  wz : w.heap.size < z.A.heap.size
theorem Yz.y {c : Cd} {q : Cv} {ny nz : Nat} {y z : Cq} {w W : World} (h : Yz c q ny nz y z w W) : y.ok c W := h.okY.keep h.ky
theorem Yz.z {c : Cd} {q : Cv} {ny nz : Nat} {y z : Cq} {w W : World} (h : Yz c q ny nz y z w W) : z.ok c W := h.okZ.keep h.kz
theorem Yz.setY {c : Cd} {q : Cv} {ny nz : Nat} {y z : Cq} {w W : World} (h : Yz c q ny nz y z w W) (v : Value) :
    Lk c q w (W.setCell ⟨ny, 3, none⟩ v) ∧ CBox (.slice y.aF c.fs.length y.cF) (.slice y.aH c.nh y.cH) (.slice y.aR c.fr.length y.cR) v ny (W.setCell ⟨ny, 3, none⟩ v) ∧ z.box c nz (W.setCell ⟨ny, 3, none⟩ v) ∧ Keep y.A.heap.size y.B (W.setCell ⟨ny, 3, none⟩ v) ∧ Keep z.A.heap.size z.B (W.setCell ⟨ny, 3, none⟩ v) := by
  have hb : ∀ j, j ≠ ny → (W.setCell ⟨ny, 3, none⟩ v).heap[j]? = W.heap[j]? := fun j hj => Below.heap_setCell W ⟨ny, 3, none⟩ v j hj
  have hs : W.heap.size ≤ (W.setCell ⟨ny, 3, none⟩ v).heap.size := by simp [World.setCell]
  have := h.hy
  have h3 := h.ne
  exact ⟨⟨(hb _ (by omega)).trans h.lk.box, h.lk.below.setCell (by show w.heap.size ≤ ny; omega) v, h.lk.here⟩, set_at W ny 3 v _ _ _ h.boxY, (hb _ (Ne.symm h3)).trans h.boxZ, h.ky.put h.oy1 hb hs, h.kz.put h.oz1 hb hs⟩
/-- a number more in the copy's Order, the box changed besides -/
theorem OwnP.more2 {c : Cd} {d : Cq} (h : d.ok c d.B) (hl : ∀ h, h < c.nh → ∀ k, k < c.len h → 0 ≤ (c.ev h k).addr) {W2 : World} {base : Nat} {aO2 : Option Addr} {cO2 : Nat} (x : Int) (ho : W2.ownsRow base 3 1 (.slice aO2 (c.od ++ [x]).length cO2) (c.od ++ [x]).length ((c.od ++ [x]).map (Value.int .i64)))
    (hsz : d.B.heap.size ≤ W2.heap.size) (hb : ∀ j, d.A.heap.size ≤ j → j < d.B.heap.size → some j ≠ (Value.slice d.aO c.od.length d.cO).ownBlock → W2.heap[j]? = d.B.heap[j]?) :
    CAt (c.copy d.ess c.fr (c.od ++ [x])) ⟨d.aF, d.cF, d.aH, d.cH, d.aR, d.cR, aO2, cO2⟩ W2 := by
  have o1 := h.ord.lo1
  have o2 := h.ord.lo2
  have hk : Keep d.lo d.B W2 := ⟨hsz, fun j h1 h2 => hb j (by omega) h2 (fun e => by have := h.ord.o j e.symm; omega)⟩
  refine copy_cat (h.rows.keep hk) hl (base := d.lo) (bF := d.A.heap.size) ?_ (own_keep h.own hk) (readsI_of_own (base := d.A.heap.size) ?_) (readsI_of_own ho)
  · exact own_but h.first (fun j hj => hb j (h.first.lt j hj).1 (h.first.lt j hj).2 (fun e => h.first_ne h.order j hj e.symm))
  · exact own_but h.from_ (fun j hj => hb j (h.from_.lt j hj).1 (h.from_.lt j hj).2 (fun e => h.ord.ro j hj e.symm))
@[reducible] def Cq.cells (d : Cq) (c : Cd) : Array Value := #[.slice d.aF c.fs.length d.cF, .slice d.aH c.nh d.cH, .slice d.aR c.fr.length d.cR, .slice d.aO c.od.length d.cO]
theorem Yz.make {c : Cd} {q : Cv} {ny nz : Nat} {y z : Cq} {w X : World} {u0 u1 u2 u3 x0 x1 x2 x3 : Value} (lk : Lk c q w X) (b1 : CBox u0 u1 u2 u3 ny X) (b2 : CBox x0 x1 x2 x3 nz X) (okY : y.ok c y.B) (okZ : z.ok c z.B) (ky : Keep y.A.heap.size y.B X) (kz : Keep z.A.heap.size z.B X)
    (oy1 : y.out ny) (oy2 : y.out nz) (oz1 : z.out ny) (oz2 : z.out nz) (ne : ny ≠ nz) (hy : w.heap.size < ny) (hz : w.heap.size < nz) (yz : y.B.heap.size ≤ z.A.heap.size) (wz : w.heap.size < z.A.heap.size) : Yz c q ny nz y z w ((X.setRow ny (y.cells c)).setRow nz (z.cells c)) := by
  have hb : ∀ j, j ≠ ny → j ≠ nz → ((X.setRow ny (y.cells c)).setRow nz (z.cells c)).heap[j]? = X.heap[j]? := fun j h1 h2 => (setRow_other _ _ _ _ h2).trans (setRow_other _ _ _ _ h1)
  have e1 : ∀ j, j ≠ ny → (X.setRow ny (y.cells c)).heap[j]? = X.heap[j]? := fun j h1 => setRow_other _ _ _ _ h1
  have e2 : ∀ j, j ≠ nz → ((X.setRow ny (y.cells c)).setRow nz (z.cells c)).heap[j]? = (X.setRow ny (y.cells c)).heap[j]? := fun j h1 => setRow_other _ _ _ _ h1
  have s1 : X.heap.size ≤ (X.setRow ny (y.cells c)).heap.size := by simp
  have s2 : (X.setRow ny (y.cells c)).heap.size ≤ ((X.setRow ny (y.cells c)).setRow nz (z.cells c)).heap.size := by simp
  refine ⟨⟨(hb _ (by omega) (by omega)).trans lk.box, (lk.below.trans (below_setRow.mono (by omega))).trans (below_setRow.mono (by omega)), lk.here⟩, ?_, ?_, okY, okZ, (ky.put oy1 e1 s1).put oy2 e2 s2, (kz.put oz1 e1 s1).put oz2 e2 s2, oy1, oy2, oz1, oz2, ne, hy, hz, yz, wz⟩
  · exact (e2 _ ne).trans (setRow_heap _ _ _ _ _ _ b1)
  · exact setRow_heap _ _ _ _ _ _ ((e1 _ (Ne.symm ne)).trans b2)
/-- the Order cut at the front, as Go cuts it -/
theorem OwnP.cut2 {c : Cd} {d : Cq} {g : Nat} {W : World} (h : d.ok c W) (hg : d.aO = some ⟨g, 0, none⟩) (hl : ∀ h, h < c.nh → ∀ k, k < c.len h → 0 ≤ (c.ev h k).addr) (h0 : c.od.length ≠ 0) :
    CAt (c.copy d.ess c.fr c.od.tail) ⟨d.aF, d.cF, d.aH, d.cH, d.aR, d.cR, if d.cO = 1 then some ⟨g, 0, none⟩ else some ⟨g, 1, none⟩, d.cO - 1⟩ W := by
  have h' := h
  unfold Cq.ok at h'
  rw [hg] at h'
  have h1 := OwnP.cut h' hl (by omega)
  by_cases e : d.cO = 1
  · have hc := own_cap h.order h0
    have ht : c.od.tail = [] := by
      apply List.length_eq_zero_iff.1
      rw [List.length_tail]; omega
    refine ⟨h1.first, h1.harts, h1.cap, h1.from_, .inl ⟨⟨some ⟨g, 0, none⟩, 0, ?_, fun hh => by cases hh⟩, ht⟩⟩
    show Value.slice (if d.cO = 1 then _ else _) c.od.tail.length (d.cO - 1) = _
    rw [if_pos e, e, ht]; rfl
  · rw [if_neg e]; exact h1
/-- both copies at the end: the first one's Order cut, the second one's longer by one -/
theorem Yz.done {c : Cd} {q : Cv} {ny nz : Nat} {y z : Cq} {w W W19 w5 : World} (h : Yz c q ny nz y z w W) (hl : ∀ h, h < c.nh → ∀ k, k < c.len h → 0 ≤ (c.ev h k).addr) (h0 : c.od.length ≠ 0) {gY gZ : Nat} (hgY : y.aO = some ⟨gY, 0, none⟩) (hgZ : z.aO = some ⟨gZ, 0, none⟩) (hgZ1 : z.A.heap.size ≤ gZ) {v : Value}
    (hb : Below (W.setCell ⟨ny, 3, none⟩ v).heap.size (W.setCell ⟨ny, 3, none⟩ v) W19) (hg : W19.grownBy w5 (some gZ)) {base : Nat} {a5 : Option Addr} {c5 : Nat} {x : Int} (ho : w5.ownsRow base 3 1 (.slice a5 (c.od ++ [x]).length c5) (c.od ++ [x]).length ((c.od ++ [x]).map (Value.int .i64))) :
    CAt (c.copy y.ess c.fr c.od.tail) ⟨y.aF, y.cF, y.aH, y.cH, y.aR, y.cR, if y.cO = 1 then some ⟨gY, 0, none⟩ else some ⟨gY, 1, none⟩, y.cO - 1⟩ (w5.setCell ⟨nz, 3, none⟩ (.slice a5 (c.od ++ [x]).length c5)) ∧
    CAt (c.copy z.ess c.fr (c.od ++ [x])) ⟨z.aF, z.cF, z.aH, z.cH, z.aR, z.cR, a5, c5⟩ (w5.setCell ⟨nz, 3, none⟩ (.slice a5 (c.od ++ [x]).length c5)) ∧
    CBox (.slice y.aF c.fs.length y.cF) (.slice y.aH c.nh y.cH) (.slice y.aR c.fr.length y.cR) v ny (w5.setCell ⟨nz, 3, none⟩ (.slice a5 (c.od ++ [x]).length c5)) ∧
    CBox (.slice z.aF c.fs.length z.cF) (.slice z.aH c.nh z.cH) (.slice z.aR c.fr.length z.cR) (.slice a5 (c.od ++ [x]).length c5) nz (w5.setCell ⟨nz, 3, none⟩ (.slice a5 (c.od ++ [x]).length c5)) ∧
    Below w.heap.size w (w5.setCell ⟨nz, 3, none⟩ (.slice a5 (c.od ++ [x]).length c5)) := by
  obtain ⟨s1, s2, s3, s4, s5⟩ := h.setY v
  have hyz := h.yz
  have hz1 := h.hz
  have hne := h.ne
  have hoZ := h.z.order
  rw [hgZ] at hoZ
  have hny : gZ ≠ ny := by
    have := apart_cand h.z.order (by decide) h.boxY
    exact this gZ (by rw [hgZ]; rfl)
  have hnz : gZ ≠ nz := by
    have := apart_cand h.z.order (by decide) h.boxZ
    exact this gZ (by rw [hgZ]; rfl)
  have b1 := s2.on hb
  have b2 : z.box c nz W19 := CBox.on s3 hb
  have c1 : CBox (.slice y.aF c.fs.length y.cF) (.slice y.aH c.nh y.cH) (.slice y.aR c.fr.length y.cR) v ny w5 := (hg.block _ b1.lt (by simp; omega)).trans b1
  have c2 : z.box c nz w5 := (hg.block _ (CBox.lt b2) (by simp; omega)).trans b2
  have k1 := s4.on hb
  have k2 := s5.on hb
  have e5 : ∀ j, j ≠ nz → (w5.setCell ⟨nz, 3, none⟩ (.slice a5 (c.od ++ [x]).length c5)).heap[j]? = w5.heap[j]? := fun j hj => Below.heap_setCell w5 ⟨nz, 3, none⟩ _ j hj
  have z5 : w5.heap.size ≤ (w5.setCell ⟨nz, 3, none⟩ (.slice a5 (c.od ++ [x]).length c5)).heap.size := by simp [World.setCell]
  have k1' : Keep y.A.heap.size y.B w5 := ⟨Nat.le_trans k1.size hg.size, fun j h1 h2 => (hg.block j (Nat.lt_of_lt_of_le h2 k1.size) (by simp; omega)).trans (k1.block j h1 h2)⟩
  have hwA : w.heap.size < gZ := by
    have := h.wz; omega
  refine ⟨?_, ?_, (e5 _ hne).trans c1, set_at w5 nz 3 _ _ _ _ c2, ((s1.below.trans (hb.mono s1.below.size)).grown hg (Nat.le_trans s1.below.size hb.size) (fun k hk => by cases hk; omega)).setCell (by show w.heap.size ≤ nz; omega) _⟩
  · exact OwnP.cut2 (h.okY.keep (k1'.put h.oy2 e5 z5)) hgY hl h0
  · refine OwnP.more2 (d := z) h.okZ hl x (own_but ho (fun j hj => e5 j (by have := apart_cand ho (by decide) c2; exact this j hj))) (Nat.le_trans (Nat.le_trans k2.size hg.size) z5) (fun j h1 h2 h3 => ?_)
    have hj : j ≠ nz := by have := h.oz2; unfold Cq.out at this; omega
    refine (e5 j hj).trans ((hg.block j (Nat.lt_of_lt_of_le h2 k2.size) (by rw [hgZ] at h3; exact h3)).trans (k2.block j h1 h2))
/-- both copies, changed -/
structure Yd (c : Cd) (y z : Cq) (ny nz gY : Nat) (x : Int) (a5 : Option Addr) (c5 : Nat) (w W : World) : Prop where
  cy : CAt (c.copy y.ess c.fr c.od.tail) ⟨y.aF, y.cF, y.aH, y.cH, y.aR, y.cR, if y.cO = 1 then some ⟨gY, 0, none⟩ else some ⟨gY, 1, none⟩, y.cO - 1⟩ W
  cz : CAt (c.copy z.ess c.fr (c.od ++ [x])) ⟨z.aF, z.cF, z.aH, z.cH, z.aR, z.cR, a5, c5⟩ W
  by_ : CBox (.slice y.aF c.fs.length y.cF) (.slice y.aH c.nh y.cH) (.slice y.aR c.fr.length y.cR) (.slice (if y.cO = 1 then some ⟨gY, 0, none⟩ else some ⟨gY, 1, none⟩) (c.od.length - 1) (y.cO - 1)) ny W
  bz : CBox (.slice z.aF c.fs.length z.cF) (.slice z.aH c.nh z.cH) (.slice z.aR c.fr.length z.cR) (.slice a5 (c.od.length + 1) c5) nz W
  below : Below w.heap.size w W
theorem Yd.on {c : Cd} {y z : Cq} {ny nz gY : Nat} {x : Int} {a5 : Option Addr} {c5 : Nat} {w W W2 : World} (h : Yd c y z ny nz gY x a5 c5 w W) (hb : Below W.heap.size W W2) : Yd c y z ny nz gY x a5 c5 w W2 :=
  ⟨h.cy.below hb, h.cz.below hb, h.by_.on hb, h.bz.on hb, h.below.trans (hb.mono h.below.size)⟩
theorem Yz.yd {c : Cd} {q : Cv} {ny nz : Nat} {y z : Cq} {w W W18 W19 w5 : World} (h : Yz c q ny nz y z w W) (hl : ∀ h, h < c.nh → ∀ k, k < c.len h → 0 ≤ (c.ev h k).addr) (h0 : c.od.length ≠ 0) {gY gZ : Nat} (hgY : y.aO = some ⟨gY, 0, none⟩) (hgZ : z.aO = some ⟨gZ, 0, none⟩) (hgZ1 : z.A.heap.size ≤ gZ)
    (hW : W.setCell ⟨ny, 3, none⟩ (.slice (if y.cO = 1 then some ⟨gY, 0, none⟩ else some ⟨gY, 1, none⟩) (c.od.length - 1) (y.cO - 1)) = W18) (hb : Below W18.heap.size W18 W19) (hg : W19.grownBy w5 (some gZ)) {base : Nat} {a5 : Option Addr} {c5 : Nat} {x : Int} (ho : w5.ownsRow base 3 1 (.slice a5 (c.od ++ [x]).length c5) (c.od ++ [x]).length ((c.od ++ [x]).map (Value.int .i64))) :
    Yd c y z ny nz gY x a5 c5 w (w5.setCell ⟨nz, 3, none⟩ (.slice a5 (c.od.length + 1) c5)) := by
  subst hW
  obtain ⟨h1, h2, h3, h4, h5⟩ := Yz.done h hl h0 hgY hgZ hgZ1 hb hg ho
  have e : (c.od ++ [x]).length = c.od.length + 1 := by simp
  rw [e] at h1 h2 h3 h4 h5
  exact ⟨h1, h2, h3, h4, h5⟩
/-- what is read of the second copy ahead of its change -/
theorem Yz.reads {c : Cd} {q : Cv} {ny nz : Nat} {y z : Cq} {w W W18 W2 : World} (h : Yz c q ny nz y z w W) (h0 : c.od.length ≠ 0) {gZ : Nat} (hgZ : z.aO = some ⟨gZ, 0, none⟩) {v : Value} (hW : W.setCell ⟨ny, 3, none⟩ v = W18) (hb : Below W18.heap.size W18 W2) :
    z.box c nz W2 ∧ W2.cell? ⟨nz, 3, none⟩ = some (.slice (some ⟨gZ, 0, none⟩) c.od.length z.cO) ∧ W2.frozen? ⟨nz, 3, none⟩ = false ∧ W2.cell? ⟨gZ, 0, none⟩ = some (.int .i64 (atI c.od 0)) ∧ W2.ownsRow z.A.heap.size 3 1 (.slice (some ⟨gZ, 0, none⟩) c.od.length z.cO) c.od.length (c.od.map (Value.int .i64)) ∧ z.A.heap.size ≤ W2.heap.size := by
  subst hW
  obtain ⟨s1, s2, s3, s4, s5⟩ := h.setY v
  have b2 : z.box c nz W2 := CBox.on s3 hb
  have ok := h.okZ.keep (s5.on hb)
  have ho := ok.order
  rw [hgZ] at ho
  have hc := World.ownsRow.cellAt ho 0 (by omega)
  have f3 := b2.facts.2.2.2
  rw [hgZ] at f3
  refine ⟨b2, f3, frozen_of_row _ _ _ _ _ b2, ?_, ho, ?_⟩
  · rw [hc]
    unfold intsV
    rw [List.getElem?_map, List.getElem?_eq_getElem (by omega)]
    simp [atI, show 0 < c.od.length by omega]
  · have := (h.okZ.order.lt gZ (by rw [hgZ]; rfl))
    have h2 := (s5.on hb).size
    omega
theorem Yz.after {c : Cd} {z : Cq} {nz gZ : Nat} {W W2 : World} (hb : z.box c nz W) (hg : W.grownBy W2 (some gZ)) (hn : gZ ≠ nz) : W2.cell? ⟨nz, 3, none⟩ = some (.slice z.aO c.od.length z.cO) ∧ W2.frozen? ⟨nz, 3, none⟩ = false := by
  have : z.box c nz W2 := (hg.block _ (CBox.lt hb) (by simp; omega)).trans hb
  exact ⟨this.facts.2.2.2, frozen_of_row _ _ _ _ _ this⟩
theorem Yz.apart {c : Cd} {q : Cv} {ny nz : Nat} {y z : Cq} {w W : World} (h : Yz c q ny nz y z w W) {gZ : Nat} (hgZ : z.aO = some ⟨gZ, 0, none⟩) : gZ ≠ nz := by
  have := apart_cand h.z.order (by decide) h.boxZ
  exact this gZ (by rw [hgZ]; rfl)
end Go.Proofs.Ytcebcmmbokajcaa
