/-
  Words: a candidate turned about, under way: what lies where, and what stays as it was. No condition.
-/
import Derived.Test.YtokhnjcbcpmmjaaCdMapI
import Derived.Test.YtokhnjcbcpmmjaaCdOwnCand
import Derived.Test.YtokhnjcbcpmmjaaCdCopyAs
namespace Go.Proofs.Ytokhnjcbcpmmjaa
set_option linter.unusedVariables false
set_option linter.unusedSimpArgs false
open Go.RowKit Go.Maps

/-- the harts turned about -/
def turnC (c : Cd) (b : Nat) : Cd := ⟨c.nh, fun h => c.len (twN c.nh b h), fun h k => (c.ev (twN c.nh b h) k).of h, fun h k => c.el (twN c.nh b h) k, c.fs, [], []⟩
/-- all blocks but one are as they were -/
structure Gx (g : Nat) (W W2 : World) : Prop where
  size : W.heap.size ≤ W2.heap.size
  block : ∀ j, j < W.heap.size → j ≠ g → W2.heap[j]? = W.heap[j]?
theorem Gx.refl (g : Nat) (W : World) : Gx g W W := ⟨Nat.le_refl _, fun _ _ _ => rfl⟩
theorem Gx.on {g : Nat} {W W1 W2 : World} (h : Gx g W W1) (hb : Below W1.heap.size W1 W2) : Gx g W W2 :=
  ⟨Nat.le_trans h.size hb.size, fun j h1 h2 => (hb.block j (Nat.lt_of_lt_of_le h1 h.size)).trans (h.block j h1 h2)⟩
theorem Gx.of {g : Nat} {W W2 : World} (hb : Below W.heap.size W W2) : Gx g W W2 := (Gx.refl g W).on hb
theorem Gx.grown {g : Nat} {W W1 W2 : World} {row : Option Nat} (h : Gx g W W1) (hg : W1.grownBy W2 row) (hr : ∀ k, row = some k → k = g ∨ W.heap.size ≤ k) : Gx g W W2 :=
  ⟨Nat.le_trans h.size hg.size, fun j h1 h2 => (hg.block j (Nat.lt_of_lt_of_le h1 h.size) (fun e => by rcases hr j e.symm with e2 | e2; exact h2 e2; omega)).trans (h.block j h1 h2)⟩
/-- the harts so far -/
structure Hx (c : Cd) (q : Cv) (b gB gM gD lo : Nat) (vF v1 v2 v3 : Value) (t n : Nat) (D : DataW Unit) (k : Nat) (ess : List (List Ev)) (vals : List Value) (w W : World) : Prop where
  lk : Lk c q w W
  base : IntsAt (fun j => (baseL c.len j : Int)) c.nh gB W
  map : OMi gM n D W
  now : MetI (baseL c.len b) c.N t D
  box : CBox vF v1 v2 v3 gD W
  first : W.ownsRow w.heap.size 35 2 vF c.fs.length (flatC c.fs)
  rows : RowsE lo W (turnC c b) k ess vals
  own : W.ownsRow lo 37 1 v1 k vals
  o1 : w.heap.size < gB ∧ gB < lo
  o2 : w.heap.size < gM ∧ gM < lo
  o3 : w.heap.size < gD ∧ gD < lo
  o4 : gB ≠ gM ∧ gB ≠ gD ∧ gM ≠ gD
  fo : ∀ g, vF.ownBlock = some g → w.heap.size < g ∧ g < lo ∧ g ≠ gB ∧ g ≠ gM ∧ g ≠ gD
  sz : lo ≤ W.heap.size
section
variable {c : Cd} {q : Cv} {b gB gM gD lo : Nat} {vF v1 v2 v3 : Value} {t n : Nat} {D : DataW Unit} {k : Nat} {ess : List (List Ev)} {vals : List Value} {w W W2 : World}
theorem Hx.frame (h : Hx c q b gB gM gD lo vF v1 v2 v3 t n D k ess vals w W) {t2 n2 : Nat} {D2 : DataW Unit} (hf : Gx gM W W2) (hb : Below w.heap.size w W2) (hm : OMi gM n2 D2 W2) (hn : MetI (baseL c.len b) c.N t2 D2) : Hx c q b gB gM gD lo vF v1 v2 v3 t2 n2 D2 k ess vals w W2 := by
  have o1 := h.o1
  have o2 := h.o2
  have o3 := h.o3
  have o4 := h.o4
  have hk : Keep lo W W2 := ⟨hf.size, fun j h1 h2 => hf.block j h2 (by omega)⟩
  exact ⟨⟨(hf.block _ h.lk.box.lt (by omega)).trans h.lk.box, hb, h.lk.here⟩, (hf.block _ h.base.lt (by omega)).trans h.base, hm, hn, (hf.block _ h.box.lt (by omega)).trans h.box, own_but h.first (fun g hg => hf.block g (h.first.lt g hg).2 (by have := h.fo g hg; omega)), h.rows.keep hk, own_keep h.own hk, o1, o2, o3, o4, h.fo, Nat.le_trans h.sz hf.size⟩
theorem Hx.on (h : Hx c q b gB gM gD lo vF v1 v2 v3 t n D k ess vals w W) (hb : Below W.heap.size W W2) : Hx c q b gB gM gD lo vF v1 v2 v3 t n D k ess vals w W2 :=
  h.frame (.of hb) (h.lk.below.trans (hb.mono h.lk.below.size)) (h.map.on hb) h.now
/-- a row more -/
theorem Hx.step (h : Hx c q b gB gM gD lo vF v1 v2 v3 t n D k ess vals w W) {v vH : Value} {es : List Ev} (hr : RowE lo W v ((turnC c b).len k) es ((turnC c b).ev k) ((turnC c b).el k))
    (ho : W2.ownsRow lo 37 1 vH (k + 1) (vals ++ [v])) (hg : W.grownBy W2 v1.ownBlock) : Hx c q b gB gM gD lo vF vH v2 v3 t n D (k + 1) (ess ++ [es]) (vals ++ [v]) w (W2.setCell ⟨gD, 1, none⟩ vH) := by
  have o1 := h.o1
  have o2 := h.o2
  have o3 := h.o3
  have o4 := h.o4
  have hv : ∀ g, v1.ownBlock = some g → lo ≤ g := fun g hh => (h.own.lt g hh).1
  have blk : ∀ j, j < lo → j ≠ gD → (W2.setCell ⟨gD, 1, none⟩ vH).heap[j]? = W.heap[j]? := fun j h1 h2 =>
    (Below.heap_setCell W2 ⟨gD, 1, none⟩ vH j h2).trans (hg.block j (Nat.lt_of_lt_of_le h1 h.sz) (fun hh => by have := hv j hh.symm; omega))
  have hout : CBox vF v1 v2 v3 gD W2 := (hg.block gD h.box.lt (fun hh => by have := hv gD hh.symm; omega)).trans h.box
  refine ⟨⟨(blk _ (by omega) (by omega)).trans h.lk.box, (h.lk.below.grown hg h.lk.below.size (fun g hh => by have := hv g hh; omega)).setCell (by show w.heap.size ≤ gD; omega) _, h.lk.here⟩, (blk _ (by omega) (by omega)).trans h.base, h.map.blk (blk _ (by omega) (by omega)), h.now, ?_, own_but h.first (fun g hh => blk g (by have := h.fo g hh; omega) (by have := h.fo g hh; omega)), ((h.rows.more hr).grown h.own hg).keep (.set o3.2 _), own_keep ho (.set o3.2 _), o1, o2, o3, o4, h.fo, Nat.le_trans h.sz (Nat.le_trans hg.size (by simp [World.setCell]))⟩
  exact set_at W2 gD 1 vH _ _ _ hout
theorem Hx.outOn (h : Hx c q b gB gM gD lo vF v1 v2 v3 t n D k ess vals w W) (hg : W.grownBy W2 v1.ownBlock) : CBox vF v1 v2 v3 gD W2 :=
  (hg.block gD h.box.lt (fun hh => by have := (h.own.lt gD hh.symm).1; have := h.o3; omega)).trans h.box
end
/-- the first k events of another hart -/
def mixH (h : Int) (k : Nat) (E : List Ev) : List Ev := (E.take k).map (fun e => e.of h) ++ E.drop k
theorem mixH_len (h : Int) (k : Nat) (E : List Ev) : (mixH h k E).length = E.length := by unfold mixH; simp; omega
theorem mixH_zero (h : Int) (E : List Ev) : mixH h 0 E = E := by unfold mixH; simp
theorem mixH_all (h : Int) (E : List Ev) : mixH h E.length E = E.map (fun e => e.of h) := by unfold mixH; simp
theorem mixH_step (h : Int) (k : Nat) (E : List Ev) (hk : k < E.length) : (flat (mixH h k E)).set (k * 14) (.int .i64 h) = flat (mixH h (k + 1) E) := by
  have h1 : mixH h k E = (E.take k).map (fun e => e.of h) ++ (E[k] :: E.drop (k + 1)) := by unfold mixH; rw [List.drop_eq_getElem_cons hk]
  have h2 : mixH h (k + 1) E = (E.take k).map (fun e => e.of h) ++ ((E[k]).of h :: E.drop (k + 1)) := by
    unfold mixH
    rw [List.take_succ_eq_append_getElem hk, List.map_append, List.append_assoc]; rfl
  have hl := flat_len ((E.take k).map (fun e => e.of h))
  rw [List.length_map, List.length_take, show min k E.length = k by omega] at hl
  have g1 : flat (mixH h k E) = flat ((E.take k).map (fun e => e.of h)) ++ (E[k].row ++ flat (E.drop (k + 1))) := by rw [h1, flat_app]; rfl
  have g2 : flat (mixH h (k + 1) E) = flat ((E.take k).map (fun e => e.of h)) ++ (((E[k]).of h).row ++ flat (E.drop (k + 1))) := by rw [h2, flat_app]; rfl
  rw [g1, g2, List.set_append, if_neg (by omega), hl, Nat.sub_self]
  rfl
/-- a hart's row under way: the rest as at world W1 but for the map -/
structure Ri (c : Cd) (gM tw : Nat) (h : Int) (L g cp j : Nat) (E : List Ev) (n : Nat) (D : DataW Unit) (w W1 wr : World) : Prop where
  fx : Gx gM W1 wr
  below : Below w.heap.size w wr
  map : OMi gM n D wr
  own : wr.ownsRow W1.heap.size 42 14 (.slice (some ⟨g, 0, none⟩) L cp) L (flat (mixH h j E))
  cp : Cp (c.ev tw) (c.el tw) E wr
  new : NewEs W1.heap.size E
  len : E.length = L
  gm : gM < W1.heap.size ∧ w.heap.size ≤ gM
theorem Ri.on {c : Cd} {gM tw : Nat} {h : Int} {L g cp j : Nat} {E : List Ev} {n : Nat} {D : DataW Unit} {w W1 wr w2 : World} (hr : Ri c gM tw h L g cp j E n D w W1 wr) (hb : Below wr.heap.size wr w2) : Ri c gM tw h L g cp j E n D w W1 w2 :=
  ⟨hr.fx.on hb, hr.below.trans (hb.mono hr.below.size), hr.map.on hb, own_on hr.own hb, hr.cp.on hb, hr.new, hr.len, hr.gm⟩
theorem Ri.lt {c : Cd} {gM tw : Nat} {h : Int} {L g cp j : Nat} {E : List Ev} {n : Nat} {D : DataW Unit} {w W1 wr : World} (hr : Ri c gM tw h L g cp j E n D w W1 wr) : W1.heap.size ≤ g ∧ g < wr.heap.size := hr.own.lt g rfl
/-- its hart is set -/
theorem Ri.set {c : Cd} {gM tw : Nat} {h : Int} {L g cp j : Nat} {E : List Ev} {n : Nat} {D : DataW Unit} {w W1 wr : World} (hr : Ri c gM tw h L g cp j E n D w W1 wr) (hj : j < L) : Ri c gM tw h L g cp (j + 1) E n D w W1 (wr.setCell ⟨g, j * 14, none⟩ (.int .i64 h)) := by
  obtain ⟨h1, h2⟩ := hr.own.stored (j * 14) (.int .i64 h)
  have hl := hr.lt
  have gm := hr.gm
  have hw := hr.below.size
  have hx := hr.fx.size
  rw [mixH_step h j E (by rw [hr.len]; exact hj)] at h1
  refine ⟨hr.fx.grown h2 (fun k hk => .inr (by injection hk with e; omega)), hr.below.grown h2 hr.below.size (fun k hk => by injection hk with e; omega), hr.map.blk (h2.block _ (by omega) (fun e => by injection e with e; omega)), h1, hr.cp.grown hr.own h2, hr.new, hr.len, hr.gm⟩
/-- its number is kept -/
theorem Ri.put {c : Cd} {gM tw : Nat} {h : Int} {L g cp j : Nat} {E : List Ev} {n n2 : Nat} {D D2 : DataW Unit} {w W1 wr w2 : World} (hr : Ri c gM tw h L g cp j E n D w W1 wr) (hm : OMi gM n2 D2 w2) (hg : wr.grownBy w2 (some gM)) : Ri c gM tw h L g cp j E n2 D2 w W1 w2 := by
  have hl := hr.lt
  have gm := hr.gm
  have hw := hr.below.size
  have hx := hr.fx.size
  have hk : Keep W1.heap.size wr w2 := ⟨hg.size, fun i h1 h2 => hg.block i h2 (fun e => by injection e with e; omega)⟩
  exact ⟨hr.fx.grown hg (fun k hk => .inl (by injection hk with e; omega)), hr.below.grown hg hr.below.size (fun k hk => by injection hk with e; omega), hm, own_keep hr.own hk, hr.cp.keep hr.new hk, hr.new, hr.len, hr.gm⟩
/-- the whole row -/
theorem Ri.row {c : Cd} {gM b k : Nat} {L g cp : Nat} {E : List Ev} {n : Nat} {D : DataW Unit} {w W1 wr : World} (hr : Ri c gM (twN c.nh b k) (k : Int) L g cp L E n D w W1 wr) (hL : c.len (twN c.nh b k) = L) {lo : Nat} (hlo : lo ≤ W1.heap.size) :
    RowE lo wr (.slice (some ⟨g, 0, none⟩) L cp) ((turnC c b).len k) (E.map (fun e => e.of (k : Int))) ((turnC c b).ev k) ((turnC c b).el k) := by
  have e1 : mixH (k : Int) L E = E.map (fun e => e.of (k : Int)) := by rw [← hr.len]; exact mixH_all _ _
  have ho := hr.own
  rw [e1] at ho
  have hget : ∀ (j : Nat) (e : Ev), (E.map (fun e => e.of (k : Int)))[j]? = some e → ∃ e0, E[j]? = some e0 ∧ e = e0.of (k : Int) := fun j e hj => by
    rw [List.getElem?_map] at hj
    cases h0 : E[j]? with
    | none => rw [h0] at hj; cases hj
    | some e0 => rw [h0] at hj; exact ⟨e0, rfl, (Option.some.inj hj).symm⟩
  refine ⟨by rw [List.length_map, hr.len]; exact hL.symm, by rw [show (turnC c b).len k = L from hL]; exact own_mono ho hlo, ⟨fun j e hj => ?_, fun j e hj => ?_, fun j e hj => ?_⟩, fun j e hj => ?_⟩
  · obtain ⟨e0, h0, rfl⟩ := hget j e hj
    obtain ⟨a, x, y, h1⟩ := hr.cp.like j e0 h0
    exact ⟨a, x, y, by rw [h1]; rfl⟩
  · obtain ⟨e0, h0, rfl⟩ := hget j e hj
    exact hr.cp.reads j e0 h0
  · obtain ⟨e0, h0, rfl⟩ := hget j e hj
    exact hr.cp.typed j e0 h0
  · obtain ⟨e0, h0, rfl⟩ := hget j e hj
    exact ⟨(hr.new j e0 h0).1.mono hlo, (hr.new j e0 h0).2.1.mono hlo, (hr.new j e0 h0).2.2.mono hlo⟩
/-! ### the lists -/
/-- From, so much gone through -/
def backN (B N j : Nat) : Nat := if j < N - B then j + B else j - (N - B)
theorem back_now {B N m : Nat} (hB : B ≤ N) (hm : m < N) : backN B N (nowN B N m) = m := by unfold backN nowN; split <;> split <;> omega
theorem now_back {B N j : Nat} (hB : B ≤ N) (hj : j < N) : nowN B N (backN B N j) = j := by unfold backN nowN; split <;> split <;> omega
def frV (c : Cd) (B i : Nat) : Int := if 0 ≤ atI c.fr i then (nowN B c.N (atI c.fr i).toNat : Int) else -1
def frF (c : Cd) (B i j : Nat) : Int := if backN B c.N j < i then frV c B (backN B c.N j) else 0
theorem frF_zero (c : Cd) (B j : Nat) : frF c B 0 j = 0 := by unfold frF; rw [if_neg (by omega)]
theorem frF_set {c : Cd} {B i : Nat} (hB : B ≤ c.N) (hi : i < c.N) (j : Nat) (hj : j < c.N) : frF c B (i + 1) j = if j = nowN B c.N i then frV c B i else frF c B i j := by
  unfold frF
  by_cases e : j = nowN B c.N i
  · rw [if_pos e, e, back_now hB hi, if_pos (by omega)]
  · rw [if_neg e]
    have hne : backN B c.N j ≠ i := fun h => e (by rw [← h, now_back hB hj])
    by_cases h1 : backN B c.N j < i
    · rw [if_pos h1, if_pos (by omega)]
    · rw [if_neg h1, if_neg (by omega)]
def frL (c : Cd) (B : Nat) : List Int := (List.range c.N).map (frF c B c.N)
theorem frL_at {c : Cd} {B : Nat} (hB : B ≤ c.N) (i : Nat) (hi : i < c.N) : atI (frL c B) (nowN B c.N i) = frV c B i := by
  unfold atI frL
  have hn := nowN_lt hB hi
  rw [List.getD_eq_getElem?_getD, List.getElem?_map, List.getElem?_range hn]
  show frF c B c.N (nowN B c.N i) = _
  unfold frF
  rw [back_now hB hi, if_pos hi]
def odL (c : Cd) (B k : Nat) : List Int := (c.od.take k).map (fun x => (nowN B c.N x.toNat : Int))
theorem odL_next {c : Cd} {B k : Nat} (hk : k < c.od.length) : odL c B (k + 1) = odL c B k ++ [(nowN B c.N (atI c.od k).toNat : Int)] := by
  unfold odL
  rw [List.take_succ_eq_append_getElem hk, List.map_append]
  congr 1
  unfold atI
  rw [List.getD_eq_getElem?_getD, List.getElem?_eq_getElem hk]; rfl
theorem odL_len {c : Cd} {B k : Nat} (hk : k ≤ c.od.length) : (odL c B k).length = k := by unfold odL; rw [List.length_map, List.length_take]; omega
theorem odL_all (c : Cd) (B : Nat) : odL c B c.od.length = c.od.map (fun x => (nowN B c.N x.toNat : Int)) := by unfold odL; rw [List.take_length]
/-- the lists under way: all else as at world B -/
structure Hy (c : Cd) (q : Cv) (b gB gM gD lo : Nat) (vF vH vR vO : Value) (n : Nat) (D : DataW Unit) (ess : List (List Ev)) (vals : List Value) (w B W : World) : Prop where
  hx : Hx c q b gB gM gD lo vF vH (.slice none 0 0) (.slice none 0 0) c.N n D c.nh ess vals w B
  fx : Gx gD B W
  below : Below w.heap.size w W
  box : CBox vF vH vR vO gD W
section
variable {c : Cd} {q : Cv} {b gB gM gD lo : Nat} {vF vH vR vO : Value} {n : Nat} {D : DataW Unit} {ess : List (List Ev)} {vals : List Value} {w B W W2 : World}
theorem Hy.on (h : Hy c q b gB gM gD lo vF vH vR vO n D ess vals w B W) (hb : Below W.heap.size W W2) : Hy c q b gB gM gD lo vF vH vR vO n D ess vals w B W2 := ⟨h.hx, h.fx.on hb, h.below.trans (hb.mono h.below.size), h.box.on hb⟩
theorem Hy.lk (h : Hy c q b gB gM gD lo vF vH vR vO n D ess vals w B W) : Lk c q w W := ⟨(h.fx.block _ h.hx.lk.box.lt (by have := h.hx.o3; omega)).trans h.hx.lk.box, h.below, h.hx.lk.here⟩
theorem Hy.map (h : Hy c q b gB gM gD lo vF vH vR vO n D ess vals w B W) : OMi gM n D W := h.hx.map.blk (h.fx.block _ h.hx.map.lt (by have := h.hx.o4; omega))
/-- a new block is written -/
theorem Hy.grown (h : Hy c q b gB gM gD lo vF vH vR vO n D ess vals w B W) {row : Option Nat} (hg : W.grownBy W2 row) (hr : ∀ k, row = some k → B.heap.size ≤ k) : Hy c q b gB gM gD lo vF vH vR vO n D ess vals w B W2 := by
  have hbB := h.hx.lk.below.size
  have hd := h.hx.box.lt
  exact ⟨h.hx, h.fx.grown hg (fun k hk => .inr (hr k hk)), h.below.grown hg h.below.size (fun k hk => by have := hr k hk; omega), (hg.block _ h.box.lt (fun e => by have := hr gD e.symm; omega)).trans h.box⟩
/-- a list of the candidate's box is another one -/
theorem Hy.put (h : Hy c q b gB gM gD lo vF vH vR vO n D ess vals w B W) (i : Nat) (u x2 x3 : Value) (hi : (#[vF, vH, vR, vO] : Array Value).setIfInBounds i u = #[vF, vH, x2, x3]) : Hy c q b gB gM gD lo vF vH x2 x3 n D ess vals w B (W.setCell ⟨gD, i, none⟩ u) := by
  have o3 := h.hx.o3
  refine ⟨h.hx, ⟨Nat.le_trans h.fx.size (by simp [World.setCell]), fun j h1 h2 => (Below.heap_setCell W ⟨gD, i, none⟩ u j h2).trans (h.fx.block j h1 h2)⟩, h.below.setCell (by show w.heap.size ≤ gD; omega) _, ?_⟩
  have := set_at W gD i u _ _ _ h.box
  rw [hi] at this
  exact this
end
end Go.Proofs.Ytokhnjcbcpmmjaa
