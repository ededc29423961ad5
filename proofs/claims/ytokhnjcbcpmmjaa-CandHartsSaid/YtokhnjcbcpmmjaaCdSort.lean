/-
  Proved here: slices.SortFunc with cand's byAddr puts cells in order of their addresses; nothing else that was there is changed. Condition: a row of the call's own.
  (With it: Proved here: cand's stored answers a map of what the last one in the order stored at each address; nothing that was there is changed. Condition: a light candidate that may be.)
-/
import Derived.Test.YtokhnjcbcpmmjaaCdPlaces
import Derived.Test.YtokhnjcbcpmmjaaCdMet
import Derived.Maps.OwnOps
import Derived.Maps.OwnSet
import Derived.Maps.RangeWalk
import Derived.Test.YtokhnjcbcpmmjaaSort
namespace Go.Proofs.Ytokhnjcbcpmmjaa
set_option linter.unusedVariables false
set_option linter.unusedSimpArgs false
open Go.RowKit Go.Maps
attribute [local go_sem ↓] fold_E fold_SE

abbrev OMu (b n : Nat) (D : DataW Unit) (w : World) : Prop := w.ownsMap Try.prog 33 (plainElem (H := Unit) Try.prog 33) b n D
theorem OMu.on {b n : Nat} {D : DataW Unit} {w w' : World} (h : OMu b n D w) (hb : Below w.heap.size w w') : OMu b n D w' := by
  obtain ⟨es, clock, h1, h2⟩ := h
  exact ⟨es, clock, (hb.block b (Array.getElem?_eq_some_iff.1 h1).1).trans h1, h2⟩
theorem OMu.more {b n : Nat} {D : DataW Unit} {w : World} (h : OMu b n D w) : OMu b (n + 1) D w := by
  obtain ⟨es, clock, h1, h2, h3, h4⟩ := h
  exact ⟨es, clock, h1, h2, by omega, h4⟩
/-- the map holds just that -/
structure MetD (f : Int → Option Int) (D : DataW Unit) : Prop where
  map : IsMap D
  has : ∀ x, Maps.has D (.int .u64 x) = (f x).isSome
  at_ : ∀ x v, f x = some v → ∀ zd, D.atKey (.int .u64 x) zd = .lit (.int .u64 v)
  no : ∀ x, f x = none → ∀ zd, D.atKey (.int .u64 x) zd = zd
theorem MetD.start : MetD (fun _ => none) (.map []) := ⟨⟨_, rfl⟩, fun _ => rfl, (fun _ _ h => by cases h), fun _ _ _ => rfl⟩
theorem MetD.put {f : Int → Option Int} {D : DataW Unit} (h : MetD f D) (a v : Int) : MetD (fun x => if a = x then some v else f x) (D.put (.int .u64 a) (.lit (.int .u64 v))) := by
  refine ⟨?_, fun x => ?_, fun x u hx zd => ?_, fun x hx zd => ?_⟩
  · obtain ⟨l, rfl⟩ := h.map
    exact ⟨_, rfl⟩
  · by_cases hx : a = x
    · subst hx
      rw [if_pos rfl, has_put_same h.map (by unfold WideAt.IsKeyLit; trivial)]; rfl
    · rw [if_neg hx, has_put_other (by simpa using fun e => hx e.symm)]
      exact h.has x
  · by_cases ha : a = x
    · subst ha
      rw [if_pos rfl] at hx
      cases hx
      exact atKey_put_same h.map (by unfold WideAt.IsKeyLit; trivial) _ _
    · rw [if_neg ha] at hx
      rw [atKey_put_other (by simpa using fun e => ha e.symm)]
      exact h.at_ x u hx zd
  · by_cases ha : a = x
    · rw [if_pos ha] at hx; cases hx
    · rw [if_neg ha] at hx
      rw [atKey_put_other (by simpa using fun e => ha e.symm)]
      exact h.no x hx zd
theorem MetD.ext {f f2 : Int → Option Int} {D : DataW Unit} (h : MetD f D) (he : ∀ x, f x = f2 x) : MetD f2 D := by
  obtain rfl : f = f2 := funext he
  exact h
theorem Lt.word {c : Cd} (h : Lt c) (n : Nat) (hn : n < c.N) : WordE (c.at n).1 := by
  obtain ⟨k, j, hk, hj, rfl⟩ := num_of c.len c.nh n hn
  rw [c.at_is k j hk hj]
  exact h.ew k hk j hj
theorem MetD.of_at {f : Int → Option Int} {D : DataW Unit} (h : MetD f D) (x y : Int) (hat : ∀ zd, D.atKey (.int .u64 x) zd = .lit (.int .u64 y)) : f x = some y := by
  cases hf : f x with
  | none =>
    have h0 := (h.no x hf (.lit (.int .u64 0))).symm.trans (hat _)
    have h1 := (h.no x hf (.lit (.int .u64 1))).symm.trans (hat _)
    rw [← h1] at h0
    injection h0 with h2
    injection h2 with _ h3
    omega
  | some v =>
    have h0 := (h.at_ x v hf (.lit (.int .u64 0))).symm.trans (hat _)
    injection h0 with h2
    injection h2 with _ h3
    rw [h3]
def StoredIs (c : Cd) (w : World) (e : Ending) (w' : World) : Prop := ∃ D, e = .returned (.map (some w.heap.size)) ∧ MetD (metL c c.od.length) D ∧ OMu w.heap.size c.od.length D w' ∧ Below w.heap.size w w'
set_option maxRecDepth 100000 in
set_option maxHeartbeats 8000000 in
theorem stored_any (c : Cd) (q : Cv) (g : Nat) (w : World) (hL : Lt c) (hm : c.may = true) (h : AllIn c g w) (ho : ReadsI w (.slice q.aO c.od.length q.cO) c.od) : Calls Try.prog 17 #[.slice q.aO c.od.length q.cO, .slice (some ⟨g, 0, none⟩) c.N c.N] w fun e w' => StoredIs c w e w' := by
  have HA := Lib.hid h
  have HIN := Lib.hid (may_in hm)
  have HW := Lib.hid (fun n hn => hL.word n hn)
  have ho120 := hL.od
  have HO : Hid (c.od.length = 0 ∨ ∃ b off, q.aO = some ⟨b, off, none⟩ ∧ b < w.heap.size ∧ ∀ j, j < c.od.length → w.cell? ⟨b, off + j, none⟩ = some (.int .i64 (atI c.od j))) := Lib.hid (by
    rcases ho with ⟨_, h0⟩ | ⟨b, off, c2, e, _, _, h3, h4⟩
    · exact .inl (by rw [h0]; rfl)
    · injection e with e1 e2 e3
      exact .inr ⟨b, off, e1, h3, h4⟩)
  have hmm := @run_makeMap Try.prog
  have HF : Hid (∀ W e, (∃ D, e = .returned (.map (some w.heap.size)) ∧ MetD (metL c c.od.length) D ∧ OMu w.heap.size c.od.length D W ∧ Below w.heap.size w W) → StoredIs c w e W) := Lib.hid (fun W e h => h)
  clear h hm hL ho
  obtain ⟨no, hno⟩ : ∃ no, Hid (c.od.length = no) := ⟨_, Lib.hid rfl⟩
  rw [hno.out] at HO HIN ho120 HF ⊢
  go_enter Try.func17, Try.ntmps17
  go_wp2
  clear hmm
  go_loopw [12] (fun vi wr => ∃ (k : Nat) (D : DataW Unit), k ≤ no ∧ vi = .int .i64 k ∧ Hid (MetD (metL c k) D) ∧ Hid (OMu w.heap.size k D wr) ∧ Below w.heap.size w wr) (fun vi _ => no - (intOf vi).toNat)
  case atStart => exact ⟨0, _, Nat.zero_le _, rfl, Lib.hid (MetD.start.ext (fun _ => rfl)), Lib.hid (World.ownsMap_made _ _ _ _), box_below _ _⟩
  case round =>
    obtain ⟨k, D, hk, rfl, hM, hO, hbel⟩ := hrel
    have HB := Lib.hid hbel
    clear hbel
    by_cases hlt : k < no
    · rcases HO.out with h0 | ⟨b, off, hq, hbl, hcell⟩
      · exact absurd h0 (by omega)
      have d0 := (HB.out.cell (p := ⟨b, off + k, none⟩) hbl).trans (hcell k hlt)
      obtain ⟨i0, i1⟩ := HIN.out k hlt
      obtain ⟨x, hx⟩ : ∃ x : Nat, atI c.od k = x := ⟨(atI c.od k).toNat, by omega⟩
      have HN : Hid (∀ y, metL c (k + 1) y = if writesE (c.at x).1 = true ∧ (c.at x).1.addr = y then some (c.at x).1.store else metL c k y) := Lib.hid (fun y => by
        show (if writesE (c.at (atI c.od k).toNat).1 = true ∧ (c.at (atI c.od k).toNat).1.addr = y then some (c.at (atI c.od k).toNat).1.store else metL c k y) = _
        rw [hx]; rfl)
      rw [hx] at d0 i1
      have hxN : x < c.N := by omega
      have cl := (HA.out.on HB.out).load x hxN
      have hfl := Lib.hid (HA.out.flat_ x hxN)
      have hwd := Lib.hid (HW.out x hxN)
      obtain ⟨e, he⟩ : ∃ e, Hid ((c.at x).1 = e) := ⟨_, Lib.hid rfl⟩
      rw [he.out] at cl hfl hwd HN
      obtain ⟨r, hr⟩ : ∃ r, Hid (writesE e = r) := ⟨_, Lib.hid rfl⟩
      have KM := Lib.hid (Writes_b e r hr.out)
      rw [hr.out] at HN
      rw [hq]
      have hk120 : k < maxLen := by unfold maxLen; omega
      have hw1 := hwd.out.1
      have hw2 := hwd.out.2
      clear hcell i0 i1 hx
      go_upto_region 6 with (refine store_ev (EvAt.new zeroEv _) e hfl.out rfl (.tmp 8) (.tmp 19) rfl rfl rfl ?_; intro w1 D1 ho1 hb1 hz1; have S1 := Lib.hid D1; have A1 := Lib.hid ((box_below wr (.cells #[.int .i64 0, .int .i64 0, .int .i64 0, .int .u64 0, .int .u64 0, .int .u64 0, .bool false, .bool false, .int .i64 0, .int .i64 0, .int .i64 0, .slice none 0 0, .slice none 0 0, .slice none 0 0] 42)).trans hb1); clear D1 ho1 hb1 hz1)
      have cl1 := run_LoadE S1.out
      clear cl
      cases r with
      | false =>
        go_wp2_with (go_at_call 29; (with_reducible refine (KM.out _).mono ?_); rintro e' w2 ⟨rfl, hb⟩; have A2 := Lib.hid (A1.out.trans (hb.mono A1.out.size)); clear hb cl1)
        go_roundw
        case rel => exact ⟨k + 1, D, by omega, by go_num, Lib.hid (hM.out.ext (fun y => by rw [HN.out y, if_neg (by simp)])), Lib.hid (hO.out.on A2.out).more, HB.out.trans (A2.out.mono HB.out.size)⟩
        case measure => simp [intOf]; omega
      | true =>
        go_wp2_with (first
          | (go_at_call 29; (with_reducible refine (KM.out _).mono ?_); rintro e' w2 ⟨rfl, hb⟩; have A2 := Lib.hid (A1.out.trans (hb.mono A1.out.size)); have O2 := Lib.hid (hO.out.on A2.out); have S2 := Lib.hid (S1.out.on hb); clear hb cl1; obtain ⟨_, _, _, _, x3, _, x5, _⟩ := S2.out.facts)
          | (at_mapUpdate; refine wpList_mapUpdate_own _ rfl _ _ _ 51 rfl 33 33 law_u64 Try.underlying51 _ w.heap.size k _ rfl O2.out hk120 _ _ _ rfl rfl (keyOf_int_mk Try.underlying33 hw1) _ [] (plainElem_int Try.underlying33 hw2) ?_; intro w8 hown1 hgrow1; have O8 := Lib.hid hown1; have L8 := Lib.hid ((HB.out.trans (A2.out.mono HB.out.size)).grown hgrow1 (HB.out.trans (A2.out.mono HB.out.size)).size (fun j hj => by cases hj; exact Nat.le_refl _)); clear hown1 hgrow1))
        go_roundw
        case rel => exact ⟨k + 1, _, by omega, by go_num, Lib.hid ((hM.out.put e.addr e.store).ext (fun y => by rw [HN.out y]; simp)), O8, L8.out⟩
        case measure => simp [intOf]; omega
    · obtain rfl : k = no := by omega
      go_wp2
      go_ret
      exact HF.out _ _ ⟨D, rfl, hM.out, hO.out, HB.out⟩
end Go.Proofs.Ytokhnjcbcpmmjaa
namespace Go.Proofs.Ytokhnjcbcpmmjaa
set_option linter.unusedVariables false
set_option linter.unusedSimpArgs false
open Go.RowKit

theorem aggCell : ∀ w, (isAgg 35).run Try.prog w = .ok true w := fun w => by
  unfold isAgg; rw [Sem.run_bind, run_underlying Try.underlying35 w]; rfl
theorem sizeCell : ∀ w, (Go.sizeOf 35).run Try.prog w = .ok 2 w := fun _ => by kernel_rfl
section
open Go.Proofs Go.Shelf Go.Lib Go.Sort
attribute [local go_sem ↓] fold_E fold_SE
theorem byAddr_grow (x y : Int × Int) (W : World) : Calls Try.prog 19 #[.agg #[.int .u64 x.1, .int .u64 x.2], .agg #[.int .u64 y.1, .int .u64 y.2]] W fun e w' => e = .returned (.int .i64 (cmpI x.1 y.1)) ∧ ∃ q os', w' = grow (W.drewN q) os' := by
  go_enter Try.func19, Try.ntmps19
  go_wp2_with (go_at_call 32; (with_reducible refine (compare_any _ _ _).mono ?_); rintro e' w1 ⟨rfl, rfl⟩)
  go_ret
  exact ⟨rfl, 0, _, by rw [alloc_eq_grow, alloc_eq_grow, grow_grow]; rfl⟩
theorem ltAddr (x y : Int × Int) : ltOf (fun x y : Int × Int => cmpI x.1 y.1) x y = decide (x.1 < y.1) := by
  unfold ltOf cmpI
  by_cases h1 : x.1 < y.1
  · simp [h1]
  · by_cases h2 : y.1 < x.1 <;> simp [h1, h2]
theorem swoAddr : SWO (ltOf fun x y : Int × Int => cmpI x.1 y.1) where
  irrefl x := by rw [ltAddr]; simp
  trans x y z h1 h2 := by rw [ltAddr] at *; simp at *; omega
  ntrans x y z h1 h2 := by rw [ltAddr] at *; simp at *; omega
theorem insertion_none (a : Option Addr) (c : Nat) (w : World) : Calls Try.prog 41 #[.slice a 0 c, .int .i64 0, .int .i64 0, .func (.func 19) #[] #[]] w fun e w' => e = .returned (.tuple #[]) ∧ w = w' := by
  go_enter Try.func41, Try.ntmps41
  go_wp2
  refine wp_loop_rounds 1 ?_
  rw [rounds_succ]
  go_wp2
  go_end0
  exact ⟨rfl, rfl⟩
theorem pdq_none (a : Option Addr) (c : Nat) (l : Int) (w : World) : Calls Try.prog 30 #[.slice a 0 c, .int .i64 0, .int .i64 0, .int .i64 l, .func (.func 19) #[] #[]] w fun e w' => e = .returned (.tuple #[]) ∧ w = w' := by
  have KI := Lib.hid (fun w0 => insertion_none a c w0)
  go_enter Try.func30, Try.ntmps30
  go_wp2
  refine wp_loop_rounds 1 ?_
  rw [rounds_succ]
  go_wp2_with (go_at_call 41; (with_reducible refine (KI.out _).mono ?_); rintro e' w1 ⟨rfl, rfl⟩)
  exact bodyPost_ret (v := .tuple #[]) (by simp [results, Try.results30]) rfl ⟨rfl, rfl⟩
theorem sort_none (a : Option Addr) (c : Nat) (w : World) : Calls Try.prog 18 #[.slice a 0 c, .func (.func 19) #[] #[]] w fun e w' => e = .returned (.tuple #[]) ∧ w = w' := by
  have KP := Lib.hid (fun l w0 => pdq_none a c l w0)
  have KB := Lib.hid (fun w0 => Try.bits_Len 0 w0 (by omega) (by omega))
  go_enter Try.func18, Try.ntmps18
  go_wp2_with (first
    | (go_at_call 31; (with_reducible refine (KB.out _).mono ?_); rintro e' w1 ⟨rfl, rfl⟩)
    | (go_at_call 30; (with_reducible refine (KP.out _ _).mono ?_); rintro e' w2 ⟨rfl, rfl⟩))
  go_end0
  exact ⟨rfl, rfl⟩
/-- what the sort answers -/
def SortIs (l : List (Int × Int)) (g : Nat) (w : World) (e : Ending) (w' : World) : Prop := e = .returned (.tuple #[]) ∧ ∃ l' : List (Int × Int), l'.Perm l ∧ (∀ i j, i < j → j < l'.length → fA l' i ≤ fA l' j) ∧ CellsIn w' g 0 l' ∧ g < w'.heap.size ∧ Go.RowKit.Below g w w'
theorem holds_row {l : List (Int × Int)} {g : Nat} {w : World} (h : ∀ t v, (flatC l)[t]? = some v → w.cell? ⟨g, t, none⟩ = some v ∧ w.frozen? ⟨g, t, none⟩ = false) : HoldsK encC 2 w g 0 l.toArray := by
  intro j hj
  have hj2 : j < l.length * 2 := by simpa using hj
  have hlt : j / 2 < l.length := by omega
  have h1 := flatC_at l (j / 2) (j % 2) hlt (by omega)
  rw [show j / 2 * 2 + j % 2 = j by omega] at h1
  obtain ⟨h2, h3⟩ := h j _ h1
  rw [Nat.zero_add]
  refine ⟨?_, h3⟩
  rw [h2, get_flatK _ _ _ _ (by simpa using hj2)]
  have e1 : l.toArray[j / 2]! = l[j / 2] := by simp [hlt]
  rw [e1]
  have e2 : fA l (j / 2) = l[j / 2].1 := by simp [fA, hlt]
  have e3 : fV l (j / 2) = l[j / 2].2 := by simp [fV, hlt]
  rcases Nat.mod_two_eq_zero_or_one j with hm | hm
  · rw [hm, e2]; simp [encC]
  · rw [hm, e3]; simp [encC]
theorem cells_of_holds {d : Array (Int × Int)} {g : Nat} {w : World} (h : HoldsK encC 2 w g 0 d) : CellsIn w g 0 d.toList := by
  intro j hj
  have hjs : j < d.size := by simpa using hj
  have a0 := (h (j * 2) (by simp; omega)).1
  have a1 := (h (j * 2 + 1) (by simp; omega)).1
  rw [get_flatK _ _ _ _ (by omega)] at a0 a1
  rw [show j * 2 / 2 = j by omega, show j * 2 % 2 = 0 by omega] at a0
  rw [show (j * 2 + 1) / 2 = j by omega, show (j * 2 + 1) % 2 = 1 by omega] at a1
  have e1 : d[j]! = d[j] := by simp [hjs]
  rw [e1] at a0 a1
  have e2 : fA d.toList j = d[j].1 := by simp [fA, hjs]
  have e3 : fV d.toList j = d[j].2 := by simp [fV, hjs]
  rw [e2, e3]
  exact ⟨by simpa [encC] using a0, by simpa [encC, Nat.add_assoc] using a1⟩
theorem below_sortWorld {g n : Nat} {d' : Array (Int × Int)} {os : Array Obj} {w : World} (hg : g < w.heap.size) : Go.RowKit.Below g w (sortWorldK encC 2 w g 0 n d' os) := by
  have hz : (putRowK encC 2 (Sort.ahead w n) g 0 d').heap.size = w.heap.size := by simp [putRowK, putRow, mapBlock, Sort.ahead]
  refine ⟨rfl, rfl, rfl, ?_, fun k hk => ?_⟩
  · unfold sortWorldK grow
    simp only [Array.size_append]
    omega
  · unfold sortWorldK grow
    simp only
    rw [Array.getElem?_append_left (by omega)]
    unfold putRowK putRow mapBlock
    simp only [Array.getElem?_modify]
    rw [if_neg (by omega)]
    rfl
theorem cmpLays (blk off size : Nat) (w : World) : CmpLays Try.prog 19 #[] encC 2 (fun x y => cmpI x.1 y.1) blk off size w := fun _ _ _ _ x y => byAddr_grow x y _
set_option maxHeartbeats 1000000 in
theorem sort_some (l : List (Int × Int)) (g cap : Nat) (w : World) (h : ∀ t v, (flatC l)[t]? = some v → w.cell? ⟨g, t, none⟩ = some v ∧ w.frozen? ⟨g, t, none⟩ = false) (hg : g < w.heap.size) (hl : l.length < 4611686018427387904) : Calls Try.prog 18 #[.slice (some ⟨g, 0, none⟩) l.length cap, .func (.func 19) #[] #[]] w fun e w' => SortIs l g w e w' := by
  have hH := holds_row h
  have eg : ∀ args w, (callFunc 19 args).run Try.prog w = .ok (.enter 19 args) w := enters_of Try.func19 (by kernel_rfl) rfl
  have hcon := AnyQ.slices_SortFunc Try.sortCells 2 aggCell sizeCell encC (fun _ => rfl) (fun x v hv => by simp [encC] at hv; rcases hv with rfl | rfl <;> rfl) (fun x y => cmpI x.1 y.1) swoAddr 19 #[] g 0 cap l.toArray w eg (cmpLays g 0 l.toArray.size w) hH hg (by simpa using hl)
  change Calls Try.prog 18 #[.slice (some ⟨g, 0, none⟩) l.toArray.size cap, _] _ _ at hcon
  rw [show l.toArray.size = l.length from List.size_toArray] at hcon
  refine hcon.mono fun e w' ⟨he, d', n, os, hp, hs, hw⟩ => ?_
  subst hw
  obtain ⟨hz, _, hperm⟩ := hp
  have hz2 : d'.size = l.length := by simpa using hz
  clear hz
  have e1 : d'.extract 0 l.length = d' := by rw [← hz2]; exact Array.extract_size
  have e2 : l.toArray.extract 0 l.length = l.toArray := by
    have := Array.extract_size (xs := l.toArray)
    rw [List.size_toArray] at this
    exact this
  rw [e1, e2] at hperm
  have hH2 : HoldsK encC 2 (sortWorldK encC 2 w g 0 n d' os) g 0 d' := by
    unfold sortWorldK
    exact holdsK_grow encC 2 _ os g 0 d' (by have : (putRowK encC 2 (Sort.ahead w n) g 0 d').heap.size = w.heap.size := (by simp [putRowK, putRow, mapBlock, Sort.ahead]); omega) (holdsK_putRowK encC 2 (Sort.ahead w n) g 0 l.toArray d' (holdsK_ahead encC 2 w n g 0 _ hH) (by rw [hz2, List.size_toArray]))
  refine ⟨he, d'.toList, by simpa using hperm, fun i j hij hj => ?_, cells_of_holds hH2, ?_, below_sortWorld hg⟩
  · have hj2 : j < d'.size := by simpa using hj
    have := hs i j (Nat.zero_le _) hij (by omega)
    rw [ltAddr] at this
    have e3 : d'[j]! = d'[j] := by simp [hj2]
    have e4 : d'[i]! = d'[i] := by simp [show i < d'.size by omega]
    rw [e3, e4] at this
    have e5 : fA d'.toList i = d'[i].1 := by simp [fA, show i < d'.size by omega]
    have e6 : fA d'.toList j = d'[j].1 := by simp [fA, hj2]
    rw [e5, e6]
    simpa using this
  · exact Nat.lt_of_lt_of_le hg (below_sortWorld hg).size
end
end Go.Proofs.Ytokhnjcbcpmmjaa
