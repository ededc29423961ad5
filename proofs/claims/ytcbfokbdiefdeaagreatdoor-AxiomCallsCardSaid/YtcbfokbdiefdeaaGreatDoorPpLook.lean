/-
  Proved here: ppo's look answers a view of a candidate that may be, with all that is known; nothing that was there is changed. Condition: a light candidate that may be.
  (With it: Proved here: slices.Grow of nothing, slices.Concat of a candidate's rows: a row of the call's own that holds all events by number; nothing that was there is changed. Condition: at most 60 events.)
-/
import Derived.Test.YtcbfokbdiefdeaaGreatDoorCdRise
import Derived.Test.YtcbfokbdiefdeaaGreatDoorRf07Pure
import Derived.Laws.AppendOwn
import Derived.Laws.OwnMore
import Derived.Test.YtcbfokbdiefdeaaGreatDoorPpHangers
namespace Go.Proofs.YtcbfokbdiefdeaaGreatDoor
set_option linter.unusedVariables false
set_option linter.unusedSimpArgs false
open Go.RowKit
attribute [local go_sem ↓] fold_E fold_SE

/-- append of so many noughts to nothing: a new row with room -/
theorem run_append_make {P : Program} (w : World) (t u ty e : TypeId) (k : IntKind) (i : TypeInfo) (z : Value) (ht : P.underlying t = some (.slice e)) (hu : P.underlying u = some (.int k)) (hi : P.info? e = some i) (hz : i.zero = some z)
    (n : Nat) (h0 : 0 < n) (hs : 0 < i.size) (h63 : (n : Int) ≤ 9223372036854775807) (h48 : n * i.bytes ≤ 281474976710656) :
    (Builtin.append_ #[t, u] ty #[.slice none 0 0, .int .i64 n]).run P w =
      .ok (.slice (some ⟨w.heap.size, 0, none⟩) n (grownCap w n 0 e)) (w.drew.alloc (.cells (Builtin.zeroCells z.cells n ++ Builtin.zeroCells z.cells (grownCap w n 0 e - n)) e)) := by
  have hn : n ≠ 0 := by omega
  have h63' : ¬ (9223372036854775807 < (n : Int)) := by omega
  have h48' : ¬ (281474976710656 < Builtin.nextslicecap n 0 * i.bytes) := by rw [nextslicecap_zero h0]; omega
  have hw : IntKind.i64.wrap (n : Int) = n := IntWalk.i64_in _ (by omega)
  have h48i : ¬ (281474976710656 < (n : Int) * (i.bytes : Int)) := by
    have h1 : ((n * i.bytes : Nat) : Int) ≤ ((281474976710656 : Nat) : Int) := Int.ofNat_le.2 h48
    rw [Int.natCast_mul] at h1
    generalize (n : Int) * (i.bytes : Int) = q at h1 ⊢
    omega
  have hneg : ¬ ((n : Int) < 0) := by omega
  have hns : i.size ≠ 0 := by omega
  simp [Builtin.append_, run_underlying ht, run_underlying hu, sizeOf, typeInfo, zeroValue, hi, hz, hn, h63', h48', h48i, hneg, hns, hw, asInt, asIntOf, Question.forced, run_firstCells_none, newRow, grownCap]
  intro h
  rcases Nat.mul_eq_zero.1 h with h | h <;> omega
theorem run_append_zero {P : Program} (w : World) (t ty e : TypeId) (i : TypeInfo) (ht : P.underlying t = some (.slice e)) (hi : P.info? e = some i) (b : Option Addr) (n cp : Nat) (hn : n ≤ cp) (a : Option Addr) (c : Nat) :
    (Builtin.append_ #[t, t] ty #[.slice b n cp, .slice a 0 c]).run P w = .ok (.slice b n cp) w := by
  cases b <;> cases a <;> simp [Builtin.append_, run_underlying ht, sizeOf, typeInfo, hi, Builtin.lenOf, hn, Builtin.firstCells, loadCells, loadCellsFrom, storeCells]
def IsGrown (w : World) (e : Ending) (w' : World) : Prop := ∃ v, e = .returned v ∧ w'.ownsRow w.heap.size 32 14 v 0 [] ∧ Below w.heap.size w w'
theorem wpList_append_make {ops : Array Oper} {rest : List Oper} {o : Oper} {a : Act} {w : World} {Q : Exit → Act → World → Prop} (hgd : o.guard = none) (s x : Operand)
    (ho : o.op = .call { callee := .builtin .append, args := #[s, x], argTypes := #[33, 3] }) (hs : a.eval s = .slice none 0 0) (n : Nat) (hx : a.eval x = .int .i64 (n : Int)) (h0 : 0 < n) (hn : n ≤ 60)
    (h : ∀ cap w', n ≤ cap → w'.ownsRow w.heap.size 32 14 (.slice (some ⟨w.heap.size, 0, none⟩) 0 cap) 0 [] → Below w.heap.size w w' → wpList Tryz.prog ops Q rest (a.put o.dst (.slice (some ⟨w.heap.size, 0, none⟩) n cap)) w') : wpList Tryz.prog ops Q (o :: rest) a w := by
  obtain ⟨i0, hi, hz0, hz1, hz2⟩ := info_parts infoEv
  refine wpList_plain hgd fun K hK => ?_
  have hrun := run_append_make (P := Tryz.prog) w 33 3 o.type 32 .i64 i0 zeroEv.V Tryz.underlying33 Tryz.underlying3 hi hz0 n h0 (by rw [hz1]; omega) (by omega) (by rw [hz2]; omega)
  have hc := grownCap_ge w n 0 32
  have hm := grownCap_le_maxLen w n 0 32 (by unfold maxLen; omega)
  unfold Oper.wp
  simp [execOp, ho, resolve, invoke, builtin, hs, hx, hrun, Result.andThen]
  refine hK _ _ (h _ _ hc ⟨rfl, .inr ⟨w.heap.size, _, _, rfl, Nat.le_refl _, heap_alloc_new w.drew _, Nat.zero_le _, hm, ?_, by simp⟩⟩ ?_)
  · simp only [Array.size_append, size_zeroCells]
    show n * 14 + (grownCap w n 0 32 - n) * 14 = _
    omega
  · exact ((Below.refl _ _).drew).trans (box_below w.drew _)
set_option maxRecDepth 100000 in
theorem Grow_any (n : Nat) (hn : n ≤ 60) (w : World) : Calls Tryz.prog 76 #[.slice none 0 0, .int .i64 (n : Int)] w fun e w' => IsGrown w e w' := by
  rcases Nat.eq_zero_or_pos n with h0 | h0
  · subst h0
    go_enter Tryz.func76, Tryz.ntmps76
    go_wp2
    go_ret
    exact ⟨_, rfl, World.ownsRow_nil _ _ _ _, Below.refl _ _⟩
  · have h1 : decide ((n : Int) < 0) = false := by simp
    have h2 : decide ((0 : Int) < (n : Int)) = true := by simp; omega
    have hw : IntKind.i64.wrap (n : Int) = n := IntWalk.i64_in _ (by omega)
    go_enter Tryz.func76, Tryz.ntmps76
    go_wp2_with (at_builtin; (refine wpList_append_make rfl (.tmp 20) (.tmp 21) rfl rfl n rfl h0 hn ?_; intro cap w1 hc ho hb; have O1 := Lib.hid ho; have L1 := Lib.hid hb; have hci : (0 : Int) ≤ (cap : Int) := (by omega); clear ho hb))
    go_ret
    exact ⟨_, rfl, O1.out, L1.out⟩
theorem wpList_append_evs {ops : Array Oper} {rest : List Oper} {o : Oper} {a : Act} {w : World} {Q : Exit → Act → World → Prop} (hgd : o.guard = none) (s x : Operand)
    (ho : o.op = .call { callee := .builtin .append, args := #[s, x], argTypes := #[33, 33] }) (base : Nat) (v : Value) (n : Nat) (xs : List Value) (hs : a.eval s = v) (hown : w.ownsRow base 32 14 v n xs)
    (a2 : Option Addr) (m c2 : Nat) (news : List Value) (hx : a.eval x = .slice a2 m c2) (hl : news.length = m * 14) (hsrc : m = 0 ∨ ∃ ad, a2 = some ad ∧ ∀ i u, news[i]? = some u → w.cell? (ad.add i) = some u) (h1 : ∀ u ∈ news, u.oneCell' = true) (hn : n + m ≤ 60) (hbase : base ≤ w.heap.size)
    (h : ∀ v' w', w'.ownsRow base 32 14 v' (n + m) (xs ++ news) → w.grownBy w' v.ownBlock → wpList Tryz.prog ops Q rest (a.put o.dst v') w') : wpList Tryz.prog ops Q (o :: rest) a w := by
  obtain ⟨i0, hi, hz0, hz1, hz2⟩ := info_parts infoEv
  rcases hsrc with h0 | ⟨ad, rfl, hnews⟩
  · subst h0
    have hnn : news = [] := List.eq_nil_of_length_eq_zero (by simpa using hl)
    subst hnn
    obtain ⟨b, cp, rfl, hcp⟩ : ∃ b cp, v = .slice b n cp ∧ n ≤ cp := by
      rcases hown.2 with ⟨rfl, rfl⟩ | ⟨g, cap, cur, rfl, _, _, hc, _⟩
      · exact ⟨none, 0, rfl, Nat.le_refl _⟩
      · exact ⟨_, cap, rfl, hc⟩
    refine wpList_plain hgd fun K hK => ?_
    have hrun := run_append_zero (P := Tryz.prog) w 33 o.type 32 i0 Tryz.underlying33 hi b n cp hcp a2 c2
    unfold Oper.wp
    simp [execOp, ho, resolve, invoke, builtin, hs, hx, hrun, Result.andThen]
    exact hK _ _ (h _ _ (by simpa using hown) (World.grownBy.refl _ _))
  · exact wpList_append_own w hgd s x _ ho base 32 i0 zeroEv.V 14 152 Tryz.underlying33 hi hz0 hz1 hz2 (by kernel_rfl) (by decide) v n xs hs hown ad m c2 news hx hl hnews h1 (by unfold maxLen; omega) (by omega) hbase (fun v' w' h5 h6 _ => h v' w' h5 h6)
theorem own_low {W : World} {base base2 size n : Nat} {e : TypeId} {v : Value} {xs : List Value} (h : W.ownsRow base e size v n xs) (hb : base2 ≤ base) : W.ownsRow base2 e size v n xs := by
  refine ⟨h.1, ?_⟩
  rcases h.2 with hn | ⟨g, cap, cur, rfl, hb1, rest⟩
  · exact .inl hn
  · exact .inr ⟨g, cap, cur, rfl, Nat.le_trans hb hb1, rest⟩
def ConcatIs (c : Cd) (k : Nat) (w : World) (e : Ending) (w' : World) : Prop := ∃ v, e = .returned v ∧ w'.ownsRow w.heap.size 32 14 v (baseL c.len k) (flat ((allP c k).map (·.1))) ∧ Below w.heap.size w w'
theorem flat_all (c : Cd) (j : Nat) : flat ((allP c (j + 1)).map (·.1)) = flat ((allP c j).map (·.1)) ++ flat ((rowP c j).map (·.1)) := by
  rw [← flat_app]; congr 1; simp [allP]
set_option maxRecDepth 100000 in
set_option maxHeartbeats 8000000 in
theorem concat_any (c : Cd) (k : Nat) (a : Option Addr) (cp : Nat) (w : World) (hk : k ≤ 9) (hn : baseL c.len k ≤ 60) (h : HsAt c k a w) : Calls Tryz.prog 59 #[.slice a k cp] w fun e w' => ConcatIs c k w e w' := by
  have HV := Lib.hid h
  clear h
  go_enter Tryz.func59, Tryz.ntmps59
  go_wp2
  go_loopw [3, 11] (fun vs vi wr => ∃ (j : Nat), j ≤ k ∧ vi = .int .i64 j ∧ vs = .int .i64 (baseL c.len j : Nat) ∧ Hid (Below w.heap.size w wr)) (fun _ vi _ => k - (intOf vi).toNat)
  case atStart => exact ⟨0, Nat.zero_le _, rfl, rfl, Lib.hid (Below.refl _ _)⟩
  case round =>
    obtain ⟨j, hj, rfl, rfl, HL⟩ := hrel
    by_cases hlt : j < k
    · obtain ⟨b, off, a2, c2, rfl, hc, _, _⟩ := (HV.out.below HL.out).row j hlt
      have hb1 := baseL_mono c.len (j + 1) k (by omega)
      have hb2 : baseL c.len (j + 1) = baseL c.len j + c.len j := rfl
      have HE : Hid (((baseL c.len (j + 1) : Nat) : Int) = ((baseL c.len j : Nat) : Int) + ((c.len j : Nat) : Int)) := Lib.hid (by rw [hb2]; omega)
      have hw : IntKind.i64.wrap (((baseL c.len j : Nat) : Int) + ((c.len j : Nat) : Int)) = ((baseL c.len j : Nat) : Int) + ((c.len j : Nat) : Int) := IntWalk.i64_in _ (by omega)
      have hd : decide (((baseL c.len j : Nat) : Int) + ((c.len j : Nat) : Int) < 0) = false := by simp; omega
      have hj0 : (0 : Int) ≤ (j : Int) := by omega
      have hj1 : (j : Int) < (k : Int) := by omega
      clear hb1 hb2
      go_wp2
      go_roundw
      case rel => exact ⟨j + 1, by omega, by go_num, by rw [HE.out], HL⟩
      case measure => simp [intOf]; omega
    · obtain rfl : j = k := by omega
      have KG := Lib.hid (fun w0 => Grow_any (baseL c.len j) hn w0)
      go_wp2_with (go_at_call 76; (with_reducible refine (KG.out _).mono ?_); rintro e' w1 ⟨v1, rfl, ho, hb⟩; have O1 := Lib.hid ho; have B1 := Lib.hid (HL.out.trans (hb.mono HL.out.size)); have Z1 := Lib.hid HL.out.size; clear ho hb)
      go_loopw [6, 27] (fun v vi wq => ∃ (i : Nat), i ≤ j ∧ vi = .int .i64 i ∧ Hid (wq.ownsRow w.heap.size 32 14 v (baseL c.len i) (flat ((allP c i).map (·.1)))) ∧ Hid (Below w.heap.size w wq)) (fun _ vi _ => j - (intOf vi).toNat)
      case atStart => exact ⟨0, Nat.zero_le _, rfl, Lib.hid (own_low O1.out Z1.out), B1⟩
      case round =>
        obtain ⟨i, hi, rfl, HO, HB⟩ := hrel
        by_cases hij : i < j
        · obtain ⟨b, off, a2, c2, rfl, hc, _, hrow⟩ := (HV.out.below HB.out).row i hij
          have HR := Lib.hid hrow
          have hb1 := baseL_mono c.len (i + 1) j (by omega)
          have hb2 : baseL c.len (i + 1) = baseL c.len i + c.len i := rfl
          have hnm : baseL c.len i + c.len i ≤ 60 := by omega
          have hi0 : (0 : Int) ≤ (i : Int) := by omega
          have hi1 : (i : Int) < (j : Int) := by omega
          have hfl : (flat ((rowP c i).map (·.1))).length = c.len i * 14 := by rw [flat_len, List.length_map, rowP_len]
          have hsz := HB.out.size
          have HSr : Hid (c.len i = 0 ∨ ∃ ad, a2 = some ad ∧ ∀ q u, (flat ((rowP c i).map (·.1)))[q]? = some u → (_ : World).cell? (ad.add q) = some u) := Lib.hid (by
            rcases Nat.eq_zero_or_pos (c.len i) with h0 | h0
            · exact .inl h0
            · exact .inr (row_src HR.out rfl h0))
          have HOne := Lib.hid (one_src HR.out)
          clear hrow hb1 hb2
          go_wp2_with (at_builtin; (refine wpList_append_evs rfl (.tmp 31) (.tmp 32) rfl w.heap.size _ (baseL c.len i) _ rfl HO.out a2 (c.len i) c2 _ rfl hfl HSr.out HOne.out hnm hsz ?_; intro v' w2 ho hg; have O2 := Lib.hid ho; have B2 := Lib.hid (HB.out.grown hg HB.out.size (fun k hk => (HO.out.lt k hk).1)); clear ho hg))
          go_roundw
          case rel => exact ⟨i + 1, by omega, by go_num, Lib.hid (by rw [flat_all]; exact O2.out), B2⟩
          case measure => simp [intOf]; omega
        · obtain rfl : i = j := by omega
          go_wp2
          go_ret
          exact ⟨_, rfl, HO.out, HB.out⟩
end Go.Proofs.YtcbfokbdiefdeaaGreatDoor
namespace Go.Proofs.YtcbfokbdiefdeaaGreatDoor
set_option linter.unusedVariables false
set_option linter.unusedSimpArgs false
open Go.RowKit Go.Maps
attribute [local go_sem ↓] fold_E fold_SE
attribute [local irreducible] wpStill

@[reducible] def zeroKn : Value := .agg #[.int .i64 0, .int .i64 0, .int .i64 0, .int .i64 0, .int .i64 0, .int .i64 0, .int .i64 0]
theorem infoKn : (Tryz.prog.info? 152).map (fun i => (i.zero, i.size, i.bytes)) = some (some zeroKn, 7, 56) := by kernel_rfl
theorem made_kn (n : Nat) : (madeCells zeroKn.cells (n * 7)).toList = kCells (fun _ _ => 0) n := by
  apply List.ext_getElem?
  intro j
  rcases Nat.lt_or_ge j (n * 7) with h | h
  · have hj : j < (madeCells zeroKn.cells (n * 7)).toList.length := by simpa [size_madeCells] using h
    have h2 : (kCells (fun _ _ => 0) n)[j]? = some (.int .i64 0) := by unfold kCells; rw [List.getElem?_map, List.getElem?_range h]; rfl
    have h3 : ∀ i : Fin 7, zeroKn.cells[i.val]! = .int .i64 0 := by intro i; rcases i with ⟨i, hi⟩; rcases i with _ | _ | _ | _ | _ | _ | _ | i <;> first | rfl | omega
    rw [h2, List.getElem?_eq_getElem hj]
    have h4 := h3 ⟨j % 7, by omega⟩
    have hs : zeroKn.cells.size = 7 := rfl
    simp only [madeCells, Array.getElem_toList, Array.getElem_map, Array.getElem_range, hs]
    rw [h4]
  · rw [List.getElem?_eq_none (by simpa [size_madeCells] using h), List.getElem?_eq_none (by rw [kCells_len]; exact h)]
theorem make_known (n : Nat) (hn : n ≤ 60) (w : World) : (Instr.makeSlice 109 (.int .i64 (n : Int)) (.int .i64 (n : Int))).run Tryz.prog w = .ok (.slice (some ⟨w.heap.size, 0, none⟩) n n) (w.alloc (.cells (kCells (fun _ _ => 0) n).toArray 152)) := by
  obtain ⟨i0, hi, hz0, hz1, hz2⟩ := info_parts infoKn
  have := run_make (P := Tryz.prog) w 109 152 i0 zeroKn Tryz.underlying109 hi hz0 .i64 .i64 (n : Int) (n : Int) (by omega) (Int.le_refl _) (by rw [hz2]; omega) (by omega)
  rw [this, hz1]
  have h2 := made_kn n
  simp only [Int.toNat_natCast]
  rw [← h2, Array.toArray_toList]
/-- all that is known -/
def finK (c : Cd) : Nat → Nat → Int := hanK c c.N 0 (fenK c c.N (layK (wrF c) 1 c.N (sidesK c c.N)))
theorem finK_side (c : Cd) (n : Nat) (hn : n < c.N) : finK c n 0 = ((sideE (c.at n).1 : Nat) : Int) := by
  unfold finK hanK fenK layK sidesK
  rw [if_neg (by omega), if_neg (by omega), if_neg (by omega), if_pos ⟨rfl, hn⟩]
theorem finK_writer (c : Cd) (n : Nat) (hn : n < c.N) : finK c n 1 = ((wrL c (c.at n).1.addr n : Nat) : Int) := by
  unfold finK hanK fenK layK
  rw [if_neg (by omega), if_neg (by omega), if_pos ⟨rfl, hn⟩]; rfl
theorem finK_fence (c : Cd) (n q : Nat) (hn : n < c.N) (hq : q < 4) : finK c n (2 + q) = ((fnL c (sideE (c.at n).1) q n : Nat) : Int) := by
  unfold finK hanK fenK
  rw [if_neg (by omega), if_pos ⟨by omega, by omega, hn⟩, show 2 + q - 2 = q by omega]; rfl
theorem finK_hanger (c : Cd) (n : Nat) (hn : n < c.N) : finK c n 6 = hgL c n c.N := by
  unfold finK hanK
  rw [if_pos ⟨rfl, hn⟩, hgP_zero]
/-- a view that lies fresh: nothing is known yet -/
theorem Vw.start {c : Cd} {q : Cv} {w1 : World} {v : Value} (hm : c.may = true) (hc : CAt c q w1) (hL : Lt c) {base : Nat} (ho : w1.ownsRow base 32 14 v c.N (flat ((allP c c.nh).map (·.1)))) :
    ∃ p : Vp, p.W0 = w1 ∧ v = .slice p.aA c.N p.cA ∧ p.aR = q.aR ∧ p.cR = q.cR ∧ p.gk = w1.heap.size ∧ p.g = w1.heap.size + 1 ∧ Vw c (fun _ _ => 0) p (((w1.alloc (.cells (kCells (fun _ _ => 0) c.N).toArray 152)).alloc (.cells #[v, .slice q.aR c.fr.length q.cR, .slice (some ⟨w1.heap.size, 0, none⟩) c.N c.N] 111))) := by
  have hblk : (((w1.alloc (.cells (kCells (fun _ _ => 0) c.N).toArray 152)).alloc (.cells #[v, .slice q.aR c.fr.length q.cR, .slice (some ⟨w1.heap.size, 0, none⟩) c.N c.N] 111))).heap[w1.heap.size + 1]? = some (.cells #[v, .slice q.aR c.fr.length q.cR, .slice (some ⟨w1.heap.size, 0, none⟩) c.N c.N] 111 (0, 0)) := by
    have := push_new (w1.alloc (.cells (kCells (fun _ _ => 0) c.N).toArray 152)) (.cells #[v, .slice q.aR c.fr.length q.cR, .slice (some ⟨w1.heap.size, 0, none⟩) c.N c.N] 111) (w1.heap.size + 1) (by simp)
    exact this
  have hkn : (((w1.alloc (.cells (kCells (fun _ _ => 0) c.N).toArray 152)).alloc (.cells #[v, .slice q.aR c.fr.length q.cR, .slice (some ⟨w1.heap.size, 0, none⟩) c.N c.N] 111))).heap[w1.heap.size]? = some (.cells (kCells (fun _ _ => 0) c.N).toArray 152 (0, 0)) :=
    push_old _ _ _ _ (push_new w1 _ _ rfl)
  have hbel : Below w1.heap.size w1 (((w1.alloc (.cells (kCells (fun _ _ => 0) c.N).toArray 152)).alloc (.cells #[v, .slice q.aR c.fr.length q.cR, .slice (some ⟨w1.heap.size, 0, none⟩) c.N c.N] 111))) := (box_below _ _).trans ((box_below _ _).mono (by simp))
  have hrd : ∀ n, n < c.N → EReads w1 (c.at n).1 (c.at n).2 := fun n hn => (reads_of_harts hc.harts n hn).1
  rcases ho.2 with ⟨rfl, h0⟩ | ⟨g, cap, cur, rfl, hb, hgg, hcc, hm2, hs, ht⟩
  · refine ⟨⟨none, 0, 0, 0, q.aR, q.cR, w1.heap.size, w1.heap.size + 1, w1⟩, rfl, by rw [h0], rfl, rfl, rfl, rfl, ⟨?_, hkn, hbel, Nat.le_refl _, by show w1.heap.size ≤ w1.heap.size + 1; omega, by show w1.heap.size + 1 ≠ w1.heap.size; omega, fun h => by omega, fun n hn => by omega, hrd, fun h => by omega, hc.from_⟩⟩
    rw [hblk, h0]
  · refine ⟨⟨some ⟨g, 0, none⟩, cap, g, 0, q.aR, q.cR, w1.heap.size, w1.heap.size + 1, w1⟩, rfl, rfl, rfl, rfl, rfl, rfl, ⟨hblk, hkn, hbel, Nat.le_refl _, by show w1.heap.size ≤ w1.heap.size + 1; omega, by show w1.heap.size + 1 ≠ w1.heap.size; omega, fun _ => rfl, fun n hn => ?_, hrd, fun _ => (Array.getElem?_eq_some_iff.1 hgg).1, hc.from_⟩⟩
    intro j u hu
    have he : ((allP c c.nh).map (·.1))[n]? = some (c.at n).1 := by rw [List.getElem?_map, c.at_mem n hn]; rfl
    have hx := flat_at _ n j _ u he (by unfold Ev.row; simpa using hu)
    have := ho.cells (g := g) (by simp [Value.ownBlock]) (n * 14 + j) u hx
    rw [Addr.add_lit] at this
    rw [← this]
    congr 2
    show 0 + n * 14 + j = 0 + (n * 14 + j)
    omega
def PLookIs (c : Cd) (w : World) (e : Ending) (w' : World) : Prop := ∃ p : Vp, e = .returned (.tuple #[.pointer (some ⟨p.g, 0, none⟩), .bool true]) ∧ Vw c (finK c) p w' ∧ Below w.heap.size w w'
set_option maxRecDepth 100000 in
set_option maxHeartbeats 8000000 in
theorem plook_yes (c : Cd) (q : Cv) (w : World) (hL : Lt c) (h : CAt c q w) (hm : c.may = true) : Calls Tryz.prog 77 #[cdV c q] w fun e w' => PLookIs c w e w' := by
  have KC := Lib.hid (fun w0 h0 => check_c c q w0 hL h0 true hm)
  have KN := Lib.hid (fun w0 (h0 : HsAt c c.nh q.aH w0) => (show Calls Tryz.prog 59 #[.slice q.aH c.nh q.cH] w0 fun e w' => ∃ v, e = .returned v ∧ w'.ownsRow w0.heap.size 32 14 v c.N (flat ((allP c c.nh).map (·.1))) ∧ Below w0.heap.size w0 w' from concat_any c c.nh q.aH q.cH w0 hL.nh hL.n h0))
  have S0 := Lib.hid (Lk.start h)
  have HL := Lib.hid hL
  have hN := hL.n
  have HM := Lib.hid hm
  clear h hL hm
  obtain ⟨u0, u1, u2, u3⟩ := S0.out.box.facts
  go_enter Tryz.func77, Tryz.ntmps77
  go_upto_region 4 with (first
    | (go_at_call 58; (with_reducible refine (KC.out _ S0.out.at_).mono ?_); rintro e' w1 ⟨rfl, hb⟩; have S1 := Lib.hid (S0.out.on hb); clear hb u0 u1 u2 u3; obtain ⟨u0, u1, u2, u3⟩ := S1.out.box.facts)
    | (go_at_call 59; (with_reducible refine (KN.out _ S1.out.at_.harts).mono ?_); rintro e' w2 ⟨v, rfl, ho, hb⟩; have O2 := Lib.hid ho; have S2 := Lib.hid (S1.out.on hb); clear ho hb u0 u1 u2 u3; obtain ⟨u0, u1, u2, u3⟩ := S2.out.box.facts))
  obtain ⟨p, hp0, hp1, hp2, hp3, hp4, hp5, hV⟩ := Vw.start HM.out S2.out.at_ HL.out O2.out
  have V0 := Lib.hid (hV.on (Below.refl _ _).drew)
  subst hp1
  have SD := Lib.hid (S2.out.on (Below.refl _ _).drew)
  have SK := Lib.hid ((S2.out.on (box_below w2 (.cells (kCells (fun _ _ => 0) c.N).toArray 152))).on (Below.refl _ _).drew)
  have SB := Lib.hid (((S2.out.on (box_below w2 (.cells (kCells (fun _ _ => 0) c.N).toArray 152))).on (box_below _ (.cells #[.slice p.aA c.N p.cA, .slice q.aR c.fr.length q.cR, .slice (some ⟨w2.heap.size, 0, none⟩) c.N c.N] 111))).on (Below.refl _ _).drew)
  have hmk := make_known c.N hN
  have B0 : Hid (p.W0 = w2) := Lib.hid hp0
  have KS := Lib.hid (fun w0 h0 => findSides_v c p w0 h0 hN)
  have KW := Lib.hid (fun w0 h0 => findWriters_v c p w0 h0 HL.out)
  have KF := Lib.hid (fun w0 h0 => findFences_v c p w0 (layK (wrF c) 1 c.N (sidesK c c.N)) (fun n hn => by unfold layK sidesK; rw [if_neg (by omega), if_pos ⟨rfl, hn⟩]) h0 hN (fun n hn => by obtain ⟨_, _, _, _, _, _, _, _, hk⟩ := may_num HM.out n hn; exact chk_parts hk))
  have KH := Lib.hid (fun w0 h0 => findHangers_v c p w0 (fenK c c.N (layK (wrF c) 1 c.N (sidesK c c.N))) (fun m hm => by unfold fenK layK sidesK; rw [if_neg (by omega), if_neg (by omega), if_neg (by omega)]) h0 HM.out HL.out)
  have HF : Hid (∀ W, Vw c (finK c) p W → PLookIs c w (.returned (.tuple #[.pointer (some ⟨w2.heap.size + 1, 0, none⟩), .bool true])) W) := Lib.hid (fun W hW => ⟨p, by rw [hp5], hW, by have h1 := hW.bel; rw [hp0] at h1; exact S2.out.below.trans (h1.mono S2.out.below.size)⟩)
  rw [hp5] at KS KW KF KH
  clear hp0 hp2 hp3 hp4 hp5 hV S0 S1
  go_region_held3 (fun w' => w'.cell? ⟨w.heap.size, 0, none⟩ = some (.slice q.aF c.fs.length q.cF) ∧ w'.cell? ⟨w.heap.size, 1, none⟩ = some (.slice q.aH c.nh q.cH) ∧ w'.cell? ⟨w.heap.size, 2, none⟩ = some (.slice q.aR c.fr.length q.cR) ∧ w'.cell? ⟨w.heap.size, 3, none⟩ = some (.slice q.aO c.od.length q.cO))
    (first | exact SB.out.box.facts | exact SK.out.box.facts | exact SD.out.box.facts) (fail)
  go_wp2_with (first
    | (go_at_call 96; (with_reducible refine (KS.out _ V0.out).mono ?_); rintro e' w3 ⟨rfl, hv⟩; have V3 := Lib.hid hv; clear hv)
    | (go_at_call 97; (with_reducible refine (KW.out _ V3.out).mono ?_); rintro e' w4 ⟨rfl, hv⟩; have V4 := Lib.hid hv; clear hv)
    | (go_at_call 98; (with_reducible refine (KF.out _ V4.out).mono ?_); rintro e' w5 ⟨rfl, hv⟩; have V5 := Lib.hid hv; clear hv)
    | (go_at_call 99; (with_reducible refine (KH.out _ V5.out).mono ?_); rintro e' w6 ⟨rfl, hv⟩; have V6 := Lib.hid hv; clear hv))
  exact bodyPost_ret (v := .tuple #[.pointer (some ⟨w2.heap.size + 1, 0, none⟩), .bool true]) (by simp [results, Tryz.results77]) rfl (HF.out _ V6.out)
end Go.Proofs.YtcbfokbdiefdeaaGreatDoor
