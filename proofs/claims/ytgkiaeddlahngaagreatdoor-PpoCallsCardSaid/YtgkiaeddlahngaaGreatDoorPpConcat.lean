/-
  Proved here: slices.Grow of nothing, slices.Concat of a candidate's rows: a row of the call's own that holds all events by number; nothing that was there is changed. Condition: at most 60 events.
-/
import Derived.Test.YtgkiaeddlahngaaGreatDoorCdNumbered
import Derived.Test.YtgkiaeddlahngaaGreatDoorEvRowWords
import Derived.Laws.AppendOwn
import Derived.Laws.OwnMore
namespace Go.Proofs.YtgkiaeddlahngaaGreatDoor
set_option linter.unusedVariables false
set_option linter.unusedSimpArgs false
open Go.RowKit
attribute [local go_sem ↓] fold_E fold_SE

/-- append of so many noughts to nothing: a new row with room -/
theorem run_append_make {P : Program} (w : World) (t u ty e : TypeId) (k : IntKind) (i : TypeInfo) (z : Value) (ht : P.underlying t = some (.slice e)) (hu : P.underlying u = some (.int k)) (hi : P.info? e = some i) (hz : i.zero = some z)
    (n : Nat) (h0 : 0 < n) (hs : 0 < i.size) (h63 : (n : Int) ≤ 9223372036854775807) (h48 : n * i.bytes ≤ 281474976710656) :
    (Builtin.append_ #[t, u] ty #[.slice none 0 0, .int .i64 n]).run P w =
      .ok (.slice (some ⟨w.heap.size, 0, none⟩) n (grownCap w n 0 e)) (w.drew.alloc (.cells (Builtin.zeroCells z.cells n ++ Builtin.zeroCells z.cells (grownCap w n 0 e - n)) e)) := by
  have hn : n ≠ 0 := by omega
  have h63' : ¬ (9223372036854775807 < (n : Int)) := by omega
  have h48' : ¬ (281474976710656 < Builtin.nextslicecap n 0 * i.bytes) := by rw [nextslicecap_zero h0]; omega
  have hw : IntKind.i64.wrap (n : Int) = n := IntWalk.i64_in _ (by omega)
  have h48i : ¬ (281474976710656 < (n : Int) * (i.bytes : Int)) := by
    have h1 : ((n * i.bytes : Nat) : Int) ≤ ((281474976710656 : Nat) : Int) := Int.ofNat_le.2 h48
    rw [Int.natCast_mul] at h1
    generalize (n : Int) * (i.bytes : Int) = q at h1 ⊢
    omega
  have hneg : ¬ ((n : Int) < 0) := by omega
  have hns : i.size ≠ 0 := by omega
  simp [Builtin.append_, run_underlying ht, run_underlying hu, sizeOf, typeInfo, zeroValue, hi, hz, hn, h63', h48', h48i, hneg, hns, hw, asInt, asIntOf, Question.forced, run_firstCells_none, newRow, grownCap]
  intro h
  rcases Nat.mul_eq_zero.1 h with h | h <;> omega
theorem run_append_zero {P : Program} (w : World) (t ty e : TypeId) (i : TypeInfo) (ht : P.underlying t = some (.slice e)) (hi : P.info? e = some i) (b : Option Addr) (n cp : Nat) (hn : n ≤ cp) (a : Option Addr) (c : Nat) :
    (Builtin.append_ #[t, t] ty #[.slice b n cp, .slice a 0 c]).run P w = .ok (.slice b n cp) w := by
  cases b <;> cases a <;> simp [Builtin.append_, run_underlying ht, sizeOf, typeInfo, hi, Builtin.lenOf, hn, Builtin.firstCells, loadCells, loadCellsFrom, storeCells]
def IsGrown (w : World) (e : Ending) (w' : World) : Prop := ∃ v, e = .returned v ∧ w'.ownsRow w.heap.size 48 14 v 0 [] ∧ Below w.heap.size w w'
theorem wpList_append_make {ops : Array Oper} {rest : List Oper} {o : Oper} {a : Act} {w : World} {Q : Exit → Act → World → Prop} (hgd : o.guard = none) (s x : Operand)
    (ho : o.op = .call { callee := .builtin .append, args := #[s, x], argTypes := #[41, 3] }) (hs : a.eval s = .slice none 0 0) (n : Nat) (hx : a.eval x = .int .i64 (n : Int)) (h0 : 0 < n) (hn : n ≤ 60)
    (h : ∀ cap w', n ≤ cap → w'.ownsRow w.heap.size 48 14 (.slice (some ⟨w.heap.size, 0, none⟩) 0 cap) 0 [] → Below w.heap.size w w' → wpList Tryz.prog ops Q rest (a.put o.dst (.slice (some ⟨w.heap.size, 0, none⟩) n cap)) w') : wpList Tryz.prog ops Q (o :: rest) a w := by
  obtain ⟨i0, hi, hz0, hz1, hz2⟩ := info_parts infoEv
  refine wpList_plain hgd fun K hK => ?_
  have hrun := run_append_make (P := Tryz.prog) w 41 3 o.type 48 .i64 i0 zeroEv.V Tryz.underlying41 Tryz.underlying3 hi hz0 n h0 (by rw [hz1]; omega) (by omega) (by rw [hz2]; omega)
  have hc := grownCap_ge w n 0 48
  have hm := grownCap_le_maxLen w n 0 48 (by unfold maxLen; omega)
  unfold Oper.wp
  simp [execOp, ho, resolve, invoke, builtin, hs, hx, hrun, Result.andThen]
  refine hK _ _ (h _ _ hc ⟨rfl, .inr ⟨w.heap.size, _, _, rfl, Nat.le_refl _, heap_alloc_new w.drew _, Nat.zero_le _, hm, ?_, by simp⟩⟩ ?_)
  · simp only [Array.size_append, size_zeroCells]
    show n * 14 + (grownCap w n 0 48 - n) * 14 = _
    omega
  · exact ((Below.refl _ _).drew).trans (box_below w.drew _)
set_option maxRecDepth 100000 in
theorem Grow_any (n : Nat) (hn : n ≤ 60) (w : World) : Calls Tryz.prog 83 #[.slice none 0 0, .int .i64 (n : Int)] w fun e w' => IsGrown w e w' := by
  rcases Nat.eq_zero_or_pos n with h0 | h0
  · subst h0
    go_enter Tryz.func83, Tryz.ntmps83
    go_wp2
    go_ret
    exact ⟨_, rfl, World.ownsRow_nil _ _ _ _, Below.refl _ _⟩
  · have h1 : decide ((n : Int) < 0) = false := by simp
    have h2 : decide ((0 : Int) < (n : Int)) = true := by simp; omega
    have hw : IntKind.i64.wrap (n : Int) = n := IntWalk.i64_in _ (by omega)
    go_enter Tryz.func83, Tryz.ntmps83
    go_wp2_with (at_builtin; (refine wpList_append_make rfl (.tmp 20) (.tmp 21) rfl rfl n rfl h0 hn ?_; intro cap w1 hc ho hb; have O1 := Lib.hid ho; have L1 := Lib.hid hb; have hci : (0 : Int) ≤ (cap : Int) := (by omega); clear ho hb))
    go_ret
    exact ⟨_, rfl, O1.out, L1.out⟩
theorem wpList_append_evs {ops : Array Oper} {rest : List Oper} {o : Oper} {a : Act} {w : World} {Q : Exit → Act → World → Prop} (hgd : o.guard = none) (s x : Operand)
    (ho : o.op = .call { callee := .builtin .append, args := #[s, x], argTypes := #[41, 41] }) (base : Nat) (v : Value) (n : Nat) (xs : List Value) (hs : a.eval s = v) (hown : w.ownsRow base 48 14 v n xs)
    (a2 : Option Addr) (m c2 : Nat) (news : List Value) (hx : a.eval x = .slice a2 m c2) (hl : news.length = m * 14) (hsrc : m = 0 ∨ ∃ ad, a2 = some ad ∧ ∀ i u, news[i]? = some u → w.cell? (ad.add i) = some u) (h1 : ∀ u ∈ news, u.oneCell' = true) (hn : n + m ≤ 60) (hbase : base ≤ w.heap.size)
    (h : ∀ v' w', w'.ownsRow base 48 14 v' (n + m) (xs ++ news) → w.grownBy w' v.ownBlock → wpList Tryz.prog ops Q rest (a.put o.dst v') w') : wpList Tryz.prog ops Q (o :: rest) a w := by
  obtain ⟨i0, hi, hz0, hz1, hz2⟩ := info_parts infoEv
  rcases hsrc with h0 | ⟨ad, rfl, hnews⟩
  · subst h0
    have hnn : news = [] := List.eq_nil_of_length_eq_zero (by simpa using hl)
    subst hnn
    obtain ⟨b, cp, rfl, hcp⟩ : ∃ b cp, v = .slice b n cp ∧ n ≤ cp := by
      rcases hown.2 with ⟨rfl, rfl⟩ | ⟨g, cap, cur, rfl, _, _, hc, _⟩
      · exact ⟨none, 0, rfl, Nat.le_refl _⟩
      · exact ⟨_, cap, rfl, hc⟩
    refine wpList_plain hgd fun K hK => ?_
    have hrun := run_append_zero (P := Tryz.prog) w 41 o.type 48 i0 Tryz.underlying41 hi b n cp hcp a2 c2
    unfold Oper.wp
    simp [execOp, ho, resolve, invoke, builtin, hs, hx, hrun, Result.andThen]
    exact hK _ _ (h _ _ (by simpa using hown) (World.grownBy.refl _ _))
  · exact wpList_append_own w hgd s x _ ho base 48 i0 zeroEv.V 14 152 Tryz.underlying41 hi hz0 hz1 hz2 (by kernel_rfl) (by decide) v n xs hs hown ad m c2 news hx hl hnews h1 (by unfold maxLen; omega) (by omega) hbase (fun v' w' h5 h6 _ => h v' w' h5 h6)
theorem own_low {W : World} {base base2 size n : Nat} {e : TypeId} {v : Value} {xs : List Value} (h : W.ownsRow base e size v n xs) (hb : base2 ≤ base) : W.ownsRow base2 e size v n xs := by
  refine ⟨h.1, ?_⟩
  rcases h.2 with hn | ⟨g, cap, cur, rfl, hb1, rest⟩
  · exact .inl hn
  · exact .inr ⟨g, cap, cur, rfl, Nat.le_trans hb hb1, rest⟩
def ConcatIs (c : Cd) (k : Nat) (w : World) (e : Ending) (w' : World) : Prop := ∃ v, e = .returned v ∧ w'.ownsRow w.heap.size 48 14 v (baseL c.len k) (flat ((allP c k).map (·.1))) ∧ Below w.heap.size w w'
theorem flat_all (c : Cd) (j : Nat) : flat ((allP c (j + 1)).map (·.1)) = flat ((allP c j).map (·.1)) ++ flat ((rowP c j).map (·.1)) := by
  rw [← flat_app]; congr 1; simp [allP]
set_option maxRecDepth 100000 in
set_option maxHeartbeats 8000000 in
theorem concat_any (c : Cd) (k : Nat) (a : Option Addr) (cp : Nat) (w : World) (hk : k ≤ 9) (hn : baseL c.len k ≤ 60) (h : HsAt c k a w) : Calls Tryz.prog 55 #[.slice a k cp] w fun e w' => ConcatIs c k w e w' := by
  have HV := Lib.hid h
  clear h
  go_enter Tryz.func55, Tryz.ntmps55
  go_wp2
  go_loopw [3, 11] (fun vs vi wr => ∃ (j : Nat), j ≤ k ∧ vi = .int .i64 j ∧ vs = .int .i64 (baseL c.len j : Nat) ∧ Hid (Below w.heap.size w wr)) (fun _ vi _ => k - (intOf vi).toNat)
  case atStart => exact ⟨0, Nat.zero_le _, rfl, rfl, Lib.hid (Below.refl _ _)⟩
  case round =>
    obtain ⟨j, hj, rfl, rfl, HL⟩ := hrel
    by_cases hlt : j < k
    · obtain ⟨b, off, a2, c2, rfl, hc, _, _⟩ := (HV.out.below HL.out).row j hlt
      have hb1 := baseL_mono c.len (j + 1) k (by omega)
      have hb2 : baseL c.len (j + 1) = baseL c.len j + c.len j := rfl
      have HE : Hid (((baseL c.len (j + 1) : Nat) : Int) = ((baseL c.len j : Nat) : Int) + ((c.len j : Nat) : Int)) := Lib.hid (by rw [hb2]; omega)
      have hw : IntKind.i64.wrap (((baseL c.len j : Nat) : Int) + ((c.len j : Nat) : Int)) = ((baseL c.len j : Nat) : Int) + ((c.len j : Nat) : Int) := IntWalk.i64_in _ (by omega)
      have hd : decide (((baseL c.len j : Nat) : Int) + ((c.len j : Nat) : Int) < 0) = false := by simp; omega
      have hj0 : (0 : Int) ≤ (j : Int) := by omega
      have hj1 : (j : Int) < (k : Int) := by omega
      clear hb1 hb2
      go_wp2
      go_roundw
      case rel => exact ⟨j + 1, by omega, by go_num, by rw [HE.out], HL⟩
      case measure => simp [intOf]; omega
    · obtain rfl : j = k := by omega
      have KG := Lib.hid (fun w0 => Grow_any (baseL c.len j) hn w0)
      go_wp2_with (go_at_call 83; (with_reducible refine (KG.out _).mono ?_); rintro e' w1 ⟨v1, rfl, ho, hb⟩; have O1 := Lib.hid ho; have B1 := Lib.hid (HL.out.trans (hb.mono HL.out.size)); have Z1 := Lib.hid HL.out.size; clear ho hb)
      go_loopw [6, 27] (fun v vi wq => ∃ (i : Nat), i ≤ j ∧ vi = .int .i64 i ∧ Hid (wq.ownsRow w.heap.size 48 14 v (baseL c.len i) (flat ((allP c i).map (·.1)))) ∧ Hid (Below w.heap.size w wq)) (fun _ vi _ => j - (intOf vi).toNat)
      case atStart => exact ⟨0, Nat.zero_le _, rfl, Lib.hid (own_low O1.out Z1.out), B1⟩
      case round =>
        obtain ⟨i, hi, rfl, HO, HB⟩ := hrel
        by_cases hij : i < j
        · obtain ⟨b, off, a2, c2, rfl, hc, _, hrow⟩ := (HV.out.below HB.out).row i hij
          have HR := Lib.hid hrow
          have hb1 := baseL_mono c.len (i + 1) j (by omega)
          have hb2 : baseL c.len (i + 1) = baseL c.len i + c.len i := rfl
          have hnm : baseL c.len i + c.len i ≤ 60 := by omega
          have hi0 : (0 : Int) ≤ (i : Int) := by omega
          have hi1 : (i : Int) < (j : Int) := by omega
          have hfl : (flat ((rowP c i).map (·.1))).length = c.len i * 14 := by rw [flat_len, List.length_map, rowP_len]
          have hsz := HB.out.size
          have HSr : Hid (c.len i = 0 ∨ ∃ ad, a2 = some ad ∧ ∀ q u, (flat ((rowP c i).map (·.1)))[q]? = some u → (_ : World).cell? (ad.add q) = some u) := Lib.hid (by
            rcases Nat.eq_zero_or_pos (c.len i) with h0 | h0
            · exact .inl h0
            · exact .inr (row_src HR.out rfl h0))
          have HOne := Lib.hid (one_src HR.out)
          clear hrow hb1 hb2
          go_wp2_with (at_builtin; (refine wpList_append_evs rfl (.tmp 31) (.tmp 32) rfl w.heap.size _ (baseL c.len i) _ rfl HO.out a2 (c.len i) c2 _ rfl hfl HSr.out HOne.out hnm hsz ?_; intro v' w2 ho hg; have O2 := Lib.hid ho; have B2 := Lib.hid (HB.out.grown hg HB.out.size (fun k hk => (HO.out.lt k hk).1)); clear ho hg))
          go_roundw
          case rel => exact ⟨i + 1, by omega, by go_num, Lib.hid (by rw [flat_all]; exact O2.out), B2⟩
          case measure => simp [intOf]; omega
        · obtain rfl : i = j := by omega
          go_wp2
          go_ret
          exact ⟨_, rfl, HO.out, HB.out⟩
end Go.Proofs.YtgkiaeddlahngaaGreatDoor
