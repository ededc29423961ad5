/-
  Proved here: the document's Put puts a value into cells that rise; nothing that was there is changed. Condition: at most 900 cells.
-/
import Derived.Test.YtokhnjcbcpmmjaaGreatRf09Put
import Derived.Test.YtokhnjcbcpmmjaaGreatCdKeep
import Derived.Deep.CutBlock
namespace Go.Proofs.YtokhnjcbcpmmjaaGreat
set_option linter.unusedVariables false
set_option linter.unusedSimpArgs false
open Go.RowKit
attribute [local go_sem ↓] fold_E fold_SE

/-- cells of the call's own -/
structure Pt (w W : World) (v : Value) (l : List (Int × Int)) : Prop where
  own : W.ownsRow w.heap.size 43 2 v l.length (flatC l)
  below : Below w.heap.size w W
theorem Pt.on {w W W2 : World} {v : Value} {l : List (Int × Int)} (h : Pt w W v l) (hb : Below W.heap.size W W2) : Pt w W2 v l := ⟨own_on h.own hb, h.below.trans (hb.mono h.below.size)⟩
theorem Pt.more {w W W2 : World} {v v2 : Value} {l : List (Int × Int)} (h : Pt w W v l) (p : Int × Int) (ho : W2.ownsRow w.heap.size 43 2 v2 (l.length + 1) (flatC l ++ [.int .u64 p.1, .int .u64 p.2])) (hg : W.grownBy W2 v.ownBlock) : Pt w W2 v2 (l ++ [p]) :=
  ⟨by rw [flatC_more, List.length_append]; exact ho, h.below.grown hg h.below.size (fun k hk => (h.own.lt k hk).1)⟩
theorem Pt.is {w W : World} {v : Value} {l l2 : List (Int × Int)} (h : Pt w W v l) (e : l = l2) : Pt w W v l2 := by rw [← e]; exact h
theorem tw_self {p : Int × Int → Bool} : ∀ {l : List (Int × Int)}, (∀ x ∈ l, p x = true) → l.takeWhile p = l
  | [], _ => rfl
  | a :: l, h => by rw [List.takeWhile_cons, if_pos (h a (by simp)), tw_self (fun x hx => h x (by simp [hx]))]
theorem takeW_all {l : List (Int × Int)} {x : Int} (h : ∀ j, j < l.length → fA l j < x) : l.takeWhile (fun p => decide (p.1 < x)) = l := by
  refine tw_self (fun p hp => ?_)
  obtain ⟨i, hi, rfl⟩ := List.mem_iff_getElem.1 hp
  have := h i hi
  rw [decide_eq_true_eq]
  have e : fA l i = l[i].1 := by simp [fA, hi]
  omega
theorem takeW_at {l : List (Int × Int)} {x : Int} {k : Nat} (hk : k < l.length) (h : ∀ j, j < k → fA l j < x) (hn : ¬ fA l k < x) : l.takeWhile (fun p => decide (p.1 < x)) = l.take k := by
  have e : l = l.take k ++ l.drop k := (List.take_append_drop k l).symm
  have hd : l.drop k = l[k] :: l.drop (k + 1) := List.drop_eq_getElem_cons hk
  have h1 : (l.take k).takeWhile (fun p => decide (p.1 < x)) = l.take k := by
    refine tw_self (fun p hp => ?_)
    obtain ⟨i, hi, rfl⟩ := List.mem_iff_getElem.1 hp
    rw [List.length_take] at hi
    have := h i (by omega)
    rw [decide_eq_true_eq, List.getElem_take]
    have e : fA l i = l[i].1 := by simp [fA, show i < l.length by omega]
    omega
  have h2 : fA l k = l[k].1 := by simp [fA, hk]
  rw [h2] at hn
  conv => lhs; rw [e]
  rw [List.takeWhile_append, if_pos (by rw [h1]), hd, List.takeWhile_cons, if_neg (by simpa using hn), List.append_nil]
theorem filt_next {l : List (Int × Int)} {x : Int} {k : Nat} (hk : k < l.length) : (l.take (k + 1)).filter (fun p => decide (x < p.1)) = (l.take k).filter (fun p => decide (x < p.1)) ++ (if x < fA l k then [fP l k] else []) := by
  rw [take_fP l k hk, List.filter_append]
  congr 1
  unfold fP
  by_cases h : x < fA l k
  · rw [if_pos h]; simp [h]
  · rw [if_neg h]; simp [h]
theorem filt_len (l : List (Int × Int)) (x : Int) (k : Nat) : ((l.take k).filter (fun p => decide (x < p.1))).length ≤ l.length := Nat.le_trans (List.length_filter_le _ _) (by rw [List.length_take]; omega)
theorem takeW_len (l : List (Int × Int)) (x : Int) : (l.takeWhile (fun p => decide (p.1 < x))).length ≤ l.length := (List.takeWhile_sublist _).length_le
set_option maxRecDepth 100000 in
set_option maxHeartbeats 8000000 in
theorem rput_any (v : Value) (l : List (Int × Int)) (x y : Int) (w : World) (h : ReadsF w v l) (hn : l.length ≤ 400) : Calls Tryz.prog 45 #[v, .int .u64 x, .int .u64 y] w fun e w' => OwnCIs w (putL l x y) e w' := by
  have HFC : Hid (l.length = 0 ∨ ∃ b off c, v = .slice (some ⟨b, off, none⟩) l.length c ∧ b < w.heap.size ∧ CellsIn w b off l) := Lib.hid (by
    rcases h with ⟨_, h0⟩ | ⟨b, off, c2, e, _, _, h3, h4⟩
    · exact .inl (by rw [h0]; rfl)
    · exact .inr ⟨b, off, c2, e, h3, h4⟩)
  obtain ⟨a0, c0, rfl⟩ := h.len
  have P0 : Hid (Pt w w (.slice none 0 0) []) := Lib.hid ⟨World.ownsRow_nil _ _ _ _, Below.refl _ _⟩
  obtain ⟨n, hnl⟩ : ∃ n, Hid (l.length = n) := ⟨_, Lib.hid rfl⟩
  have hn4 := hn
  rw [hnl.out] at HFC hn4 ⊢
  have TL := Lib.hid (takeW_len l x)
  rw [hnl.out] at TL
  clear h hn
  obtain ⟨m1, hm1⟩ : ∃ m, Hid (l.takeWhile (fun p => decide (p.1 < x)) = m) := ⟨_, Lib.hid rfl⟩
  obtain ⟨PU, hPU⟩ : ∃ PU, Hid (putL l x y = PU) := ⟨_, Lib.hid rfl⟩
  have HPUT : Hid (PU = m1 ++ ((if y = 0 then [] else [(x, y)]) ++ l.filter (fun p => decide (x < p.1)))) := Lib.hid (by rw [← hPU.out, ← hm1.out]; rfl)
  have TL2 : m1.length ≤ n := by rw [← hm1.out]; exact TL.out
  rw [hPU.out]
  go_enter Tryz.func45, Tryz.ntmps45
  go_upto_block 0 with fail
  go_cut [7] (fun t7 wx => ∃ v, t7 = v ∧ Hid (Pt w wx v m1))
  case first =>
    go_wp2
    go_loopw [7, 8] (fun vo vi wr => ∃ (k : Nat) (v : Value), v = vo ∧ k ≤ n ∧ vi = .int .i64 k ∧ Hid (∀ j, j < k → fA l j < x) ∧ Hid (Pt w wr vo (l.take k))) (fun _ vi _ => n - (intOf vi).toNat)
    case atStart => exact ⟨0, _, rfl, Nat.zero_le _, rfl, Lib.hid (fun j hj => absurd hj (by omega)), P0⟩
    case round =>
      obtain ⟨k, v, rfl, hk, rfl, hA, hP⟩ := hrel
      by_cases hin : k < n ∧ fA l k < x
      · obtain ⟨hlt, hxx⟩ := hin
        rcases HFC.out with h0 | ⟨b, off, c, hq, hbl, hcell⟩
        · exact absurd h0 (by omega)
        have hlt2 : k < l.length := by rw [hnl.out]; exact hlt
        obtain ⟨c1, c2⟩ := hcell k hlt2
        have d0 := (hP.out.below.cell (p := ⟨b, off + k * 2, none⟩) hbl).trans c1
        have d1 := (hP.out.below.cell (p := ⟨b, off + k * 2 + 1, none⟩) hbl).trans c2
        injection hq with q1 q2 q3
        subst q1 q3
        have hA2 : Hid (∀ j, j < k + 1 → fA l j < x) := Lib.hid (fun j hj => by
          by_cases e : j = k
          · rw [e]; exact hxx
          · exact hA.out j (by omega))
        have HT := Lib.hid (take_fP l k hlt2)
        unfold fP at HT
        have hl1000 : (l.take k).length ≤ 1000 := by rw [List.length_take]; omega
        have dX : decide (fA l k < x) = true := decide_eq_true hxx
        clear c1 c2 hcell q2 hxx hlt2
        obtain ⟨X, hX⟩ : ∃ X, Hid (fA l k = X) := ⟨_, Lib.hid rfl⟩
        obtain ⟨Y, hY⟩ : ∃ Y, Hid (fV l k = Y) := ⟨_, Lib.hid rfl⟩
        rw [hX.out] at d0 dX HT
        rw [hY.out] at d1 HT
        have L1 := Lib.hid (hP.out.on (box_below wr (.cells #[.int .u64 X, .int .u64 Y] 43)))
        have P1 : Hid (PairAt X Y wr.heap.size (wr.alloc (.cells #[.int .u64 X, .int .u64 Y] 43))) := Lib.hid Array.getElem?_push_size
        have hki : (k : Int) < (n : Int) := by omega
        have hk0 : (0 : Int) ≤ (k : Int) := by omega
        go_wp2_with (refine append_cell rfl (.tmp 25) (.tmp 30) rfl w.heap.size v (l.take k).length (flatC (l.take k)) rfl L1.out.own X Y wr.heap.size rfl P1.out hl1000 L1.out.below.size ?_; intro v2 w4 ho hg; have L4 := Lib.hid (L1.out.more (X, Y) ho hg); clear ho hg)
        go_roundw
        case rel => exact ⟨k + 1, _, rfl, by omega, by go_num, hA2, Lib.hid (L4.out.is HT.out.symm)⟩
        case measure => simp [intOf]; omega
      · rcases Nat.lt_or_ge k n with hlt | h1
        · have hxx : ¬ fA l k < x := fun h2 => hin ⟨hlt, h2⟩
          have hlt2 : k < l.length := by rw [hnl.out]; exact hlt
          have P2 : Hid (Pt w wr v m1) := Lib.hid (hP.out.is (by rw [← hm1.out]; exact (takeW_at hlt2 hA.out hxx).symm))
          rcases HFC.out with h0 | ⟨b, off, c, hq, hbl, hcell⟩
          · exact absurd h0 (by omega)
          have d0 := (hP.out.below.cell (p := ⟨b, off + k * 2, none⟩) hbl).trans (hcell k hlt2).1
          injection hq with q1 q2 q3
          subst q1 q3
          have dX : decide (fA l k < x) = false := decide_eq_false hxx
          obtain ⟨X, hX⟩ : ∃ X, Hid (fA l k = X) := ⟨_, Lib.hid rfl⟩
          rw [hX.out] at d0 dX
          have hki : (k : Int) < (n : Int) := by omega
          have hk0 : (0 : Int) ≤ (k : Int) := by omega
          clear hcell q2 hxx hlt2 hin hA hP
          go_wp2_with fail
          go_meet
          exact ⟨_, rfl, P2⟩
        · obtain rfl : k = n := by omega
          have P2 : Hid (Pt w wr v m1) := Lib.hid (hP.out.is (by
            rw [← hm1.out, takeW_all (by rw [hnl.out]; exact hA.out), ← hnl.out, List.take_length]))
          clear hin hA hP
          go_wp2_with fail
          go_meet
          exact ⟨_, rfl, P2⟩
  case rest =>
    obtain ⟨v, hv, hP⟩ := hcut
    have hv2 := hv.symm
    subst hv2
    obtain ⟨m2, hm2⟩ : ∃ m, Hid (m1 ++ (if y = 0 then [] else [(x, y)]) = m) := ⟨_, Lib.hid rfl⟩
    have ML : m2.length ≤ n + 1 := by rw [← hm2.out, List.length_append]; split <;> simp <;> omega
    have HPU2 : Hid (PU = m2 ++ l.filter (fun p => decide (x < p.1))) := Lib.hid (by rw [HPUT.out, ← hm2.out, List.append_assoc])
    go_upto_if 33 with fail
    go_cut [7] (fun t7 wx => ∃ v, t7 = v ∧ Hid (Pt w wx v m2))
    case first =>
      by_cases hy0 : y = 0
      · have P2 : Hid (Pt w _ v m2) := Lib.hid (hP.out.is (by rw [← hm2.out, if_pos hy0, List.append_nil]))
        have hy1 : (y != 0) = false := by simpa using hy0
        clear hy0
        go_wp2_with fail
        go_meet
        exact ⟨_, rfl, P2⟩
      · have HE : Hid (m1 ++ [(x, y)] = m2) := Lib.hid (by rw [← hm2.out, if_neg hy0])
        have hy1 : (y != 0) = true := by simpa using hy0
        clear hy0
        have hl1000 : m1.length ≤ 1000 := by omega
        have L1 := Lib.hid (hP.out.on (box_below wc (.cells #[.int .u64 x, .int .u64 y] 43)))
        have P1 : Hid (PairAt x y wc.heap.size (wc.alloc (.cells #[.int .u64 x, .int .u64 y] 43))) := Lib.hid Array.getElem?_push_size
        go_wp2_with (refine append_cell rfl (.tmp 34) (.tmp 38) rfl w.heap.size v m1.length (flatC m1) rfl L1.out.own x y wc.heap.size rfl P1.out hl1000 L1.out.below.size ?_; intro v2 w4 ho hg; have L4 := Lib.hid (L1.out.more (x, y) ho hg); clear ho hg)
        go_meet
        exact ⟨_, rfl, Lib.hid (L4.out.is HE.out)⟩
    case rest =>
      obtain ⟨v, rfl, hP⟩ := hcut
      go_wp2
      go_loopw [7, 9] (fun vo vi wr => ∃ (k : Nat) (v : Value), v = vo ∧ k ≤ n ∧ vi = .int .i64 k ∧ Hid (Pt w wr vo (m2 ++ (l.take k).filter (fun p => decide (x < p.1))))) (fun _ vi _ => n - (intOf vi).toNat)
      case atStart => exact ⟨0, _, rfl, Nat.zero_le _, rfl, Lib.hid (hP.out.is (by simp))⟩
      case round =>
        clear hP
        obtain ⟨k, v, rfl, hk, rfl, hP⟩ := hrel
        by_cases hlt : k < n
        · rcases HFC.out with h0 | ⟨b, off, c, hq, hbl, hcell⟩
          · exact absurd h0 (by omega)
          have hlt2 : k < l.length := by rw [hnl.out]; exact hlt
          obtain ⟨c1, c2⟩ := hcell k hlt2
          have d0 := (hP.out.below.cell (p := ⟨b, off + k * 2, none⟩) hbl).trans c1
          have d1 := (hP.out.below.cell (p := ⟨b, off + k * 2 + 1, none⟩) hbl).trans c2
          injection hq with q1 q2 q3
          subst q1 q3
          have HF := Lib.hid (filt_next (l := l) (x := x) hlt2)
          have FL := filt_len l x k
          rw [hnl.out] at FL
          obtain ⟨F, hF⟩ : ∃ F, Hid ((l.take k).filter (fun p => decide (x < p.1)) = F) := ⟨_, Lib.hid rfl⟩
          rw [hF.out] at HF hP FL
          unfold fP at HF
          clear c1 c2 hcell q2 hlt2 hF
          obtain ⟨X, hX⟩ : ∃ X, Hid (fA l k = X) := ⟨_, Lib.hid rfl⟩
          obtain ⟨Y, hY⟩ : ∃ Y, Hid (fV l k = Y) := ⟨_, Lib.hid rfl⟩
          rw [hX.out] at d0 HF
          rw [hY.out] at d1 HF
          have hki : (k : Int) < (n : Int) := by omega
          have hk0 : (0 : Int) ≤ (k : Int) := by omega
          by_cases hxx : x < X
          · have dX : decide (x < X) = true := decide_eq_true hxx
            have HE : Hid ((m2 ++ F) ++ [(X, Y)] = m2 ++ (l.take (k + 1)).filter (fun p => decide (x < p.1))) := Lib.hid (by rw [HF.out, if_pos hxx, List.append_assoc])
            have hl1000 : (m2 ++ F).length ≤ 1000 := by rw [List.length_append]; omega
            have L1 := Lib.hid (hP.out.on (box_below wr (.cells #[.int .u64 X, .int .u64 Y] 43)))
            have P1 : Hid (PairAt X Y wr.heap.size (wr.alloc (.cells #[.int .u64 X, .int .u64 Y] 43))) := Lib.hid Array.getElem?_push_size
            clear hxx HF
            go_wp2_with (refine append_cell rfl (.tmp 53) (.tmp 58) rfl w.heap.size v (m2 ++ F).length (flatC (m2 ++ F)) rfl L1.out.own X Y wr.heap.size rfl P1.out hl1000 L1.out.below.size ?_; intro v2 w4 ho hg; have L4 := Lib.hid (L1.out.more (X, Y) ho hg); clear ho hg)
            go_roundw
            case rel => exact ⟨k + 1, _, rfl, by omega, by go_num, Lib.hid (L4.out.is HE.out)⟩
            case measure => simp [intOf]; omega
          · have dX : decide (x < X) = false := decide_eq_false hxx
            have HE : Hid (m2 ++ F = m2 ++ (l.take (k + 1)).filter (fun p => decide (x < p.1))) := Lib.hid (by rw [HF.out, if_neg hxx, List.append_nil])
            clear hxx HF
            go_wp2
            go_roundw
            case rel => exact ⟨k + 1, _, rfl, by omega, by go_num, Lib.hid (hP.out.is HE.out)⟩
            case measure => simp [intOf]; omega
        · obtain rfl : k = n := by omega
          have PE : Hid (Pt w wr v PU) := Lib.hid (hP.out.is (by rw [HPU2.out, ← hnl.out, List.take_length]))
          clear hP
          go_wp2
          go_ret
          exact ⟨_, rfl, PE.out.own, PE.out.below⟩
end Go.Proofs.YtokhnjcbcpmmjaaGreat
