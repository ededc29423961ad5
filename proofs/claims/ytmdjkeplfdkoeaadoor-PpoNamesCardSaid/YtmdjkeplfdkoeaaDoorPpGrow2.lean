/-
  Proved here: one turn of a search by steps, the program's own. Condition: a light candidate that may be; two sets of one word that the caller made.
-/
import Derived.Test.YtmdjkeplfdkoeaaDoorPpGrow
namespace Go.Proofs.YtmdjkeplfdkoeaaDoor
set_option linter.unusedVariables false
set_option linter.unusedSimpArgs false
open Go.RowKit Go.Shelf Go.Maps
attribute [local go_sem] Oper.semAt_some
attribute [local go_sem ↓] fold_E fold_SE

theorem heap_alloc_at (w : World) (o : Obj) (k : Nat) : (w.alloc o).heap[k]? = if k = w.heap.size then some o else w.heap[k]? := by show (w.heap.push o)[k]? = _; rw [Array.getElem?_push]
theorem Gw.cells {p : Vp} {b gr s R' M : Nat} {G : Bool} {W : World} (h : Gw p b gr s R' M G W) : W.cell? ⟨s, 0, none⟩ = some (.pointer (some ⟨p.g, 0, none⟩)) ∧ W.cell? ⟨s + 1, 0, none⟩ = some (setV gr) ∧ W.cell? ⟨s + 2, 0, none⟩ = some (.int .i64 (b : Int)) ∧ W.cell? ⟨s + 4, 0, none⟩ = some (setV (s + 3)) ∧ W.cell? ⟨s + 5, 0, none⟩ = some (.bool G) ∧ W.frozen? ⟨s + 5, 0, none⟩ = false :=
  ⟨by rw [cell_of_row W s 0 _ _ _ h.bv]; rfl, by rw [cell_of_row W (s + 1) 0 _ _ _ h.br]; rfl, by rw [cell_of_row W (s + 2) 0 _ _ _ h.bb]; rfl, by rw [cell_of_row W (s + 4) 0 _ _ _ h.bm]; rfl, by rw [cell_of_row W (s + 5) 0 _ _ _ h.bg]; rfl, frozen_of_row W (s + 5) 0 _ _ h.bg⟩
/-- behind a number put into one of the two sets, and the word that there is one -/
theorem Gw.put1 {p : Vp} {b gr s R' M : Nat} {G : Bool} {W : World} (h : Gw p b gr s R' M G W) (hg : gr < s) (x : Nat) : Gw p b gr s x M G (W.setCell ⟨gr, 0, none⟩ (.int .u64 (x : Int))).drew := by
  have hne : ∀ k, k ≠ gr → (W.setCell ⟨gr, 0, none⟩ (.int .u64 (x : Int))).drew.heap[k]? = W.heap[k]? := fun k hk => Below.heap_setCell W ⟨gr, 0, none⟩ _ k hk
  refine ⟨(hne _ (by omega)).trans h.bv, (hne _ (by omega)).trans h.br, (hne _ (by omega)).trans h.bb, (hne _ (by omega)).trans h.bm, (hne _ (by omega)).trans h.bg, h.sr.put, (hne _ (by omega)).trans h.sm⟩
theorem Gw.put2 {p : Vp} {b gr s R' M : Nat} {G : Bool} {W : World} (h : Gw p b gr s R' M G W) (hg : gr < s) (x : Nat) : Gw p b gr s R' x G (W.setCell ⟨s + 3, 0, none⟩ (.int .u64 (x : Int))).drew := by
  have hne : ∀ k, k ≠ s + 3 → (W.setCell ⟨s + 3, 0, none⟩ (.int .u64 (x : Int))).drew.heap[k]? = W.heap[k]? := fun k hk => Below.heap_setCell W ⟨s + 3, 0, none⟩ _ k hk
  refine ⟨(hne _ (by omega)).trans h.bv, (hne _ (by omega)).trans h.br, (hne _ (by omega)).trans h.bb, (hne _ (by omega)).trans h.bm, (hne _ (by omega)).trans h.bg, (hne _ (by omega)).trans h.sr, h.sm.put⟩
theorem Gw.told {p : Vp} {b gr s R' M : Nat} {G : Bool} {W : World} (h : Gw p b gr s R' M G W) (hg : gr < s) (G' : Bool) : Gw p b gr s R' M G' (W.setCell ⟨s + 5, 0, none⟩ (.bool G')) := by
  have hne : ∀ k, k ≠ s + 5 → (W.setCell ⟨s + 5, 0, none⟩ (.bool G')).heap[k]? = W.heap[k]? := fun k hk => Below.heap_setCell W ⟨s + 5, 0, none⟩ _ k hk
  refine ⟨(hne _ (by omega)).trans h.bv, (hne _ (by omega)).trans h.br, (hne _ (by omega)).trans h.bb, (hne _ (by omega)).trans h.bm, ?_, (hne _ (by omega)).trans h.sr, (hne _ (by omega)).trans h.sm⟩
  have := cells_set W (s + 5) 0 (.bool G') _ _ _ h.bg
  rw [this]; simp
/-- what a round keeps -/
def Kb (B n : Nat) (W W' : World) : Prop := KeepsFrom B W W' ∧ Below n W W'
theorem Kb.refl (B n : Nat) (W : World) : Kb B n W W := ⟨KeepsFrom.refl _ _, Below.refl _ _⟩
theorem Kb.on {B n : Nat} {W X Y : World} (h : Kb B n W X) (hb : Below X.heap.size X Y) (hn : n ≤ X.heap.size) : Kb B n W Y := ⟨h.1.trans ((keeps_below hb).from _), h.2.trans (hb.mono hn)⟩
theorem Kb.set {B n : Nat} {W X : World} (h : Kb B n W X) (g : Nat) (v : Value) (hg : n ≤ g) : Kb B n W (X.setCell ⟨g, 0, none⟩ v) := ⟨h.1.trans ((KeepsOthers.setCell _ _ _).from _), h.2.setCell (p := ⟨g, 0, none⟩) hg _⟩
theorem Kb.drew {B n : Nat} {W X : World} (h : Kb B n W X) : Kb B n W X.drew := ⟨h.1.trans ((KeepsOthers.drew _).from _), h.2.drew⟩
set_option maxRecDepth 100000 in
set_option maxHeartbeats 4000000 in
theorem grow_in (c : Cd) (p : Vp) (w0 w : World) (hv : Vw c (finK c) p w0) (hx : Rx c) (hk : ∀ n, n < c.N → 1 ≤ (c.at n).1.kind ∧ (c.at n).1.kind ≤ 6) (hT : TabT w0) (h0 : Below w0.heap.size w0 w) (b : Nat) (hb : b < c.N) (R x gr gx : Nat) (hR : R < 18446744073709551616) (hX : x < 18446744073709551616) (sR : SetAt R gr w) (sX : SetAt x gx w) (hgr : w0.heap.size ≤ gr) (hxb : ∀ k, x.testBit k = true → k ≤ b) :
    CallsIn Fence.wide 3 Tryd.prog 27 #[.pointer (some ⟨p.g, 0, none⟩), setV gr, setV gx, .int .i64 (b : Int)] w fun e W => GrowIs c b gr R x w0.heap.size w0 e W := by
  have HN60 := hx.n60
  have hbz : ((b : Int) + 1 - 1) = b := by omega
  obtain ⟨s, hs⟩ : ∃ s, w.heap.size = s := ⟨_, rfl⟩
  have hgs : gr < s := by rw [← hs]; exact sR.lt
  have hxs : gx < s := by rw [← hs]; exact sX.lt
  have h0s : w0.heap.size ≤ s := by rw [← hs]; exact h0.size
  have KE := Lib.hid (fun W => setEmpty_any ((b : Int) + 1) (by omega) (by omega) W)
  have KN := Lib.hid (fun W => setNums_any gx W)
  refine callsIn_of_wp_marks Tryd.func27 rfl trivial ?_ rfl
  simp only [Tryd.ntmps27, List.size_toArray, List.length_cons, List.length_nil, Nat.reduceAdd, Nat.reduceSub, Array.replicate_succ, Array.replicate_zero, List.push_toArray, List.append_toArray, List.nil_append, List.cons_append]
  gi_wp2_with (first
    | (refine ⟨trivial, ?_⟩; gi_at_call 25; refine (callsIn_wide.2 (KE.out _)).mono ?_; rintro e' w' ⟨rfl, rfl⟩)
    | (refine ⟨trivial, ?_⟩; gi_at_call 47; refine (callsIn_wide.2 (KN.out _)).mono ?_; rintro e' w' ⟨rfl, rfl⟩))
  simp only [Nat.add_assoc, Nat.reduceAdd]
  obtain ⟨W1, hW1⟩ : ∃ W1, (((((((w.alloc (.cells #[.pointer (some ⟨p.g, 0, none⟩)] 43)).alloc (.cells #[setV gr] 64)).alloc (.cells #[.int .i64 (b : Int)] 3)).alloc (.cells #[.int .u64 0] 38)).alloc (.cells #[setV (s + 3)] 64)).alloc (.cells #[.bool false] 4)).alloc (.cells #[setV gx] 64)) = W1 := ⟨_, rfl⟩
  have HB1 : Below s w W1 := by
    rw [← hW1, ← hs]
    have h1 := (Below.refl w.heap.size w).alloc (Nat.le_refl _) (.cells #[.pointer (some ⟨p.g, 0, none⟩)] 43)
    have h2 := h1.alloc h1.size (.cells #[setV gr] 64)
    have h3 := h2.alloc h2.size (.cells #[.int .i64 (b : Int)] 3)
    have h4 := h3.alloc h3.size (.cells #[.int .u64 0] 38)
    have h5 := h4.alloc h4.size (.cells #[setV (w.heap.size + 3)] 64)
    have h6 := h5.alloc h5.size (.cells #[.bool false] 4)
    exact h6.alloc h6.size (.cells #[setV gx] 64)
  have hz1 : W1.heap.size = s + 7 := by rw [← hW1, ← hs]; simp
  have e0 : W1.heap[s]? = some (.cells #[.pointer (some ⟨p.g, 0, none⟩)] 43 (0, 0)) := by rw [← hW1, ← hs]; simp only [heap_alloc_at, World.size_alloc]; repeat (first | rw [if_neg (by omega)] | rw [if_pos trivial] | rw [if_pos (by omega)])
  have e1 : W1.heap[s + 1]? = some (.cells #[setV gr] 64 (0, 0)) := by rw [← hW1, ← hs]; simp only [heap_alloc_at, World.size_alloc]; repeat (first | rw [if_neg (by omega)] | rw [if_pos trivial] | rw [if_pos (by omega)])
  have e2 : W1.heap[s + 2]? = some (.cells #[.int .i64 (b : Int)] 3 (0, 0)) := by rw [← hW1, ← hs]; simp only [heap_alloc_at, World.size_alloc]; repeat (first | rw [if_neg (by omega)] | rw [if_pos trivial] | rw [if_pos (by omega)])
  have e3 : W1.heap[s + 3]? = some (.cells #[.int .u64 0] 38 (0, 0)) := by rw [← hW1, ← hs]; simp only [heap_alloc_at, World.size_alloc]; repeat (first | rw [if_neg (by omega)] | rw [if_pos trivial] | rw [if_pos (by omega)])
  have e4 : W1.heap[s + 4]? = some (.cells #[setV (s + 3)] 64 (0, 0)) := by rw [← hW1, ← hs]; simp only [heap_alloc_at, World.size_alloc]; repeat (first | rw [if_neg (by omega)] | rw [if_pos trivial] | rw [if_pos (by omega)])
  have e5 : W1.heap[s + 5]? = some (.cells #[.bool false] 4 (0, 0)) := by rw [← hW1, ← hs]; simp only [heap_alloc_at, World.size_alloc]; repeat (first | rw [if_neg (by omega)] | rw [if_pos trivial] | rw [if_pos (by omega)])
  have e6 : W1.heap[s + 6]? = some (.cells #[setV gx] 64 (0, 0)) := by rw [← hW1, ← hs]; simp only [heap_alloc_at, World.size_alloc]; repeat (first | rw [if_neg (by omega)] | rw [if_pos trivial] | rw [if_pos (by omega)])
  rw [hW1]
  have hgw : Gw p b gr s R 0 false W1 := ⟨e0, e1, e2, e4, e5, (HB1.block gr hgs).trans sR, e3⟩
  have hB1 : Below w0.heap.size w0 W1 := h0.trans (HB1.mono h0s)
  have hx1 : SetAt x gx W1 := (HB1.block gx hxs).trans sX
  have hc6 : W1.cell? ⟨s + 6, 0, none⟩ = some (setV gx) := by rw [cell_of_row W1 (s + 6) 0 _ _ _ e6]; rfl
  have hT1 : ∀ W', Below w0.heap.size W1 W' → TabT W' := fun W' h => hT.on (hB1.trans h)
  have hGI : GI c p b gr s R w0.heap.size w0 (([] : List (BitOf x)).map (·.1)) W1 := ⟨R, 0, false, (Gr.start hR).iff (fun k => by simp [DoneF]), hgw, hB1⟩
  have V0 := Lib.hid hv
  have HX := Lib.hid hx
  have HK := Lib.hid hk
  have hbn : b < 64 := by omega
  refine wpIn_rangeFunc_ownG rfl (by omega) (gf := 60) (lb := #[.pointer (some ⟨s + 6, 0, none⟩)]) rfl trivial (enters_of Tryd.func60 (by kernel_rfl) rfl)
    (nums_stops gx x (s + 6) w0.heap.size hX W1 hc6 (by omega) hx1 (by omega) hT1) belowK_t (belowK_b (by omega)) (Below.refl _ _) (fun _ => rfl)
    (fun (pre : List (BitOf x)) (W : World) => GI c p b gr s R w0.heap.size w0 (pre.map (·.1)) W)
    (fun _ _ _ => False)
    (GI.own (Nat.le_refl _) (by omega))
    (fun _ _ _ _ _ hs _ _ => hs)
    hGI
    (fun y => { tmps := #[.pointer (some ⟨p.g, 0, none⟩), setV gr, setV gx, .int .i64 (b : Int), .pointer (some ⟨s, 0, none⟩), .pointer (some ⟨s + 1, 0, none⟩), undef, .pointer (some ⟨s + 2, 0, none⟩), .slice none 0 0, .bool false, .pointer (some ⟨s + 4, 0, none⟩), .pointer (some ⟨s + 5, 0, none⟩), .int .i64 (y.1 : Int), undef, .int .i64 (b : Int), .int .i64 ((b : Int) + 1), setV (s + 3), setV gx, .func (.func 60) #[] #[.pointer (some ⟨s + 6, 0, none⟩)], .int .i64 (y.1 : Int), undef, undef, undef, undef, undef, undef, undef, undef, undef, undef, undef, undef, undef, undef, undef, undef, undef, undef, undef, undef, undef, undef, undef, undef, undef, undef], defers := [] }) ?assign ?body ?done ?stop
  case assign =>
    intro l y W K hK
    gi_wp2
    exact hK
  case body =>
    rintro l pre y W hgi hlt
    have HGI := Lib.hid hgi
    obtain ⟨f, hf⟩ : ∃ f : Nat, y.1 = f := ⟨_, rfl⟩
    have hfb : f ≤ b := by rw [← hf]; exact hxb _ y.2
    rw [hf]
    clear hgi hlt hGI hgw e0 e1 e2 e3 e4 e5 e6 hT1 hc6 hx1 hv hx hk sR sX HB1 hW1 hB1 hT KE KN
    have hw1 : IntKind.i64.wrap ((f : Int) + 1) = ((f + 1 : Nat) : Int) := by rw [IntWalk.i64_in _ (by omega)]; omega
    gi_wp2
    gi_loopw [13] (fun v wr => ∃ (t R' M : Nat) (G : Bool), v = .int .i64 (t : Int) ∧ f < t ∧ t ≤ b + 1 ∧ Hid (Gr R (DoneT c b (pre.map (·.1)) f t) R' M G) ∧ Hid (Gw p b gr s R' M G wr) ∧ Hid (Below w0.heap.size w0 wr) ∧ Hid (Kb W1.heap.size w0.heap.size W wr)) (fun v _ => b + 1 - (intOf v).toNat)
    case atStart =>
      obtain ⟨R', M, G, g1, g2, g3⟩ := HGI.out
      exact ⟨f + 1, R', M, G, by first | rfl | simp, by omega, by omega, Lib.hid (g1.iff fun k => DoneT.first), Lib.hid g2, Lib.hid g3, Lib.hid (Kb.refl _ _ _)⟩
    case round =>
      obtain ⟨t, R', M, G, rfl, hft, htb, HG, HW, HB, HKb⟩ := hrel
      obtain ⟨c0, c1, c2, c3, c4, c5⟩ := HW.out.cells
      by_cases hlt : t ≤ b
      · have d1 : decide ((t : Int) ≤ (b : Int)) = true := by simp; omega
        have d2 : IntKind.i64.wrap ((t : Int) + 1) = ((t + 1 : Nat) : Int) := by rw [IntWalk.i64_in _ (by omega)]; omega
        have HH := Lib.hid (setHas_any R' gr t HG.out.r (by omega) wr HW.out.sr)
        have VW := Lib.hid (V0.out.on HB.out)
        cases hb1 : R'.testBit t with
        | true =>
          have HH1 := Lib.hid (HH.out true hb1)
          have HGn := Lib.hid (HG.out.keep t (edge c f t = true) (fun k => DoneT.next hlt) (fun _ => hb1))
          clear hb1
          gi_wp2_with (refine ⟨trivial, ?_⟩; gi_at_call 28; refine (CallsIn.inRound l (callsIn_wide.2 HH1.out)).mono ?_; rintro e' w' ⟨rfl, rfl⟩)
          refine ⟨trivial, ?_⟩
          gi_wp2
          go_roundw
          case rel => exact ⟨t + 1, R', M, G, by first | rfl | simp, by omega, by omega, HGn, HW, HB, HKb⟩
          case measure => simp [intOf]; omega
        | false =>
          have HH1 := Lib.hid (HH.out false hb1)
          have KF := Lib.hid (first_any c p wr VW.out HX.out HK.out (f : Int) (t : Int))
          obtain ⟨r, hr⟩ : ∃ r, ruleL c (f : Int) (t : Int) = r := ⟨_, rfl⟩
          rw [hr] at KF
          by_cases h0r : r = 0
          · have he : edge c f t = false := by unfold edge; simp; rw [hr, h0r]
            have HGn := Lib.hid (HG.out.keep t (edge c f t = true) (fun k => DoneT.next hlt) (fun h => by rw [he] at h; cases h))
            have d3 : ((r : Int) != 0) = false := by simp [h0r]
            clear hb1 he hr h0r
            gi_wp2_with (first | (refine ⟨trivial, ?_⟩; gi_at_call 28; refine (CallsIn.inRound l (callsIn_wide.2 HH1.out)).mono ?_; rintro e' w' ⟨rfl, rfl⟩) | (refine ⟨trivial, ?_⟩; gi_at_call 14; refine (CallsIn.inRound l (callsIn_wide.2 KF.out)).mono ?_; rintro e' w2 ⟨rfl, hb2⟩; have W2 := Lib.hid (HW.out.below hb2); have B2 := Lib.hid (HB.out.trans (hb2.mono HB.out.size)); have K2 := Lib.hid (HKb.out.on hb2 HB.out.size); obtain ⟨a0, a1, a2, a3, a4, a5⟩ := W2.out.cells; clear hb2 KF))
            go_roundw
            case rel => exact ⟨t + 1, R', M, G, by first | rfl | simp, by omega, by omega, HGn, W2, B2, K2⟩
            case measure => simp [intOf]; omega
          · have he : edge c f t = true := by unfold edge; simp; rw [hr]; exact h0r
            have HGn := Lib.hid (HG.out.put (D' := DoneT c b (pre.map (·.1)) f (t + 1)) t (by omega) hb1 (fun k => by rw [DoneT.next hlt, he]; simp))
            have d3 : ((r : Int) != 0) = true := by simp; omega
            clear hb1 he hr h0r
            gi_wp2_with (first | (refine ⟨trivial, ?_⟩; gi_at_call 28; refine (CallsIn.inRound l (callsIn_wide.2 HH1.out)).mono ?_; rintro e' w' ⟨rfl, rfl⟩) | (refine ⟨trivial, ?_⟩; gi_at_call 14; refine (CallsIn.inRound l (callsIn_wide.2 KF.out)).mono ?_; rintro e' w2 ⟨rfl, hb2⟩; have W2 := Lib.hid (HW.out.below hb2); have B2 := Lib.hid (HB.out.trans (hb2.mono HB.out.size)); have K2 := Lib.hid (HKb.out.on hb2 HB.out.size); obtain ⟨a0, a1, a2, a3, a4, a5⟩ := W2.out.cells; have KP1 := Lib.hid (setPut_any R' gr t HG.out.r (by omega) w2 W2.out.sr); clear hb2 KF c0 c1 c2 c3 c4 c5) | (refine ⟨trivial, ?_⟩; gi_at_call 26; refine (CallsIn.inRound l (callsIn_wide.2 KP1.out)).mono ?_; rintro e' w3 ⟨⟨v3, rfl⟩, hw3⟩; have W3 : Hid (Gw p b gr s (R' ||| 2 ^ t) M G w3) := Lib.hid (hw3 ▸ W2.out.put1 hgs _); have B3 : Hid (Below w0.heap.size w0 w3) := Lib.hid (hw3 ▸ (B2.out.setCell (p := ⟨gr, 0, none⟩) hgr _).drew); have K3 : Hid (Kb W1.heap.size w0.heap.size W w3) := Lib.hid (hw3 ▸ (K2.out.set gr _ hgr).drew); have KP2 := Lib.hid (setPut_any M (s + 3) t HG.out.m (by omega) w3 W3.out.sm); clear hw3 KP1 a0 a1 a2 a3 a4 a5; obtain ⟨a0, a1, a2, a3, a4, a5⟩ := W3.out.cells) | (refine ⟨trivial, ?_⟩; gi_at_call 26; refine (CallsIn.inRound l (callsIn_wide.2 KP2.out)).mono ?_; rintro e' w4 ⟨⟨v4, rfl⟩, hw4⟩; have W4 : Hid (Gw p b gr s (R' ||| 2 ^ t) (M ||| 2 ^ t) G w4) := Lib.hid (hw4 ▸ W3.out.put2 hgs _); have B4 : Hid (Below w0.heap.size w0 w4) := Lib.hid (hw4 ▸ (B3.out.setCell (p := ⟨s + 3, 0, none⟩) (by show _ ≤ s + 3; omega) _).drew); have K4 : Hid (Kb W1.heap.size w0.heap.size W w4) := Lib.hid (hw4 ▸ (K3.out.set (s + 3) _ (by omega)).drew); clear hw4 KP2 a0 a1 a2 a3 a4 a5; obtain ⟨a0, a1, a2, a3, a4, a5⟩ := W4.out.cells))
            go_roundw
            case rel => exact ⟨t + 1, R' ||| 2 ^ t, M ||| 2 ^ t, true, by first | rfl | simp, by omega, by omega, HGn, Lib.hid (W4.out.told hgs true), Lib.hid (B4.out.setCell (p := ⟨s + 5, 0, none⟩) (by show _ ≤ s + 5; omega) _), Lib.hid (K4.out.set (s + 5) _ (by omega))⟩
            case measure => simp [intOf]; omega
      · have d1 : decide ((t : Int) ≤ (b : Int)) = false := by simp; omega
        gi_wp2
        exact ⟨HKb.out.1, HKb.out.2, R', M, G, HG.out.iff (fun k => by rw [List.map_append]; simp only [List.map_cons, List.map_nil, hf]; exact DoneT.last (by omega)), HW.out, HB.out⟩
  case done =>
    rintro D ys W hD hall hgi hK
    obtain ⟨R', M, G, g1, g2, g3⟩ := hgi
    have HG := Lib.hid g1
    have HW := Lib.hid g2
    have HB := Lib.hid g3
    have HD := Lib.hid hD
    have HA := Lib.hid hall
    obtain ⟨c0, c1, c2, c3, c4, c5⟩ := HW.out.cells
    clear g1 g2 g3 hall hD
    gi_wp2
    gi_region
    all_goals gi_wp2
    have hK2 : W.drew.heap[D]? = some (.deferred (some [])) := hK
    refine ⟨by simp, .inl ⟨_, _, rfl, run_takeDeferred hK2, ?_⟩⟩
    have hW2 := (HW.out.on (W' := W.drew) (fun _ _ _ _ h => h)).on (grown_cells (grownBy_putObj' W.drew D (.deferred none)) (fun r e => by cases e; exact ⟨_, hK2, rfl⟩))
    have hB2 := HB.out.drew.trans (belowK_b (w := W1) (n₀ := w0.heap.size) (by omega) W.drew D _ (.deferred none) HD.out hK2 rfl rfl)
    refine ⟨.tuple #[setV (s + 3), .bool G], by simp [results, Tryd.results27], R', M, G, ys.map (·.1), s + 3, rfl, fun k => ?_, HG.out, hW2.sr, hW2.sm, by omega, by omega, hB2⟩
    constructor
    · intro h
      obtain ⟨y, h1, h2⟩ := HA.out k h
      exact List.mem_map.2 ⟨y, h1, h2⟩
    · intro h
      obtain ⟨y, h1, rfl⟩ := List.mem_map.1 h
      exact y.2
  case stop =>
    rintro D c2 pre W _ _ h _
    exact h.elim
theorem grow_any (c : Cd) (p : Vp) (w0 w : World) (hv : Vw c (finK c) p w0) (hx : Rx c) (hk : ∀ n, n < c.N → 1 ≤ (c.at n).1.kind ∧ (c.at n).1.kind ≤ 6) (hT : TabT w0) (h0 : Below w0.heap.size w0 w) (b : Nat) (hb : b < c.N) (R x gr gx : Nat) (hR : R < 18446744073709551616) (hX : x < 18446744073709551616) (sR : SetAt R gr w) (sX : SetAt x gx w) (hgr : w0.heap.size ≤ gr) (hxb : ∀ k, x.testBit k = true → k ≤ b) :
    Calls Tryd.prog 27 #[.pointer (some ⟨p.g, 0, none⟩), setV gr, setV gx, .int .i64 (b : Int)] w fun e W => GrowIs c b gr R x w0.heap.size w0 e W :=
  callsIn_wide.1 (grow_in c p w0 w hv hx hk hT h0 b hb R x gr gx hR hX sR sX hgr hxb)
end Go.Proofs.YtmdjkeplfdkoeaaDoor
