/-
  Proved here: ppo's look answers a view of a candidate that may be, with all that is known; nothing that was there is changed. Condition: a light candidate that may be.
-/
import Derived.Test.YtgkiaeddlahngaaGreatDoorPpHangers
import Derived.Test.YtgkiaeddlahngaaGreatDoorPpConcat
namespace Go.Proofs.YtgkiaeddlahngaaGreatDoor
set_option linter.unusedVariables false
set_option linter.unusedSimpArgs false
open Go.RowKit Go.Maps
attribute [local go_sem ↓] fold_E fold_SE
attribute [local irreducible] wpStill

@[reducible] def zeroKn : Value := .agg #[.int .i64 0, .int .i64 0, .int .i64 0, .int .i64 0, .int .i64 0, .int .i64 0, .int .i64 0]
theorem infoKn : (Tryz.prog.info? 97).map (fun i => (i.zero, i.size, i.bytes)) = some (some zeroKn, 7, 56) := by kernel_rfl
theorem made_kn (n : Nat) : (madeCells zeroKn.cells (n * 7)).toList = kCells (fun _ _ => 0) n := by
  apply List.ext_getElem?
  intro j
  rcases Nat.lt_or_ge j (n * 7) with h | h
  · have hj : j < (madeCells zeroKn.cells (n * 7)).toList.length := by simpa [size_madeCells] using h
    have h2 : (kCells (fun _ _ => 0) n)[j]? = some (.int .i64 0) := by unfold kCells; rw [List.getElem?_map, List.getElem?_range h]; rfl
    have h3 : ∀ i : Fin 7, zeroKn.cells[i.val]! = .int .i64 0 := by intro i; rcases i with ⟨i, hi⟩; rcases i with _ | _ | _ | _ | _ | _ | _ | i <;> first | rfl | omega
    rw [h2, List.getElem?_eq_getElem hj]
    have h4 := h3 ⟨j % 7, by omega⟩
    have hs : zeroKn.cells.size = 7 := rfl
    simp only [madeCells, Array.getElem_toList, Array.getElem_map, Array.getElem_range, hs]
    rw [h4]
  · rw [List.getElem?_eq_none (by simpa [size_madeCells] using h), List.getElem?_eq_none (by rw [kCells_len]; exact h)]
theorem make_known (n : Nat) (hn : n ≤ 60) (w : World) : (Instr.makeSlice 65 (.int .i64 (n : Int)) (.int .i64 (n : Int))).run Tryz.prog w = .ok (.slice (some ⟨w.heap.size, 0, none⟩) n n) (w.alloc (.cells (kCells (fun _ _ => 0) n).toArray 97)) := by
  obtain ⟨i0, hi, hz0, hz1, hz2⟩ := info_parts infoKn
  have := run_make (P := Tryz.prog) w 65 97 i0 zeroKn Tryz.underlying65 hi hz0 .i64 .i64 (n : Int) (n : Int) (by omega) (Int.le_refl _) (by rw [hz2]; omega) (by omega)
  rw [this, hz1]
  have h2 := made_kn n
  simp only [Int.toNat_natCast]
  rw [← h2, Array.toArray_toList]
/-- all that is known -/
def finK (c : Cd) : Nat → Nat → Int := hanK c c.N 0 (fenK c c.N (layK (wrF c) 1 c.N (sidesK c c.N)))
theorem finK_side (c : Cd) (n : Nat) (hn : n < c.N) : finK c n 0 = ((sideE (c.at n).1 : Nat) : Int) := by
  unfold finK hanK fenK layK sidesK
  rw [if_neg (by omega), if_neg (by omega), if_neg (by omega), if_pos ⟨rfl, hn⟩]
theorem finK_writer (c : Cd) (n : Nat) (hn : n < c.N) : finK c n 1 = ((wrL c (c.at n).1.addr n : Nat) : Int) := by
  unfold finK hanK fenK layK
  rw [if_neg (by omega), if_neg (by omega), if_pos ⟨rfl, hn⟩]; rfl
theorem finK_fence (c : Cd) (n q : Nat) (hn : n < c.N) (hq : q < 4) : finK c n (2 + q) = ((fnL c (sideE (c.at n).1) q n : Nat) : Int) := by
  unfold finK hanK fenK
  rw [if_neg (by omega), if_pos ⟨by omega, by omega, hn⟩, show 2 + q - 2 = q by omega]; rfl
theorem finK_hanger (c : Cd) (n : Nat) (hn : n < c.N) : finK c n 6 = hgL c n c.N := by
  unfold finK hanK
  rw [if_pos ⟨rfl, hn⟩, hgP_zero]
/-- a view that lies fresh: nothing is known yet -/
theorem Vw.start {c : Cd} {q : Cv} {w1 : World} {v : Value} (hm : c.may = true) (hc : CAt c q w1) (hL : Lt c) {base : Nat} (ho : w1.ownsRow base 48 14 v c.N (flat ((allP c c.nh).map (·.1)))) :
    ∃ p : Vp, p.W0 = w1 ∧ v = .slice p.aA c.N p.cA ∧ p.aR = q.aR ∧ p.cR = q.cR ∧ p.gk = w1.heap.size ∧ p.g = w1.heap.size + 1 ∧ Vw c (fun _ _ => 0) p (((w1.alloc (.cells (kCells (fun _ _ => 0) c.N).toArray 97)).alloc (.cells #[v, .slice q.aR c.fr.length q.cR, .slice (some ⟨w1.heap.size, 0, none⟩) c.N c.N] 67))) := by
  have hblk : (((w1.alloc (.cells (kCells (fun _ _ => 0) c.N).toArray 97)).alloc (.cells #[v, .slice q.aR c.fr.length q.cR, .slice (some ⟨w1.heap.size, 0, none⟩) c.N c.N] 67))).heap[w1.heap.size + 1]? = some (.cells #[v, .slice q.aR c.fr.length q.cR, .slice (some ⟨w1.heap.size, 0, none⟩) c.N c.N] 67 (0, 0)) := by
    have := push_new (w1.alloc (.cells (kCells (fun _ _ => 0) c.N).toArray 97)) (.cells #[v, .slice q.aR c.fr.length q.cR, .slice (some ⟨w1.heap.size, 0, none⟩) c.N c.N] 67) (w1.heap.size + 1) (by simp)
    exact this
  have hkn : (((w1.alloc (.cells (kCells (fun _ _ => 0) c.N).toArray 97)).alloc (.cells #[v, .slice q.aR c.fr.length q.cR, .slice (some ⟨w1.heap.size, 0, none⟩) c.N c.N] 67))).heap[w1.heap.size]? = some (.cells (kCells (fun _ _ => 0) c.N).toArray 97 (0, 0)) :=
    push_old _ _ _ _ (push_new w1 _ _ rfl)
  have hbel : Below w1.heap.size w1 (((w1.alloc (.cells (kCells (fun _ _ => 0) c.N).toArray 97)).alloc (.cells #[v, .slice q.aR c.fr.length q.cR, .slice (some ⟨w1.heap.size, 0, none⟩) c.N c.N] 67))) := (box_below _ _).trans ((box_below _ _).mono (by simp))
  have hrd : ∀ n, n < c.N → EReads w1 (c.at n).1 (c.at n).2 := fun n hn => (reads_of_harts hc.harts n hn).1
  rcases ho.2 with ⟨rfl, h0⟩ | ⟨g, cap, cur, rfl, hb, hgg, hcc, hm2, hs, ht⟩
  · refine ⟨⟨none, 0, 0, 0, q.aR, q.cR, w1.heap.size, w1.heap.size + 1, w1⟩, rfl, by rw [h0], rfl, rfl, rfl, rfl, ⟨?_, hkn, hbel, Nat.le_refl _, by show w1.heap.size ≤ w1.heap.size + 1; omega, by show w1.heap.size + 1 ≠ w1.heap.size; omega, fun h => by omega, fun n hn => by omega, hrd, fun h => by omega, hc.from_⟩⟩
    rw [hblk, h0]
  · refine ⟨⟨some ⟨g, 0, none⟩, cap, g, 0, q.aR, q.cR, w1.heap.size, w1.heap.size + 1, w1⟩, rfl, rfl, rfl, rfl, rfl, rfl, ⟨hblk, hkn, hbel, Nat.le_refl _, by show w1.heap.size ≤ w1.heap.size + 1; omega, by show w1.heap.size + 1 ≠ w1.heap.size; omega, fun _ => rfl, fun n hn => ?_, hrd, fun _ => (Array.getElem?_eq_some_iff.1 hgg).1, hc.from_⟩⟩
    intro j u hu
    have he : ((allP c c.nh).map (·.1))[n]? = some (c.at n).1 := by rw [List.getElem?_map, c.at_mem n hn]; rfl
    have hx := flat_at _ n j _ u he (by unfold Ev.row; simpa using hu)
    have := ho.cells (g := g) (by simp [Value.ownBlock]) (n * 14 + j) u hx
    rw [Addr.add_lit] at this
    rw [← this]
    congr 2
    show 0 + n * 14 + j = 0 + (n * 14 + j)
    omega
def PLookIs (c : Cd) (w : World) (e : Ending) (w' : World) : Prop := ∃ p : Vp, e = .returned (.tuple #[.pointer (some ⟨p.g, 0, none⟩), .bool true]) ∧ Vw c (finK c) p w' ∧ Below w.heap.size w w'
set_option maxRecDepth 100000 in
set_option maxHeartbeats 8000000 in
theorem plook_yes (c : Cd) (q : Cv) (w : World) (hL : Lt c) (h : CAt c q w) (hm : c.may = true) : Calls Tryz.prog 35 #[cdV c q] w fun e w' => PLookIs c w e w' := by
  have KC := Lib.hid (fun w0 h0 => check_c c q w0 hL h0 true hm)
  have KN := Lib.hid (fun w0 (h0 : HsAt c c.nh q.aH w0) => (show Calls Tryz.prog 55 #[.slice q.aH c.nh q.cH] w0 fun e w' => ∃ v, e = .returned v ∧ w'.ownsRow w0.heap.size 48 14 v c.N (flat ((allP c c.nh).map (·.1))) ∧ Below w0.heap.size w0 w' from concat_any c c.nh q.aH q.cH w0 hL.nh hL.n h0))
  have S0 := Lib.hid (Lk.start h)
  have HL := Lib.hid hL
  have hN := hL.n
  have HM := Lib.hid hm
  clear h hL hm
  obtain ⟨u0, u1, u2, u3⟩ := S0.out.box.facts
  go_enter Tryz.func35, Tryz.ntmps35
  go_upto_region 4 with (first
    | (go_at_call 54; (with_reducible refine (KC.out _ S0.out.at_).mono ?_); rintro e' w1 ⟨rfl, hb⟩; have S1 := Lib.hid (S0.out.on hb); clear hb u0 u1 u2 u3; obtain ⟨u0, u1, u2, u3⟩ := S1.out.box.facts)
    | (go_at_call 55; (with_reducible refine (KN.out _ S1.out.at_.harts).mono ?_); rintro e' w2 ⟨v, rfl, ho, hb⟩; have O2 := Lib.hid ho; have S2 := Lib.hid (S1.out.on hb); clear ho hb u0 u1 u2 u3; obtain ⟨u0, u1, u2, u3⟩ := S2.out.box.facts))
  obtain ⟨p, hp0, hp1, hp2, hp3, hp4, hp5, hV⟩ := Vw.start HM.out S2.out.at_ HL.out O2.out
  have V0 := Lib.hid (hV.on (Below.refl _ _).drew)
  subst hp1
  have SD := Lib.hid (S2.out.on (Below.refl _ _).drew)
  have SK := Lib.hid ((S2.out.on (box_below w2 (.cells (kCells (fun _ _ => 0) c.N).toArray 97))).on (Below.refl _ _).drew)
  have SB := Lib.hid (((S2.out.on (box_below w2 (.cells (kCells (fun _ _ => 0) c.N).toArray 97))).on (box_below _ (.cells #[.slice p.aA c.N p.cA, .slice q.aR c.fr.length q.cR, .slice (some ⟨w2.heap.size, 0, none⟩) c.N c.N] 67))).on (Below.refl _ _).drew)
  have hmk := make_known c.N hN
  have B0 : Hid (p.W0 = w2) := Lib.hid hp0
  have KS := Lib.hid (fun w0 h0 => findSides_v c p w0 h0 hN)
  have KW := Lib.hid (fun w0 h0 => findWriters_v c p w0 h0 HL.out)
  have KF := Lib.hid (fun w0 h0 => findFences_v c p w0 (layK (wrF c) 1 c.N (sidesK c c.N)) (fun n hn => by unfold layK sidesK; rw [if_neg (by omega), if_pos ⟨rfl, hn⟩]) h0 hN (fun n hn => by obtain ⟨_, _, _, _, _, _, _, _, hk⟩ := may_num HM.out n hn; exact chk_parts hk))
  have KH := Lib.hid (fun w0 h0 => findHangers_v c p w0 (fenK c c.N (layK (wrF c) 1 c.N (sidesK c c.N))) (fun m hm => by unfold fenK layK sidesK; rw [if_neg (by omega), if_neg (by omega), if_neg (by omega)]) h0 HM.out HL.out)
  have HF : Hid (∀ W, Vw c (finK c) p W → PLookIs c w (.returned (.tuple #[.pointer (some ⟨w2.heap.size + 1, 0, none⟩), .bool true])) W) := Lib.hid (fun W hW => ⟨p, by rw [hp5], hW, by have h1 := hW.bel; rw [hp0] at h1; exact S2.out.below.trans (h1.mono S2.out.below.size)⟩)
  rw [hp5] at KS KW KF KH
  clear hp0 hp2 hp3 hp4 hp5 hV S0 S1
  go_region_held3 (fun w' => w'.cell? ⟨w.heap.size, 0, none⟩ = some (.slice q.aF c.fs.length q.cF) ∧ w'.cell? ⟨w.heap.size, 1, none⟩ = some (.slice q.aH c.nh q.cH) ∧ w'.cell? ⟨w.heap.size, 2, none⟩ = some (.slice q.aR c.fr.length q.cR) ∧ w'.cell? ⟨w.heap.size, 3, none⟩ = some (.slice q.aO c.od.length q.cO))
    (first | exact SB.out.box.facts | exact SK.out.box.facts | exact SD.out.box.facts) (fail)
  go_wp2_with (first
    | (go_at_call 56; (with_reducible refine (KS.out _ V0.out).mono ?_); rintro e' w3 ⟨rfl, hv⟩; have V3 := Lib.hid hv; clear hv)
    | (go_at_call 57; (with_reducible refine (KW.out _ V3.out).mono ?_); rintro e' w4 ⟨rfl, hv⟩; have V4 := Lib.hid hv; clear hv)
    | (go_at_call 58; (with_reducible refine (KF.out _ V4.out).mono ?_); rintro e' w5 ⟨rfl, hv⟩; have V5 := Lib.hid hv; clear hv)
    | (go_at_call 59; (with_reducible refine (KH.out _ V5.out).mono ?_); rintro e' w6 ⟨rfl, hv⟩; have V6 := Lib.hid hv; clear hv))
  exact bodyPost_ret (v := .tuple #[.pointer (some ⟨w2.heap.size + 1, 0, none⟩), .bool true]) (by simp [results, Tryz.results35]) rfl (HF.out _ V6.out)
end Go.Proofs.YtgkiaeddlahngaaGreatDoor
