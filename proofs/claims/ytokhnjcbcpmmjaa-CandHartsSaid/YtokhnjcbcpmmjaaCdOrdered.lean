/-
  Proved here: cand's ordered tells whether an order has the numbers of all of memory's events, each once; nothing that was there is changed. Condition: at most 60 events, 120 numbers.
-/
import Derived.Test.YtokhnjcbcpmmjaaCdFound
namespace Go.Proofs.Ytokhnjcbcpmmjaa
set_option linter.unusedVariables false
set_option linter.unusedSimpArgs false
open Go.RowKit
attribute [local go_sem ↓] fold_E fold_SE

/-- a row of bools in a block -/
def rowOf (f : Nat → Bool) (N : Nat) : List Value := (List.range N).map fun k => .bool (f k)
def BoolsAt (f : Nat → Bool) (N M : Nat) (w : World) : Prop := w.heap[M]? = some (.cells (rowOf f N).toArray 4 (0, 0))
theorem BoolsAt.lt {f : Nat → Bool} {N M : Nat} {w : World} (h : BoolsAt f N M w) : M < w.heap.size := (Array.getElem?_eq_some_iff.1 h).1
theorem BoolsAt.cell {f : Nat → Bool} {N M : Nat} {w : World} (h : BoolsAt f N M w) (n : Nat) (hn : n < N) : w.cell? ⟨M, n, none⟩ = some (.bool (f n)) := by
  rw [cell_of_row w M n _ _ _ h]; simp [rowOf, hn]
theorem BoolsAt.free {f : Nat → Bool} {N M : Nat} {w : World} (h : BoolsAt f N M w) (n : Nat) : w.frozen? ⟨M, n, none⟩ = false := frozen_of_row w M n _ _ h
theorem BoolsAt.on {f : Nat → Bool} {N M : Nat} {w w' : World} (h : BoolsAt f N M w) (hb : Below w.heap.size w w') : BoolsAt f N M w' := (hb.block M h.lt).trans h
theorem BoolsAt.ext {f f2 : Nat → Bool} {N M : Nat} {w : World} (h : BoolsAt f N M w) (he : ∀ k, k < N → f k = f2 k) : BoolsAt f2 N M w := by
  have : rowOf f N = rowOf f2 N := by
    unfold rowOf
    exact List.map_congr_left (fun k hk => by rw [he k (List.mem_range.1 hk)])
  unfold BoolsAt
  rw [← this]; exact h
theorem BoolsAt.set {f f2 : Nat → Bool} {N M : Nat} {w : World} (h : BoolsAt f N M w) (n : Nat) (b : Bool) (he : ∀ k, k < N → f2 k = if k = n then b else f k) : BoolsAt f2 N M (w.setCell ⟨M, n, none⟩ (.bool b)) := by
  have := set_at w M n (.bool b) _ _ _ h
  unfold BoolsAt
  rw [this]
  congr 2
  simp only [List.setIfInBounds_toArray]
  congr 1
  apply List.ext_getElem?
  intro j
  rw [List.getElem?_set]
  by_cases hj : j < N
  · have h2 := he j hj
    have e1 : (rowOf f2 N)[j]? = some (.bool (f2 j)) := by simp [rowOf, hj]
    have e2 : (rowOf f N)[j]? = some (.bool (f j)) := by simp [rowOf, hj]
    have hl : (rowOf f N).length = N := by simp [rowOf]
    rw [e1, e2, h2]
    by_cases hjn : n = j
    · subst hjn
      rw [if_pos rfl, if_pos (by rw [hl]; exact hj), if_pos rfl]
    · rw [if_neg hjn, if_neg (fun e => hjn e.symm)]
  · have e1 : (rowOf f2 N)[j]? = none := by simp [rowOf]; omega
    have e2 : (rowOf f N)[j]? = none := by simp [rowOf]; omega
    have hl : (rowOf f N).length = N := by simp [rowOf]
    rw [e1, e2]
    split
    · rw [if_neg (by rw [hl]; omega)]
    · rfl
theorem infoBool : (Try.prog.info? 4).map (fun i => (i.zero, i.size, i.bytes)) = some (some (.bool false), 1, 1) := by kernel_rfl
theorem made_bools (n : Nat) : (madeCells (Value.bool false).cells (n * 1)) = (rowOf (fun _ => false) n).toArray := by
  apply Array.ext'
  simp only [madeCells, rowOf, Nat.mul_one, Array.toList_map, Array.toList_range]
  apply List.map_congr_left
  intro k _
  simp [Value.cells, Nat.mod_one]
theorem make_bools (n : Nat) (hn : n ≤ 60) (w : World) : (Instr.makeSlice 75 (.int .i64 (n : Int)) (.int .i64 (n : Int))).run Try.prog w = .ok (.slice (some ⟨w.heap.size, 0, none⟩) n n) (w.alloc (.cells (rowOf (fun _ => false) n).toArray 4)) := by
  obtain ⟨i0, hi, hz0, hz1, hz2⟩ := info_parts infoBool
  have := run_make (P := Try.prog) w 75 4 i0 (.bool false) Try.underlying75 hi hz0 .i64 .i64 (n : Int) (n : Int) (by omega) (Int.le_refl _) (by rw [hz2]; omega) (by omega)
  rw [this, hz1]
  simp only [Int.toNat_natCast]
  rw [made_bools]
/-- what waits when so many were looked at -/
def startF (c : Cd) (k n : Nat) : Bool := decide (n < k) && memE (c.at n).1
theorem startF_zero (c : Cd) (n : Nat) : (fun _ => false) n = startF c 0 n := by simp [startF]
theorem startF_all (c : Cd) (n : Nat) (h : n < c.N) : startF c c.N n = waitsL c 0 n := by simp [startF, h, waitsL]
theorem startF_set (c : Cd) (k n : Nat) (h : memE (c.at k).1 = true) : startF c (k + 1) n = if n = k then true else startF c k n := by
  unfold startF
  by_cases hn : n = k
  · subst hn; simp [h]
  · rw [if_neg hn]
    have : decide (n < k + 1) = decide (n < k) := by
      apply decide_eq_decide.2; omega
    rw [this]
theorem startF_skip (c : Cd) (k n : Nat) (h : memE (c.at k).1 = false) : startF c k n = startF c (k + 1) n := by
  unfold startF
  by_cases hn : n = k
  · subst hn; simp [h]
  · have : decide (n < k + 1) = decide (n < k) := by
      apply decide_eq_decide.2; omega
    rw [this]
def orderedB (c : Cd) : Bool := ordL c c.od.length && decide (countW (waitsL c c.od.length) c.N = 0)
theorem waits_set (c : Cd) (k x n : Nat) (h : atI c.od k = (x : Int)) : waitsL c (k + 1) n = if n = x then false else waitsL c k n := by
  show (waitsL c k n && decide ((n : Int) ≠ atI c.od k)) = _
  rw [h]
  by_cases hn : n = x
  · subst hn; simp
  · rw [if_neg hn]
    have : decide ((n : Int) ≠ (x : Int)) = true := by simp; omega
    rw [this, Bool.and_true]
theorem ordAt_in (c : Cd) (k x : Nat) (h : atI c.od k = (x : Int)) (hx : x < c.N) : ordAt c k = waitsL c k x := by
  unfold ordAt withinB
  rw [h, Int.toNat_natCast]
  have : decide ((x : Int) < (c.N : Int)) = true := by simp; omega
  rw [this]
  simp
theorem ordAt_out (c : Cd) (k : Nat) (h : withinB (atI c.od k) c.N = false) : ordAt c k = false := by unfold ordAt; rw [h]; rfl
set_option maxRecDepth 100000 in
set_option maxHeartbeats 8000000 in
theorem ordered_some (c : Cd) (g b off cO : Nat) (no : Nat) (vo : Option Addr) (w : World) (h : AllIn c g w) (hn : c.N ≤ 60) (hno : c.od.length = no) (hno2 : no ≤ 120) (ho : no = 0 ∨ (vo = some ⟨b, off, none⟩ ∧ b < w.heap.size ∧ ∀ j, j < no → w.cell? ⟨b, off + j, none⟩ = some (.int .i64 (atI c.od j)))) :
    Calls Try.prog 27 #[.slice vo no cO, .slice (some ⟨g, 0, none⟩) c.N c.N] w fun e w' => TellsIs w (orderedB c) e w' := by
  have H := Lib.hid h
  have HO := Lib.hid ho
  have HNO := Lib.hid hno
  have HX := Lib.hid (show orderedB c = (ordL c c.od.length && decide (countW (waitsL c c.od.length) c.N = 0)) from rfl)
  have HSA := Lib.hid (startF_all c)
  obtain ⟨N, hN⟩ : ∃ N, Hid (c.N = N) := ⟨_, Lib.hid rfl⟩
  rw [hno, hN.out] at HX
  rw [hN.out] at hn HSA ⊢
  have hm := make_bools N hn
  clear h ho hno
  go_enter Try.func27, Try.ntmps27
  go_wp2
  go_loopw [6, 16] (fun vl vi wr => ∃ (k : Nat), k ≤ N ∧ vi = .int .i64 k ∧ vl = .int .i64 (countW (fun n => memE (c.at n).1) k : Nat) ∧ Hid (BoolsAt (startF c k) N w.heap.size wr) ∧ Below w.heap.size w wr) (fun _ vi _ => N - (intOf vi).toNat)
  case atStart => exact ⟨0, Nat.zero_le _, rfl, rfl, Lib.hid (BoolsAt.ext (f := fun _ => false) (show _ = _ from Array.getElem?_push_size) (fun k _ => startF_zero c k)), box_below _ _⟩
  case round =>
    obtain ⟨k, hk, rfl, rfl, hW, hbel⟩ := hrel
    have HB := Lib.hid hbel
    clear hbel
    have hcw := countW_le (fun n => memE (c.at n).1) k
    by_cases hlt : k < N
    · have cl := (H.out.on HB.out).load k (by rw [hN.out]; exact hlt)
      have hfl := Lib.hid (H.out.flat_ k (by rw [hN.out]; exact hlt))
      obtain ⟨e, he⟩ : ∃ e, Hid ((c.at k).1 = e) := ⟨_, Lib.hid rfl⟩
      have HC : Hid (countW (fun n => memE (c.at n).1) (k + 1) = countW (fun n => memE (c.at n).1) k + oneN (memE e)) := Lib.hid (by rw [← he.out]; rfl)
      have HS := Lib.hid (startF_set c k)
      have HK := Lib.hid (startF_skip c k)
      rw [he.out] at cl hfl HS HK
      obtain ⟨L, hL⟩ : ∃ L, countW (fun n => memE (c.at n).1) k = L := ⟨_, rfl⟩
      rw [hL] at hcw HC ⊢
      obtain ⟨r, hr⟩ : ∃ r, Hid (memE e = r) := ⟨_, Lib.hid rfl⟩
      have KM := Lib.hid (Memory_b e r hr.out)
      rw [hr.out] at HC HS HK
      go_upto_region 5 with (refine store_ev (EvAt.new zeroEv _) e hfl.out rfl (.tmp 8) (.tmp 20) rfl rfl rfl ?_; intro w1 D1 ho1 hb1 hz1; have S1 := Lib.hid D1; have A1 := Lib.hid ((box_below wr (.cells #[.int .i64 0, .int .i64 0, .int .i64 0, .int .u64 0, .int .u64 0, .int .u64 0, .bool false, .bool false, .int .i64 0, .int .i64 0, .int .i64 0, .slice none 0 0, .slice none 0 0, .slice none 0 0] 42)).trans hb1); clear D1 ho1 hb1 hz1)
      have cl1 := run_LoadE S1.out
      clear cl
      cases r with
      | false =>
        go_wp2_with (go_at_call 36; (with_reducible refine (KM.out _).mono ?_); rintro e' w2 ⟨rfl, hb⟩; have A2 := Lib.hid (A1.out.trans (hb.mono A1.out.size)); clear hb cl1)
        go_roundw
        case rel => exact ⟨k + 1, by omega, by go_num, by rw [HC.out]; rfl, Lib.hid ((hW.out.on A2.out).ext (fun n _ => HK.out n (by first | rfl | trivial))), HB.out.trans (A2.out.mono HB.out.size)⟩
        case measure => simp [intOf]; omega
      | true =>
        go_wp2_with (go_at_call 36; (with_reducible refine (KM.out _).mono ?_); rintro e' w2 ⟨rfl, hb⟩; have A2 := Lib.hid (A1.out.trans (hb.mono A1.out.size)); clear hb cl1; have W2 := Lib.hid (hW.out.on A2.out); have c2 := W2.out.cell k hlt; have z2 := W2.out.free k)
        go_roundw
        case rel => exact ⟨k + 1, by omega, by go_num, by rw [HC.out]; simp [oneN], Lib.hid (W2.out.set k true (fun n _ => HS.out n (by first | rfl | trivial))), (HB.out.trans (A2.out.mono HB.out.size)).setCell (p := ⟨w.heap.size, k, none⟩) (Nat.le_refl _) _⟩
        case measure => simp [intOf]; omega
    · obtain rfl : k = N := by omega
      have W0 := Lib.hid (hW.out.ext HSA.out)
      have hc0 : Hid (countW (fun n => memE (c.at n).1) k = countW (waitsL c 0) k) := Lib.hid rfl
      rw [hc0.out] at hcw ⊢
      go_wp2
      go_loopw [6, 31] (fun vl vi wr => ∃ (j : Nat), j ≤ no ∧ vi = .int .i64 j ∧ vl = .int .i64 (countW (waitsL c j) k : Nat) ∧ Hid (ordL c j = true) ∧ Hid (BoolsAt (waitsL c j) k w.heap.size wr) ∧ Below w.heap.size w wr) (fun _ vi _ => no - (intOf vi).toNat)
      case atStart => exact ⟨0, Nat.zero_le _, rfl, rfl, Lib.hid rfl, W0, HB.out⟩
      case round =>
        obtain ⟨j, hj, rfl, rfl, hR, hW2, hbel2⟩ := hrel
        have HB2 := Lib.hid hbel2
        clear hbel2
        have hcw2 := countW_le (waitsL c j) k
        by_cases hlt2 : j < no
        · rcases HO.out with h0 | ⟨rfl, hbl, hcell⟩
          · exact absurd h0 (by omega)
          have d0 := (HB2.out.cell (p := ⟨b, off + j, none⟩) hbl).trans (hcell j hlt2)
          clear hcell
          have HOI := Lib.hid (fun x h hx => ordAt_in c j x h hx)
          have HOO := Lib.hid (ordAt_out c j)
          have HSTOP := Lib.hid (all_stop (ordAt c) j no hlt2)
          have HNEXT := Lib.hid (all_next (ordAt c) j hR.out)
          have HSET := Lib.hid (fun x n h => waits_set c j x n h)
          have HSTEP := Lib.hid (ord_step c j)
          obtain ⟨F, hF⟩ : ∃ F, Hid (atI c.od j = F) := ⟨_, Lib.hid rfl⟩
          rw [hF.out] at d0 HOI HOO HSET
          rw [hN.out] at HOO HSTEP HOI
          obtain ⟨iw, hiw⟩ : ∃ iw, Hid (withinB F k = iw) := ⟨_, Lib.hid rfl⟩
          have KW := Lib.hid (fun w0 => cwithin_b F k iw hiw.out w0)
          cases iw with
          | false =>
            have HNO := Lib.hid (HSTOP.out (HOO.out hiw.out))
            have HX2 : Hid (orderedB c = false) := Lib.hid (by rw [HX.out, show ordL c no = false from HNO.out]; rfl)
            go_wp2_with (go_at_call 37; (with_reducible refine (KW.out _).mono ?_); rintro e' w3 ⟨rfl, rfl⟩)
            go_ret
            exact TellsIs.mk HX2.out HB2.out
          | true =>
            have hfn := withinB_yes hiw.out
            obtain ⟨x, hx⟩ : ∃ x : Nat, F = x := ⟨F.toNat, by omega⟩
            subst hx
            have hxN : x < k := by omega
            have cx := hW2.out.cell x hxN
            have zx := hW2.out.free x
            have HAT := Lib.hid (HOI.out x rfl hxN)
            obtain ⟨r, hr⟩ : ∃ r, Hid (waitsL c j x = r) := ⟨_, Lib.hid rfl⟩
            rw [hr.out] at cx HAT
            clear hfn HOI HOO
            cases r with
            | false =>
              have HNO := Lib.hid (HSTOP.out HAT.out)
              have HX2 : Hid (orderedB c = false) := Lib.hid (by rw [HX.out, show ordL c no = false from HNO.out]; rfl)
              go_wp2_with (go_at_call 37; (with_reducible refine (KW.out _).mono ?_); rintro e' w3 ⟨rfl, rfl⟩)
              go_ret
              exact TellsIs.mk HX2.out HB2.out
            | true =>
              have HYES := Lib.hid (HNEXT.out HAT.out)
              have HC2 := Lib.hid (HSTEP.out HAT.out)
              go_wp2_with (go_at_call 37; (with_reducible refine (KW.out _).mono ?_); rintro e' w3 ⟨rfl, rfl⟩)
              go_roundw
              case rel => exact ⟨j + 1, by omega, by go_num, by have := HC2.out; congr 1; omega, HYES, Lib.hid (hW2.out.set x false (fun n _ => HSET.out x n rfl)), HB2.out.setCell (p := ⟨w.heap.size, x, none⟩) (Nat.le_refl _) _⟩
              case measure => simp [intOf]; omega
        · obtain rfl : j = no := by omega
          have HX2 : Hid (orderedB c = decide (countW (waitsL c j) k = 0)) := Lib.hid (by rw [HX.out, show ordL c j = true from hR.out]; rfl)
          obtain ⟨L2, hL2⟩ : ∃ L2, countW (waitsL c j) k = L2 := ⟨_, rfl⟩
          rw [hL2] at hcw2 HX2 ⊢
          go_wp2
          go_ret
          exact TellsIs.mk (HX2.out.trans (by rw [Bool.eq_iff_iff]; simp)) HB2.out
theorem ordered_any (c : Cd) (q : Cv) (g : Nat) (w : World) (h : AllIn c g w) (hn : c.N ≤ 60) (hno : c.od.length ≤ 120) (ho : ReadsI w (.slice q.aO c.od.length q.cO) c.od) :
    Calls Try.prog 27 #[.slice q.aO c.od.length q.cO, .slice (some ⟨g, 0, none⟩) c.N c.N] w fun e w' => TellsIs w (orderedB c) e w' := by
  rcases ho with ⟨_, h0⟩ | ⟨b, off, c2, e, _, _, h3, h4⟩
  · exact ordered_some c g 0 0 q.cO c.od.length q.aO w h hn rfl hno (.inl (by rw [h0]; rfl))
  · injection e with e1 e2 e3
    exact ordered_some c g b off q.cO c.od.length q.aO w h hn rfl hno (.inr ⟨e1, h3, h4⟩)
end Go.Proofs.Ytokhnjcbcpmmjaa
