/-
  Proved here: cand's Number of a place that a hart has not, and of a candidate that may not be; nothing that was there is changed. Condition: a light candidate.
  (With it: Proved here: cand's ordered tells whether an order has the numbers of all of memory's events, each once; nothing that was there is changed. Condition: at most 60 events, 120 numbers.)
  (With it: Proved here: cand's look answers a candidate's events by number if it may be, and Check tells whether it may be; nothing that was there is changed. Condition: a light candidate.)
  (With it: Proved here: cand's Number answers the number of a hart's event, First what memory had somewhere; nothing that was there is changed. Condition: a light candidate. (With it: Proved here: the kit's LightCand; nothing that was there is changed. Condition: none but that a candidate lies there.))
-/
import Derived.Test.YtokhnjcbcpmmjaaGreatCdFound
import Derived.Test.YtokhnjcbcpmmjaaGreatCdRise
import Derived.Test.YtokhnjcbcpmmjaaGreatRf07Pure
namespace Go.Proofs.YtokhnjcbcpmmjaaGreat
set_option linter.unusedVariables false
set_option linter.unusedSimpArgs false
open Go.RowKit
attribute [local go_sem ↓] fold_E fold_SE

/-- a row of bools in a block -/
def rowOf (f : Nat → Bool) (N : Nat) : List Value := (List.range N).map fun k => .bool (f k)
def BoolsAt (f : Nat → Bool) (N M : Nat) (w : World) : Prop := w.heap[M]? = some (.cells (rowOf f N).toArray 4 (0, 0))
theorem BoolsAt.lt {f : Nat → Bool} {N M : Nat} {w : World} (h : BoolsAt f N M w) : M < w.heap.size := (Array.getElem?_eq_some_iff.1 h).1
theorem BoolsAt.cell {f : Nat → Bool} {N M : Nat} {w : World} (h : BoolsAt f N M w) (n : Nat) (hn : n < N) : w.cell? ⟨M, n, none⟩ = some (.bool (f n)) := by
  rw [cell_of_row w M n _ _ _ h]; simp [rowOf, hn]
theorem BoolsAt.free {f : Nat → Bool} {N M : Nat} {w : World} (h : BoolsAt f N M w) (n : Nat) : w.frozen? ⟨M, n, none⟩ = false := frozen_of_row w M n _ _ h
theorem BoolsAt.on {f : Nat → Bool} {N M : Nat} {w w' : World} (h : BoolsAt f N M w) (hb : Below w.heap.size w w') : BoolsAt f N M w' := (hb.block M h.lt).trans h
theorem BoolsAt.ext {f f2 : Nat → Bool} {N M : Nat} {w : World} (h : BoolsAt f N M w) (he : ∀ k, k < N → f k = f2 k) : BoolsAt f2 N M w := by
  have : rowOf f N = rowOf f2 N := by
    unfold rowOf
    exact List.map_congr_left (fun k hk => by rw [he k (List.mem_range.1 hk)])
  unfold BoolsAt
  rw [← this]; exact h
theorem BoolsAt.set {f f2 : Nat → Bool} {N M : Nat} {w : World} (h : BoolsAt f N M w) (n : Nat) (b : Bool) (he : ∀ k, k < N → f2 k = if k = n then b else f k) : BoolsAt f2 N M (w.setCell ⟨M, n, none⟩ (.bool b)) := by
  have := set_at w M n (.bool b) _ _ _ h
  unfold BoolsAt
  rw [this]
  congr 2
  simp only [List.setIfInBounds_toArray]
  congr 1
  apply List.ext_getElem?
  intro j
  rw [List.getElem?_set]
  by_cases hj : j < N
  · have h2 := he j hj
    have e1 : (rowOf f2 N)[j]? = some (.bool (f2 j)) := by simp [rowOf, hj]
    have e2 : (rowOf f N)[j]? = some (.bool (f j)) := by simp [rowOf, hj]
    have hl : (rowOf f N).length = N := by simp [rowOf]
    rw [e1, e2, h2]
    by_cases hjn : n = j
    · subst hjn
      rw [if_pos rfl, if_pos (by rw [hl]; exact hj), if_pos rfl]
    · rw [if_neg hjn, if_neg (fun e => hjn e.symm)]
  · have e1 : (rowOf f2 N)[j]? = none := by simp [rowOf]; omega
    have e2 : (rowOf f N)[j]? = none := by simp [rowOf]; omega
    have hl : (rowOf f N).length = N := by simp [rowOf]
    rw [e1, e2]
    split
    · rw [if_neg (by rw [hl]; omega)]
    · rfl
theorem infoBool : (Tryz.prog.info? 4).map (fun i => (i.zero, i.size, i.bytes)) = some (some (.bool false), 1, 1) := by kernel_rfl
theorem made_bools (n : Nat) : (madeCells (Value.bool false).cells (n * 1)) = (rowOf (fun _ => false) n).toArray := by
  apply Array.ext'
  simp only [madeCells, rowOf, Nat.mul_one, Array.toList_map, Array.toList_range]
  apply List.map_congr_left
  intro k _
  simp [Value.cells, Nat.mod_one]
theorem make_bools (n : Nat) (hn : n ≤ 60) (w : World) : (Instr.makeSlice 61 (.int .i64 (n : Int)) (.int .i64 (n : Int))).run Tryz.prog w = .ok (.slice (some ⟨w.heap.size, 0, none⟩) n n) (w.alloc (.cells (rowOf (fun _ => false) n).toArray 4)) := by
  obtain ⟨i0, hi, hz0, hz1, hz2⟩ := info_parts infoBool
  have := run_make (P := Tryz.prog) w 61 4 i0 (.bool false) Tryz.underlying61 hi hz0 .i64 .i64 (n : Int) (n : Int) (by omega) (Int.le_refl _) (by rw [hz2]; omega) (by omega)
  rw [this, hz1]
  simp only [Int.toNat_natCast]
  rw [made_bools]
/-- what waits when so many were looked at -/
def startF (c : Cd) (k n : Nat) : Bool := decide (n < k) && memE (c.at n).1
theorem startF_zero (c : Cd) (n : Nat) : (fun _ => false) n = startF c 0 n := by simp [startF]
theorem startF_all (c : Cd) (n : Nat) (h : n < c.N) : startF c c.N n = waitsL c 0 n := by simp [startF, h, waitsL]
theorem startF_set (c : Cd) (k n : Nat) (h : memE (c.at k).1 = true) : startF c (k + 1) n = if n = k then true else startF c k n := by
  unfold startF
  by_cases hn : n = k
  · subst hn; simp [h]
  · rw [if_neg hn]
    have : decide (n < k + 1) = decide (n < k) := by
      apply decide_eq_decide.2; omega
    rw [this]
theorem startF_skip (c : Cd) (k n : Nat) (h : memE (c.at k).1 = false) : startF c k n = startF c (k + 1) n := by
  unfold startF
  by_cases hn : n = k
  · subst hn; simp [h]
  · have : decide (n < k + 1) = decide (n < k) := by
      apply decide_eq_decide.2; omega
    rw [this]
def orderedB (c : Cd) : Bool := ordL c c.od.length && decide (countW (waitsL c c.od.length) c.N = 0)
theorem waits_set (c : Cd) (k x n : Nat) (h : atI c.od k = (x : Int)) : waitsL c (k + 1) n = if n = x then false else waitsL c k n := by
  show (waitsL c k n && decide ((n : Int) ≠ atI c.od k)) = _
  rw [h]
  by_cases hn : n = x
  · subst hn; simp
  · rw [if_neg hn]
    have : decide ((n : Int) ≠ (x : Int)) = true := by simp; omega
    rw [this, Bool.and_true]
theorem ordAt_in (c : Cd) (k x : Nat) (h : atI c.od k = (x : Int)) (hx : x < c.N) : ordAt c k = waitsL c k x := by
  unfold ordAt withinB
  rw [h, Int.toNat_natCast]
  have : decide ((x : Int) < (c.N : Int)) = true := by simp; omega
  rw [this]
  simp
theorem ordAt_out (c : Cd) (k : Nat) (h : withinB (atI c.od k) c.N = false) : ordAt c k = false := by unfold ordAt; rw [h]; rfl
set_option maxRecDepth 100000 in
set_option maxHeartbeats 8000000 in
theorem ordered_some (c : Cd) (g b off cO : Nat) (no : Nat) (vo : Option Addr) (w : World) (h : AllIn c g w) (hn : c.N ≤ 60) (hno : c.od.length = no) (hno2 : no ≤ 120) (ho : no = 0 ∨ (vo = some ⟨b, off, none⟩ ∧ b < w.heap.size ∧ ∀ j, j < no → w.cell? ⟨b, off + j, none⟩ = some (.int .i64 (atI c.od j)))) :
    Calls Tryz.prog 57 #[.slice vo no cO, .slice (some ⟨g, 0, none⟩) c.N c.N] w fun e w' => TellsIs w (orderedB c) e w' := by
  have H := Lib.hid h
  have HO := Lib.hid ho
  have HNO := Lib.hid hno
  have HX := Lib.hid (show orderedB c = (ordL c c.od.length && decide (countW (waitsL c c.od.length) c.N = 0)) from rfl)
  have HSA := Lib.hid (startF_all c)
  obtain ⟨N, hN⟩ : ∃ N, Hid (c.N = N) := ⟨_, Lib.hid rfl⟩
  rw [hno, hN.out] at HX
  rw [hN.out] at hn HSA ⊢
  have hm := make_bools N hn
  clear h ho hno
  go_enter Tryz.func57, Tryz.ntmps57
  go_wp2
  go_loopw [6, 16] (fun vl vi wr => ∃ (k : Nat), k ≤ N ∧ vi = .int .i64 k ∧ vl = .int .i64 (countW (fun n => memE (c.at n).1) k : Nat) ∧ Hid (BoolsAt (startF c k) N w.heap.size wr) ∧ Below w.heap.size w wr) (fun _ vi _ => N - (intOf vi).toNat)
  case atStart => exact ⟨0, Nat.zero_le _, rfl, rfl, Lib.hid (BoolsAt.ext (f := fun _ => false) (show _ = _ from Array.getElem?_push_size) (fun k _ => startF_zero c k)), box_below _ _⟩
  case round =>
    obtain ⟨k, hk, rfl, rfl, hW, hbel⟩ := hrel
    have HB := Lib.hid hbel
    clear hbel
    have hcw := countW_le (fun n => memE (c.at n).1) k
    by_cases hlt : k < N
    · have cl := (H.out.on HB.out).load k (by rw [hN.out]; exact hlt)
      have hfl := Lib.hid (H.out.flat_ k (by rw [hN.out]; exact hlt))
      obtain ⟨e, he⟩ : ∃ e, Hid ((c.at k).1 = e) := ⟨_, Lib.hid rfl⟩
      have HC : Hid (countW (fun n => memE (c.at n).1) (k + 1) = countW (fun n => memE (c.at n).1) k + oneN (memE e)) := Lib.hid (by rw [← he.out]; rfl)
      have HS := Lib.hid (startF_set c k)
      have HK := Lib.hid (startF_skip c k)
      rw [he.out] at cl hfl HS HK
      obtain ⟨L, hL⟩ : ∃ L, countW (fun n => memE (c.at n).1) k = L := ⟨_, rfl⟩
      rw [hL] at hcw HC ⊢
      obtain ⟨r, hr⟩ : ∃ r, Hid (memE e = r) := ⟨_, Lib.hid rfl⟩
      have KM := Lib.hid (Memory_b e r hr.out)
      rw [hr.out] at HC HS HK
      go_upto_region 5 with (refine store_ev (EvAt.new zeroEv _) e hfl.out rfl (.tmp 8) (.tmp 20) rfl rfl rfl ?_; intro w1 D1 ho1 hb1 hz1; have S1 := Lib.hid D1; have A1 := Lib.hid ((box_below wr (.cells #[.int .i64 0, .int .i64 0, .int .i64 0, .int .u64 0, .int .u64 0, .int .u64 0, .bool false, .bool false, .int .i64 0, .int .i64 0, .int .i64 0, .slice none 0 0, .slice none 0 0, .slice none 0 0] 60)).trans hb1); clear D1 ho1 hb1 hz1)
      have cl1 := run_LoadE S1.out
      clear cl
      cases r with
      | false =>
        go_wp2_with (go_at_call 74; (with_reducible refine (KM.out _).mono ?_); rintro e' w2 ⟨rfl, hb⟩; have A2 := Lib.hid (A1.out.trans (hb.mono A1.out.size)); clear hb cl1)
        go_roundw
        case rel => exact ⟨k + 1, by omega, by go_num, by rw [HC.out]; rfl, Lib.hid ((hW.out.on A2.out).ext (fun n _ => HK.out n (by first | rfl | trivial))), HB.out.trans (A2.out.mono HB.out.size)⟩
        case measure => simp [intOf]; omega
      | true =>
        go_wp2_with (go_at_call 74; (with_reducible refine (KM.out _).mono ?_); rintro e' w2 ⟨rfl, hb⟩; have A2 := Lib.hid (A1.out.trans (hb.mono A1.out.size)); clear hb cl1; have W2 := Lib.hid (hW.out.on A2.out); have c2 := W2.out.cell k hlt; have z2 := W2.out.free k)
        go_roundw
        case rel => exact ⟨k + 1, by omega, by go_num, by rw [HC.out]; simp [oneN], Lib.hid (W2.out.set k true (fun n _ => HS.out n (by first | rfl | trivial))), (HB.out.trans (A2.out.mono HB.out.size)).setCell (p := ⟨w.heap.size, k, none⟩) (Nat.le_refl _) _⟩
        case measure => simp [intOf]; omega
    · obtain rfl : k = N := by omega
      have W0 := Lib.hid (hW.out.ext HSA.out)
      have hc0 : Hid (countW (fun n => memE (c.at n).1) k = countW (waitsL c 0) k) := Lib.hid rfl
      rw [hc0.out] at hcw ⊢
      go_wp2
      go_loopw [6, 31] (fun vl vi wr => ∃ (j : Nat), j ≤ no ∧ vi = .int .i64 j ∧ vl = .int .i64 (countW (waitsL c j) k : Nat) ∧ Hid (ordL c j = true) ∧ Hid (BoolsAt (waitsL c j) k w.heap.size wr) ∧ Below w.heap.size w wr) (fun _ vi _ => no - (intOf vi).toNat)
      case atStart => exact ⟨0, Nat.zero_le _, rfl, rfl, Lib.hid rfl, W0, HB.out⟩
      case round =>
        obtain ⟨j, hj, rfl, rfl, hR, hW2, hbel2⟩ := hrel
        have HB2 := Lib.hid hbel2
        clear hbel2
        have hcw2 := countW_le (waitsL c j) k
        by_cases hlt2 : j < no
        · rcases HO.out with h0 | ⟨rfl, hbl, hcell⟩
          · exact absurd h0 (by omega)
          have d0 := (HB2.out.cell (p := ⟨b, off + j, none⟩) hbl).trans (hcell j hlt2)
          clear hcell
          have HOI := Lib.hid (fun x h hx => ordAt_in c j x h hx)
          have HOO := Lib.hid (ordAt_out c j)
          have HSTOP := Lib.hid (all_stop (ordAt c) j no hlt2)
          have HNEXT := Lib.hid (all_next (ordAt c) j hR.out)
          have HSET := Lib.hid (fun x n h => waits_set c j x n h)
          have HSTEP := Lib.hid (ord_step c j)
          obtain ⟨F, hF⟩ : ∃ F, Hid (atI c.od j = F) := ⟨_, Lib.hid rfl⟩
          rw [hF.out] at d0 HOI HOO HSET
          rw [hN.out] at HOO HSTEP HOI
          obtain ⟨iw, hiw⟩ : ∃ iw, Hid (withinB F k = iw) := ⟨_, Lib.hid rfl⟩
          have KW := Lib.hid (fun w0 => cwithin_b F k iw hiw.out w0)
          cases iw with
          | false =>
            have HNO := Lib.hid (HSTOP.out (HOO.out hiw.out))
            have HX2 : Hid (orderedB c = false) := Lib.hid (by rw [HX.out, show ordL c no = false from HNO.out]; rfl)
            go_wp2_with (go_at_call 26; (with_reducible refine (KW.out _).mono ?_); rintro e' w3 ⟨rfl, rfl⟩)
            go_ret
            exact TellsIs.mk HX2.out HB2.out
          | true =>
            have hfn := withinB_yes hiw.out
            obtain ⟨x, hx⟩ : ∃ x : Nat, F = x := ⟨F.toNat, by omega⟩
            subst hx
            have hxN : x < k := by omega
            have cx := hW2.out.cell x hxN
            have zx := hW2.out.free x
            have HAT := Lib.hid (HOI.out x rfl hxN)
            obtain ⟨r, hr⟩ : ∃ r, Hid (waitsL c j x = r) := ⟨_, Lib.hid rfl⟩
            rw [hr.out] at cx HAT
            clear hfn HOI HOO
            cases r with
            | false =>
              have HNO := Lib.hid (HSTOP.out HAT.out)
              have HX2 : Hid (orderedB c = false) := Lib.hid (by rw [HX.out, show ordL c no = false from HNO.out]; rfl)
              go_wp2_with (go_at_call 26; (with_reducible refine (KW.out _).mono ?_); rintro e' w3 ⟨rfl, rfl⟩)
              go_ret
              exact TellsIs.mk HX2.out HB2.out
            | true =>
              have HYES := Lib.hid (HNEXT.out HAT.out)
              have HC2 := Lib.hid (HSTEP.out HAT.out)
              go_wp2_with (go_at_call 26; (with_reducible refine (KW.out _).mono ?_); rintro e' w3 ⟨rfl, rfl⟩)
              go_roundw
              case rel => exact ⟨j + 1, by omega, by go_num, by have := HC2.out; congr 1; omega, HYES, Lib.hid (hW2.out.set x false (fun n _ => HSET.out x n rfl)), HB2.out.setCell (p := ⟨w.heap.size, x, none⟩) (Nat.le_refl _) _⟩
              case measure => simp [intOf]; omega
        · obtain rfl : j = no := by omega
          have HX2 : Hid (orderedB c = decide (countW (waitsL c j) k = 0)) := Lib.hid (by rw [HX.out, show ordL c j = true from hR.out]; rfl)
          obtain ⟨L2, hL2⟩ : ∃ L2, countW (waitsL c j) k = L2 := ⟨_, rfl⟩
          rw [hL2] at hcw2 HX2 ⊢
          go_wp2
          go_ret
          exact TellsIs.mk (HX2.out.trans (by rw [Bool.eq_iff_iff]; simp)) HB2.out
theorem ordered_any (c : Cd) (q : Cv) (g : Nat) (w : World) (h : AllIn c g w) (hn : c.N ≤ 60) (hno : c.od.length ≤ 120) (ho : ReadsI w (.slice q.aO c.od.length q.cO) c.od) :
    Calls Tryz.prog 57 #[.slice q.aO c.od.length q.cO, .slice (some ⟨g, 0, none⟩) c.N c.N] w fun e w' => TellsIs w (orderedB c) e w' := by
  rcases ho with ⟨_, h0⟩ | ⟨b, off, c2, e, _, _, h3, h4⟩
  · exact ordered_some c g 0 0 q.cO c.od.length q.aO w h hn rfl hno (.inl (by rw [h0]; rfl))
  · injection e with e1 e2 e3
    exact ordered_some c g b off q.cO c.od.length q.aO w h hn rfl hno (.inr ⟨e1, h3, h4⟩)
end Go.Proofs.YtokhnjcbcpmmjaaGreat
namespace Go.Proofs.YtokhnjcbcpmmjaaGreat
set_option linter.unusedVariables false
set_option linter.unusedSimpArgs false
open Go.RowKit
attribute [local go_sem ↓] fold_E fold_SE

theorem may_is (c : Cd) : c.may = (decide (0 < c.nh) && (decide (c.nh ≤ 8) && (decide (c.N ≤ 4096) && (riseL c.fs c.fs.length && (rowsL c c.nh && (foundB c && orderedB c)))))) := rfl
def LookIs (c : Cd) (r : Bool) (w : World) (e : Ending) (w' : World) : Prop := ∃ v, e = .returned (.tuple #[v, .bool r]) ∧ (r = true → ∃ g, v = .slice (some ⟨g, 0, none⟩) c.N c.N ∧ w.heap.size ≤ g ∧ AllIn c g w') ∧ (r = false → v = .slice none 0 0) ∧ Below w.heap.size w w'
theorem LookIs.no {c : Cd} {r : Bool} {w w' : World} (h : r = false) (hb : Below w.heap.size w w') : LookIs c r w (.returned (.tuple #[.slice none 0 0, .bool false])) w' := by subst h; exact ⟨_, rfl, (fun e => by cases e), fun _ => rfl, hb⟩
theorem LookIs.yes {c : Cd} {r : Bool} {g : Nat} {w w' : World} (h : r = true) (hg : w.heap.size ≤ g) (ha : AllIn c g w') (hb : Below w.heap.size w w') : LookIs c r w (.returned (.tuple #[.slice (some ⟨g, 0, none⟩) c.N c.N, .bool true])) w' := by subst h; exact ⟨_, rfl, fun _ => ⟨g, rfl, hg, ha⟩, (fun e => by cases e), hb⟩
/-- the candidate's box, and what holds behind it -/
structure Lk (c : Cd) (q : Cv) (w W : World) : Prop where
  box : CdAt c q w.heap.size W
  below : Below w.heap.size w W
  here : CAt c q w
theorem Lk.on {c : Cd} {q : Cv} {w W W2 : World} (h : Lk c q w W) (hb : Below W.heap.size W W2) : Lk c q w W2 := ⟨h.box.on hb, h.below.trans (hb.mono h.below.size), h.here⟩
theorem Lk.at_ {c : Cd} {q : Cv} {w W : World} (h : Lk c q w W) : CAt c q W := h.here.below h.below
theorem Lk.start {c : Cd} {q : Cv} {w : World} (h : CAt c q w) : Lk c q w (w.alloc (.cells #[.slice q.aF c.fs.length q.cF, .slice q.aH c.nh q.cH, .slice q.aR c.fr.length q.cR, .slice q.aO c.od.length q.cO] 26)) := ⟨CdAt.new c q w, box_below _ _, h⟩
/-- and the events -/
structure Lg (c : Cd) (q : Cv) (g : Nat) (w W : World) : Prop where
  lk : Lk c q w W
  all : AllIn c g W
  new : w.heap.size ≤ g
theorem Lg.on {c : Cd} {q : Cv} {g : Nat} {w W W2 : World} (h : Lg c q g w W) (hb : Below W.heap.size W W2) : Lg c q g w W2 := ⟨h.lk.on hb, h.all.on hb, h.new⟩
theorem Lg.fd {c : Cd} {q : Cv} {g : Nat} {w W : World} (h : Lg c q g w W) (hL : Lt c) (hr : riseL c.fs c.fs.length = true) : Fd c q g W := ⟨h.all, h.lk.at_.first, hL.fs, hr, hL.n⟩
theorem rising_c {c : Cd} {q : Cv} {W : World} (hL : Lt c) (h : CAt c q W) (r : Bool) (hr : riseL c.fs c.fs.length = r) : Calls Tryz.prog 54 #[.slice q.aF c.fs.length q.cF] W fun e w' => TellsIs W r e w' := by
  rw [← hr]; exact riseC_any _ c.fs W h.first hL.fs (fun j hj => (hL.fw j hj).1.1)
theorem rows_c {c : Cd} {q : Cv} {W : World} (hL : Lt c) (h : CAt c q W) (r : Bool) (hr : rowsL c c.nh = r) : Calls Tryz.prog 55 #[.slice q.aH c.nh q.cH] W fun e w' => TellsIs W r e w' := by
  rw [← hr]; exact rows_any c q.aH q.cH W hL h.harts
theorem found_c {c : Cd} {q : Cv} {g : Nat} {W : World} (hf : Fd c q g W) (h : CAt c q W) (r : Bool) (hr : foundB c = r) : Calls Tryz.prog 56 #[cdV c q, .slice (some ⟨g, 0, none⟩) c.N c.N] W fun e w' => TellsIs W r e w' := by
  rw [← hr]; exact found_any c q g W hf h.from_
theorem ordered_c {c : Cd} {q : Cv} {g : Nat} {W : World} (hL : Lt c) (ha : AllIn c g W) (h : CAt c q W) (r : Bool) (hr : orderedB c = r) : Calls Tryz.prog 57 #[.slice q.aO c.od.length q.cO, .slice (some ⟨g, 0, none⟩) c.N c.N] W fun e w' => TellsIs W r e w' := by
  rw [← hr]; exact ordered_any c q g W ha hL.n hL.od h.order
set_option maxRecDepth 100000 in
set_option maxHeartbeats 8000000 in
theorem look_none (c : Cd) (q : Cv) (w : World) (hn : ¬ (0 < c.nh ∧ c.nh ≤ 8)) : Calls Tryz.prog 28 #[cdV c q] w fun e w' => LookIs c c.may w e w' := by
  have HX : Hid (c.may = false) := Lib.hid (by
    rw [may_is]
    rcases Nat.eq_zero_or_pos c.nh with h0 | h0
    · rw [decide_eq_false (by omega)]; rfl
    · rw [decide_eq_true h0, decide_eq_false (show ¬ c.nh ≤ 8 by omega)]; rfl)
  have HB0 := Lib.hid (box_below w (.cells #[.slice q.aF c.fs.length q.cF, .slice q.aH c.nh q.cH, .slice q.aR c.fr.length q.cR, .slice q.aO c.od.length q.cO] 26))
  rcases Nat.eq_zero_or_pos c.nh with h0 | h0
  · unfold cdV
    rw [h0] at HB0 ⊢
    clear hn
    go_enter Tryz.func28, Tryz.ntmps28
    go_wp2
    go_ret2
    exact LookIs.no HX.out HB0.out
  · have h1 : ((c.nh : Int) == 0) = false := by simp; omega
    have h2 : decide ((8 : Int) < (c.nh : Int)) = true := by simp; omega
    clear hn h0
    go_enter Tryz.func28, Tryz.ntmps28
    go_wp2
    go_ret2
    exact LookIs.no HX.out HB0.out
set_option maxRecDepth 100000 in
set_option maxHeartbeats 8000000 in
theorem look_some (c : Cd) (q : Cv) (w : World) (hL : Lt c) (h : CAt c q w) (hn : 0 < c.nh ∧ c.nh ≤ 8) : Calls Tryz.prog 28 #[cdV c q] w fun e w' => LookIs c c.may w e w' := by
  have HX : Hid (c.may = (riseL c.fs c.fs.length && (rowsL c c.nh && (foundB c && orderedB c)))) := Lib.hid (by
    rw [may_is, decide_eq_true hn.1, decide_eq_true hn.2, decide_eq_true (show c.N ≤ 4096 by have := hL.n; omega)]; rfl)
  have HL := Lib.hid hL
  have S0 := Lib.hid (Lk.start h)
  have h1 : ((c.nh : Int) == 0) = false := by simp; omega
  have h2 : decide ((8 : Int) < (c.nh : Int)) = false := by simp; omega
  have hnn := hL.n
  have KL := Lib.hid (fun w0 (h0 : HsAt c c.nh q.aH w0) => (show Calls Tryz.prog 27 #[.slice q.aH c.nh q.cH] w0 fun e w' => LenIs w0 c.N e w' from length_any c c.nh q.aH q.cH w0 hL.nh hL.n h0))
  have KN := Lib.hid (fun w0 (h0 : HsAt c c.nh q.aH w0) => (show Calls Tryz.prog 53 #[.slice q.aH c.nh q.cH] w0 fun e w' => ∃ g, e = .returned (.slice (some ⟨g, 0, none⟩) c.N c.N) ∧ w0.heap.size ≤ g ∧ w'.heap[g]? = some (.cells (flat ((allP c c.nh).map (·.1))).toArray 60 (0, 0)) ∧ Below w0.heap.size w0 w' from numbered_any c c.nh q.aH q.cH w0 hL.nh hL.n h0))
  clear h hL hn
  have h3 : decide ((4096 : Int) < (c.N : Int)) = false := by simp; omega
  obtain ⟨u0, u1, u2, u3⟩ := S0.out.box.facts
  go_enter Tryz.func28, Tryz.ntmps28
  go_upto_region 4 with (first
    | (go_at_call 27; (with_reducible refine (KL.out _ S0.out.at_.harts).mono ?_); rintro e' w1 ⟨rfl, hb⟩; have S1 := Lib.hid (S0.out.on hb); clear hb u0 u1 u2 u3; obtain ⟨u0, u1, u2, u3⟩ := S1.out.box.facts)
    | (go_at_call 53; (with_reducible refine (KN.out _ S1.out.at_.harts).mono ?_); rintro e' w2 ⟨g, rfl, hg, hgb, hb⟩; have S2 := Lib.hid (show Lg c q g w w2 from ⟨S1.out.on hb, AllIn.mk' S1.out.at_.harts hb hgb, Nat.le_trans S1.out.below.size hg⟩); clear hb hg hgb u0 u1 u2 u3; obtain ⟨u0, u1, u2, u3⟩ := S2.out.lk.box.facts))
  obtain ⟨r1, hr1⟩ : ∃ r, Hid (riseL c.fs c.fs.length = r) := ⟨_, Lib.hid rfl⟩
  obtain ⟨r2, hr2⟩ : ∃ r, Hid (rowsL c c.nh = r) := ⟨_, Lib.hid rfl⟩
  obtain ⟨r3, hr3⟩ : ∃ r, Hid (foundB c = r) := ⟨_, Lib.hid rfl⟩
  obtain ⟨r4, hr4⟩ : ∃ r, Hid (orderedB c = r) := ⟨_, Lib.hid rfl⟩
  rw [hr1.out, hr2.out, hr3.out, hr4.out] at HX
  have K1 := Lib.hid (rising_c HL.out S2.out.lk.at_ r1 hr1.out)
  cases r1 with
  | false =>
    go_wp2_with (go_at_call 54; (with_reducible refine (K1.out).mono ?_); rintro e' w3 ⟨rfl, hb⟩; have S3 := Lib.hid (S2.out.on hb); clear hb u0 u1 u2 u3; obtain ⟨u0, u1, u2, u3⟩ := S3.out.lk.box.facts)
    exact bodyPost_ret (v := .tuple #[.slice none 0 0, .bool false]) (by simp [results, Tryz.results28]) rfl (LookIs.no HX.out S3.out.lk.below)
  | true =>
    cases r2 with
    | false =>
      go_wp2_with (first | (go_at_call 54; (with_reducible refine (K1.out).mono ?_); rintro e' w3 ⟨rfl, hb⟩; have S3 := Lib.hid (S2.out.on hb); clear hb u0 u1 u2 u3; obtain ⟨u0, u1, u2, u3⟩ := S3.out.lk.box.facts) | (go_at_call 55; (with_reducible refine (rows_c HL.out S3.out.lk.at_ _ hr2.out).mono ?_); rintro e' w4 ⟨rfl, hb⟩; have S4 := Lib.hid (S3.out.on hb); clear hb u0 u1 u2 u3; obtain ⟨u0, u1, u2, u3⟩ := S4.out.lk.box.facts))
      exact bodyPost_ret (v := .tuple #[.slice none 0 0, .bool false]) (by simp [results, Tryz.results28]) rfl (LookIs.no HX.out S4.out.lk.below)
    | true =>
      cases r3 with
      | false =>
        go_wp2_with (first | (go_at_call 54; (with_reducible refine (K1.out).mono ?_); rintro e' w3 ⟨rfl, hb⟩; have S3 := Lib.hid (S2.out.on hb); clear hb u0 u1 u2 u3; obtain ⟨u0, u1, u2, u3⟩ := S3.out.lk.box.facts) | (go_at_call 55; (with_reducible refine (rows_c HL.out S3.out.lk.at_ _ hr2.out).mono ?_); rintro e' w4 ⟨rfl, hb⟩; have S4 := Lib.hid (S3.out.on hb); clear hb u0 u1 u2 u3; obtain ⟨u0, u1, u2, u3⟩ := S4.out.lk.box.facts) | (go_at_call 56; (with_reducible refine (found_c (S4.out.fd HL.out hr1.out) S4.out.lk.at_ _ hr3.out).mono ?_); rintro e' w5 ⟨rfl, hb⟩; have S5 := Lib.hid (S4.out.on hb); clear hb u0 u1 u2 u3; obtain ⟨u0, u1, u2, u3⟩ := S5.out.lk.box.facts))
        exact bodyPost_ret (v := .tuple #[.slice none 0 0, .bool false]) (by simp [results, Tryz.results28]) rfl (LookIs.no HX.out S5.out.lk.below)
      | true =>
        cases r4 with
        | false =>
          go_wp2_with (first | (go_at_call 54; (with_reducible refine (K1.out).mono ?_); rintro e' w3 ⟨rfl, hb⟩; have S3 := Lib.hid (S2.out.on hb); clear hb u0 u1 u2 u3; obtain ⟨u0, u1, u2, u3⟩ := S3.out.lk.box.facts) | (go_at_call 55; (with_reducible refine (rows_c HL.out S3.out.lk.at_ _ hr2.out).mono ?_); rintro e' w4 ⟨rfl, hb⟩; have S4 := Lib.hid (S3.out.on hb); clear hb u0 u1 u2 u3; obtain ⟨u0, u1, u2, u3⟩ := S4.out.lk.box.facts) | (go_at_call 56; (with_reducible refine (found_c (S4.out.fd HL.out hr1.out) S4.out.lk.at_ _ hr3.out).mono ?_); rintro e' w5 ⟨rfl, hb⟩; have S5 := Lib.hid (S4.out.on hb); clear hb u0 u1 u2 u3; obtain ⟨u0, u1, u2, u3⟩ := S5.out.lk.box.facts) | (go_at_call 57; (with_reducible refine (ordered_c HL.out S5.out.all S5.out.lk.at_ _ hr4.out).mono ?_); rintro e' w6 ⟨rfl, hb⟩; have S6 := Lib.hid (S5.out.on hb); clear hb u0 u1 u2 u3))
          exact bodyPost_ret (v := .tuple #[.slice none 0 0, .bool false]) (by simp [results, Tryz.results28]) rfl (LookIs.no HX.out S6.out.lk.below)
        | true =>
          go_wp2_with (first | (go_at_call 54; (with_reducible refine (K1.out).mono ?_); rintro e' w3 ⟨rfl, hb⟩; have S3 := Lib.hid (S2.out.on hb); clear hb u0 u1 u2 u3; obtain ⟨u0, u1, u2, u3⟩ := S3.out.lk.box.facts) | (go_at_call 55; (with_reducible refine (rows_c HL.out S3.out.lk.at_ _ hr2.out).mono ?_); rintro e' w4 ⟨rfl, hb⟩; have S4 := Lib.hid (S3.out.on hb); clear hb u0 u1 u2 u3; obtain ⟨u0, u1, u2, u3⟩ := S4.out.lk.box.facts) | (go_at_call 56; (with_reducible refine (found_c (S4.out.fd HL.out hr1.out) S4.out.lk.at_ _ hr3.out).mono ?_); rintro e' w5 ⟨rfl, hb⟩; have S5 := Lib.hid (S4.out.on hb); clear hb u0 u1 u2 u3; obtain ⟨u0, u1, u2, u3⟩ := S5.out.lk.box.facts) | (go_at_call 57; (with_reducible refine (ordered_c HL.out S5.out.all S5.out.lk.at_ _ hr4.out).mono ?_); rintro e' w6 ⟨rfl, hb⟩; have S6 := Lib.hid (S5.out.on hb); clear hb u0 u1 u2 u3))
          exact bodyPost_ret (v := .tuple #[.slice (some ⟨g, 0, none⟩) c.N c.N, .bool true]) (by simp [results, Tryz.results28]) rfl (LookIs.yes HX.out S6.out.new S6.out.all S6.out.lk.below)
theorem look_any2 (c : Cd) (q : Cv) (w : World) (hL : Lt c) (h : CAt c q w) : Calls Tryz.prog 28 #[cdV c q] w fun e w' => LookIs c c.may w e w' := by
  by_cases hn : 0 < c.nh ∧ c.nh ≤ 8
  · exact look_some c q w hL h hn
  · exact look_none c q w hn
def CheckIs (w : World) (b : Bool) (e : Ending) (w' : World) : Prop := e = .returned (.int .i64 (if b then 0 else 2)) ∧ Below w.heap.size w w'
set_option maxRecDepth 100000 in
set_option maxHeartbeats 4000000 in
theorem check_c (c : Cd) (q : Cv) (w : World) (hL : Lt c) (h : CAt c q w) (r : Bool) (hr : c.may = r) : Calls Tryz.prog 8 #[cdV c q] w fun e w' => CheckIs w r e w' := by
  have KK : Hid (∀ w0, CAt c q w0 → Calls Tryz.prog 28 #[cdV c q] w0 fun e w' => LookIs c r w0 e w') := Lib.hid (fun w0 h0 => by rw [← hr]; exact look_any2 c q w0 hL h0)
  have S0 := Lib.hid (Lk.start h)
  clear h hr
  obtain ⟨u0, u1, u2, u3⟩ := S0.out.box.facts
  unfold cdV at KK ⊢
  cases r with
  | false =>
    go_enter Tryz.func8, Tryz.ntmps8
    go_wp2_with (go_at_call 28; (with_reducible refine (KK.out _ S0.out.at_).mono ?_); rintro e' w1 ⟨v, rfl, h1, h2, hb⟩; obtain rfl := h2 rfl; have S1 := Lib.hid (S0.out.on hb); clear hb h1 h2)
    go_ret
    exact ⟨rfl, S1.out.below⟩
  | true =>
    go_enter Tryz.func8, Tryz.ntmps8
    go_wp2_with (go_at_call 28; (with_reducible refine (KK.out _ S0.out.at_).mono ?_); rintro e' w1 ⟨v, rfl, h1, h2, hb⟩; obtain ⟨g, rfl, h3, h4⟩ := h1 rfl; have S1 := Lib.hid (S0.out.on hb); clear hb h1 h2 h3 h4)
    go_ret
    exact ⟨rfl, S1.out.below⟩
end Go.Proofs.YtokhnjcbcpmmjaaGreat
namespace Go.Proofs.YtokhnjcbcpmmjaaGreat
set_option linter.unusedVariables false
set_option linter.unusedSimpArgs false
open Go.RowKit
attribute [local go_sem ↓] fold_E fold_SE

/-- little in the first k rows -/
def smallTo (c : Cd) (k : Nat) : Prop := ∀ h, h < k → c.len h ≤ 60 ∧ ∀ j, j < c.len h → small (c.el h j)
theorem smallTo.base {c : Cd} : ∀ (k : Nat), smallTo c k → baseL c.len k ≤ k * 60
  | 0, _ => by simp [baseL]
  | k + 1, h => by
    have ih := smallTo.base k (fun j hj => h j (by omega))
    have h1 := (h k (by omega)).1
    show baseL c.len k + c.len k ≤ _
    omega
structure Lw (c : Cd) : Prop where
  nh : c.nh ≤ 9
  n : c.N ≤ 60
  small : smallTo c c.nh
  fs : c.fs.length ≤ 60
  fr : c.fr.length ≤ 120
  od : c.od.length ≤ 120
def LightC (c : Cd) (w : World) (e : Ending) (w' : World) : Prop := ∃ r, e = .returned (.bool r) ∧ (r = true → Lw c) ∧ Below w.heap.size w w'
theorem LightC.no {c : Cd} {w w' : World} (hb : Below w.heap.size w w') : LightC c w (.returned (.bool false)) w' := ⟨false, rfl, (fun h => by cases h), hb⟩
theorem light_v {w : World} {a : Option Addr} {n c : Nat} {ev : Nat → Ev} {el : Nat → El} (h : RowV w (.slice a n c) n ev el) : Calls Tryz.prog 25 #[.slice a n c, .int .i64 60] w fun e w' => LightIs w n el e w' := by
  obtain ⟨a', c', e, _, h⟩ := h
  injection e with e1 e2 e3
  subst e1 e3
  rcases h with rfl | ⟨b, off, rfl, h⟩
  · exact light_none a c el w
  · by_cases hn : n ≤ 60
    · exact light_row n b off c ev el w hn h
    · exact light_long _ n c el w (by omega)
set_option maxRecDepth 100000 in
set_option maxHeartbeats 8000000 in
theorem lightCand_any (c : Cd) (q : Cv) (w : World) (h : CAt c q w) : Calls Tryz.prog 5 #[cdV c q, .int .i64 60] w fun e w' => LightC c w e w' := by
  have H := Lib.hid h
  have HB0 := Lib.hid (box_below w (.cells #[.slice q.aF c.fs.length q.cF, .slice q.aH c.nh q.cH, .slice q.aR c.fr.length q.cR, .slice q.aO c.od.length q.cO] 26))
  clear h
  go_enter Tryz.func5, Tryz.ntmps5
  go_wp2
  go_loopw [5, 6] (fun vn vi wr => ∃ (k : Nat), k ≤ c.nh ∧ k ≤ 10 ∧ vi = .int .i64 k ∧ vn = .int .i64 (baseL c.len k : Nat) ∧ Hid (smallTo c k) ∧ Hid (CdAt c q w.heap.size wr) ∧ Below w.heap.size w wr) (fun _ vi _ => 10 - (intOf vi).toNat)
  case atStart => exact ⟨0, Nat.zero_le _, Nat.zero_le _, rfl, rfl, Lib.hid (fun h hh => absurd hh (by omega)), Lib.hid (CdAt.new c q w), HB0.out⟩
  case round =>
    obtain ⟨k, hk, hk10, rfl, rfl, hS, hbx, hbel⟩ := hrel
    have HB := Lib.hid hbel
    have hbase := smallTo.base k hS.out
    clear hbel
    obtain ⟨u0, u1, u2, u3⟩ := hbx.out.facts
    by_cases hlt : k < c.nh ∧ k < 10
    · obtain ⟨h1, h2⟩ := hlt
      obtain ⟨b, off, a2, c2, hq, hc, _, hrow⟩ := (H.out.harts.below HB.out).row k h1
      have KL := Lib.hid (light_v (w := wr) hrow)
      have hbk : baseL c.len (k + 1) = baseL c.len k + c.len k := rfl
      have hlk := Lib.hid hrow
      clear hrow
      obtain ⟨L, hL⟩ : ∃ L, baseL c.len k = L := ⟨_, rfl⟩
      rw [hL] at hbase hbk ⊢
      have h1' : (k : Int) < (c.nh : Int) := by omega
      have h2' : (k : Int) < 10 := by omega
      go_wp2_with (go_at_call 25; (with_reducible refine (KL.out).mono ?_); rintro e' w2 ⟨r, rfl, hr, hb⟩; have X2 := Lib.hid (hbx.out.on hb); have L2 := Lib.hid (HB.out.trans (hb.mono HB.out.size)); have R2 := Lib.hid hr; clear hb hr)
      · go_ret
        exact LightC.no L2.out
      · rename_i hr
        have hr2 := Lib.hid (R2.out (by simpa using hr))
        have hS2 : Hid (smallTo c (k + 1)) := Lib.hid (fun h hh => by
          rcases Nat.lt_or_ge h k with h3 | h3
          · exact hS.out h h3
          · obtain rfl : h = k := by omega
            exact hr2.out)
        have hwr : wrap64 ((L : Int) + (c.len k : Int)) = ((baseL c.len (k + 1) : Nat) : Int) := by
          rw [IntWalk.wrap64_in _ (by have := hr2.out.1; omega), hbk]; omega
        rw [hwr]
        clear hr hwr
        go_roundw
        case rel => exact ⟨k + 1, by omega, by omega, by go_num, rfl, hS2, X2, L2.out⟩
        case measure => simp [intOf]; omega
    · by_cases h9 : c.nh ≤ 9
      rotate_left
      · have d9 : decide ((c.nh : Int) ≤ 9) = false := by simp; omega
        by_cases hl : k < c.nh
        · have hk : k = 10 := by omega
          subst hk
          have h1' : (10 : Int) < (c.nh : Int) := by omega
          go_wp2
          go_ret
          exact LightC.no HB.out
        · obtain rfl : k = c.nh := by omega
          have h1' : decide ((c.nh : Int) < (c.nh : Int)) = false := by simp
          go_wp2
          go_ret
          exact LightC.no HB.out
      obtain hkn : k = c.nh := by omega
      rw [hkn] at hbase hS ⊢
      have d9 : decide ((c.nh : Int) ≤ 9) = true := by simp; omega
      have h1' : decide ((c.nh : Int) < (c.nh : Int)) = false := by simp
      have hLw := Lib.hid (fun (h2 : c.N ≤ 60) (h3 : c.fs.length ≤ 60) (h4 : c.fr.length ≤ 120) (h5 : c.od.length ≤ 120) => (show Lw c from ⟨h9, h2, hS.out, h3, h4, h5⟩))
      obtain ⟨N, hN⟩ : ∃ N, baseL c.len c.nh = N := ⟨_, rfl⟩
      have hN2 : Hid (c.N = N) := Lib.hid hN
      rw [hN] at hbase ⊢
      rw [hN2.out] at hLw
      clear hkn hk hk10 hlt h9 hN
      by_cases e2 : N ≤ 60
      · by_cases e3 : c.fs.length ≤ 60
        · by_cases e4 : c.fr.length ≤ 120
          · by_cases e5 : c.od.length ≤ 120
            · have g2 : decide ((N : Int) ≤ 60) = true := by simp; omega
              have g3 : decide ((c.fs.length : Int) ≤ 60) = true := by simp; omega
              have g4 : decide ((c.fr.length : Int) ≤ 120) = true := by simp; omega
              have g5 : decide ((c.od.length : Int) ≤ 120) = true := by simp; omega
              have hOK := Lib.hid (hLw.out e2 e3 e4 e5)
              clear e2 e3 e4 e5
              go_wp2
              go_ret
              exact ⟨_, rfl, fun _ => hOK.out, HB.out⟩
            · have g2 : decide ((N : Int) ≤ 60) = true := by simp; omega
              have g3 : decide ((c.fs.length : Int) ≤ 60) = true := by simp; omega
              have g4 : decide ((c.fr.length : Int) ≤ 120) = true := by simp; omega
              have g5 : decide ((c.od.length : Int) ≤ 120) = false := by simp; omega
              clear e2 e3 e4 e5
              go_wp2
              go_ret
              exact LightC.no HB.out
          · have g2 : decide ((N : Int) ≤ 60) = true := by simp; omega
            have g3 : decide ((c.fs.length : Int) ≤ 60) = true := by simp; omega
            have g4 : decide ((c.fr.length : Int) ≤ 120) = false := by simp; omega
            clear e2 e3 e4
            go_wp2
            go_ret
            exact LightC.no HB.out
        · have g2 : decide ((N : Int) ≤ 60) = true := by simp; omega
          have g3 : decide ((c.fs.length : Int) ≤ 60) = false := by simp; omega
          clear e2 e3
          go_wp2
          go_ret
          exact LightC.no HB.out
      · have g2 : decide ((N : Int) ≤ 60) = false := by simp; omega
        clear e2
        go_wp2
        go_ret
        exact LightC.no HB.out
end Go.Proofs.YtokhnjcbcpmmjaaGreat
namespace Go.Proofs.YtokhnjcbcpmmjaaGreat
set_option linter.unusedVariables false
set_option linter.unusedSimpArgs false
open Go.RowKit
attribute [local go_sem ↓] fold_E fold_SE

def NumbIs (w : World) (n x : Int) (e : Ending) (w' : World) : Prop := e = .returned (.tuple #[.int .i64 n, .int .i64 x]) ∧ Below w.heap.size w w'
set_option maxRecDepth 100000 in
set_option maxHeartbeats 8000000 in
/-- a candidate that may be, an event that is there -/
theorem Number_yes (c : Cd) (q : Cv) (w : World) (hL : Lt c) (h : CAt c q w) (hm : c.may = true) (hart at_ : Nat) (hh : hart < c.nh) (ha : at_ < c.len hart) : Calls Tryz.prog 6 #[cdV c q, .int .i64 (hart : Int), .int .i64 (at_ : Int)] w fun e w' => NumbIs w (baseL c.len hart + at_ : Nat) 0 e w' := by
  have KC := Lib.hid (fun w0 h0 => check_c c q w0 hL h0 true hm)
  have KL := Lib.hid (fun w0 cp (h0 : HsAt c hart q.aH w0) => length_any c hart q.aH cp w0 (by have := hL.nh; omega) (hL.base hart (by omega)) h0)
  have S0 := Lib.hid (Lk.start h)
  have W1 := Lib.hid (fun w0 => cwithin_b (hart : Int) (c.nh : Int) true (by simp [withinB, hh]) w0)
  have W2 := Lib.hid (fun w0 => cwithin_b (at_ : Int) (c.len hart : Int) true (by simp [withinB, ha]) w0)
  have hb60 := hL.base (hart + 1) (by omega)
  have hbs : baseL c.len (hart + 1) = baseL c.len hart + c.len hart := rfl
  have hcp : c.nh ≤ q.cH := h.cap
  have hn9 := hL.nh
  clear h hm
  obtain ⟨u0, u1, u2, u3⟩ := S0.out.box.facts
  go_enter Tryz.func6, Tryz.ntmps6
  go_upto_region 4 with (go_at_call 8; (with_reducible refine (KC.out _ S0.out.at_).mono ?_); rintro e' w1 ⟨rfl, hb⟩; have S1 := Lib.hid (S0.out.on hb); clear hb u0 u1 u2 u3; obtain ⟨u0, u1, u2, u3⟩ := S1.out.box.facts)
  obtain ⟨b, off, a2, c2, hq, hc, _, _⟩ := S1.out.at_.harts.row hart hh
  rw [hq] at u1
  have hhi : (hart : Int) < (c.nh : Int) := by omega
  have hh0 : (0 : Int) ≤ (hart : Int) := by omega
  go_upto_region 6 with (first
    | (go_at_call 26; (with_reducible refine (W1.out _).mono ?_); rintro e' w2 ⟨rfl, rfl⟩)
    | (go_at_call 26; (with_reducible refine (W2.out _).mono ?_); rintro e' w2 ⟨rfl, rfl⟩))
  have HS := Lib.hid (S1.out.at_.harts.less (m := hart) (by omega))
  rw [hq] at KL HS
  have hcpi : (hart : Int) ≤ (q.cH : Int) := by omega
  go_wp2_with (go_at_call 27; (with_reducible refine (KL.out _ _ HS.out).mono ?_); rintro e' w3 ⟨rfl, hb⟩; have S3 := Lib.hid (S1.out.on hb); clear hb)
  exact bodyPost_ret (v := .tuple #[.int .i64 ((baseL c.len hart : Int) + (at_ : Int)), .int .i64 0]) (by simp [results, Tryz.results6]) rfl ⟨by rw [Int.natCast_add], S3.out.below⟩
set_option maxRecDepth 100000 in
set_option maxHeartbeats 8000000 in
theorem First_yes (c : Cd) (q : Cv) (w : World) (hL : Lt c) (h : CAt c q w) (hm : c.may = true) (x : Int) : Calls Tryz.prog 17 #[cdV c q, .int .u64 x] w fun e w' => ValIs w (valL c.fs x) e w' := by
  have KC := Lib.hid (fun w0 h0 => check_c c q w0 hL h0 true hm)
  have S0 := Lib.hid (Lk.start h)
  have hr : riseL c.fs c.fs.length = true := by
    rw [may_is] at hm
    simp only [Bool.and_eq_true] at hm
    exact hm.2.2.2.1
  have KV := Lib.hid (fun w0 h0 => value_any (.slice q.aF c.fs.length q.cF) c.fs x w0 h0 hL.fs hr)
  clear h hm hr
  obtain ⟨u0, u1, u2, u3⟩ := S0.out.box.facts
  go_enter Tryz.func17, Tryz.ntmps17
  go_wp2_with (first
    | (go_at_call 8; (with_reducible refine (KC.out _ S0.out.at_).mono ?_); rintro e' w1 ⟨rfl, hb⟩; have S1 := Lib.hid (S0.out.on hb); clear hb u0 u1 u2 u3; obtain ⟨u0, u1, u2, u3⟩ := S1.out.box.facts)
    | (go_at_call 40; (with_reducible refine (KV.out _ S1.out.at_.first).mono ?_); rintro e' w2 ⟨rfl, hb⟩; have S2 := Lib.hid (S1.out.on hb); clear hb u0 u1 u2 u3))
  go_ret
  exact ⟨rfl, S2.out.below⟩
end Go.Proofs.YtokhnjcbcpmmjaaGreat
namespace Go.Proofs.YtokhnjcbcpmmjaaGreat
set_option linter.unusedVariables false
set_option linter.unusedSimpArgs false
open Go.RowKit
attribute [local go_sem ↓] fold_E fold_SE

set_option maxRecDepth 100000 in
set_option maxHeartbeats 8000000 in
theorem Number_no (c : Cd) (q : Cv) (w : World) (hL : Lt c) (h : CAt c q w) (hm : c.may = false) (x y : Int) : Calls Tryz.prog 6 #[cdV c q, .int .i64 x, .int .i64 y] w fun e w' => NumbIs w 0 2 e w' := by
  have KC := Lib.hid (fun w0 h0 => check_c c q w0 hL h0 false hm)
  have S0 := Lib.hid (Lk.start h)
  clear h hm
  obtain ⟨u0, u1, u2, u3⟩ := S0.out.box.facts
  go_enter Tryz.func6, Tryz.ntmps6
  go_wp2_with (go_at_call 8; (with_reducible refine (KC.out _ S0.out.at_).mono ?_); rintro e' w1 ⟨rfl, hb⟩; have S1 := Lib.hid (S0.out.on hb); clear hb u0 u1 u2 u3)
  exact bodyPost_ret (v := .tuple #[.int .i64 0, .int .i64 2]) (by simp [results, Tryz.results6]) rfl ⟨rfl, S1.out.below⟩
end Go.Proofs.YtokhnjcbcpmmjaaGreat
