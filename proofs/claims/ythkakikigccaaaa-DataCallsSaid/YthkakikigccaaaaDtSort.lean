/-
  Proved here: slices.SortStableFunc at pieces, at most forty of them, by rank: sorted, each rank's in their order. No condition but the row's own.
-/
import Derived.Test.YthkakikigccaaaaShelf
import Derived.Test.YthkakikigccaaaaSort
import Derived.Test.YthkakikigccaaaaDtStable
import Derived.Test.YthkakikigccaaaaDtCount
import Derived.BigQuiet
namespace Go.Proofs.Ythkakikigccaaaa
open Go.Shelf Go.RowKit Go.Lib Go.Sort
set_option linter.unusedVariables false
set_option linter.unusedSimpArgs false

theorem dtL : DtL Try.prog 3 := {
  mixed := by kernel_rfl
  f34 := Try.func34
  f40 := Try.func40
  f43 := Try.func43
  f44 := Try.func44
  f45 := Try.func45
  t0 := Try.underlying0
  a0 := Try.isAgg0
  z0 := Try.sizeOf0
  v0 := Try.zeroValue0
  t3 := Try.underlying3
  a3 := Try.isAgg3
  z3 := Try.sizeOf3
  v3 := Try.zeroValue3
  t4 := Try.underlying4
  a4 := Try.isAgg4
  z4 := Try.sizeOf4
  v4 := Try.zeroValue4
  t51 := Try.underlying51
  a51 := Try.isAgg51
  z51 := Try.sizeOf51
  v51 := Try.zeroValue51
  t66 := Try.underlying66
  a66 := Try.isAgg66
  z66 := Try.sizeOf66
  v66 := Try.zeroValue66
  t76 := Try.underlying76
  a76 := Try.isAgg76
  z76 := Try.sizeOf76
  v76 := Try.zeroValue76
  aE := Try.isAgg63
  zE := Try.sizeOf63 }
def cfP (x y : Pc) : Int := Lib.compareInt (rk x) (rk y)
theorem cfP_lt (x y : Pc) : cfP x y < 0 ↔ rk x < rk y := by
  unfold cfP Lib.compareInt
  split
  · omega
  · split <;> omega
theorem swoP : SWO (ltOf cfP) := by
  have h : ∀ x y, ltOf cfP x y = decide (rk x < rk y) := fun x y => by unfold ltOf; exact decide_eq_decide.2 (cfP_lt x y)
  refine ⟨fun x => ?_, fun x y z => ?_, fun x y z => ?_⟩
  · rw [h]; simp
  · rw [h, h, h]; simp only [decide_eq_true_eq]; omega
  · rw [h, h, h]; simp only [decide_eq_false_iff_not]; omega
theorem rank_grown (p : Pc) (w : World) (n : Nat) (os : Array Obj) : Calls Try.prog 37 #[.agg #[.string p.name, .int .i64 p.size, .int .i64 p.hart]] (grow (w.drewN n) os) fun e w' => e = .returned (.int .i64 (rk p)) ∧ ∃ q os', w' = grow ((grow (w.drewN n) os).drewN q) os' :=
  (rank_any p _).mono fun e w' ⟨he, o, ho⟩ => ⟨he, 0, #[o], by rw [ho, alloc_eq_grow]; rfl⟩
theorem comp_grown (x y : Int) (w : World) (n : Nat) (os : Array Obj) : Calls Try.prog 36 #[.int .i64 x, .int .i64 y] (grow (w.drewN n) os) fun e w' => e = .returned (.int .i64 (Lib.compareInt x y)) ∧ ∃ q os', w' = grow ((grow (w.drewN n) os).drewN q) os' :=
  (Try.cmp_Compare_int x y _).mono fun e w' ⟨he, hw⟩ => ⟨he, 0, #[], by rw [hw, grow_empty]; rfl⟩
set_option maxHeartbeats 1000000 in
theorem cl_any (x y : Pc) (W : World) : Calls Try.prog 35 #[.agg #[.string x.name, .int .i64 x.size, .int .i64 x.hart], .agg #[.string y.name, .int .i64 y.size, .int .i64 y.hart]] W fun e w' => e = .returned (.int .i64 (cfP x y)) ∧ ∃ q os', w' = grow (W.drewN q) os' := by
  have HX : Hid (∀ q os, grow (((W.alloc (.cells #[.string x.name, .int .i64 x.size, .int .i64 x.hart] 63)).alloc (.cells #[.string y.name, .int .i64 y.size, .int .i64 y.hart] 63)).drewN q) os = grow (W.drewN q) (#[.cells #[.string x.name, .int .i64 x.size, .int .i64 x.hart] 63] ++ #[.cells #[.string y.name, .int .i64 y.size, .int .i64 y.hart] 63] ++ os)) := Lib.hid (fun q os => by
    rw [alloc_eq_grow, alloc_eq_grow, grow_grow]; show grow (grow (W.drewN q) _) os = _; rw [grow_grow])
  unfold cfP
  have mixed : Try.prog.follows .mixedOrders = true := by kernel_rfl
  go_enter Try.func35, Try.ntmps35
  go_wp2_with fail
  have B1 : Bx x W.heap.size ((W.alloc (.cells #[.string x.name, .int .i64 x.size, .int .i64 x.hart] 63)).alloc (.cells #[.string y.name, .int .i64 y.size, .int .i64 y.hart] 63)) := (Bx.new x W _).on (one_below _ _)
  have B2 : Bx y (W.heap.size + 1) ((W.alloc (.cells #[.string x.name, .int .i64 x.size, .int .i64 x.hart] 63)).alloc (.cells #[.string y.name, .int .i64 y.size, .int .i64 y.hart] 63)) := by have := Bx.new y (W.alloc (.cells #[.string x.name, .int .i64 x.size, .int .i64 x.hart] 63)) 63; simpa using this
  generalize hw2 : (W.alloc (.cells #[.string x.name, .int .i64 x.size, .int .i64 x.hart] 63)).alloc (.cells #[.string y.name, .int .i64 y.size, .int .i64 y.hart] 63) = w2 at HX B1 B2 ⊢
  clear hw2
  have x1 := fun n os => cell_grown (a := ⟨W.heap.size, 0, none⟩) B1.lt B1.n n os
  have x2 := fun n os => cell_grown (a := ⟨W.heap.size, 1, none⟩) B1.lt B1.s n os
  have x3 := fun n os => cell_grown (a := ⟨W.heap.size, 2, none⟩) B1.lt B1.h n os
  have y1 := fun n os => cell_grown (a := ⟨W.heap.size + 1, 0, none⟩) B2.lt B2.n n os
  have y2 := fun n os => cell_grown (a := ⟨W.heap.size + 1, 1, none⟩) B2.lt B2.s n os
  have y3 := fun n os => cell_grown (a := ⟨W.heap.size + 1, 2, none⟩) B2.lt B2.h n os
  clear B1 B2
  go_quiet_grown (first | (go_at_call 36; refine Calls.grown_of (comp_grown (rk x) (rk y) _ _ _)) | (go_at_call 37; first | (refine Calls.grown_of (rank_grown x _ _ _)) | (refine Calls.grown_of (rank_grown y _ _ _))))
  go_wp2
  go_ret
  exact ⟨rfl, nq, _, HX.out nq osq⟩
theorem cmpP (blk off size : Nat) (w : World) : CmpLays Try.prog 35 #[] pcV 3 cfP blk off size w := fun _ _ _ _ x y => cl_any x y _
theorem pcV_one (x : Pc) (v : Value) (h : v ∈ pcV x) : v.oneCell' = true := by
  simp only [pcV, List.mem_cons, List.not_mem_nil, or_false] at h
  rcases h with rfl | rfl | rfl <;> rfl
theorem egP : ∀ args w, (callFunc 35 args).run Try.prog w = .ok (.enter 35 args) w := enters_of Try.func35 (by kernel_rfl) rfl
theorem insP (blk off cap n : Nat) (d0 : Array Pc) (w0 : World) (R : RowK pcV 3 w0 blk off d0) (hs : d0.size = n) (hsz : n < 4611686018427387904) : InsC Try.prog pcV 3 rk 35 #[] blk off cap n w0 := by
  intro C X D d w a b hds hd S ha hb
  have hl : d.size = C.length + X.length + D.length := by have := congrArg List.length hd; simp at this; omega
  have hC : CmpLays Try.prog 35 #[] pcV 3 cfP blk off d.size w := cmpP _ _ _ _
  have hc := AnyQ.insertionSortCmpFunc Try.insCells 3 Try.isAgg63 Try.sizeOf63 pcV R.hk R.h1 cfP 35 #[] blk off cap a b d w egP hC (S.holds R.hblk R.hH (by omega)) (S.lt R.hblk) (by omega) (by omega) (by omega)
  rw [hds] at hc
  obtain ⟨Z, z1, z2, z3⟩ := ins_part (r := rk) swoP (fun x y => by unfold ltOf; rw [decide_eq_true_eq]; exact cfP_lt x y) hd ha hb
  refine Calls.mono (show Calls Try.prog 42 _ _ _ from hc) ?_
  rintro e w' ⟨rfl, q, os, rfl⟩
  exact ⟨rfl, _, Z, by rw [z1, hds], z2, z3, S.on R.hblk q _ os (by rw [z1])⟩
set_option maxHeartbeats 1000000 in
/-- the whole sort of at most forty -/
theorem stable_any (blk off cap : Nat) (d : Array Pc) (w : World) (hH : HoldsK pcV 3 w blk off d) (hblk : blk < w.heap.size) (h40 : d.size ≤ 40) :
    Calls Try.prog 34 #[.slice (some ⟨blk, off, none⟩) d.size cap, .func (.func 35) #[] #[]] w (StOut pcV 3 w blk off d.size rk d.toList) := by
  have R : RowK pcV 3 w blk off d := ⟨fun _ => rfl, pcV_one, hH, hblk⟩
  have S := SWK.start hH
  have hI := insP blk off cap d.size d w R rfl (by omega)
  have ei : ∀ args w, (callFunc 42 args).run Try.prog w = .ok (.enter 42 args) w := enters_of Try.func42 (by kernel_rfl) rfl
  have H : Calls Try.prog 40 #[.slice (some ⟨blk, off, none⟩) d.size cap, .int .i64 d.size, .func (.func 35) #[] #[]] w (StOut pcV 3 w blk off d.size rk d.toList) := by
    by_cases h : d.size < 20
    · exact stable_small dtL pcV rk _ _ blk off cap d w w d.size rfl h ei hI S
    · have hM := sym_any dtL pcV cfP rk cfP_lt 35 #[] blk off cap d w egP (cmpP blk off d.size w) R d.size rfl (by omega)
      exact stable_mid dtL pcV rk _ _ blk off cap d w w d.size rfl (by omega) h40 ei hI hM S
  clear hI ei S R hH
  go_enter Try.func34, Try.ntmps34
  go_wp2_with (go_at_call 40; (with_reducible refine H.mono ?_); rintro e w' ⟨rfl, HO⟩; have HO' := Lib.hid HO; clear HO)
  go_end0
  exact ⟨rfl, HO'.out⟩
end Go.Proofs.Ythkakikigccaaaa
