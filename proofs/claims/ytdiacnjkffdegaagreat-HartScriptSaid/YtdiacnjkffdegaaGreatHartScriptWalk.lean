/-
  Proved here: harts, instructions, numbers, bools that come in in rows; a hart as one load, one store; harts alike are equal; Ask of a hart that may not. No condition.
  Proved here: the law HartScript answers true of any hart, instructions, numbers, bools; nothing that was there is changed. No condition.
-/
import Derived.Test.YtdiacnjkffdegaaGreatHartArg
import Derived.Test.YtdiacnjkffdegaaGreatHartJumps
import Derived.Test.YtdiacnjkffdegaaGreatRef05Stop
import Derived.Deep.Slices
import Derived.DeepKeys
import Derived.Test.YtdiacnjkffdegaaGreatRef05Done
import Derived.Deep.RegionHeld3
import Derived.Deep.CutBlock
import Derived.Deep.DeepCutAuto
namespace Go.Proofs.YtdiacnjkffdegaaGreat
section
set_option linter.unusedVariables false
set_option linter.unusedSimpArgs false
open Go.ChangeShapes Go.WideShapes Go.ChangeAt Go.RowKit Go.Deep

abbrev Ins.V' (i : Ins) : Value := insV i.op i.rd i.rs1 i.rs2 i.imm i.aq i.rl i.pred i.succ
def LoadI (x : Value) : Sem Value := Instr.loadAt 34 x
theorem fold_I (x : Value) : Instr.loadAt 34 x = LoadI x := rfl
def LoadH (x : Value) : Sem Value := Instr.loadAt 25 x
theorem fold_H (x : Value) : Instr.loadAt 25 x = LoadH x := rfl
def StoreH (x y : Value) : Sem Unit := Instr.storeAt 25 x y
theorem fold_SH (x y : Value) : Instr.storeAt 25 x y = StoreH x y := rfl
def StoreQ (x y : Value) : Sem Unit := Instr.storeAt 37 x y
theorem fold_SQ (x y : Value) : Instr.storeAt 37 x y = StoreQ x y := rfl
abbrev askC : Array Value := #[.int .i64 0, .int .u64 0, .int .u64 0, .int .i64 0, .bool false, .bool false, .int .i64 0, .int .i64 0]
theorem run_LoadH {T : TypeId} {h : Ha} {n : Nat} {w : World} (H : HAt T h n w) : (LoadH (.pointer (some ⟨n, 0, none⟩))).run Tryz.prog w = .ok h.V w := by
  unfold LoadH Instr.loadAt Instr.sureAddr
  simp only [Sem.run_bind, Sem.run_pure, Result.andThen_ok, H.load Tryz.prog 25 _ Tryz.underlying25 rfl (by as_aux_lemma => kernel_rfl)]
theorem run_StoreH {h0 h : Ha} {n : Nat} {w : World} (H : HAt 25 h0 n w) : (StoreH (.pointer (some ⟨n, 0, none⟩)) h.V).run Tryz.prog w = .ok () (w.setRow n (hC h)) := by
  unfold StoreH Instr.storeAt Instr.sureAddr
  simp only [Sem.run_bind, Sem.run_pure, Result.andThen_ok]
  exact run_storeVar_row w n _ _ _ _ H (by rw [hC_size]; as_aux_lemma => kernel_rfl) (by rw [hC_size, hC_size]) (hC_one h)
theorem run_StoreQ {n : Nat} {w : World} (H : w.heap[n]? = some (.cells askC 37 (0, 0))) : (StoreQ (.pointer (some ⟨n, 0, none⟩)) (.agg askC)).run Tryz.prog w = .ok () (w.setRow n askC) := by
  unfold StoreQ Instr.storeAt Instr.sureAddr
  simp only [Sem.run_bind, Sem.run_pure, Result.andThen_ok]
  exact run_storeVar_row w n _ _ _ _ H (by as_aux_lemma => kernel_rfl) rfl (by simp [askC, Value.oneCell'])
theorem HAt.setRow {T : TypeId} {h h2 : Ha} {n : Nat} {w : World} (H : HAt T h n w) : HAt T h2 n (w.setRow n (hC h2)) := setRow_heap w n _ _ _ _ H
theorem HAt.row {T : TypeId} {h : Ha} {n g : Nat} {cs : Array Value} {W : World} (H : HAt T h n W) (hn : n ≠ g) : HAt T h n (W.setRow g cs) := (setRow_other W g n cs hn).trans H
theorem below_setRow {w : World} {n : Nat} {cs : Array Value} : Below n w (w.setRow n cs) := ⟨rfl, rfl, rfl, by simp, fun j hj => setRow_other _ _ _ _ (by omega)⟩
theorem Below.al {w W : World} (h : Below w.heap.size w W) (o : Obj) : Below w.heap.size w (W.alloc o) := h.alloc h.size o
theorem Below.dr {w W : World} (h : Below w.heap.size w W) : Below w.heap.size w W.drew := h.drew
theorem Below.tr {w W W2 : World} (h : Below w.heap.size w W) (hb : Below W.heap.size W W2) : Below w.heap.size w W2 := h.trans (hb.mono h.size)
theorem Below.ro {w W : World} {g : Nat} {cs : Array Value} (h : Below w.heap.size w W) (hg : w.heap.size ≤ g) : Below w.heap.size w (W.setRow g cs) := h.trans (below_setRow.mono hg)
/-- a hart is equal to itself -/
theorem part_u64 (h : Ha) (k : Nat) (v : Value) (w : World) (hk : (hC h)[k]? = some v) : (_root_.Go.part 22 (hC h) k).run Tryz.prog w = .ok v w := by
  simp [_root_.Go.part, go_sem, Tryz.isAgg22, hk]
theorem part_int (h : Ha) (k : Nat) (v : Value) (w : World) (hk : (hC h)[k]? = some v) : (_root_.Go.part 3 (hC h) k).run Tryz.prog w = .ok v w := by
  simp [_root_.Go.part, go_sem, Tryz.isAgg3, hk]
theorem extract_arr (h : Ha) : (hC h).extract 1 33 = arrC h.xs := by
  have hl := h.len
  unfold hC arrC
  apply Array.toList_inj.1
  simp [List.extract_eq_take_drop, hl]
theorem part_arr (h : Ha) (w : World) : (_root_.Go.part 23 (hC h) 1).run Tryz.prog w = .ok (.agg (arrC h.xs)) w := by
  have hs : (sizeOf 23).run Tryz.prog w = .ok 32 w := Tryz.sizeOf23 w
  simp [_root_.Go.part, go_sem, Tryz.isAgg23, hs, extract_arr]
theorem eq_arr9 (l : List (BitVec 64)) (hl : l.length = 32) (w : World) : (Op.equalIn 9999 23 (.agg (arrC l)) (.agg (arrC l))).run Tryz.prog w = .ok true w := by
  have hc : Tryz.prog.cellsOf 22 = 1 := by kernel_rfl
  obtain ⟨i, hi⟩ : ∃ i, Tryz.prog.info? 22 = some i := by
    have : (Tryz.prog.info? 22).isSome = true := by kernel_rfl
    exact Option.isSome_iff_exists.1 this
  have h := run_equalIn_array (P := Tryz.prog) w 9998 (arrC l) (arrC l) Tryz.underlying23 hi
  rw [hc, show (9998 : Nat) = 9997 + 1 from rfl, eqItems_same 9997 l w _ (fun j hj => by rw [hl]; exact List.mem_range.1 hj)] at h
  exact h
theorem neq_hart (h : Ha) (w : World) : (binOp .neq 25 (.agg (hC h)) (.agg (hC h))).run Tryz.prog w = .ok (.bool false) w := by
  have c0 := hC_pc h
  have c33 := hC_e h
  have c34 := hC_code h
  have cx := extract_arr h
  have e2 := part_arr h w
  have e5 := eq_arr9 h.xs h.len w
  go_simp
/-- an instruction within a block -/
def InsIn (i : Ins) (b o : Nat) (w : World) : Prop := ∀ (j : Nat) (v : Value), (insCells i)[j]? = some v → w.cell? ⟨b, o + j, none⟩ = some v
def FitIns (i : Ins) : Prop := -9223372036854775808 ≤ i.imm ∧ i.imm ≤ 9223372036854775807
/-- instructions in a row -/
def InsRow (w : World) (a : Option Addr) (n : Nat) (is : Nat → Ins) : Prop := ∀ k, k < n → ∃ b off, a = some ⟨b, off, none⟩ ∧ b < w.heap.size ∧ InsIn (is k) b (off + k * 9) w ∧ FitIns (is k)
/-- bools in a row -/
def BoolRow (w : World) (a : Option Addr) (n : Nat) (bs : Nat → Bool) : Prop := ∀ k, k < n → ∃ b off, a = some ⟨b, off, none⟩ ∧ b < w.heap.size ∧ w.cell? ⟨b, off + k, none⟩ = some (.bool (bs k))
theorem InsIn.below {i : Ins} {b o : Nat} {w w' : World} (h : InsIn i b o w) (hb : Below w.heap.size w w') (hl : b < w.heap.size) : InsIn i b o w' := fun j v hv => (hb.cell (p := ⟨b, o + j, none⟩) hl).trans (h j v hv)
theorem InsRow.on {w w' : World} {a : Option Addr} {n : Nat} {is : Nat → Ins} (h : InsRow w a n is) (hb : Below w.heap.size w w') : InsRow w' a n is := fun k hk => by
  obtain ⟨b, off, e, h1, h2, h3⟩ := h k hk
  exact ⟨b, off, e, Nat.lt_of_lt_of_le h1 hb.size, h2.below hb h1, h3⟩
theorem BoolRow.on {w w' : World} {a : Option Addr} {n : Nat} {bs : Nat → Bool} (h : BoolRow w a n bs) (hb : Below w.heap.size w w') : BoolRow w' a n bs := fun k hk => by
  obtain ⟨b, off, e, h1, h2⟩ := h k hk
  exact ⟨b, off, e, Nat.lt_of_lt_of_le h1 hb.size, (hb.cell (p := ⟨b, off + k, none⟩) h1).trans h2⟩
theorem run_load_in {P : Program} (w : World) (b o : Nat) (ty : TypeId) (ds : Array Value) (d : TypeDesc) (hc : ∀ (j : Nat) (v : Value), ds[j]? = some v → w.cell? ⟨b, o + j, none⟩ = some v)
    (hu : P.underlying ty = some d) (hd : (match d with | .struct _ | .array _ _ => true | _ => false) = true) (hi : (P.info? ty).map (·.size) = some ds.size) :
    (loadVar ty ⟨b, o, none⟩).run P w = .ok (.agg ds) w := by
  have hl : (loadCells ⟨b, o, none⟩ ds.toList.length).run P w = .ok ds.toList.toArray w :=
    run_loadCells_list (P := P) w ⟨b, o, none⟩ ds.toList (fun j v hv => by
      have hadd : (⟨b, o, none⟩ : Addr).add j = ⟨b, o + j, none⟩ := by unfold Addr.add; split <;> simp_all
      rw [hadd]
      exact hc j v (by simpa using hv))
  cases hq : P.info? ty with
  | none => simp [hq] at hi
  | some i =>
    have hs : i.size = ds.size := by simpa [hq] using hi
    have hagg : (isAgg ty).run P w = .ok true w := by
      unfold isAgg
      rw [Sem.run_bind, run_underlying hu w]
      cases d <;> simp_all
    simp only [Array.length_toList, Array.toArray_toList] at hl
    simp [loadVar, Sem.run_bind, hagg, sizeOf, typeInfo, hq, hs, hl]
theorem run_LoadI_in {i : Ins} {b o : Nat} {w : World} (H : InsIn i b o w) : (LoadI (.pointer (some ⟨b, o, none⟩))).run Tryz.prog w = .ok i.V w := by
  unfold LoadI Instr.loadAt Instr.sureAddr
  simp only [Sem.run_bind, Sem.run_pure, Result.andThen_ok, run_load_in w b o 34 (insCells i) _ H Tryz.underlying34 rfl (by as_aux_lemma => kernel_rfl)]
theorem InsIn.op {i : Ins} {b o : Nat} {w : World} (h : InsIn i b o w) : w.cell? ⟨b, o, none⟩ = some (.int .i64 i.op) := h 0 _ rfl

/-- numbers in a row -/
def NumRow (w : World) (a : Option Addr) (n : Nat) (fs : Nat → BitVec 64) : Prop := ∀ k, k < n → ∃ b off, a = some ⟨b, off, none⟩ ∧ b < w.heap.size ∧ w.cell? ⟨b, off + k, none⟩ = some (.int .u64 (U (fs k)))
theorem NumRow.on {w w' : World} {a : Option Addr} {n : Nat} {fs : Nat → BitVec 64} (h : NumRow w a n fs) (hb : Below w.heap.size w w') : NumRow w' a n fs := fun k hk => by
  obtain ⟨b, off, e, h1, h2⟩ := h k hk
  exact ⟨b, off, e, Nat.lt_of_lt_of_le h1 hb.size, (hb.cell (p := ⟨b, off + k, none⟩) h1).trans h2⟩
section
variable {H : Type} {enc : TypeId × Value → H} {w : World} {base : Nat} {held : Bool}
set_option maxRecDepth 100000 in
theorem probe_ins {fuel : Nat} {cs : List Value} {x : DataW H × List MemPlace} (h : DataW.trod enc Tryz.prog w base (fun _ => true) held fuel 34 cs = some x) : ∃ i : Ins, cs = (insCells i).toList ∧ FitIns i := by
  obtain ⟨xs, n, _, hx, hcl, hl, hq⟩ := DataW.trod_struct Tryz.underlying34 h
  rw [cells_ins] at hcl
  obtain ⟨x0, x1, x2, x3, x4, x5, x6, x7, x8, rfl⟩ := nine_xs (show xs.length = 9 from hl)
  have q0 := hq 0 _ rfl; have q1 := hq 1 _ rfl; have q2 := hq 2 _ rfl; have q3 := hq 3 _ rfl; have q4 := hq 4 _ rfl; have q5 := hq 5 _ rfl; have q6 := hq 6 _ rfl; have q7 := hq 7 _ rfl; have q8 := hq 8 _ rfl
  simp only [List.getElem?_cons_zero, List.getElem?_cons_succ] at q0 q1 q2 q3 q4 q5 q6 q7 q8
  clear hq h
  obtain ⟨n0, e0, _, w0⟩ := DataW.trod_int Tryz.underlying3 q0
  obtain ⟨n1, e1, _, w1⟩ := DataW.trod_int Tryz.underlying3 q1
  obtain ⟨n2, e2, _, w2⟩ := DataW.trod_int Tryz.underlying3 q2
  obtain ⟨n3, e3, _, w3⟩ := DataW.trod_int Tryz.underlying3 q3
  obtain ⟨n4, e4, _, w4⟩ := DataW.trod_int Tryz.underlying2 q4
  obtain ⟨b5, e5, _⟩ := DataW.trod_bool Tryz.underlying4 q5
  obtain ⟨b6, e6, _⟩ := DataW.trod_bool Tryz.underlying4 q6
  obtain ⟨n7, e7, _, w7⟩ := DataW.trod_int Tryz.underlying3 q7
  obtain ⟨n8, e8, _, w8⟩ := DataW.trod_int Tryz.underlying3 q8
  have hc := nine_of (l := cs) hcl _ _ _ _ _ _ _ _ _ e0 e1 e2 e3 e4 e5 e6 e7 e8
  exact ⟨⟨n0, n1, n2, n3, n4, b5, b6, n7, n8⟩, hc, bounds_i64 w4⟩
set_option maxRecDepth 100000 in
/-- a slice of instructions that came in -/
theorem open_insns {fuel : Nat} {a : Option Addr} {len cap : Nat} {x : DataW H × List MemPlace} (h : DataW.trod enc Tryz.prog w base (fun _ => true) held fuel 26 [.slice a len cap] = some x) : ∃ is, InsRow w a len is := by
  rcases open_slice Tryz.underlying26 h with ⟨hcs, _⟩ | ⟨y, l, c, m, n, D, Pl, hcs, _, hl, _, hm, _, hi⟩
  · simp at hcs
    obtain ⟨rfl, rfl, rfl⟩ := hcs
    exact ⟨fun _ => ⟨0, 0, 0, 0, 0, false, false, 0, 0⟩, fun k hk => absurd hk (by omega)⟩
  · simp at hcs
    obtain ⟨rfl, rfl, rfl⟩ := hcs
    have hlm : len ≤ m := by rw [hm]; split <;> omega
    have each : ∀ i, ∃ p : Ins, i < len → (∃ cs', w.cells? base (y.add (i * 9)) 9 = some cs' ∧ cs' = (insCells p).toList) ∧ FitIns p := by
      intro i
      by_cases hil : i < len
      · obtain ⟨cs', hc, ht⟩ := hi i (by omega)
        rw [cells_ins] at hc
        obtain ⟨p, h1, h2⟩ := probe_ins ht
        exact ⟨p, fun _ => ⟨⟨cs', hc, h1⟩, h2⟩⟩
      · exact ⟨⟨0, 0, 0, 0, 0, false, false, 0, 0⟩, fun h => absurd h hil⟩
    obtain ⟨f, hf⟩ := Classical.axiomOfChoice each
    obtain ⟨b, off, spot⟩ := y
    have hcell : ∀ i, i < len → ∀ (j : Nat) (v : Value), (insCells (f i))[j]? = some v → w.cell? ((⟨b, off, spot⟩ : Addr).add (i * 9 + j)) = some v := by
      intro i hin j v hv
      obtain ⟨⟨cs', hc, rfl⟩, _⟩ := hf i hin
      obtain ⟨_, hcl, hat⟩ := World.cells?_some hc
      have hj : j < (insCells (f i)).toList.length := by simpa using (Array.getElem?_eq_some_iff.1 hv).1
      have hx := hat j hj
      rw [add_add] at hx
      rw [hx]
      simpa using hv
    refine ⟨f, fun k hk => ?_⟩
    have hspot : spot = none := by simpa [Addr.add] using World.cell?_spot (hcell 0 (by omega) 0 _ rfl)
    subst hspot
    refine ⟨b, off, rfl, ?_, fun j v hv => ?_, (hf k hk).2⟩
    · have := hcell k hk 0 _ rfl
      rw [Addr.add_lit] at this
      exact World.block_lt_of_cell? w _ this
    · have := hcell k hk j v hv
      rw [Addr.add_lit] at this
      rw [Nat.add_assoc]
      exact this
/-- a slice of bools that came in -/
theorem open_bools {fuel : Nat} {a : Option Addr} {len cap : Nat} {x : DataW H × List MemPlace} (h : DataW.trod enc Tryz.prog w base (fun _ => true) held fuel 28 [.slice a len cap] = some x) : ∃ bs, BoolRow w a len bs := by
  rcases open_slice1 Tryz.underlying28 cells_bool h with ⟨hcs, _⟩ | ⟨y, l, c, m, n, V, D, Pl, hcs, _, hl, _, hm, _, hi⟩
  · simp at hcs
    obtain ⟨rfl, rfl, rfl⟩ := hcs
    exact ⟨fun _ => false, fun k hk => absurd hk (by omega)⟩
  · simp at hcs
    obtain ⟨rfl, rfl, rfl⟩ := hcs
    have hlm : len ≤ m := by rw [hm]; split <;> omega
    have each : ∀ i, ∃ p : Bool, i < len → w.cell? (y.add i) = some (.bool p) := by
      intro i
      by_cases hil : i < len
      · obtain ⟨hc, ht⟩ := hi i (by omega)
        obtain ⟨p, hp, _⟩ := DataW.trod_bool Tryz.underlying4 ht
        refine ⟨p, fun _ => ?_⟩
        rw [hc]
        simp at hp
        rw [hp]
      · exact ⟨false, fun h => absurd h hil⟩
    obtain ⟨f, hf⟩ := Classical.axiomOfChoice each
    obtain ⟨b, off, spot⟩ := y
    refine ⟨f, fun k hk => ?_⟩
    have hc := hf k hk
    have hspot : spot = none := by simpa [Addr.add] using World.cell?_spot (hf 0 (by omega))
    subst hspot
    rw [Addr.add_lit] at hc
    exact ⟨b, off, rfl, World.block_lt_of_cell? w _ hc, hc⟩
/-- a slice of u64s that came in -/
theorem open_u64s {fuel : Nat} {a : Option Addr} {len cap : Nat} {x : DataW H × List MemPlace} (h : DataW.trod enc Tryz.prog w base (fun _ => true) held fuel 27 [.slice a len cap] = some x) : ∃ fs, NumRow w a len fs := by
  rcases open_slice1 Tryz.underlying27 cells_u64 h with ⟨hcs, _⟩ | ⟨y, l, c, m, n, V, D, Pl, hcs, _, hl, _, hm, _, hi⟩
  · simp at hcs
    obtain ⟨rfl, rfl, rfl⟩ := hcs
    exact ⟨fun _ => 0, fun k hk => absurd hk (by omega)⟩
  · simp at hcs
    obtain ⟨rfl, rfl, rfl⟩ := hcs
    have hlm : len ≤ m := by rw [hm]; split <;> omega
    have each : ∀ i, ∃ p : BitVec 64, i < len → w.cell? (y.add i) = some (.int .u64 (U p)) := by
      intro i
      by_cases hil : i < len
      · obtain ⟨hc, ht⟩ := hi i (by omega)
        obtain ⟨z, hp, _, wz⟩ := DataW.trod_int Tryz.underlying22 ht
        obtain ⟨p, rfl⟩ := wf_U wz
        refine ⟨p, fun _ => ?_⟩
        rw [hc]
        simp at hp
        rw [hp]
      · exact ⟨0, fun h => absurd h hil⟩
    obtain ⟨f, hf⟩ := Classical.axiomOfChoice each
    obtain ⟨b, off, spot⟩ := y
    refine ⟨f, fun k hk => ?_⟩
    have hc := hf k hk
    have hspot : spot = none := by simpa [Addr.add] using World.cell?_spot (hf 0 (by omega))
    subst hspot
    rw [Addr.add_lit] at hc
    exact ⟨b, off, rfl, World.block_lt_of_cell? w _ hc, hc⟩
end
theorem store_q {ops : Array Oper} {rest : List Oper} {o : Oper} {a : Act} {w : World} {Q : Exit → Act → World → Prop} {n : Nat} (H : w.heap[n]? = some (.cells askC 37 (0, 0))) (hgd : o.guard = none) (x y : Operand) (ho : o.op = .store 37 x y)
    (hx : a.eval x = .pointer (some ⟨n, 0, none⟩)) (hy : a.eval y = .agg askC) (k : ∀ w1, w1.heap[n]? = some (.cells askC 37 (0, 0)) → Below n w w1 → wpList Tryz.prog ops Q rest (a.put o.dst undef) w1) : wpList Tryz.prog ops Q (o :: rest) a w := by
  refine wpList_store_row hgd 37 x y ho n askC hx hy _ _ H (by as_aux_lemma => kernel_rfl) rfl (by simp [askC, Value.oneCell']) (k _ ?_ ?_)
  · exact setRow_heap w n _ _ _ _ H
  · exact below_setRow
structure Nq (h : Ha) (i : Ins) (w W : World) : Prop where
  b0 : HAt 25 h w.heap.size W
  b1 : W.heap[w.heap.size + 1]? = some (.cells (insCells i) 34 (0, 0))
  b2 : W.heap[w.heap.size + 1 + 1]? = some (.cells askC 37 (0, 0))
  low : Below w.heap.size w W
theorem Nq.on {h : Ha} {i : Ins} {w W W2 : World} (H : Nq h i w W) (hb : Below W.heap.size W W2) : Nq h i w W2 :=
  ⟨H.b0.below hb H.b0.lt, (hb.block _ (Array.getElem?_eq_some_iff.1 H.b1).1).trans H.b1, (hb.block _ (Array.getElem?_eq_some_iff.1 H.b2).1).trans H.b2, Below.tr H.low hb⟩
theorem Nq.start (h : Ha) (i : Ins) (w : World) : Nq h i w (((w.alloc (.cells (hC h) 25)).alloc (.cells (insCells i) 34)).alloc (.cells askC 37)) := by
  have D0 := HAt.new 25 h w
  have D1 := Array.getElem?_push_size (xs := (w.alloc (.cells (hC h) 25)).heap) (x := Obj.cells (insCells i) 34)
  have D2 := Array.getElem?_push_size (xs := ((w.alloc (.cells (hC h) 25)).alloc (.cells (insCells i) 34)).heap) (x := Obj.cells askC 37)
  simp only [World.size_alloc] at D0 D1 D2
  exact ⟨(D0.alloc _).alloc _, (Below.heap_alloc _ _ _ (by simp)).trans D1, D2, Below.al (Below.al (Below.al (Below.refl _ _) _) _) _⟩
set_option maxRecDepth 100000 in
set_option maxHeartbeats 4000000 in
theorem Ask_refused (i : Ins) (h : Ha) (w : World) (m : Int) (hm : mayH h i = m) (hm0 : m ≠ 0) :
    Calls Tryz.prog 8 #[h.V, .agg (insCells i)] w fun e w' => e = .returned (.tuple #[.agg askC, .int .i64 m]) ∧ Below w.heap.size w w' := by
  have hmf : ∀ (fn : Fn) (first cap : Array Value) (w : World), (Instr.makeFunc fn first cap).run Tryz.prog w = .ok (.func fn first cap) w := fun _ _ _ _ => rfl
  have S0 := Lib.hid (Nq.start h i w)
  have HM := Lib.hid (fun w => may_any h i w)
  rw [hm] at HM
  have b0 : (m == 0) = false := by simpa using hm0
  clear hm hm0
  obtain ⟨W, HW⟩ : ∃ W, Hid (((w.alloc (.cells (hC h) 25)).alloc (.cells (insCells i) 34)).alloc (.cells askC 37) = W) := ⟨_, Lib.hid rfl⟩
  rw [HW.out] at S0
  go_enter_defers Tryz.func8, Tryz.ntmps8
  go_upto_region 1 with fail
  rw [HW.out]
  clear HW
  go_wp2_with (first
    | (refine load_ha row_hart S0.out.b0 rfl _ rfl rfl ?_)
    | (refine wpList_load_row rfl 34 _ rfl (w.heap.size + 1) rfl 34 _ (0, 0) _ S0.out.b1 Tryz.underlying34 rfl (by as_aux_lemma => kernel_rfl) ?_)
    | (go_at_call 11; (with_reducible refine (HM.out _).mono ?_); rintro e w1 ⟨rfl, hb⟩; have S1 := Lib.hid (S0.out.on hb); clear hb)
    | (refine store_q S1.out.b2 rfl _ _ rfl rfl rfl ?_; intro w3 h3 hb3; have H3 := Lib.hid (And.intro h3 hb3); clear h3 hb3))
  simp only [bodyPostD, Leaves]
  refine ⟨_, results_cell_tmp rfl rfl (run_loadVar_row w3 (w.heap.size + 1 + 1) _ 37 askC (0, 0) _ H3.out.1 Tryz.underlying37 rfl (by as_aux_lemma => kernel_rfl)), rfl, ?_⟩
  exact S1.out.low.trans (H3.out.2.mono (by omega))
end
section
set_option linter.unusedVariables false
set_option linter.unusedSimpArgs false
open Go.RowKit
attribute [local go_sem ↓] fold_I fold_H fold_SH fold_SQ

theorem boxBelow (w : World) (o : Obj) : Below w.heap.size w (w.alloc o) := Below.al (Below.refl _ _) o
theorem InsIn.low {i : Ins} {b o B : Nat} {w w' : World} (h : InsIn i b o w) (hb : Below B w w') (hl : b < B) : InsIn i b o w' := fun j v hv => (hb.cell (p := ⟨b, o + j, none⟩) hl).trans (h j v hv)
theorem HAt.z (W : World) (p : Nat) (hp : p = W.heap.size) : HAt 25 zeroHa p (W.alloc (.cells (hC zeroHa) 25)) := by subst hp; exact HAt.new _ _ _
theorem HAt.dr {T : TypeId} {h : Ha} {n : Nat} {W : World} (H : HAt T h n W) : HAt T h n W.drew := H
def QAt (n : Nat) (W : World) : Prop := W.heap[n]? = some (.cells askC 37 (0, 0))
theorem QAt.z (W : World) (p : Nat) (hp : p = W.heap.size) : QAt p (W.alloc (.cells askC 37)) := by subst hp; exact Array.getElem?_push_size
theorem QAt.alloc {n : Nat} {W : World} (H : QAt n W) (o : Obj) : QAt n (W.alloc o) := (Below.heap_alloc W o n (Array.getElem?_eq_some_iff.1 H).1).trans H
theorem QAt.dr {n : Nat} {W : World} (H : QAt n W) : QAt n W.drew := H
theorem QAt.row {n g : Nat} {cs : Array Value} {W : World} (H : QAt n W) (hn : n ≠ g) : QAt n (W.setRow g cs) := (setRow_other W g n cs hn).trans H
theorem QAt.setRow {n : Nat} {W : World} (H : QAt n W) : QAt n (W.setRow n askC) := setRow_heap W n _ _ _ _ H
theorem QAt.below {n B : Nat} {W W2 : World} (H : QAt n W) (hb : Below B W W2) (hn : n < B) : QAt n W2 := (hb.block n hn).trans H
/-- the law's hart, in its box and in the other one -/
structure Hs (w0 : World) (g : Nat) (h : Ha) (W : World) : Prop where
  b0 : HAt 25 h w0.heap.size W
  b1 : HAt 25 h g W
  low : Below w0.heap.size w0 W
  hg : w0.heap.size < g
theorem Hs.on {w0 W W2 : World} {g : Nat} {h : Ha} (H : Hs w0 g h W) (hb : Below W.heap.size W W2) : Hs w0 g h W2 := ⟨H.b0.below hb H.b0.lt, H.b1.below hb H.b1.lt, Below.tr H.low hb, H.hg⟩
theorem Hs.next {w0 W : World} {g : Nat} {h x : Ha} (H : Hs w0 g h W) : Hs w0 g x ((W.setRow w0.heap.size (hC x)).setRow g (hC x)) :=
  ⟨(HAt.setRow H.b0).row (by have := H.hg; omega), HAt.setRow (H.b1.row (by have := H.hg; omega)), Below.ro (Below.ro H.low (Nat.le_refl _)) (by have := H.hg; omega), H.hg⟩
theorem Hs.runs {w0 W : World} {g : Nat} {h x : Ha} (H : Hs w0 g h W) : (StoreH (.pointer (some ⟨w0.heap.size, 0, none⟩)) x.V).run Tryz.prog W = .ok () (W.setRow w0.heap.size (hC x)) ∧ (StoreH (.pointer (some ⟨g, 0, none⟩)) x.V).run Tryz.prog (W.setRow w0.heap.size (hC x)) = .ok () ((W.setRow w0.heap.size (hC x)).setRow g (hC x)) :=
  ⟨run_StoreH H.b0, run_StoreH (H.b1.row (by have := H.hg; omega))⟩
theorem two14 {W0 W : World} {h : Ha} {p b o : Nat} {i : Ins} (hB : Below W0.heap.size W0 W) (H : HAt 25 h p W0) (hi : InsIn i b o W0) (hl : b < W0.heap.size) :
    (LoadH (.pointer (some ⟨p, 0, none⟩))).run Tryz.prog W = .ok h.V W ∧ (LoadI (.pointer (some ⟨b, o, none⟩))).run Tryz.prog W = .ok i.V W :=
  ⟨run_LoadH (H.below hB H.lt), run_LoadI_in (hi.below hB hl)⟩
theorem two19 {W : World} {x y : Ha} {p g h : Nat} {cs : Array Value} (H : HAt 25 x g W) (H2 : HAt 25 y h W) (h1 : g ≠ p) (h2 : h ≠ p) :
    (LoadH (.pointer (some ⟨g, 0, none⟩))).run Tryz.prog (W.setRow p cs) = .ok x.V (W.setRow p cs) ∧ (LoadH (.pointer (some ⟨h, 0, none⟩))).run Tryz.prog (W.setRow p cs) = .ok y.V (W.setRow p cs) :=
  ⟨run_LoadH (H.row h1), run_LoadH (H2.row h2)⟩
theorem two19b {W : World} {x y : Ha} {p q g h : Nat} {cs ds : Array Value} (H : HAt 25 x g W) (H2 : HAt 25 y h W) (h1 : g ≠ p ∧ g ≠ q) (h2 : h ≠ p ∧ h ≠ q) :
    (LoadH (.pointer (some ⟨g, 0, none⟩))).run Tryz.prog ((W.setRow p cs).setRow q ds) = .ok x.V ((W.setRow p cs).setRow q ds) ∧ (LoadH (.pointer (some ⟨h, 0, none⟩))).run Tryz.prog ((W.setRow p cs).setRow q ds) = .ok y.V ((W.setRow p cs).setRow q ds) :=
  ⟨run_LoadH ((H.row h1.1).row h1.2), run_LoadH ((H2.row h2.1).row h2.2)⟩
/-- a step's box, made behind world W0 -/
structure Bh (W0 : World) (p : Nat) (x : Ha) (W : World) : Prop where
  bel : Below W0.heap.size W0 W
  x : HAt 25 x p W
  low : W0.heap.size ≤ p
theorem Bh.on {W0 W W2 : World} {p : Nat} {x : Ha} (H : Bh W0 p x W) (hb : Below W.heap.size W W2) : Bh W0 p x W2 := ⟨Below.tr H.bel hb, H.x.below hb H.x.lt, H.low⟩
/-- what one step makes of both -/
structure Step5Is (h : Ha) (i : Ins) (f : BitVec 64) (won : Bool) (x : Ha) (err : Int) : Prop where
  prog : ∀ W, Calls Tryz.prog 5 #[h.V, i.V, .int .u64 (U f), .bool won] W fun e w' => e = .returned (.tuple #[x.V, .int .i64 err]) ∧ Below W.heap.size W w'
  doc : ∀ W, Calls Tryz.prog 6 #[h.V, i.V, .int .u64 (U f), .bool won] W fun e w' => e = .returned (.tuple #[x.V, .int .i64 err]) ∧ Below W.heap.size W w'
theorem step5_is (h : Ha) (i : Ins) (f : BitVec 64) (won : Bool) (hf : FitIns i) : ∃ (x : Ha) (err : Int), Step5Is h i f won x err := by
  obtain ⟨op, rd, rs1, rs2, imm, aq, rl, p, q⟩ := i
  obtain ⟨v, hv⟩ := wf_S (a := imm) (by have h1 := hf.1; have h2 := hf.2; simp [Lit.wf, IntKind.min, IntKind.max, IntKind.signed, IntKind.bits]; simp at h1 h2; omega)
  subst hv
  by_cases hm : mayH h ⟨op, rd, rs1, rs2, S v, aq, rl, p, q⟩ = 0
  · have hk := may_of _ (may_ok hm)
    obtain ⟨d, hd⟩ : ∃ n : Nat, rd = (n : Int) := ⟨rd.toNat, by have := hk.rd; simp at this; omega⟩
    obtain ⟨a, ha⟩ : ∃ n : Nat, rs1 = (n : Int) := ⟨rs1.toNat, by have := hk.rs1; simp at this; omega⟩
    obtain ⟨b, hb⟩ : ∃ n : Nat, rs2 = (n : Int) := ⟨rs2.toNat, by have := hk.rs2; simp at this; omega⟩
    subst hd; subst ha; subst hb
    have h1 : d < 32 := by have := hk.rd; simp at this; omega
    have h2 : a < 32 := by have := hk.rs1; simp at this; omega
    have h3 : b < 32 := by have := hk.rs2; simp at this; omega
    exact ⟨_, 0, fun W => Step_any op d a b h1 h2 h3 v aq rl p q f won h W hm, fun W => Step5_any op d a b h1 h2 h3 v aq rl p q f won h W hm⟩
  · exact ⟨zeroHa, _, fun W => Step_refused op rd rs1 rs2 v aq rl p q f won h W _ rfl hm, fun W => Step5_refused op rd rs1 rs2 v aq rl p q f won h W _ rfl hm⟩
theorem chk_ended {h : Ha} (he : h.e ≠ 0) : h.chk = 10 ∨ h.chk = 2 := by
  unfold Ha.chk
  by_cases c : U (h.x 0) = 0 ∧ (0 ≤ h.e ∧ h.e ≤ 6) ∧ (U h.code = 0 ∨ h.e = 1)
  · rw [if_pos c, if_neg he]; exact .inl rfl
  · rw [if_neg c]; exact .inr rfl
theorem may_ended {h : Ha} {i : Ins} (he : h.e ≠ 0) : mayH h i = h.chk := by
  have := chk_ended he
  unfold mayH
  rw [if_neg (by omega)]
theorem check_ins (i : Ins) (hf : FitIns i) (w : World) : Calls Tryz.prog 7 #[i.V] w fun e w' => e = .returned (.int .i64 (errI i.ok)) ∧ Below w.heap.size w w' := by
  obtain ⟨op, rd, rs1, rs2, imm, aq, rl, p, q⟩ := i
  obtain ⟨v, hv⟩ := wf_S (a := imm) (by have h1 := hf.1; have h2 := hf.2; simp [Lit.wf, IntKind.min, IntKind.max, IntKind.signed, IntKind.bits]; simp at h1 h2; omega)
  subst hv
  exact rCheck_any op rd rs1 rs2 v aq rl p q w
set_option maxRecDepth 100000 in
set_option maxHeartbeats 4000000 in
theorem hscript_no1 (h : Ha) (a1 a2 a3 : Option Addr) (n1 n2 n3 c1 c2 c3 : Nat) (w : World) (h1 : 60 < n1) : Calls Tryz.prog 3 #[h.V, .slice a1 n1 c1, .slice a2 n2 c2, .slice a3 n3 c3] w fun e w' => e = .returned (.bool true) ∧ Below w.heap.size w w' := by
  have dn1 : decide (60 < n1) = true := by simp; omega
  have en1 : decide ((60 : Int) < (n1 : Int)) = true := by simp; omega
  have B0 := Lib.hid (boxBelow w (.cells (hC h) 25))
  go_enter Tryz.func3, Tryz.ntmps3
  go_wp2_with (go_at_call 4; (with_reducible refine (lives_any _).mono ?_); rintro e w1 ⟨rfl, hb⟩; have M1 := Lib.hid hb; clear hb)
  go_ret
  exact ⟨rfl, Below.tr B0.out M1.out⟩
set_option maxRecDepth 100000 in
set_option maxHeartbeats 4000000 in
theorem hscript_no2 (h : Ha) (a1 a2 a3 : Option Addr) (n1 n2 n3 c1 c2 c3 : Nat) (w : World) (h1 : n1 ≤ 60) (h2 : 60 < n2) : Calls Tryz.prog 3 #[h.V, .slice a1 n1 c1, .slice a2 n2 c2, .slice a3 n3 c3] w fun e w' => e = .returned (.bool true) ∧ Below w.heap.size w w' := by
  have dn1 : decide (60 < n1) = false := by simp; omega
  have en1 : decide ((60 : Int) < (n1 : Int)) = false := by simp; omega
  have dn2 : decide (60 < n2) = true := by simp; omega
  have en2 : decide ((60 : Int) < (n2 : Int)) = true := by simp; omega
  have B0 := Lib.hid (boxBelow w (.cells (hC h) 25))
  go_enter Tryz.func3, Tryz.ntmps3
  go_wp2_with (go_at_call 4; (with_reducible refine (lives_any _).mono ?_); rintro e w1 ⟨rfl, hb⟩; have M1 := Lib.hid hb; clear hb)
  go_ret
  exact ⟨rfl, Below.tr B0.out M1.out⟩
set_option maxRecDepth 100000 in
set_option maxHeartbeats 4000000 in
theorem hscript_no3 (h : Ha) (a1 a2 a3 : Option Addr) (n1 n2 n3 c1 c2 c3 : Nat) (w : World) (h1 : n1 ≤ 60) (h2 : n2 ≤ 60) (h3 : 60 < n3) : Calls Tryz.prog 3 #[h.V, .slice a1 n1 c1, .slice a2 n2 c2, .slice a3 n3 c3] w fun e w' => e = .returned (.bool true) ∧ Below w.heap.size w w' := by
  have dn1 : decide (60 < n1) = false := by simp; omega
  have en1 : decide ((60 : Int) < (n1 : Int)) = false := by simp; omega
  have dn2 : decide (60 < n2) = false := by simp; omega
  have en2 : decide ((60 : Int) < (n2 : Int)) = false := by simp; omega
  have dn3 : decide (60 < n3) = true := by simp; omega
  have en3 : decide ((60 : Int) < (n3 : Int)) = true := by simp; omega
  have B0 := Lib.hid (boxBelow w (.cells (hC h) 25))
  go_enter Tryz.func3, Tryz.ntmps3
  go_wp2_with (go_at_call 4; (with_reducible refine (lives_any _).mono ?_); rintro e w1 ⟨rfl, hb⟩; have M1 := Lib.hid hb; clear hb)
  go_ret
  exact ⟨rfl, Below.tr B0.out M1.out⟩
set_option maxRecDepth 100000 in
set_option maxHeartbeats 32000000 in
theorem hscript_go (h : Ha) (a1 a2 a3 : Option Addr) (n1 n2 n3 c1 c2 c3 : Nat) (is : Nat → Ins) (fs : Nat → BitVec 64) (bs : Nat → Bool) (w : World) (hz : InsRow w a1 n1 is) (hy : NumRow w a2 n2 fs) (hx : BoolRow w a3 n3 bs) (h1 : n1 ≤ 60) (h2 : n2 ≤ 60) (h3 : n3 ≤ 60) : Calls Tryz.prog 3 #[h.V, .slice a1 n1 c1, .slice a2 n2 c2, .slice a3 n3 c3] w fun e w' => e = .returned (.bool true) ∧ Below w.heap.size w w' := by
  have HZ := Lib.hid hz
  have HY := Lib.hid hy
  have HX := Lib.hid hx
  clear hz hy hx
  have dn1 : decide (60 < n1) = false := by simp; omega
  have en1 : decide ((60 : Int) < (n1 : Int)) = false := by simp; omega
  have dn2 : decide (60 < n2) = false := by simp; omega
  have en2 : decide ((60 : Int) < (n2 : Int)) = false := by simp; omega
  have dn3 : decide (60 < n3) = false := by simp; omega
  have en3 : decide ((60 : Int) < (n3 : Int)) = false := by simp; omega
  have D0 := Lib.hid (HAt.new 25 h w)
  have B0 := Lib.hid (boxBelow w (.cells (hC h) 25))
  obtain ⟨W, HW⟩ : ∃ W, Hid (w.alloc (.cells (hC h) 25) = W) := ⟨_, Lib.hid rfl⟩
  rw [HW.out] at D0 B0
  unfold Ha.V
  go_enter Tryz.func3, Tryz.ntmps3
  go_upto_region 1 with fail
  rw [HW.out]
  clear HW
  go_upto_region 5 with (go_at_call 4; (with_reducible refine (lives_any _).mono ?_); rintro e w1 ⟨rfl, hb⟩; have M1 := Lib.hid (Below.tr B0.out hb); have D1 := Lib.hid (D0.out.below hb D0.out.lt); clear hb)
  clear D0 B0
  have cl := run_LoadH D1.out
  have D2 := HAt.new 25 zeroHa w1
  rw [← zero_cells] at D2
  have rs := run_StoreH (h := h) D2
  have S5 := Lib.hid (show Hs w w1.heap.size h _ from ⟨(D1.out.alloc _).row (g := w1.heap.size) (cs := hC h) (by have := D1.out.lt; omega), HAt.setRow D2, Below.ro (Below.al M1.out _) M1.out.size, D1.out.lt⟩)
  clear D2
  go_upto_region 6 with fail
  clear rs cl
  obtain ⟨W5, HW5⟩ : ∃ W5, Hid ((w1.alloc (.cells (hC zeroHa) 25)).setRow w1.heap.size (hC h) = W5) := ⟨_, Lib.hid rfl⟩
  rw [← zero_cells] at HW5
  rw [HW5.out] at S5 ⊢
  clear HW5 D1 M1
  obtain ⟨g, hg⟩ : ∃ g, Hid (w1.heap.size = g) := ⟨_, Lib.hid rfl⟩
  rw [hg.out] at S5 ⊢
  clear hg
  go_wp2
  go_loopw [10] (fun vi W => ∃ (k : Nat) (h : Ha), k ≤ n1 ∧ vi = .int .i64 k ∧ Hid (Hs w g h W)) (fun vi _ => n1 - (intOf vi).toNat)
  case atStart => exact ⟨0, h, Nat.zero_le _, rfl, S5⟩
  case round =>
    obtain ⟨k, h, hk, rfl, G0⟩ := hrel
    clear S5
    by_cases hlt : k < n1
    · obtain ⟨b, off, rfl, l0, HI0, hf⟩ := HZ.out k hlt
      obtain ⟨i, hi⟩ : ∃ i, is k = i := ⟨_, rfl⟩
      rw [hi] at HI0 hf
      clear hi
      have HL := Lib.hid l0
      have HF := Lib.hid hf
      have HI := Lib.hid (HI0.below G0.out.low l0)
      clear HI0 hf l0
      go_upto_region 9 with fail
      go_cut [11, 12] (fun u v W => u = .int .u64 0 ∧ v = .bool false ∧ Hid (Hs w g h W) ∧ Hid (InsIn i b (off + k * 9) W))
      case first =>
        go_wp2
        go_meet
        exact ⟨rfl, rfl, G0, HI⟩
      case rest =>
      obtain ⟨rfl, rfl, G1, HI1⟩ := hcut
      clear G0 HI
      apply_assumption
      refine wp_seq_k fun K10 hK10 => ?_
      go_cut [11] (fun u W => ∃ f : BitVec 64, u = .int .u64 (U f) ∧ Hid (Hs w g h W) ∧ Hid (InsIn i b (off + k * 9) W))
      case first =>
        by_cases hm1 : k < n2
        · obtain ⟨b2, off2, rfl, l3, hc⟩ := (HY.out.on G1.out.low) k hm1
          go_wp2
          go_meet
          exact ⟨_, rfl, G1, HI1⟩
        · have q1 : decide (k < n2) = false := by simp; omega
          have q2 : decide ((k : Int) < (n2 : Int)) = false := by simp; omega
          clear hm1
          go_wp2
          go_meet
          exact ⟨0, rfl, G1, HI1⟩
      case rest =>
      obtain ⟨f, rfl, G2, HI2⟩ := hcut
      clear G1 HI1
      refine hK10 _ _ ?_
      refine wp_seq_k fun K12 hK12 => ?_
      go_cut [12] (fun u W => ∃ won : Bool, u = .bool won ∧ Hid (Hs w g h W) ∧ Hid (InsIn i b (off + k * 9) W))
      case first =>
        by_cases hm1 : k < n3
        · obtain ⟨b2, off2, rfl, l3, hc⟩ := (HX.out.on G2.out.low) k hm1
          go_wp2
          go_meet
          exact ⟨_, rfl, G2, HI2⟩
        · have q1 : decide (k < n3) = false := by simp; omega
          have q2 : decide ((k : Int) < (n3 : Int)) = false := by simp; omega
          clear hm1
          go_wp2
          go_meet
          exact ⟨false, rfl, G2, HI2⟩
      case rest =>
      obtain ⟨won, rfl, G3, HI3⟩ := hcut
      clear G2 HI2
      obtain ⟨x, err, hSI⟩ := step5_is h i f won HF.out
      have SI := Lib.hid hSI
      clear hSI
      obtain ⟨V0, rfl⟩ : ∃ V0, V0 = wc := ⟨_, rfl⟩
      have V0l := Nat.lt_of_lt_of_le HL.out G3.out.low.size
      have V0p := G3.out.b1.lt
      have V0q := G3.out.hg
      have zz := zero_cells
      refine hK12 _ _ ?_
      go_upto_region 14 with fail
      go_cut [13, 14] (fun u e W => ∃ p1, u = .pointer (some ⟨p1, 0, none⟩) ∧ e = .int .i64 err ∧ Hid (Bh V0 p1 x W))
      case first =>
        go_region_held3 (fun w' => (LoadH (.pointer (some ⟨w.heap.size, 0, none⟩))).run Tryz.prog w' = .ok h.V w' ∧ (LoadI (.pointer (some ⟨b, off + k * 9, none⟩))).run Tryz.prog w' = .ok i.V w')
          ((refine two14 (W0 := V0) ?_ G3.out.b0 HI3.out V0l; (repeat first | exact B4.out | exact Below.refl _ _ | with_reducible refine Below.al ?_ _ | with_reducible refine Below.dr ?_ | with_reducible refine Below.ro ?_ (by first | omega | (simp; omega) | simp))))
          ((first
            | (go_at_call 5; (with_reducible refine (SI.out.prog _).mono ?_); rintro e w4 ⟨rfl, hb⟩; have B4 := Lib.hid (Below.tr (w := V0) (by (repeat first | exact B4.out | exact Below.refl _ _ | with_reducible refine Below.al ?_ _ | with_reducible refine Below.dr ?_ | with_reducible refine Below.ro ?_ (by first | omega | (simp; omega) | simp))) hb); have C4 := Lib.hid hb; have z4 := hb.size; have z5 := B4.out.size; (try simp at z4); clear hb)
            | (rw [run_StoreH (h0 := zeroHa) (h := x) ?hX13]; case hX13 => (repeat first | exact HAt.z _ _ (by simp) | with_reducible refine HAt.alloc ?_ _ | with_reducible refine HAt.dr ?_ | with_reducible refine HAt.row ?_ (by first | omega | (simp; omega) | simp) | refine HAt.below ?_ C4.out (by first | omega | (simp; omega) | simp)))))
        all_goals
          go_wp2_with fail
          go_meet
          refine ⟨_, rfl, rfl, Lib.hid ⟨by (repeat first | exact B4.out | exact Below.refl _ _ | with_reducible refine Below.al ?_ _ | with_reducible refine Below.dr ?_ | with_reducible refine Below.ro ?_ (by first | omega | (simp; omega) | simp)), by (repeat first | (with_reducible refine HAt.setRow (h := zeroHa) ?_; (repeat first | exact HAt.z _ _ (by simp) | with_reducible refine HAt.alloc ?_ _ | with_reducible refine HAt.dr ?_ | with_reducible refine HAt.row ?_ (by first | omega | (simp; omega) | simp) | refine HAt.below ?_ C4.out (by first | omega | (simp; omega) | simp)); done) | with_reducible refine HAt.row ?_ (by first | omega | (simp; omega) | simp)), (by first | omega | (simp; omega) | simp)⟩⟩
      case rest =>
      obtain ⟨p1, rfl, rfl, X1⟩ := hcut
      have G4 := Lib.hid (G3.out.on X1.out.bel)
      have HI4 := Lib.hid (HI3.out.below X1.out.bel V0l)
      have hp1 : p1 ≠ w.heap.size ∧ p1 ≠ g := by have := X1.out.low; omega
      obtain ⟨V1, rfl⟩ : ∃ V1, V1 = wc := ⟨_, rfl⟩
      have V1l := Nat.lt_of_lt_of_le HL.out G4.out.low.size
      have V1p := G4.out.b1.lt
      clear G3 HI3 V0l V0p
      go_upto_region 15 with fail
      go_cut [15, 16] (fun u e W => ∃ p1, u = .pointer (some ⟨p1, 0, none⟩) ∧ e = .int .i64 err ∧ Hid (Bh V1 p1 x W))
      case first =>
        go_region_held3 (fun w' => (LoadH (.pointer (some ⟨g, 0, none⟩))).run Tryz.prog w' = .ok h.V w' ∧ (LoadI (.pointer (some ⟨b, off + k * 9, none⟩))).run Tryz.prog w' = .ok i.V w')
          ((refine two14 (W0 := V1) ?_ G4.out.b1 HI4.out V1l; (repeat first | exact B4.out | exact Below.refl _ _ | with_reducible refine Below.al ?_ _ | with_reducible refine Below.dr ?_ | with_reducible refine Below.ro ?_ (by first | omega | (simp; omega) | simp))))
          ((first
            | (go_at_call 6; (with_reducible refine (SI.out.doc _).mono ?_); rintro e w4 ⟨rfl, hb⟩; have B4 := Lib.hid (Below.tr (w := V1) (by (repeat first | exact B4.out | exact Below.refl _ _ | with_reducible refine Below.al ?_ _ | with_reducible refine Below.dr ?_ | with_reducible refine Below.ro ?_ (by first | omega | (simp; omega) | simp))) hb); have C4 := Lib.hid hb; have z4 := hb.size; have z5 := B4.out.size; (try simp at z4); clear hb)
            | (rw [run_StoreH (h0 := zeroHa) (h := x) ?hX15]; case hX15 => (repeat first | exact HAt.z _ _ (by simp) | with_reducible refine HAt.alloc ?_ _ | with_reducible refine HAt.dr ?_ | with_reducible refine HAt.row ?_ (by first | omega | (simp; omega) | simp) | refine HAt.below ?_ C4.out (by first | omega | (simp; omega) | simp)))))
        all_goals
          go_wp2_with fail
          go_meet
          refine ⟨_, rfl, rfl, Lib.hid ⟨by (repeat first | exact B4.out | exact Below.refl _ _ | with_reducible refine Below.al ?_ _ | with_reducible refine Below.dr ?_ | with_reducible refine Below.ro ?_ (by first | omega | (simp; omega) | simp)), by (repeat first | (with_reducible refine HAt.setRow (h := zeroHa) ?_; (repeat first | exact HAt.z _ _ (by simp) | with_reducible refine HAt.alloc ?_ _ | with_reducible refine HAt.dr ?_ | with_reducible refine HAt.row ?_ (by first | omega | (simp; omega) | simp) | refine HAt.below ?_ C4.out (by first | omega | (simp; omega) | simp)); done) | with_reducible refine HAt.row ?_ (by first | omega | (simp; omega) | simp)), (by first | omega | (simp; omega) | simp)⟩⟩
      case rest =>
      obtain ⟨p2, rfl, rfl, X2⟩ := hcut
      clear SI
      have G5 := Lib.hid (G4.out.on X2.out.bel)
      have HI5 := Lib.hid (HI4.out.below X2.out.bel V1l)
      have X3 := Lib.hid (X1.out.on X2.out.bel)
      have hp2 : p2 ≠ w.heap.size ∧ p2 ≠ g := by have := X2.out.low; omega
      clear G4 HI4 X1 V1l V1p V0q
      apply_assumption
      refine wp_seq_k fun K16 hK16 => ?_
      go_cut [16] (fun u W => u = .int .i64 err ∧ Hid (Hs w g h W) ∧ Hid (InsIn i b (off + k * 9) W) ∧ Hid (HAt 25 x p1 W) ∧ Hid (HAt 25 x p2 W))
      case first =>
        have cl := run_LoadH X3.out.x
        have cl2 := run_LoadH X2.out.x
        have nq := fun W => neq_hart x W
        go_wp2
        go_meet
        exact ⟨rfl, G5, HI5, Lib.hid X3.out.x, Lib.hid X2.out.x⟩
      case rest =>
      obtain ⟨rfl, G6, HI6, X4, X5⟩ := hcut
      clear G5 HI5 X2 X3
      obtain ⟨V2, rfl⟩ : ∃ V2, V2 = wc := ⟨_, rfl⟩
      refine hK16 _ _ ?_
      refine wp_seq_k fun K18 hK18 => ?_
      go_cut [18] (fun u W => ∃ h2 : Ha, Hid (Hs w g h2 W) ∧ Hid (InsIn i b (off + k * 9) W))
      case first =>
        by_cases e0 : err = 0
        · subst e0
          go_upto_region 19 with fail
          have G7 := Lib.hid (G6.out.on (Below.refl _ _).drew)
          have X6 := Lib.hid (HAt.dr X4.out)
          have X7 := Lib.hid (HAt.dr X5.out)
          obtain ⟨run1, run2⟩ := G7.out.runs (x := x)
          have HN := Lib.hid (G7.out.next (x := x))
          have HI7 : Hid (InsIn i b (off + k * 9) ((V2.drew.setRow w.heap.size (hC x)).setRow g (hC x))) := Lib.hid (HI6.out.low (B := w.heap.size) ((((Below.refl _ _).drew).trans (below_setRow.mono (Nat.le_refl _))).trans (below_setRow.mono (by have := G6.out.hg; omega))) HL.out)
          have KA0 := And.intro (run_LoadH X6.out) (run_LoadH X7.out)
          have KA1 := Lib.hid (fun (cs : Array Value) => two19 (cs := cs) X6.out X7.out hp1.1 hp2.1)
          have KA2 := Lib.hid (fun (cs ds : Array Value) => two19b (cs := cs) (ds := ds) X6.out X7.out hp1 hp2)
          go_region_held3 (fun w' => (LoadH (.pointer (some ⟨p1, 0, none⟩))).run Tryz.prog w' = .ok x.V w' ∧ (LoadH (.pointer (some ⟨p2, 0, none⟩))).run Tryz.prog w' = .ok x.V w')
            (first | with_reducible exact KA0 | with_reducible exact KA1.out _ | with_reducible exact KA2.out _ _)
            (fail)
          go_wp2
          go_meet
          exact ⟨x, HN, HI7⟩
        · have e1 : (err == 0) = false := by simpa using e0
          clear e0
          go_wp2
          go_meet
          exact ⟨h, G6, HI6⟩
      case rest =>
      obtain ⟨h2, G8, HI8⟩ := hcut
      clear G6 HI6 X4 X5
      obtain ⟨V3, rfl⟩ : ∃ V3, V3 = wc := ⟨_, rfl⟩
      refine hK18 _ _ ?_
      have c33 := G8.out.b1.c33
      have zb := G8.out.b1.lt
      by_cases he : h2.e = 0
      · have q1 : (h2.e != 0) = false := by simp [he]
        have q2 : (h2.e == 0) = true := by simp [he]
        clear he
        go_wp2
        go_roundw
        case rel => exact ⟨k + 1, h2, by omega, by go_num, G8⟩
        case measure => simp [intOf]; omega
      · have q1 : (h2.e != 0) = true := by simpa using he
        have q2 : (h2.e == 0) = false := by simpa using he
        have HM := Lib.hid (may_ended (i := i) he)
        have HC := Lib.hid (chk_ended he)
        clear he
        have ci := run_LoadI_in HI8.out
        have KC := Lib.hid (fun W => check_ins i HF.out W)
        cases hok : i.ok
        · rw [hok] at KC
          have KC2 : Hid (∀ W, Calls Tryz.prog 7 #[i.V] W fun e w' => e = .returned (.int .i64 2) ∧ Below W.heap.size W w') := Lib.hid KC.out
          clear KC hok
          go_wp2_with (go_at_call 7; (with_reducible refine (KC2.out _).mono ?_); rintro e w6 ⟨rfl, hb⟩; have G9 := Lib.hid (G8.out.on hb); clear hb)
          go_roundw
          case rel => exact ⟨k + 1, h2, by omega, by go_num, G9⟩
          case measure => simp [intOf]; omega
        · rw [hok] at KC
          have KC2 : Hid (∀ W, Calls Tryz.prog 7 #[i.V] W fun e w' => e = .returned (.int .i64 0) ∧ Below W.heap.size W w') := Lib.hid KC.out
          clear KC hok
          have hbV := Nat.lt_of_lt_of_le HL.out G8.out.low.size
          go_upto_region 21 with (go_at_call 7; (with_reducible refine (KC2.out _).mono ?_); rintro e w6 ⟨rfl, hb⟩; have G9 := Lib.hid (G8.out.on hb); have HI9 := Lib.hid (HI8.out.below hb hbV); clear hb ci c33 zb hbV)
          clear KC2 G8 HI8
          obtain ⟨m, hmc⟩ : ∃ m, h2.chk = m := ⟨_, rfl⟩
          rw [hmc] at HC HM
          have KQ : Hid (∀ W, Calls Tryz.prog 8 #[h2.V, i.V] W fun e w' => e = .returned (.tuple #[.agg askC, .int .i64 m]) ∧ Below W.heap.size W w') := Lib.hid (fun W => Ask_refused i h2 W m HM.out (by have := HC.out; omega))
          have KH : Hid (∀ W, Calls Tryz.prog 9 #[h2.V] W fun e w' => e = .returned (.int .i64 m) ∧ Below W.heap.size W w') := Lib.hid (fun W => by
            have := hCheck_any h2 W
            rw [hmc] at this; exact this)
          clear HM hmc
          have V4l := Nat.lt_of_lt_of_le HL.out G9.out.low.size
          go_cut [18] (fun u W => u = .int .i64 m ∧ Hid (Hs w g h2 W))
          case first =>
            go_region_held3 (fun w' => (LoadH (.pointer (some ⟨w.heap.size, 0, none⟩))).run Tryz.prog w' = .ok h2.V w' ∧ (LoadI (.pointer (some ⟨b, off + k * 9, none⟩))).run Tryz.prog w' = .ok i.V w')
              ((refine two14 (W0 := w6) ?_ G9.out.b0 HI9.out V4l; (repeat first | exact B4.out | exact Below.refl _ _ | with_reducible refine Below.al ?_ _ | with_reducible refine Below.dr ?_ | with_reducible refine Below.ro ?_ (by first | omega | (simp; omega) | simp))))
              ((first
                | (go_at_call 8; (with_reducible refine (KQ.out _).mono ?_); rintro e w4 ⟨rfl, hb⟩; have B4 := Lib.hid (Below.tr (w := w6) (by (repeat first | exact B4.out | exact Below.refl _ _ | with_reducible refine Below.al ?_ _ | with_reducible refine Below.dr ?_ | with_reducible refine Below.ro ?_ (by first | omega | (simp; omega) | simp))) hb); have C4 := Lib.hid hb; have z4 := hb.size; have z5 := B4.out.size; (try simp at z4); clear hb)
                | (rw [run_StoreQ ?hXq]; case hXq => (repeat first | exact QAt.z _ _ (by simp) | with_reducible refine QAt.alloc ?_ _ | with_reducible refine QAt.dr ?_ | with_reducible refine QAt.row ?_ (by first | omega | (simp; omega) | simp) | refine QAt.below ?_ C4.out (by first | omega | (simp; omega) | simp)))))
            all_goals
              go_wp2_with fail
              go_meet
              exact ⟨rfl, Lib.hid (G9.out.on (by (repeat first | exact B4.out | exact Below.refl _ _ | with_reducible refine Below.al ?_ _ | with_reducible refine Below.dr ?_ | with_reducible refine Below.ro ?_ (by first | omega | (simp; omega) | simp))))⟩
          case rest =>
          obtain ⟨rfl, G10⟩ := hcut
          clear G9 HI9 KQ
          rcases HC.out with rfl | rfl
          · clear KH HC
            go_wp2
            go_ret
            exact ⟨rfl, G10.out.low⟩
          · clear HC
            have cl := run_LoadH G10.out.b0
            go_wp2_with (go_at_call 9; (with_reducible refine (KH.out _).mono ?_); rintro e w7 ⟨rfl, hb⟩; have G11 := Lib.hid (G10.out.on hb); clear hb)
            go_ret
            exact ⟨rfl, G11.out.low⟩
    · go_wp2
      go_ret
      exact ⟨rfl, G0.out.low⟩
theorem hscript_any (h : Ha) (a1 a2 a3 : Option Addr) (n1 n2 n3 c1 c2 c3 : Nat) (is : Nat → Ins) (fs : Nat → BitVec 64) (bs : Nat → Bool) (w : World) (hz : InsRow w a1 n1 is) (hy : NumRow w a2 n2 fs) (hx : BoolRow w a3 n3 bs) : Calls Tryz.prog 3 #[h.V, .slice a1 n1 c1, .slice a2 n2 c2, .slice a3 n3 c3] w fun e w' => e = .returned (.bool true) ∧ Below w.heap.size w w' := by
  by_cases h1 : 60 < n1
  · exact hscript_no1 h a1 a2 a3 n1 n2 n3 c1 c2 c3 w h1
  by_cases h2 : 60 < n2
  · exact hscript_no2 h a1 a2 a3 n1 n2 n3 c1 c2 c3 w (by omega) h2
  by_cases h3 : 60 < n3
  · exact hscript_no3 h a1 a2 a3 n1 n2 n3 c1 c2 c3 w (by omega) (by omega) h3
  exact hscript_go h a1 a2 a3 n1 n2 n3 c1 c2 c3 is fs bs w hz hy hx (by omega) (by omega) (by omega)
end
end Go.Proofs.YtdiacnjkffdegaaGreat
