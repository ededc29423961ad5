/-
  Proved here: a book reads the instruction of a word: it answers it just if the word is that instruction's. Condition: one goroutine; the book's lock is free.
-/
import Derived.Test.YtbchecnidiiddaaGreatDoorCodeMake
namespace Go.Proofs.YtbchecnidiiddaaGreatDoor
set_option linter.unusedVariables false
open Go.RowKit

theorem ins_none_new (op : Int) (w : World) : InsAt (Ins.none op) w.heap.size (w.alloc (.cells #[.int .i64 op, .int .i64 0, .int .i64 0, .int .i64 0, .int .i64 0, .bool false, .bool false, .int .i64 0, .int .i64 0] 23)) := heap_new _ _
theorem ins_size : (Tryz.prog.info? 23).map (·.size) = some 9 := by kernel_rfl
theorem ins_load {i : Ins} {n : Nat} {w : World} (h : InsAt i n w) : (loadVar 23 ⟨n, 0, none⟩).run Tryz.prog w = .ok i.V w :=
  run_loadVar_row (P := Tryz.prog) w n 23 23 (insCells i) (0, 0) _ h Tryz.underlying23 rfl ins_size
/-- the nine cells of an instruction, stored one by one -/
abbrev stored (w : World) (n : Nat) (i : Ins) : World := (((((((((w.setCell ⟨n, 0, none⟩ (.int .i64 i.op)).setCell ⟨n, 1, none⟩ (.int .i64 i.rd)).setCell ⟨n, 2, none⟩ (.int .i64 i.rs1)).setCell ⟨n, 3, none⟩ (.int .i64 i.rs2)).setCell ⟨n, 4, none⟩ (.int .i64 i.imm)).setCell ⟨n, 5, none⟩ (.bool i.aq)).setCell ⟨n, 6, none⟩ (.bool i.rl)).setCell ⟨n, 7, none⟩ (.int .i64 i.pred)).setCell ⟨n, 8, none⟩ (.int .i64 i.succ))
theorem ins_set {j : Ins} {q : Nat} {w : World} (h : InsAt j q w) (o : Nat) (v : Value) (j2 : Ins) (he : (insCells j).setIfInBounds o v = insCells j2) : InsAt j2 q (w.setCell ⟨q, o, none⟩ v) := by
  unfold InsAt at *
  rw [← he]
  simp [World.setCell, Array.getElem?_modify, h]
theorem ins_stored {j : Ins} {n : Nat} {w : World} (h : InsAt j n w) (i : Ins) : InsAt i n (stored w n i) := by
  have h0 := ins_set h 0 (.int .i64 i.op) { j with op := i.op } rfl
  have h1 := ins_set h0 1 (.int .i64 i.rd) { j with op := i.op, rd := i.rd } rfl
  have h2 := ins_set h1 2 (.int .i64 i.rs1) { j with op := i.op, rd := i.rd, rs1 := i.rs1 } rfl
  have h3 := ins_set h2 3 (.int .i64 i.rs2) { j with op := i.op, rd := i.rd, rs1 := i.rs1, rs2 := i.rs2 } rfl
  have h4 := ins_set h3 4 (.int .i64 i.imm) { j with op := i.op, rd := i.rd, rs1 := i.rs1, rs2 := i.rs2, imm := i.imm } rfl
  have h5 := ins_set h4 5 (.bool i.aq) { j with op := i.op, rd := i.rd, rs1 := i.rs1, rs2 := i.rs2, imm := i.imm, aq := i.aq } rfl
  have h6 := ins_set h5 6 (.bool i.rl) { j with op := i.op, rd := i.rd, rs1 := i.rs1, rs2 := i.rs2, imm := i.imm, aq := i.aq, rl := i.rl } rfl
  have h7 := ins_set h6 7 (.int .i64 i.pred) { j with op := i.op, rd := i.rd, rs1 := i.rs1, rs2 := i.rs2, imm := i.imm, aq := i.aq, rl := i.rl, pred := i.pred } rfl
  exact ins_set h7 8 (.int .i64 i.succ) i rfl
theorem results_cell_tmp {P : Program} {fn : Func} {tmps : Array Value} {t u : Tmp} {ty : TypeId} {ad : Addr} {v : Value} {w : World} (h : fn.results = #[.cell t ty, .tmp u]) (hb : tmps[t]?.getD undef = .pointer (some ad)) (hl : (loadVar ty ad).run P w = .ok v w) :
    (results fn tmps).run P w = .ok (.tuple #[v, tmps[u]?.getD undef]) w := by
  simp [results, h, hb, asAddr, hl]
theorem Oth.setNew {r : Nat} {w w' : World} (h : Oth r w w') (L o : Nat) (v : Value) (hL : w.heap.size ≤ L) : Oth r w (w'.setCell ⟨L, o, none⟩ v) :=
  ⟨h.1, h.2.1, h.2.2.1, by have := h.2.2.2.1; simp [World.setCell]; omega, fun k hk hr => (Below.heap_setCell _ _ _ _ (show k ≠ L by omega)).trans (h.2.2.2.2 k hk hr)⟩
theorem oth_stored {r : Nat} {w w' : World} (h : Oth r w w') (n : Nat) (hn : w.heap.size ≤ n) (i : Ins) : Oth r w (stored w' n i) :=
  ((((((((h.setNew n 0 _ hn).setNew n 1 _ hn).setNew n 2 _ hn).setNew n 3 _ hn).setNew n 4 _ hn).setNew n 5 _ hn).setNew n 6 _ hn).setNew n 7 _ hn).setNew n 8 _ hn
theorem S_range (b : BitVec 64) : -9223372036854775808 ≤ S b ∧ S b ≤ 9223372036854775807 := by
  unfold S; have := b.toInt_lt; have := b.le_toInt; omega
theorem readW_imm (b : BitVec 64) : -9223372036854775808 ≤ (readW b).imm ∧ (readW b).imm ≤ 9223372036854775807 := by
  unfold readW
  have key : ∀ (l : List Nat) (i : Ins), (-9223372036854775808 ≤ i.imm ∧ i.imm ≤ 9223372036854775807) → -9223372036854775808 ≤ (l.foldl (outK b) i).imm ∧ (l.foldl (outK b) i).imm ≤ 9223372036854775807 := by
    intro l
    induction l with
    | nil => intro i h; exact h
    | cons k l ih =>
      intro i h
      rw [List.foldl_cons]
      refine ih _ ?_
      unfold outK setK
      split <;> first | exact h | exact S_range _
  refine key _ _ ?_
  simp [Ins.none]
def goodW (b : BitVec 64) : Bool := (readW b).ok && decide (wordL (readW b) = b)
def InsnOk (n : Nat) (i : Ins) (x : Int) (w : World) (e : Ending) (w' : World) : Prop := e = .returned (.tuple #[i.V, .int .i64 x]) ∧ BookOk n w' ∧ Oth n w w'
theorem op_e (n : Nat) (b : BitVec 64) (p : Nat) (hp : Hid (opP (splitL b) = p)) (w : World) (hb : BookOk n w) : Calls Tryz.prog 14 #[.pointer (some ⟨n, 0, none⟩), .int .u32 (U b)] w fun e w' => e = .returned (.int .i64 (p : Int)) ∧ BookOk n w' ∧ Oth n w w' := by
  have := op_any n b w hb
  unfold OpOk at this
  rw [hp.out] at this
  exact this
structure Chain (n y c : Nat) (i : Ins) (b : BitVec 64) (w W : World) : Prop where
  ins : InsAt i y W
  car : CarAt c b true W
  res : InsAt (Ins.none 0) w.heap.size W
  book : BookOk n W
  all : Oth n w W
  ne : y ≠ c
  ry : w.heap.size < y
  rc : w.heap.size < c
  nn : n < w.heap.size
theorem chain1 {n : Nat} (p : Int) (b : BitVec 64) {w w0 w1 : World} (hN : InsAt (Ins.none 0) w.heap.size w0) (hB : Below w.heap.size w w0) (hn : n < w.heap.size) (hb : BookOk n w1) (hO : Oth n w0 w1) :
    Chain n w1.heap.size (w1.heap.size + 1) (Ins.none p) b w ((w1.alloc (.cells #[.int .i64 p, .int .i64 0, .int .i64 0, .int .i64 0, .int .i64 0, .bool false, .bool false, .int .i64 0, .int .i64 0] 23)).alloc (.cells #[.int .u64 (U b), .bool true] 58)) := by
  have h0 := hN.facts.1
  have h1 := hO.size
  have bx := one_box w1 (.cells #[.int .i64 p, .int .i64 0, .int .i64 0, .int .i64 0, .int .i64 0, .bool false, .bool false, .int .i64 0, .int .i64 0] 23)
  have hs : (w1.alloc (.cells #[.int .i64 p, .int .i64 0, .int .i64 0, .int .i64 0, .int .i64 0, .bool false, .bool false, .int .i64 0, .int .i64 0] 23)).heap.size = w1.heap.size + 1 := by simp
  have hi := ins_none_new p w1
  generalize w1.alloc (.cells #[.int .i64 p, .int .i64 0, .int .i64 0, .int .i64 0, .int .i64 0, .bool false, .bool false, .int .i64 0, .int .i64 0] 23) = W at bx hs hi ⊢
  have by_ := one_box W (.cells #[.int .u64 (U b), .bool true] 58)
  have hc := heap_new W (.cells #[.int .u64 (U b), .bool true] 58)
  rw [hs] at hc
  have hr := ((hN.oth hO (by omega)).below bx (by omega)).below by_ (by omega)
  exact ⟨hi.below by_ (by omega), hc, hr, (hb.below bx).below by_, (((Oth.of hB).trans hO).trans (Oth.of bx)).trans (Oth.of by_), by omega, by omega, by omega, hn⟩
theorem chain2 {n y c : Nat} {i j : Ins} {b : BitVec 64} {w W W2 : World} (h : Chain n y c i b w W) (hI : InsAt j y W2) (hO : Oth2 c y W W2) : InsAt j y W2 ∧ InsAt (Ins.none 0) w.heap.size W2 ∧ BookOk n W2 ∧ Oth n w W2 ∧ w.heap.size < y ∧ n < w.heap.size := by
  have h1 := h.rc; have h2 := h.ry; have h3 := h.nn
  refine ⟨hI, h.res.oth2 hO (by omega) (by omega), h.book.oth2 hO (by omega) (by omega) ⟨_, _, _, h.car⟩ ⟨_, _, _, h.ins⟩, ⟨hO.1.trans h.all.1, hO.2.1.trans h.all.2.1, hO.2.2.1.trans h.all.2.2.1, Nat.le_trans h.all.size hO.size, fun j hj hne => (hO.2.2.2.2 j (Nat.lt_of_lt_of_le hj h.all.size) (by omega) (by omega)).trans (h.all.2.2.2.2 j hj hne)⟩, h2, h3⟩
structure Chain3 (n y : Nat) (i : Ins) (w W : World) : Prop where
  ins : InsAt i y W
  res : InsAt (Ins.none 0) w.heap.size W
  book : BookOk n W
  all : Oth n w W
  ry : w.heap.size < y
  nn : n < w.heap.size
theorem chain3 {n y : Nat} {i : Ins} {w W W2 : World} (h : InsAt i y W ∧ InsAt (Ins.none 0) w.heap.size W ∧ BookOk n W ∧ Oth n w W ∧ w.heap.size < y ∧ n < w.heap.size) (hb : BookOk n W2) (hO : Oth n W W2) : Chain3 n y i w W2 := by
  obtain ⟨h1, h2, h3, h4, h5, h6⟩ := h
  exact ⟨h1.oth hO (by omega), h2.oth hO (by omega), hb, h4.trans hO, h5, h6⟩
theorem stored_end {n y : Nat} {i : Ins} {w W : World} (h : Chain3 n y i w W) (j : Ins) : BookOk n (stored W w.heap.size j) ∧ Oth n w (stored W w.heap.size j) := by
  have ho : Oth w.heap.size W (stored W w.heap.size j) := by
    unfold stored
    exact ((((((((Oth.setCell _ _ _ _).trans (Oth.setCell _ _ _ _)).trans (Oth.setCell _ _ _ _)).trans (Oth.setCell _ _ _ _)).trans (Oth.setCell _ _ _ _)).trans (Oth.setCell _ _ _ _)).trans (Oth.setCell _ _ _ _)).trans (Oth.setCell _ _ _ _)).trans (Oth.setCell _ _ _ _)
  have hn := h.nn
  exact ⟨h.book.oth ho (by omega) (fun m hm => map_ne hm.2.1 h.res), oth_stored h.all _ (Nat.le_refl _) j⟩
set_option maxRecDepth 100000 in
set_option maxHeartbeats 4000000 in
theorem insn_no (n : Nat) (b : BitVec 64) (hk : (readW b).ok = false) (w : World) (hb : BookOk n w) : Calls Tryz.prog 9 #[.pointer (some ⟨n, 0, none⟩), .int .u32 (U b)] w fun e w' => InsnOk n (Ins.none 0) 4 w e w' := by
  obtain ⟨p, hp⟩ : ∃ p, opP (splitL b) = p := ⟨_, rfl⟩
  obtain ⟨i, hi⟩ : ∃ i, readW b = i := ⟨_, rfl⟩
  have HI : Hid ((carryL true b (Ins.none (p : Int))).2 = i) := Lib.hid (by rw [carry_out, ← hi, ← hp]; rfl)
  have HP := Lib.hid hp
  have hwr := readW_imm b
  rw [hi] at hk hwr
  have HK := Lib.hid hk
  have HR := Lib.hid hwr
  have HB := Lib.hid hb
  have hn := hb.lt
  have N0 := Lib.hid (ins_none_new 0 w)
  have B0 := Lib.hid (one_box w (.cells #[.int .i64 0, .int .i64 0, .int .i64 0, .int .i64 0, .int .i64 0, .bool false, .bool false, .int .i64 0, .int .i64 0] 23))
  have BK0 := Lib.hid (hb.below B0.out)
  have hu : IntKind.u64.wrap (U b) = U b := wrapU_U b
  clear hp hi hk hwr hb
  go_enter Tryz.func9, Tryz.ntmps9
  go_wp2_with (first
    | (go_at_call 14; (with_reducible refine (op_e n b p HP _ BK0.out).mono ?_); rintro e w1 ⟨rfl, hb1, hO1⟩; have C1 := Lib.hid (chain1 (p : Int) b N0.out B0.out hn hb1 hO1); clear hb1 hO1)
    | (go_at_call 15; (with_reducible refine (carry_any _ _ _ _ _ _ C1.out.ne C1.out.car C1.out.ins).mono ?_); rintro e w2 ⟨rfl, hC, hI, hO⟩; rw [HI.out] at hI; have C2 := Lib.hid (chain2 C1.out hI hO); obtain ⟨hz, c0, c1, c2, c3, c4, c5, c6, c7, c8⟩ := hI.facts; clear hC hI hO)
    | (go_at_call 16; (with_reducible refine (word_no n i HK.out _ C2.out.2.2.1).mono ?_); rintro e w3 ⟨rfl, hb3, hO3⟩; have C3 := Lib.hid (chain3 C2.out hb3 hO3); obtain ⟨hz3, d0, d1, d2, d3, d4, d5, d6, d7, d8⟩ := C3.out.ins.facts; obtain ⟨hr0, r0, r1, r2, r3, r4, r5, r6, r7, r8⟩ := C3.out.res.facts; have hrf := loose_of C3.out.res; clear hb3 hO3))
  refine bodyPost_ret (results_cell_tmp rfl rfl (ins_load (ins_stored C3.out.res (Ins.none 0)))) rfl ⟨rfl, stored_end C3.out (Ins.none 0)⟩
set_option maxRecDepth 100000 in
set_option maxHeartbeats 4000000 in
theorem insn_yes (n : Nat) (b : BitVec 64) (hk : (readW b).ok = true) (hw : wordL (readW b) = b) (w : World) (hb : BookOk n w) : Calls Tryz.prog 9 #[.pointer (some ⟨n, 0, none⟩), .int .u32 (U b)] w fun e w' => InsnOk n (readW b) 0 w e w' := by
  obtain ⟨p, hp⟩ : ∃ p, opP (splitL b) = p := ⟨_, rfl⟩
  obtain ⟨i, hi⟩ : ∃ i, readW b = i := ⟨_, rfl⟩
  have HI : Hid ((carryL true b (Ins.none (p : Int))).2 = i) := Lib.hid (by rw [carry_out, ← hi, ← hp]; rfl)
  have HP := Lib.hid hp
  have hwr := readW_imm b
  rw [hi] at hk hwr hw ⊢
  have HK := Lib.hid hk
  have HR := Lib.hid hwr
  have HB := Lib.hid hb
  have hn := hb.lt
  have N0 := Lib.hid (ins_none_new 0 w)
  have B0 := Lib.hid (one_box w (.cells #[.int .i64 0, .int .i64 0, .int .i64 0, .int .i64 0, .int .i64 0, .bool false, .bool false, .int .i64 0, .int .i64 0] 23))
  have BK0 := Lib.hid (hb.below B0.out)
  have hu : IntKind.u64.wrap (U b) = U b := wrapU_U b
  clear hp hi hk hwr hb
  have hq : (U (wordL i) != U b) = false := by rw [hw]; simp
  have hq2 : (U (wordL i) == U b) = true := by rw [hw]; simp
  clear hw
  go_enter Tryz.func9, Tryz.ntmps9
  go_wp2_with (first
    | (go_at_call 14; (with_reducible refine (op_e n b p HP _ BK0.out).mono ?_); rintro e w1 ⟨rfl, hb1, hO1⟩; have C1 := Lib.hid (chain1 (p : Int) b N0.out B0.out hn hb1 hO1); clear hb1 hO1)
    | (go_at_call 15; (with_reducible refine (carry_any _ _ _ _ _ _ C1.out.ne C1.out.car C1.out.ins).mono ?_); rintro e w2 ⟨rfl, hC, hI, hO⟩; rw [HI.out] at hI; have C2 := Lib.hid (chain2 C1.out hI hO); obtain ⟨hz, c0, c1, c2, c3, c4, c5, c6, c7, c8⟩ := hI.facts; clear hC hI hO)
    | (go_at_call 16; (with_reducible refine (word_yes n i HK.out HR.out.1 HR.out.2 _ C2.out.2.2.1).mono ?_); rintro e w3 ⟨rfl, hb3, hO3⟩; have C3 := Lib.hid (chain3 C2.out hb3 hO3); obtain ⟨hz3, d0, d1, d2, d3, d4, d5, d6, d7, d8⟩ := C3.out.ins.facts; obtain ⟨hr0, r0, r1, r2, r3, r4, r5, r6, r7, r8⟩ := C3.out.res.facts; have hrf := loose_of C3.out.res; clear hb3 hO3))
  refine bodyPost_ret (results_cell_tmp rfl rfl (ins_load (ins_stored C3.out.res (i)))) rfl ⟨rfl, stored_end C3.out (i)⟩
set_option maxRecDepth 100000 in
set_option maxHeartbeats 4000000 in
theorem insn_other (n : Nat) (b : BitVec 64) (hk : (readW b).ok = true) (hw : wordL (readW b) ≠ b) (w : World) (hb : BookOk n w) : Calls Tryz.prog 9 #[.pointer (some ⟨n, 0, none⟩), .int .u32 (U b)] w fun e w' => InsnOk n (Ins.none 0) 4 w e w' := by
  obtain ⟨p, hp⟩ : ∃ p, opP (splitL b) = p := ⟨_, rfl⟩
  obtain ⟨i, hi⟩ : ∃ i, readW b = i := ⟨_, rfl⟩
  have HI : Hid ((carryL true b (Ins.none (p : Int))).2 = i) := Lib.hid (by rw [carry_out, ← hi, ← hp]; rfl)
  have HP := Lib.hid hp
  have hwr := readW_imm b
  rw [hi] at hk hwr hw
  have HK := Lib.hid hk
  have HR := Lib.hid hwr
  have HB := Lib.hid hb
  have hn := hb.lt
  have N0 := Lib.hid (ins_none_new 0 w)
  have B0 := Lib.hid (one_box w (.cells #[.int .i64 0, .int .i64 0, .int .i64 0, .int .i64 0, .int .i64 0, .bool false, .bool false, .int .i64 0, .int .i64 0] 23))
  have BK0 := Lib.hid (hb.below B0.out)
  have hu : IntKind.u64.wrap (U b) = U b := wrapU_U b
  clear hp hi hk hwr hb
  have hq : (U (wordL i) != U b) = true := by simp; exact fun h => hw (U_inj h)
  have hq2 : (U (wordL i) == U b) = false := by simp; exact fun h => hw (U_inj h)
  clear hw
  go_enter Tryz.func9, Tryz.ntmps9
  go_wp2_with (first
    | (go_at_call 14; (with_reducible refine (op_e n b p HP _ BK0.out).mono ?_); rintro e w1 ⟨rfl, hb1, hO1⟩; have C1 := Lib.hid (chain1 (p : Int) b N0.out B0.out hn hb1 hO1); clear hb1 hO1)
    | (go_at_call 15; (with_reducible refine (carry_any _ _ _ _ _ _ C1.out.ne C1.out.car C1.out.ins).mono ?_); rintro e w2 ⟨rfl, hC, hI, hO⟩; rw [HI.out] at hI; have C2 := Lib.hid (chain2 C1.out hI hO); obtain ⟨hz, c0, c1, c2, c3, c4, c5, c6, c7, c8⟩ := hI.facts; clear hC hI hO)
    | (go_at_call 16; (with_reducible refine (word_yes n i HK.out HR.out.1 HR.out.2 _ C2.out.2.2.1).mono ?_); rintro e w3 ⟨rfl, hb3, hO3⟩; have C3 := Lib.hid (chain3 C2.out hb3 hO3); obtain ⟨hz3, d0, d1, d2, d3, d4, d5, d6, d7, d8⟩ := C3.out.ins.facts; obtain ⟨hr0, r0, r1, r2, r3, r4, r5, r6, r7, r8⟩ := C3.out.res.facts; have hrf := loose_of C3.out.res; clear hb3 hO3))
  refine bodyPost_ret (results_cell_tmp rfl rfl (ins_load (ins_stored C3.out.res (Ins.none 0)))) rfl ⟨rfl, stored_end C3.out (Ins.none 0)⟩
theorem insn_any (n : Nat) (b : BitVec 64) (w : World) (hb : BookOk n w) : Calls Tryz.prog 9 #[.pointer (some ⟨n, 0, none⟩), .int .u32 (U b)] w fun e w' => InsnOk n (if goodW b then readW b else Ins.none 0) (if goodW b then 0 else 4) w e w' := by
  cases hk : (readW b).ok
  · have e : goodW b = false := by unfold goodW; rw [hk]; rfl
    rw [e]
    exact insn_no n b hk w hb
  · by_cases hw : wordL (readW b) = b
    · have e : goodW b = true := by unfold goodW; rw [hk, decide_eq_true hw]; rfl
      rw [e]
      exact insn_yes n b hk hw w hb
    · have e : goodW b = false := by unfold goodW; rw [hk, decide_eq_false hw]; rfl
      rw [e]
      exact insn_other n b hk hw w hb
end Go.Proofs.YtbchecnidiiddaaGreatDoor
