/-
  Proved here: a book makes the word of an instruction that may be, and refuses one that may not be. Condition: one goroutine; the book's lock is free.
-/
import Derived.Test.YtbchecnidiiddaaGreatDoorCodeOp
namespace Go.Proofs.YtbchecnidiiddaaGreatDoor
set_option linter.unusedVariables false
open Go.RowKit

theorem zero_part (w : World) : (zeroValue 70).run Tryz.prog w = .ok (.agg #[.int .u32 0, .int .u32 0, .int .u32 0]) w := by kernel_rfl
theorem at_op (k : Nat) (h1 : 1 ≤ k) (h2 : k ≤ 87) (z : DU) : (DataW.map allL : DU).atKey (.int .i64 (k : Int)) z = partD (codeOf k).1 (codeOf k).2.1 (codeOf k).2.2 := by
  unfold DataW.atKey
  simp only
  have hh := has_all ⟨k, by omega⟩ (by show k ≠ 0; omega)
  cases hf : allL.find? (fun p => p.1.sameKey (.int .i64 (k : Int))) with
  | none =>
    rw [Maps.has_eq, List.any_eq_true] at hh
    obtain ⟨p, hp, hs⟩ := hh
    exact absurd hs (List.find?_eq_none.1 hf p hp)
  | some p =>
    have hm := List.mem_of_find?_eq_some hf
    have hs := List.find?_some hf
    obtain ⟨l, d⟩ := p
    obtain ⟨j, hj1, hj2, rfl, rfl⟩ := mem_all hm
    have := WideAt.sameKey_eq hs
    injection this with _ e
    have : j = k := by omega
    subst this
    rfl
theorem look_parts (m k : Nat) (w : World) (h : MapAt m w) (h1 : 1 ≤ k) (h2 : k ≤ 87) : (Instr.lookup 47 (.map (some m)) (.int .i64 (k : Int)) false).run Tryz.prog w = .ok (PtV (codeOf k)) w := by
  have hkey : keyOf Tryz.prog 3 (.int .i64 (k : Int)) = some (.int .i64 (k : Int)) := Maps.keyOf_int_mk Tryz.underlying3 (by have : ∀ j : Fin 88, (Lit.int .i64 ((j.1 : Nat) : Int)).wf = true := (by decide +kernel); exact this ⟨k, by omega⟩)
  obtain ⟨v, ps, hr, hv⟩ := World.ownsMap.lookup h mapLaw Tryz.underlying47 (zero_part w) (partElem_mk 0 0 0) hkey
  rw [hr]
  rw [at_op k h1 h2] at hv
  clear hkey hr
  generalize codeOf k = q at hv ⊢
  obtain ⟨a, b, c, rfl, e⟩ := partElem_inv hv
  have e1 := congrArg Prod.fst e
  simp only [partD] at e1
  injection e1 with e1
  simp only [List.cons.injEq, DataW.lit.injEq, Lit.int.injEq, true_and, and_true] at e1
  obtain ⟨e1, e2, e3⟩ := e1
  show Result.ok (Value.agg #[.int .u32 a, .int .u32 b, .int .u32 c]) w = Result.ok (Value.agg #[.int .u32 q.1, .int .u32 q.2.1, .int .u32 q.2.2]) w
  rw [e1, e2, e3]
theorem code_small : ∀ k : Fin 88, (codeOf k.1).1 < 4294967296 ∧ (codeOf k.1).2.1 < 4294967296 ∧ (codeOf k.1).2.2 < 4294967296 := by decide +kernel
theorem bare_code (k : Nat) (h : k ≤ 87) (w : World) : Calls Tryz.prog 27 #[PtV (codeOf k)] w fun e w' => PtOk (.int .u64 (U (bareP (codeOf k)))) w e w' := by
  have hs : (codeOf k).1 < 4294967296 ∧ (codeOf k).2.1 < 4294967296 ∧ (codeOf k).2.2 < 4294967296 := code_small ⟨k, by omega⟩
  exact bare_any (codeOf k) hs.1 hs.2.1 hs.2.2 w
/-- carried in, an instruction that may be makes its word and stays -/
theorem setK_same (i : Ins) (h : Fair i) (k : Nat) (hk : k ∈ kindsF (formN i.op)) : setK k i (valK k i) = i := by
  have hb : ∀ x : Int, 0 ≤ x → x ≤ 31 → S (B x) = x := fun x h0 h1 => S_B x (by omega) (by omega)
  obtain ⟨m1, m2, m3⟩ := formN_in i h.may
  have h13 := kinds_lt ⟨formN i.op, by omega⟩ k hk
  have hi := h.may.imm
  have ci := kind_imm ⟨formN i.op, by omega⟩ k hk
  simp only at ci h13
  have hs := S_B i.imm h.i0 h.i1
  obtain ⟨op, rd, rs1, rs2, imm, aq, rl, pred, succ⟩ := i
  have hsg : ∀ n : Nat, 0 < n ∧ n ≤ 64 → fitsI imm n = true → S (sign (B imm) n) = imm := fun n hn hf => by
    simp only at hs
    rw [← hs, fitsI_S, ck_in _ (by omega) (by omega), hs] at hf
    exact eq_of_beq hf
  rcases (by omega : k = 0 ∨ k = 1 ∨ k = 2 ∨ (3 ≤ k ∧ k ≤ 7) ∨ k = 8 ∨ k = 9 ∨ k = 10 ∨ k = 11 ∨ k = 12) with rfl | rfl | rfl | h3 | rfl | rfl | rfl | rfl | rfl
  · simp only [setK, valK]; rw [hb _ h.may.rd.1 h.may.rd.2.1]
  · simp only [setK, valK]; rw [hb _ h.may.rs1.1 h.may.rs1.2.1]
  · simp only [setK, valK]; rw [hb _ h.may.rs2.1 h.may.rs2.2.1]
  · have hc := ci h3
    rw [m3] at hi
    have hf : fitsI imm (wideK k) = true := by
      rcases hc with ⟨e, rfl⟩ | ⟨e, rfl⟩ | ⟨e, rfl⟩ | ⟨e, rfl⟩ | ⟨e, rfl⟩ | ⟨e, rfl⟩ <;> simp only at e hi <;> rw [e] at hi <;> simp [goodB] at hi <;> simp [wideK, hi]
    have hw : 0 < wideK k ∧ wideK k ≤ 64 := by
      rcases (by omega : k = 3 ∨ k = 4 ∨ k = 5 ∨ k = 6 ∨ k = 7) with rfl | rfl | rfl | rfl | rfl <;> decide
    have := hsg _ hw hf
    rcases (by omega : k = 3 ∨ k = 4 ∨ k = 5 ∨ k = 6 ∨ k = 7) with rfl | rfl | rfl | rfl | rfl <;> simp only [setK, valK] <;> rw [this]
  · simp only [setK, valK]; rw [hs]
  · simp only [setK, valK]; rw [hb _ h.may.pred.1 (by have := h.may.pred.2.1; omega)]
  · simp only [setK, valK]; rw [hb _ h.may.succ.1 (by have := h.may.succ.2.1; omega)]
  · simp only [setK, valK]; cases aq <;> rfl
  · simp only [setK, valK]; cases rl <;> rfl
theorem carry_in (i : Ins) (h : Fair i) (b : BitVec 64) : carryL false b i = ((kindsF (formN i.op)).foldl (inK i) b, i) := by
  unfold carryL
  have key : ∀ (l : List Nat) (b : BitVec 64), (∀ k ∈ l, k ∈ kindsF (formN i.op)) → l.foldl (stepK false) (b, i) = (l.foldl (inK i) b, i) := by
    intro l
    induction l with
    | nil => intro b _; rfl
    | cons k l ih =>
      intro b hl
      rw [List.foldl_cons, List.foldl_cons]
      have e : stepK false (b, i) k = (inK i b k, i) := by
        unfold stepK nb nv inK
        simp only [Bool.false_eq_true, if_false]
        rw [setK_same i h k (hl k (by simp))]
      rw [e]
      exact ih _ (fun x hx => hl x (by simp [hx]))
  exact key _ b (fun k hk => hk)
theorem carry_word (i : Ins) (h : Fair i) : (carryL false (bareP (codeOf i.op.toNat)) i).1 = wordL i := by rw [carry_in i h]; rfl
theorem carry_out (w : BitVec 64) (i : Ins) : (carryL true w i).2 = (kindsF (formN i.op)).foldl (outK w) i := by
  unfold carryL
  have key : ∀ (l : List Nat) (i : Ins), l.foldl (stepK true) (w, i) = (w, l.foldl (outK w) i) := by
    intro l
    induction l with
    | nil => intro i; rfl
    | cons k l ih => intro i; rw [List.foldl_cons, List.foldl_cons]; exact ih _
  rw [key]
theorem keep2 {w : World} {b p : Nat} {u v : Value} {x : Option Value} (hn : p ≠ b) (h : w.cell? ⟨p, 0, none⟩ = x) : ((w.setCell ⟨b, 0, none⟩ u).setCell ⟨b, 1, none⟩ v).cell? ⟨p, 0, none⟩ = x :=
  (World.cell?_of_block (w := w) (a := ⟨p, 0, none⟩) ((heap_far v hn).trans (heap_far u hn))).trans h
theorem oth_cells {n : Nat} {w w' : World} (h : Oth n w w') : ∀ b o, b < w.heap.size → ¬ b = n → w'.cell? ⟨b, o, none⟩ = w.cell? ⟨b, o, none⟩ := fun b o hb hn => World.cell?_of_block (w := w) (a := ⟨b, o, none⟩) (h.2.2.2.2 b hb hn)
theorem oth_frozen {n : Nat} {w w' : World} (h : Oth n w w') : ∀ b o, b < w.heap.size → ¬ b = n → w'.frozen? ⟨b, o, none⟩ = w.frozen? ⟨b, o, none⟩ := fun b o hb hn => World.frozen?_of_block (w := w) (a := ⟨b, o, none⟩) (h.2.2.2.2 b hb hn)
structure Mid (n X : Nat) (b : BitVec 64) (i : Ins) (w W : World) : Prop where
  car : CarAt X b false W
  ins : InsAt i w.heap.size W
  book : BookOk n W
  all : Oth n w W
  ne : w.heap.size ≠ X
  low : w.heap.size ≤ X
  nx : n ≠ X
  ni : n ≠ w.heap.size
  big : w.heap.size ≤ W.heap.size
theorem mid1 {n m : Nat} (b : BitVec 64) {i : Ins} {w w1 w2 w3 : World} (hS : Stand i w w1) (hn : n < w.heap.size) (hM : Made n m w2) (hO : Oth n w1.drew w2) (hB : Below w2.heap.size w2 w3) : Mid n w3.heap.size b i w (w3.alloc (.cells #[.int .u64 (U b), .bool false] 58)) := by
  have h1 := (Stand.ins hS).facts.1
  have h2 : w1.heap.size ≤ w2.heap.size := hO.size
  have h3 := hB.size
  have bx := one_box w3 (.cells #[.int .u64 (U b), .bool false] 58)
  have hI : InsAt i w.heap.size w2 := InsAt.oth (w := w1.drew) hS.1 hO (by omega)
  have hI3 := hI.below hB (by omega)
  have o2 : Oth n w w2 := (Oth.of (Stand.below hS)).trans (w1 := w1.drew) hO
  exact ⟨heap_new w3 _, hI3.below bx (by omega), .inr ⟨m, (hM.below hB).below bx⟩, (o2.trans (Oth.of hB)).trans (Oth.of bx), by omega, by omega, by omega, by omega, by have := bx.size; omega⟩
theorem car_set {X : Nat} {b : BitVec 64} {w : World} (h : w.heap[X]? = some (.cells #[.int .u64 0, .bool false] 58 (0, 0))) : CarAt X b false ((w.setCell ⟨X, 0, none⟩ (.int .u64 (U b))).setCell ⟨X, 1, none⟩ (.bool false)) := heap_set _ (heap_set _ h)
theorem set_oth (X : Nat) (w : World) (u v : Value) : Oth X w ((w.setCell ⟨X, 0, none⟩ u).setCell ⟨X, 1, none⟩ v) := (Oth.setCell X 0 w u).trans (Oth.setCell X 1 _ v)
theorem BookOk.oth {n r : Nat} {w w' : World} (h : BookOk n w) (ho : Oth r w w') (hn : n ≠ r) (hm : ∀ m, Made n m w → m ≠ r) : BookOk n w' := by
  rcases h with ⟨d, h⟩ | ⟨m, h⟩
  · exact .inl ⟨d, h.oth ho hn⟩
  · exact .inr ⟨m, h.1.oth ho hn, h.2.1.oth ho (hm m h), h.2.2⟩
theorem Made.oth {n m r : Nat} {w w' : World} (h : Made n m w) (ho : Oth r w w') (hn : n ≠ r) (hm : m ≠ r) : Made n m w' := ⟨h.1.oth ho hn, h.2.1.oth ho hm, h.2.2⟩
theorem map_ne {m X : Nat} {w : World} {cs : Array Value} {t : TypeId} {fr : Nat × Nat} (h : MapAt m w) (hx : w.heap[X]? = some (.cells cs t fr)) : m ≠ X := by
  rintro rfl
  obtain ⟨es, clock, h, _⟩ := h
  rw [h] at hx; cases hx
abbrev ZC : Obj := .cells #[.int .u64 0, .bool false] 58
theorem mid2 {n m : Nat} (b : BitVec 64) {i : Ins} {w w1 w2 w3 : World} (hS : Stand i w w1) (hn : n < w.heap.size) (hM : Made n m w2) (hO : Oth n w1.drew w2) (hB : Below (w2.alloc ZC).heap.size (w2.alloc ZC) w3) : Mid n w2.heap.size b i w ((w3.setCell ⟨w2.heap.size, 0, none⟩ (.int .u64 (U b))).setCell ⟨w2.heap.size, 1, none⟩ (.bool false)) := by
  have h1 := (Stand.ins hS).facts.1
  have h2 : w1.heap.size ≤ w2.heap.size := hO.size
  have bx := one_box w2 ZC
  have h4 : (w2.alloc ZC).heap.size = w2.heap.size + 1 := by simp
  have h3 := hB.size
  have hI : InsAt i w.heap.size w2 := InsAt.oth (w := w1.drew) hS.1 hO (by omega)
  have hI3 := (hI.below bx (by omega)).below hB (by omega)
  have o2 : Oth n w w2 := (Oth.of (Stand.below hS)).trans (w1 := w1.drew) hO
  have so := set_oth w2.heap.size w3 (.int .u64 (U b)) (.bool false)
  have hX : w3.heap[w2.heap.size]? = some ZC := (hB.block _ (by omega)).trans (heap_new w2 _)
  have hM3 := (hM.below bx).below hB
  refine ⟨car_set hX, hI3.oth so (by omega), .inr ⟨m, hM3.oth so (by have := hM.1.facts.1; omega) (map_ne hM3.2.1 hX)⟩, ?_, by omega, by omega, by omega, by omega, by have := so.size; omega⟩
  have o3 := (o2.trans (Oth.of bx)).trans (Oth.of hB)
  exact ⟨so.1.trans o3.1, so.2.1.trans o3.2.1, so.2.2.1.trans o3.2.2.1, Nat.le_trans o3.size so.size, fun j hj hne => (so.2.2.2.2 j (Nat.lt_of_lt_of_le hj o3.size) (by omega)).trans (o3.2.2.2.2 j hj hne)⟩
theorem mid3 {n m : Nat} (b : BitVec 64) {i : Ins} {w w1 w2 w3 : World} (hS : Stand i w w1) (hn : n < w.heap.size) (hM : Made n m w2) (hO : Oth n (w1.alloc ZC).drew w2) (hB : Below w2.heap.size w2 w3) : Mid n w1.heap.size b i w ((w3.setCell ⟨w1.heap.size, 0, none⟩ (.int .u64 (U b))).setCell ⟨w1.heap.size, 1, none⟩ (.bool false)) := by
  have h1 := (Stand.ins hS).facts.1
  have bx := one_box w1 ZC
  have h4 : (w1.alloc ZC).heap.size = w1.heap.size + 1 := by simp
  have h2 : (w1.alloc ZC).heap.size ≤ w2.heap.size := hO.size
  have h3 := hB.size
  have hI0 : InsAt i w.heap.size (w1.alloc ZC).drew := (Stand.ins hS).below bx.drew h1
  have hI3 := (InsAt.oth hI0 hO (by omega)).below hB (by omega)
  have o1 : Oth n w1 (w1.alloc ZC).drew := Oth.of bx.drew
  have o2 : Oth n w w2 := ((Oth.of (Stand.below hS)).trans o1).trans hO
  have so := set_oth w1.heap.size w3 (.int .u64 (U b)) (.bool false)
  have hX0 : (w1.alloc ZC).drew.heap[w1.heap.size]? = some ZC := heap_new w1 _
  have hX : w3.heap[w1.heap.size]? = some ZC := (hB.block _ (by omega)).trans ((hO.2.2.2.2 _ (by show w1.heap.size < (w1.alloc ZC).heap.size; omega) (by omega)).trans hX0)
  have hM3 := hM.below hB
  refine ⟨car_set hX, hI3.oth so (by omega), .inr ⟨m, hM3.oth so (by omega) (map_ne hM3.2.1 hX)⟩, ?_, by omega, by omega, by omega, by omega, by have := so.size; have := o2.size; omega⟩
  have o3 := o2.trans (Oth.of hB)
  exact ⟨so.1.trans o3.1, so.2.1.trans o3.2.1, so.2.2.1.trans o3.2.2.1, Nat.le_trans o3.size so.size, fun j hj hne => (so.2.2.2.2 j (Nat.lt_of_lt_of_le hj o3.size) (by have := (Stand.below hS).size; omega)).trans (o3.2.2.2.2 j hj hne)⟩
theorem BookOk.oth2 {n r q : Nat} {w w' : World} (h : BookOk n w) (ho : Oth2 r q w w') (hn : n ≠ r) (hq : n ≠ q) (hr : ∃ cs t fr, w.heap[r]? = some (.cells cs t fr)) (hqq : ∃ cs t fr, w.heap[q]? = some (.cells cs t fr)) : BookOk n w' := by
  obtain ⟨_, _, _, hr⟩ := hr
  obtain ⟨_, _, _, hqq⟩ := hqq
  rcases h with ⟨d, h⟩ | ⟨m, h⟩
  · exact .inl ⟨d, (ho.2.2.2.2 n h.facts.1 hn hq).trans h⟩
  · refine .inr ⟨m, (ho.2.2.2.2 n h.1.facts.1 hn hq).trans h.1, ?_, h.2.2⟩
    have hb := h.2.1.lt
    have e := ho.2.2.2.2 m hb (map_ne h.2.1 hr) (map_ne h.2.1 hqq)
    obtain ⟨es, clock, hh, r⟩ := h.2.1
    exact ⟨es, clock, e.trans hh, r⟩
theorem Mid.end_ {n X : Nat} {b : BitVec 64} {i : Ins} {w W W2 : World} (h : Mid n X b i w W) (hO : Oth2 X w.heap.size W W2) : BookOk n W2 ∧ Oth n w W2 :=
  ⟨h.book.oth2 hO h.nx h.ni ⟨_, _, _, h.car⟩ ⟨_, _, _, h.ins⟩, ⟨hO.1.trans h.all.1, hO.2.1.trans h.all.2.1, hO.2.2.1.trans h.all.2.2.1, Nat.le_trans h.all.size hO.size, fun j hj hne =>
    (hO.2.2.2.2 j (Nat.lt_of_lt_of_le hj h.all.size) (by have := h.low; omega) (by omega)).trans (h.all.2.2.2.2 j hj hne)⟩⟩
def WordOk (n : Nat) (x y : Value) (w : World) (e : Ending) (w' : World) : Prop := e = .returned (.tuple #[x, y]) ∧ BookOk n w' ∧ Oth n w w'
set_option maxRecDepth 100000 in
set_option maxHeartbeats 1600000 in
theorem word_no (n : Nat) (i : Ins) (hk : i.ok = false) (w : World) (hb : BookOk n w) : Calls Tryz.prog 16 #[.pointer (some ⟨n, 0, none⟩), i.V] w fun e w' => WordOk n (.int .u32 0) (.int .i64 2) w e w' := by
  have H0 := Lib.hid (Stand.start i w)
  have HK := Lib.hid hk
  have HB := Lib.hid hb
  clear hk hb
  obtain ⟨op, rd, rs1, rs2, imm, aq, rl, pred, succ⟩ := i
  obtain ⟨hz, c0, c1, c2, c3, c4, c5, c6, c7, c8⟩ := (Stand.ins H0.out).facts
  simp only [Ins.V] at c0 c1 c2 c3 c4 c5 c6 c7 c8 ⊢
  go_enter Tryz.func16, Tryz.ntmps16
  go_wp2_with (go_at_call 26; (with_reducible refine (Check_no ⟨op, rd, rs1, rs2, imm, aq, rl, pred, succ⟩ HK _).mono ?_); rintro e w1 ⟨rfl, hb⟩; have B1 := Lib.hid (Stand.below (Stand.on H0.out hb)); clear hb)
  go_ret2
  exact ⟨rfl, HB.out.below B1.out, Oth.of B1.out⟩
set_option maxRecDepth 100000 in
set_option maxHeartbeats 1600000 in
theorem word_yes (n : Nat) (i : Ins) (hk : i.ok = true) (h0 : -9223372036854775808 ≤ i.imm) (h1 : i.imm ≤ 9223372036854775807) (w : World) (hb : BookOk n w) : Calls Tryz.prog 16 #[.pointer (some ⟨n, 0, none⟩), i.V] w fun e w' => WordOk n (.int .u32 (U (wordL i))) (.int .i64 0) w e w' := by
  have hfair : Fair i := ⟨may_of i hk, h0, h1⟩
  obtain ⟨k, hk0, hop, hop2⟩ := op_form i hfair.may
  have HW : Hid ((carryL false (bareP (codeOf k.1)) i).1 = wordL i) := Lib.hid (by have := carry_word i hfair; rw [hop2] at this; exact this)
  have hu : IntKind.u32.wrap (U (wordL i)) = U (wordL i) := by
    have := word_lt i hfair.may
    unfold U; rw [IntKind.wrap_u32]; omega
  have hkk : 1 ≤ k.1 ∧ k.1 ≤ 87 := by have := k.2; omega
  obtain ⟨k, hk88⟩ := k
  simp only at hk0 hop hop2 HW hkk
  have HOP := Lib.hid hop
  have H0 := Lib.hid (Stand.start i w)
  have HK := Lib.hid hk
  have HB := Lib.hid hb
  have hn := hb.lt
  clear hop
  have hz0 : n ≠ w.heap.size := by omega
  clear hk hb hfair h0 h1 hop2 hk0
  obtain ⟨hz, c0, c1, c2, c3, c4, c5, c6, c7, c8⟩ := (Stand.ins H0.out).facts
  go_enter Tryz.func16, Tryz.ntmps16
  go_wp2_with (go_at_call 26; (with_reducible refine (Check_ok i HK _).mono ?_); rintro e w1 ⟨rfl, hb⟩; have S1 := Lib.hid (Stand.on H0.out hb); clear hb hz c0 c1 c2 c3 c4 c5 c6 c7 c8)
  have BK1 := Lib.hid (HB.out.below (Stand.below S1.out))
  have BK1d : Hid (BookOk n w1.drew) := BK1
  have BK1a : Hid (BookOk n (w1.drew.alloc (.cells #[.int .u64 0, .bool false] 58))) := Lib.hid (BookOk.below BK1d.out (one_box _ _))
  have BK1b : Hid (BookOk n (w1.alloc (.cells #[.int .u64 0, .bool false] 58)).drew) := Lib.hid (BookOk.below BK1.out (one_box w1 _).drew)
  have hne1 : ¬ w1.heap.size = n := by have := BK1.out.lt; omega
  obtain ⟨hz, c0, -, -, -, -, -, -, -, -⟩ := (Stand.ins S1.out).facts
  rw [HOP.out] at c0
  go_region_held3 (fun w' => w'.cell? ⟨w.heap.size, 0, none⟩ = some (.int .i64 (k : Int)))
    (first
      | exact c0
      | exact (World.cell?_alloc_past _ _ _ hz).trans c0
      | exact (World.cell?_alloc_past _ _ _ hz2).trans c0
      | exact (World.cell?_alloc_past _ _ _ hz3).trans c0
      | exact keep2 (by omega) c0
      | go_keep)
    ((first
      | (go_at_call 23; (with_reducible refine (parts_any n _ BK1d.out).mono ?_); rintro e w2 ⟨m, rfl, hM, hO⟩; have M2 := Lib.hid hM; have O2 := Lib.hid hO; have hq := look_parts m k w2 hM.2.1 hkk.1 hkk.2; have hqa := look_parts m k (w2.alloc (.cells #[.int .u64 0, .bool false] 58)) (hM.2.1.alloc _) hkk.1 hkk.2; have hc2 := oth_cells hO; have hf2 := oth_frozen hO; have d0 : w2.cell? ⟨w.heap.size, 0, none⟩ = some (.int .i64 (k : Int)) := ((World.cell?_of_block (a := ⟨w.heap.size, 0, none⟩) (hO.2.2.2.2 w.heap.size hz (fun e => hz0 e.symm))).trans (by first | exact c0 | exact (World.cell?_alloc_past _ _ _ hz).trans c0)); have hz2 : w.heap.size < w2.heap.size := (Nat.lt_of_lt_of_le hz (by have := hO.size; (try simp at this); omega)); clear c0 hM hO; have c0 := d0; clear d0)
      | (go_at_call 23; (with_reducible refine (parts_any n _ BK1a.out).mono ?_); rintro e w2 ⟨m, rfl, hM, hO⟩; have M2 := Lib.hid hM; have O2 := Lib.hid hO; have hq := look_parts m k w2 hM.2.1 hkk.1 hkk.2; have hqa := look_parts m k (w2.alloc (.cells #[.int .u64 0, .bool false] 58)) (hM.2.1.alloc _) hkk.1 hkk.2; have hc2 := oth_cells hO; have hf2 := oth_frozen hO; have hz21 : w1.heap.size < w2.heap.size := (by have := hO.size; (try simp at this); omega); have d0 : w2.cell? ⟨w.heap.size, 0, none⟩ = some (.int .i64 (k : Int)) := ((World.cell?_of_block (a := ⟨w.heap.size, 0, none⟩) (hO.2.2.2.2 w.heap.size (by simp; omega) (fun e => hz0 e.symm))).trans (by first | exact c0 | exact (World.cell?_alloc_past _ _ _ hz).trans c0)); have hz2 : w.heap.size < w2.heap.size := (Nat.lt_of_lt_of_le hz (by have := hO.size; (try simp at this); omega)); clear c0 hM hO; have c0 := d0; clear d0)
      | (go_at_call 23; (with_reducible refine (parts_any n _ BK1b.out).mono ?_); rintro e w2 ⟨m, rfl, hM, hO⟩; have M2 := Lib.hid hM; have O2 := Lib.hid hO; have hq := look_parts m k w2 hM.2.1 hkk.1 hkk.2; have hqa := look_parts m k (w2.alloc (.cells #[.int .u64 0, .bool false] 58)) (hM.2.1.alloc _) hkk.1 hkk.2; have hc2 := oth_cells hO; have hf2 := oth_frozen hO; have hz21 : w1.heap.size < w2.heap.size := (by have := hO.size; (try simp at this); omega); have d0 : w2.cell? ⟨w.heap.size, 0, none⟩ = some (.int .i64 (k : Int)) := ((World.cell?_of_block (a := ⟨w.heap.size, 0, none⟩) (hO.2.2.2.2 w.heap.size (by simp; omega) (fun e => hz0 e.symm))).trans (by first | exact c0 | exact (World.cell?_alloc_past _ _ _ hz).trans c0)); have hz2 : w.heap.size < w2.heap.size := (Nat.lt_of_lt_of_le hz (by have := hO.size; (try simp at this); omega)); clear c0 hM hO; have c0 := d0; clear d0)
      | (go_at_call 27; (with_reducible refine (bare_code k hkk.2 _).mono ?_); rintro e w3 ⟨rfl, hb⟩; have B3 := Lib.hid hb; obtain ⟨hc3, hf3⟩ := bcell hb; have hz3 : w.heap.size < w3.heap.size := (Nat.lt_of_lt_of_le hz2 (by have := hb.size; (try simp at this); omega)); have d0 : w3.cell? ⟨w.heap.size, 0, none⟩ = some (.int .i64 (k : Int)) := ((hb.cell (p := ⟨w.heap.size, 0, none⟩) (by (try simp); omega)).trans (by first | exact c0 | exact (World.cell?_alloc_past _ _ _ hz2).trans c0)); clear c0 hb; have c0 := d0; clear d0)))
  all_goals
    first
      | (have HM := Lib.hid (mid1 (bareP (codeOf k)) S1.out hn M2.out O2.out B3.out); generalize w3.alloc (.cells #[.int .u64 (U (bareP (codeOf k))), .bool false] 58) = Wf at HM ⊢)
      | (have HM := Lib.hid (mid2 (bareP (codeOf k)) S1.out hn M2.out O2.out B3.out); generalize (w3.setCell ⟨w2.heap.size, 0, none⟩ (.int .u64 (U (bareP (codeOf k))))).setCell ⟨w2.heap.size, 1, none⟩ (.bool false) = Wf at HM ⊢)
      | (have HM := Lib.hid (mid3 (bareP (codeOf k)) S1.out hn M2.out O2.out B3.out); generalize (w3.setCell ⟨w1.heap.size, 0, none⟩ (.int .u64 (U (bareP (codeOf k))))).setCell ⟨w1.heap.size, 1, none⟩ (.bool false) = Wf at HM ⊢)
    clear hq hqa hc2 hf2 hc3 hf3 c0 hz3 hz2 B3 M2 O2 BK1 BK1d BK1a BK1b S1
    go_wp2_with (go_at_call 15; (with_reducible refine (carry_any _ _ _ _ _ _ HM.out.ne HM.out.car HM.out.ins).mono ?_); rintro e w5 ⟨rfl, hC, hI, hO⟩; have C5 := Lib.hid hC; have O5 := Lib.hid hO; obtain ⟨-, b0, -, -⟩ := hC.facts; rw [HW.out] at b0; clear hC hI hO)
    go_ret2
    exact ⟨rfl, HM.out.end_ O5.out⟩
end Go.Proofs.YtbchecnidiiddaaGreatDoor
