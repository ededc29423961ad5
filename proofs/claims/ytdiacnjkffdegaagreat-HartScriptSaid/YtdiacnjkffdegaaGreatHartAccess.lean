/-
  Proved here: what the package hart asks of memory: it panics with the end that the chapter has, or answers; it writes nothing that was there. Condition: the registers are 0 to 31.
-/
import Derived.Test.YtdiacnjkffdegaaGreatHartMay
import Derived.Test.YtdiacnjkffdegaaGreatInsnTables
import Derived.Test.YtdiacnjkffdegaaGreatAluCallsWalk
import Derived.StillTailTactics
import Derived.Deep.RegionHeld3
namespace Go.Proofs.YtdiacnjkffdegaaGreat
open Go.RowKit
def kindI (op : Int) : Int := if op = 14 then 1 else if op = 21 then 2 else if op = 67 then 3 else if op = 69 then 4 else 5
theorem kind_any (op : Int) (w : World) : Calls Tryz.prog 64 #[.int .i64 op] w fun e w' => e = .returned (.int .i64 (kindI op)) ∧ w = w' := by
  have HK := Lib.hid (show kindI op = if op = 14 then 1 else if op = 21 then 2 else if op = 67 then 3 else if op = 69 then 4 else 5 from rfl)
  go_enter Tryz.func64, Tryz.ntmps64
  go_wp2
  all_goals
    go_ret
    refine ⟨congrArg (fun n => Ending.returned (.int .i64 n)) ?_, rfl⟩
    rw [HK.out]
    repeat' split
    all_goals first | omega | (simp_all; done)
abbrev endV (how : Int) (code : BitVec 64) : List PanicEntry := [{ v := .iface 45 (.agg #[.int .i64 how, .int .u64 (U code)]), recovered := false }]
theorem index_x (n a : Nat) (ha : a < 32) (w : World) : (Instr.indexAt 23 (.pointer (some ⟨n, 1, none⟩)) (.int .i64 (a : Int))).run Tryz.prog w = .ok (.pointer (some ⟨n, 1 + a, none⟩)) w := by
  have h1 : (0 : Int) ≤ a ∧ (a : Int) < 32 := by omega
  simp [Instr.indexAt, go_sem, Tryz.sizeOf22, Instr.sureAddr, h1, ha, Addr.add]
/-- what is answered lies there: eight cells -/
def AskV (u : Value) : Prop := ∃ cs : Array Value, cs.size = 8 ∧ cs.all (·.oneCell') = true ∧ u = .agg cs
def AskAt (n : Nat) (w : World) : Prop := ∃ cs : Array Value, cs.size = 8 ∧ cs.all (·.oneCell') = true ∧ w.heap[n]? = some (.cells cs 37 (0, 0))
theorem AskAt.alloc {n : Nat} {w : World} (H : AskAt n w) (o : Obj) : AskAt n (w.alloc o) := by
  obtain ⟨cs, hs, h1, hh⟩ := H
  exact ⟨cs, hs, h1, (Below.heap_alloc w o n (Array.getElem?_eq_some_iff.1 hh).1).trans hh⟩
theorem AskAt.drew {n : Nat} {w : World} (H : AskAt n w) : AskAt n w.drew := H
theorem AskAt.below {n B : Nat} {w w' : World} (H : AskAt n w) (hb : Below B w w') (hn : n < B) : AskAt n w' := by
  obtain ⟨cs, hs, h1, hh⟩ := H
  exact ⟨cs, hs, h1, (hb.block n hn).trans hh⟩
theorem all_set (cs : Array Value) (i : Nat) (v : Value) (h : cs.all (·.oneCell') = true) (hv : v.oneCell' = true) : (cs.setIfInBounds i v).all (·.oneCell') = true := by
  rw [Array.all_eq_true] at h ⊢
  intro j hj
  rw [Array.getElem_setIfInBounds (by simpa using hj)]
  split
  · exact hv
  · exact h j (by simpa using hj)
theorem AskAt.setCell {n : Nat} {w : World} (H : AskAt n w) (a : Addr) (v : Value) (hv : v.oneCell' = true) : AskAt n (w.setCell a v) := by
  obtain ⟨cs, hs, h1, hh⟩ := H
  by_cases e : n = a.block
  · have hl := (Array.getElem?_eq_some_iff.1 hh).1
    subst e
    unfold World.setCell
    refine ⟨if a.spot.isSome then cs else cs.setIfInBounds a.off v, by split <;> simp [hs], by split; exact h1; exact all_set cs _ v h1 hv, ?_⟩
    simp only [Array.getElem?_modify, if_true, hh, Option.map_some]
  · exact ⟨cs, hs, h1, (Below.heap_setCell w a v n e).trans hh⟩
theorem AskAt.new (w : World) (x0 : Int) (x1 x2 : Int) (x3 : Int) (x4 x5 : Bool) (x6 x7 : Int) : AskAt w.heap.size (w.alloc (.cells #[.int .i64 x0, .int .u64 x1, .int .u64 x2, .int .i64 x3, .bool x4, .bool x5, .int .i64 x6, .int .i64 x7] 37)) := ⟨_, rfl, by simp [Value.oneCell'], Array.getElem?_push_size⟩
theorem ask_ret {fn : Func} {p : Tmp} {n : Nat} {a : Act} {w : World} {R : Ending → World → Prop} (H : AskAt n w) (hf : fn.results = #[.cell p 37]) (hp : a.tmps.getD p undef = .pointer (some ⟨n, 0, none⟩)) (hd : a.defers = []) (hR : ∀ u, AskV u → R (.returned u) w) :
    bodyPost Tryz.prog fn R .ret a w := by
  obtain ⟨cs, hs, h1, hh⟩ := H
  exact bodyPost_ret (results_cell_row hf a.tmps w n 37 cs (0, 0) _ hp hh Tryz.underlying37 rfl (by rw [hs]; as_aux_lemma => kernel_rfl)) hd (hR _ ⟨cs, hs, h1, rfl⟩)
theorem store_ask {ops : Array Oper} {rest : List Oper} {o : Oper} {a : Act} {w : World} {Q : Exit → Act → World → Prop} {n : Nat} (H : AskAt n w) {cs : Array Value} (hs : cs.size = 8) (h1 : cs.all (·.oneCell') = true) (hgd : o.guard = none) (x y : Operand) (ho : o.op = .store 37 x y)
    (hx : a.eval x = .pointer (some ⟨n, 0, none⟩)) (hy : a.eval y = .agg cs) (k : ∀ w1, AskAt n w1 → Below n w w1 → wpList Tryz.prog ops Q rest (a.put o.dst undef) w1) : wpList Tryz.prog ops Q (o :: rest) a w := by
  obtain ⟨c0, hs0, _, hh⟩ := H
  refine wpList_store_row hgd 37 x y ho n cs hx hy 37 c0 hh (by rw [hs]; as_aux_lemma => kernel_rfl) (by rw [hs0, hs]) h1 (k _ ⟨cs, hs, h1, setRow_heap w n _ _ _ _ hh⟩ ?_)
  exact (Below.refl _ _).trans ⟨rfl, rfl, rfl, by simp, fun j hj => setRow_other _ _ _ _ (by omega)⟩
set_option maxRecDepth 100000 in
theorem access_size (op : Int) (d a b : Nat) (v : BitVec 64) (aq rl : Bool) (p q : Int) (n : Nat) (w : World) (hs : (sizeOf' op == 8) = false) :
    Calls Tryz.prog 42 #[.pointer (some ⟨n, 0, none⟩), insV op d a b (S v) aq rl p q] w fun e w' => e = .panicked (endV 5 0) ∧ Below w.heap.size w w' := by
  have HM := Lib.hid (Memory_any op)
  go_enter Tryz.func42, Tryz.ntmps42
  go_wp2_with (first | (go_at_call 63; (with_reducible refine (HM.out _).mono ?_); rintro e w1 ⟨rfl, hb⟩; obtain ⟨hc1, hf1⟩ := bcell hb; have HB := Lib.hid hb; clear hb))
  refine ⟨rfl, rfl, ?_⟩
  exact ((((Below.refl _ _).alloc (Nat.le_refl _) _).alloc (by simp) _).trans (HB.out.mono (by first | omega | (simp; omega) | simp)))
set_option maxHeartbeats 2000000 in
set_option maxRecDepth 100000 in
theorem access_align (op : Int) (d a b : Nat) (ha : a < 32) (hb' : b < 32) (v : BitVec 64) (aq rl : Bool) (p q : Int) (n : Nat) (h : Ha) (w : World) (hs : (sizeOf' op == 8) = true) (hal : ((U (h.x a + v)).tmod 8 == 0) = false) (H : HAt 48 h n w) :
    Calls Tryz.prog 42 #[.pointer (some ⟨n, 0, none⟩), insV op d a b (S v) aq rl p q] w fun e w' => e = .panicked (endV 4 0) ∧ Below w.heap.size w w' := by
  have HM := Lib.hid (Memory_any op)
  have hn := H.lt
  have cb := H.cx b hb'
  have ca := H.cx a ha
  have t1 := wrapU_S v
  have t2 := add_U (h.x a) v
  have ia := index_x n a ha
  have ib := index_x n b hb'
  go_enter Tryz.func42, Tryz.ntmps42
  go_upto_region 4 with (first | (go_at_call 63; (with_reducible refine (HM.out _).mono ?_); rintro e w1 ⟨rfl, hb⟩; obtain ⟨hc1, hf1⟩ := bcell hb; have hz1 : w.heap.size + 1 < w1.heap.size := (by have := hb.size; simp at this; omega); have HB := Lib.hid hb; clear hb))
  have H1 : HAt 48 h n w1 := ((H.alloc _).alloc _).below HB.out (by first | omega | (simp; omega) | simp)
  have HB0 : Hid (Below w.heap.size w w1) := Lib.hid ((((Below.refl _ _).alloc (Nat.le_refl _) _).alloc (by simp) _).trans (HB.out.mono (by first | omega | (simp; omega) | simp)))
  have HA1 : Hid (AskAt (w.heap.size + 1) w1) := Lib.hid (by have := AskAt.new (w.alloc (.cells #[.int .i64 op, .int .i64 (d : Int), .int .i64 (a : Int), .int .i64 (b : Int), .int .i64 (S v), .bool aq, .bool rl, .int .i64 p, .int .i64 q] 34)) 0 0 0 0 false false 0 0; simp at this; exact this.below HB.out (by simp))
  have ca1 := H1.cx a ha
  have cb1 := H1.cx b hb'
  have hx0 : w1.cell? ⟨w.heap.size, 0, none⟩ = some (.int .i64 op) := by go_simp
  have hx2 : w1.cell? ⟨w.heap.size, 2, none⟩ = some (.int .i64 (a : Int)) := by go_simp
  have hx3 : w1.cell? ⟨w.heap.size, 3, none⟩ = some (.int .i64 (b : Int)) := by go_simp
  have hx4 : w1.cell? ⟨w.heap.size, 4, none⟩ = some (.int .i64 (S v)) := by go_simp
  have hx5 : w1.cell? ⟨w.heap.size, 5, none⟩ = some (.bool aq) := by go_simp
  have hx6 : w1.cell? ⟨w.heap.size, 6, none⟩ = some (.bool rl) := by go_simp
  have hn1 := H1.lt
  have hz2 : w.heap.size < w1.heap.size := by omega
  have hz3 : w.heap.size ≤ w1.heap.size := by omega
  go_region_held3 (fun w' => w'.cell? ⟨w.heap.size, 0, none⟩ = some (.int .i64 op) ∧ w'.cell? ⟨w.heap.size, 2, none⟩ = some (.int .i64 (a : Int)) ∧ w'.cell? ⟨w.heap.size, 4, none⟩ = some (.int .i64 (S v)) ∧ w'.cell? ⟨w.heap.size, 5, none⟩ = some (.bool aq) ∧ w'.cell? ⟨w.heap.size, 6, none⟩ = some (.bool rl) ∧ w'.cell? ⟨n, 1 + a, none⟩ = some (.int .u64 (U (h.x a)))) (go_keep) ((go_at_call 64; (with_reducible refine (kind_any _ _).mono ?_); rintro e w2 ⟨rfl, rfl⟩))
  all_goals
    go_wp2_with fail
    refine ⟨rfl, rfl, ?_⟩
    (repeat first | with_reducible exact HB0.out | with_reducible refine Below.drew ?_ | with_reducible refine Below.alloc ?_ (by first | omega | (simp; omega) | simp) _ | with_reducible refine Below.setCell ?_ (by first | omega | (simp; omega) | simp) _)
set_option maxHeartbeats 2000000 in
set_option maxRecDepth 100000 in
theorem access_load (op : Int) (d a b : Nat) (ha : a < 32) (hb' : b < 32) (v : BitVec 64) (aq rl : Bool) (p q : Int) (n : Nat) (h : Ha) (w : World) (hs : (sizeOf' op == 8) = true) (hal : ((U (h.x a + v)).tmod 8 == 0) = true) (hst : storesB op = false) (H : HAt 48 h n w) :
    Calls Tryz.prog 42 #[.pointer (some ⟨n, 0, none⟩), insV op d a b (S v) aq rl p q] w fun e w' => (∃ u, AskV u ∧ e = .returned u) ∧ Below w.heap.size w w' := by
  have HM := Lib.hid (Memory_any op)
  have hn := H.lt
  have cb := H.cx b hb'
  have ca := H.cx a ha
  have t1 := wrapU_S v
  have t2 := add_U (h.x a) v
  have ia := index_x n a ha
  have ib := index_x n b hb'
  go_enter Tryz.func42, Tryz.ntmps42
  go_upto_region 4 with (first | (go_at_call 63; (with_reducible refine (HM.out _).mono ?_); rintro e w1 ⟨rfl, hb⟩; obtain ⟨hc1, hf1⟩ := bcell hb; have hz1 : w.heap.size + 1 < w1.heap.size := (by have := hb.size; simp at this; omega); have HB := Lib.hid hb; clear hb))
  have H1 : HAt 48 h n w1 := ((H.alloc _).alloc _).below HB.out (by first | omega | (simp; omega) | simp)
  have HB0 : Hid (Below w.heap.size w w1) := Lib.hid ((((Below.refl _ _).alloc (Nat.le_refl _) _).alloc (by simp) _).trans (HB.out.mono (by first | omega | (simp; omega) | simp)))
  have HA1 : Hid (AskAt (w.heap.size + 1) w1) := Lib.hid (by have := AskAt.new (w.alloc (.cells #[.int .i64 op, .int .i64 (d : Int), .int .i64 (a : Int), .int .i64 (b : Int), .int .i64 (S v), .bool aq, .bool rl, .int .i64 p, .int .i64 q] 34)) 0 0 0 0 false false 0 0; simp at this; exact this.below HB.out (by simp))
  have ca1 := H1.cx a ha
  have cb1 := H1.cx b hb'
  have hx0 : w1.cell? ⟨w.heap.size, 0, none⟩ = some (.int .i64 op) := by go_simp
  have hx2 : w1.cell? ⟨w.heap.size, 2, none⟩ = some (.int .i64 (a : Int)) := by go_simp
  have hx3 : w1.cell? ⟨w.heap.size, 3, none⟩ = some (.int .i64 (b : Int)) := by go_simp
  have hx4 : w1.cell? ⟨w.heap.size, 4, none⟩ = some (.int .i64 (S v)) := by go_simp
  have hx5 : w1.cell? ⟨w.heap.size, 5, none⟩ = some (.bool aq) := by go_simp
  have hx6 : w1.cell? ⟨w.heap.size, 6, none⟩ = some (.bool rl) := by go_simp
  have hn1 := H1.lt
  have hz2 : w.heap.size < w1.heap.size := by omega
  have hz3 : w.heap.size ≤ w1.heap.size := by omega
  go_region_held3 (fun w' => w'.cell? ⟨w.heap.size, 0, none⟩ = some (.int .i64 op) ∧ w'.cell? ⟨w.heap.size, 2, none⟩ = some (.int .i64 (a : Int)) ∧ w'.cell? ⟨w.heap.size, 4, none⟩ = some (.int .i64 (S v)) ∧ w'.cell? ⟨w.heap.size, 5, none⟩ = some (.bool aq) ∧ w'.cell? ⟨w.heap.size, 6, none⟩ = some (.bool rl) ∧ w'.cell? ⟨n, 1 + a, none⟩ = some (.int .u64 (U (h.x a)))) (go_keep) ((go_at_call 64; (with_reducible refine (kind_any _ _).mono ?_); rintro e w2 ⟨rfl, rfl⟩))
  all_goals
    go_wp2_with fail
    all_goals
      (try simp only [Exit.inBlock, Exit.then])
      refine ask_ret (n := w.heap.size + 1) ?_ rfl rfl rfl fun u hu => ⟨⟨u, hu, rfl⟩, ?_⟩
      · (repeat first | with_reducible exact HA1.out | with_reducible refine AskAt.drew ?_ | with_reducible refine AskAt.alloc ?_ _ | with_reducible refine AskAt.setCell ?_ _ _ (by first | rfl | simp [Value.oneCell']))
      (repeat first | with_reducible exact HB0.out | with_reducible refine Below.drew ?_ | with_reducible refine Below.alloc ?_ (by first | omega | (simp; omega) | simp) _ | with_reducible refine Below.setCell ?_ (by first | omega | (simp; omega) | simp) _)
set_option maxHeartbeats 2000000 in
set_option maxRecDepth 100000 in
theorem access_store (op : Int) (d a b : Nat) (ha : a < 32) (hb' : b < 32) (v : BitVec 64) (aq rl : Bool) (p q : Int) (n : Nat) (h : Ha) (w : World) (hs : (sizeOf' op == 8) = true) (hal : ((U (h.x a + v)).tmod 8 == 0) = true) (hst : storesB op = true) (H : HAt 48 h n w) :
    Calls Tryz.prog 42 #[.pointer (some ⟨n, 0, none⟩), insV op d a b (S v) aq rl p q] w fun e w' => (∃ u, AskV u ∧ e = .returned u) ∧ Below w.heap.size w w' := by
  have HM := Lib.hid (Memory_any op)
  have hn := H.lt
  have cb := H.cx b hb'
  have ca := H.cx a ha
  have t1 := wrapU_S v
  have t2 := add_U (h.x a) v
  have ia := index_x n a ha
  have ib := index_x n b hb'
  go_enter Tryz.func42, Tryz.ntmps42
  go_upto_region 4 with (first | (go_at_call 63; (with_reducible refine (HM.out _).mono ?_); rintro e w1 ⟨rfl, hb⟩; obtain ⟨hc1, hf1⟩ := bcell hb; have hz1 : w.heap.size + 1 < w1.heap.size := (by have := hb.size; simp at this; omega); have HB := Lib.hid hb; clear hb))
  have H1 : HAt 48 h n w1 := ((H.alloc _).alloc _).below HB.out (by first | omega | (simp; omega) | simp)
  have HB0 : Hid (Below w.heap.size w w1) := Lib.hid ((((Below.refl _ _).alloc (Nat.le_refl _) _).alloc (by simp) _).trans (HB.out.mono (by first | omega | (simp; omega) | simp)))
  have HA1 : Hid (AskAt (w.heap.size + 1) w1) := Lib.hid (by have := AskAt.new (w.alloc (.cells #[.int .i64 op, .int .i64 (d : Int), .int .i64 (a : Int), .int .i64 (b : Int), .int .i64 (S v), .bool aq, .bool rl, .int .i64 p, .int .i64 q] 34)) 0 0 0 0 false false 0 0; simp at this; exact this.below HB.out (by simp))
  have ca1 := H1.cx a ha
  have cb1 := H1.cx b hb'
  have hx0 : w1.cell? ⟨w.heap.size, 0, none⟩ = some (.int .i64 op) := by go_simp
  have hx2 : w1.cell? ⟨w.heap.size, 2, none⟩ = some (.int .i64 (a : Int)) := by go_simp
  have hx3 : w1.cell? ⟨w.heap.size, 3, none⟩ = some (.int .i64 (b : Int)) := by go_simp
  have hx4 : w1.cell? ⟨w.heap.size, 4, none⟩ = some (.int .i64 (S v)) := by go_simp
  have hx5 : w1.cell? ⟨w.heap.size, 5, none⟩ = some (.bool aq) := by go_simp
  have hx6 : w1.cell? ⟨w.heap.size, 6, none⟩ = some (.bool rl) := by go_simp
  have hn1 := H1.lt
  have hz2 : w.heap.size < w1.heap.size := by omega
  have hz3 : w.heap.size ≤ w1.heap.size := by omega
  go_region_held3 (fun w' => w'.cell? ⟨w.heap.size, 0, none⟩ = some (.int .i64 op) ∧ w'.cell? ⟨w.heap.size, 2, none⟩ = some (.int .i64 (a : Int)) ∧ w'.cell? ⟨w.heap.size, 4, none⟩ = some (.int .i64 (S v)) ∧ w'.cell? ⟨w.heap.size, 5, none⟩ = some (.bool aq) ∧ w'.cell? ⟨w.heap.size, 6, none⟩ = some (.bool rl) ∧ w'.cell? ⟨n, 1 + a, none⟩ = some (.int .u64 (U (h.x a)))) (go_keep) ((go_at_call 64; (with_reducible refine (kind_any _ _).mono ?_); rintro e w2 ⟨rfl, rfl⟩))
  all_goals
    go_wp2_with fail
    go_region_held3 (fun w' => w'.cell? ⟨w.heap.size, 3, none⟩ = some (.int .i64 (b : Int)) ∧ w'.cell? ⟨n, 1 + b, none⟩ = some (.int .u64 (U (h.x b)))) (go_keep) ((fail))
    go_wp2_with fail
    all_goals
      (try simp only [Exit.inBlock, Exit.then])
      refine ask_ret (n := w.heap.size + 1) ?_ rfl rfl rfl fun u hu => ⟨⟨u, hu, rfl⟩, ?_⟩
      · (repeat first | with_reducible exact HA1.out | with_reducible refine AskAt.drew ?_ | with_reducible refine AskAt.alloc ?_ _ | with_reducible refine AskAt.setCell ?_ _ _ (by first | rfl | simp [Value.oneCell']))
      (repeat first | with_reducible exact HB0.out | with_reducible refine Below.drew ?_ | with_reducible refine Below.alloc ?_ (by first | omega | (simp; omega) | simp) _ | with_reducible refine Below.setCell ?_ (by first | omega | (simp; omega) | simp) _)
end Go.Proofs.YtdiacnjkffdegaaGreat
