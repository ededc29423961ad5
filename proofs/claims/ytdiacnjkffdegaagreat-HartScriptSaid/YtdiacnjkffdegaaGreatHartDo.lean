/-
  Proved here: what the package hart's put and do come to. Condition: the registers are 0 to 31.
-/
import Derived.Test.YtdiacnjkffdegaaGreatHartAsks
import Derived.Test.YtdiacnjkffdegaaGreatHartNext
import Derived.OrdersHeld
namespace Go.Proofs.YtdiacnjkffdegaaGreat
set_option linter.unusedSimpArgs false
set_option linter.unusedVariables false
open Go.RowKit
def Ha.putX (h : Ha) (d : Nat) (x : BitVec 64) : Ha := if d = 0 then h else h.atX d x
set_option maxRecDepth 100000 in
theorem put_any (d : Nat) (hd : d < 32) (x : BitVec 64) (n : Nat) (h : Ha) (w : World) (H : HAt 48 h n w) :
    Calls Tryz.prog 31 #[.pointer (some ⟨n, 0, none⟩), .int .i64 (d : Int), .int .u64 (U x)] w fun e w' => e = .returned (.tuple #[]) ∧ HAt 48 (h.putX d x) n w' ∧ Below n w w' ∧ w'.heap.size = w.heap.size := by
  have HP := Lib.hid (show h.putX d x = if d = 0 then h else h.atX d x from rfl)
  have hn := H.lt
  have HN := Lib.hid H
  have cd := H.cx d hd
  have fd := H.frozen (1 + d)
  have id := index_x n d hd
  by_cases h0 : d = 0
  · have b1 : ((d : Int) == 0) = true := by simp [h0]
    rw [HP.out, if_pos h0]
    clear h0
    go_enter Tryz.func31, Tryz.ntmps31
    go_wp2_with fail
    (try simp only [Exit.inBlock, Exit.then])
    first
      | exact bodyPost_end (results_none rfl _ _ _) rfl ⟨rfl, HN.out, Below.refl _ _, rfl⟩
      | exact bodyPost_ret (results_none rfl _ _ _) rfl ⟨rfl, HN.out, Below.refl _ _, rfl⟩
  · have b1 : ((d : Int) == 0) = false := by simp [h0]
    rw [HP.out, if_neg h0]
    clear h0
    go_enter Tryz.func31, Tryz.ntmps31
    go_wp2_with fail
    all_goals
     (try simp only [Exit.inBlock, Exit.then])
     refine bodyPost_end (results_none rfl _ _ _) rfl ⟨rfl, HN.out.setX d hd x, ?_, ?_⟩
     · exact (Below.refl n w).setCell (p := ⟨n, 1 + d, none⟩) (Nat.le_refl n) _
     · simp [World.setCell]
theorem call_wp {P : Program} {o : Oper} {a : Act} {w : World} {K : Act → World → Prop} {Q : Exit → Act → World → Prop} {f : FuncId} {args : Array Value} {R : Ending → World → Prop} (d : Nat) (hd : o.dst = some d) (hr : (execOp a.eval o).run P w = .ok (.enter f args) w) (h : Calls P f args w R)
    (hR : ∀ e w', R e w' → (∃ v, e = .returned v ∧ K (a.put (some d) v) w') ∨ (∃ c, e = .panicked c ∧ Q (.panic c) a w')) : o.wp P a w K Q := by
  unfold Oper.wp
  rw [hr]
  refine h.mono ?_
  intro e w' he
  rcases hR e w' he with ⟨v, rfl, hk⟩ | ⟨c, rfl, hk⟩
  · rw [← hd] at hk; exact hk
  · exact hk
theorem wpOp_in {P : Program} {ops : Array Oper} {Q : Exit → Act → World → Prop} {i : Nat} {o : Oper} {K : Act → World → Prop} {a : Act} {w : World} (hi : ops[i]? = some o) (hw : Region.wanted o (yielded ops a.tmps) = true) (h : o.wp P a w K Q) : wpOp P ops Q i K a w := by
  unfold wpOp
  rw [hi]
  show if Region.wanted o (yielded ops a.tmps) = true then _ else _
  rw [if_pos hw]
  exact .inl h
theorem load_run {P : Program} {o : Oper} {a : Act} {w : World} (ty : TypeId) (x : Operand) (ho : o.op = .load ty x)
    (g : Nat) (hx : a.eval x = .pointer (some ⟨g, 0, none⟩)) (t : TypeId) (cs : Array Value) (fr : Nat × Nat) (d : TypeDesc) (hg : w.heap[g]? = some (.cells cs t fr))
    (hu : P.underlying ty = some d) (hd : (match d with | .struct _ | .array _ _ => true | _ => false) = true) (hi : (P.info? ty).map (·.size) = some cs.size) : (execOp a.eval o).run P w = .ok (.value (.agg cs)) w := by
  unfold execOp
  simp only [ho, hx, Instr.loadAt, Instr.sureAddr, Sem.run_bind, Sem.run_pure, Result.andThen_ok, run_loadVar_row w g t ty cs fr d hg hu hd hi]
theorem takeH {P : Program} {ops : Array Oper} {Q : Exit → Act → World → Prop} {md : Region.Mode} {S : World → Prop} {i : Nat} {oi : Oper} {v : Value} {fuel : Nat} {listed : Array Bool} {a : Act} {w : World} (d : Nat) (hi : ops[i]? = some oi) (hd : oi.dst = some d)
    (hs : Region.noSelect ops = true) (hf : Region.free md ops listed i = true) (hr : (Region.ready md ops listed).contains i = true)
    (hQ : ∀ c a w, Q (.panic c) (a.put (some d) v) w → Q (.panic c) a w) (hy : YieldsIf P ops S oi v a) (hS : S w)
    (h : wpAnyH P md ops Q S fuel (listed.setIfInBounds i true) (a.put (some d) v) w) : wpAnyH P md ops Q S (fuel + 1) listed a w :=
  wpAnyH_take hi hs hf hr (by rw [hd]; exact hQ) hy hS (by rw [hd]; exact h)
def doE5 (h : Ha) (op : Int) (a b : Nat) (v : BitVec 64) : Option (Int × BitVec 64) := match askE h op a v with
  | some z => some z
  | none => if fetchH h op a b v then some (6, 0) else none
def doneH (h : Ha) (op : Int) (d a b : Nat) (v found : BitVec 64) (won : Bool) : Ha := (h.atPc (toH h op a b v)).putX d (valH h op a b v found won)
def DoPost (h : Ha) (op : Int) (d a b : Nat) (v found : BitVec 64) (won : Bool) (n : Nat) (w : World) (e : Ending) (w' : World) : Prop := match doE5 h op a b v with
  | some (how, c) => e = .panicked (endV how c) ∧ Below w.heap.size w w'
  | none => e = .returned (.tuple #[]) ∧ HAt 48 (doneH h op d a b v found won) n w' ∧ Below n w w'
set_option maxHeartbeats 2000000 in
set_option maxRecDepth 100000 in
theorem do_any (op : Int) (d a b : Nat) (hd : d < 32) (ha : a < 32) (hb' : b < 32) (v : BitVec 64) (aq rl : Bool) (p q : Int) (found : BitVec 64) (won : Bool) (n : Nat) (h : Ha) (w : World) (H : HAt 48 h n w) :
    Calls Tryz.prog 14 #[.pointer (some ⟨n, 0, none⟩), insV op d a b (S v) aq rl p q, .int .u64 (U found), .bool won] w (DoPost h op d a b v found won n w) := by
  have hn := H.lt
  have HN := Lib.hid H
  have HP := Lib.hid (show DoPost h op d a b v found won n w = fun e w' => match doE5 h op a b v with
    | some (how, c) => e = .panicked (endV how c) ∧ Below w.heap.size w w'
    | none => e = .returned (.tuple #[]) ∧ HAt 48 (doneH h op d a b v found won) n w' ∧ Below n w w' from rfl)
  have HA := Lib.hid (fun w H => ask_any op d a b ha hb' v aq rl p q n h w H)
  have HX := Lib.hid (fun w H => next_any op d a b ha hb' v aq rl p q n h w H)
  have HV := Lib.hid (fun w H => value_any op d a b ha hb' v aq rl p q found won n h w H)
  rw [HP.out]
  unfold doE5
  cases hx : askE h op a v with
  | some z =>
    obtain ⟨how, c⟩ := z
    rw [hx] at HA
    clear hx
    simp only
    go_enter Tryz.func14, Tryz.ntmps14
    go_wp2_with (first | (go_at_call 25; (with_reducible refine (HA.out _ (HN.out.alloc _)).mono ?_); rintro e w2 ⟨rfl, hb⟩; have HB2 := Lib.hid hb; clear hb))
    refine ⟨rfl, rfl, ?_⟩
    exact ((Below.refl _ _).alloc (Nat.le_refl _) _).trans (HB2.out.mono (by simp))
  | none =>
    rw [hx] at HA
    clear hx
    simp only
    cases hf : fetchH h op a b v with
    | false =>
      rw [hf] at HX
      clear hf
      simp only [Bool.false_eq_true, if_false] at HX ⊢
      go_enter Tryz.func14, Tryz.ntmps14
      go_upto_region 2 with (first | (go_at_call 25; (with_reducible refine (HA.out _ (HN.out.alloc _)).mono ?_); rintro e w2 ⟨⟨u, hu, rfl⟩, hb⟩; have HB2 := Lib.hid hb; clear hb))
      have hz : w.heap.size < w2.heap.size := by have := HB2.out.size; simp at this; omega
      have HI : w2.heap[w.heap.size]? = some (.cells #[.int .i64 op, .int .i64 (d : Int), .int .i64 (a : Int), .int .i64 (b : Int), .int .i64 (S v), .bool aq, .bool rl, .int .i64 p, .int .i64 q] 34 (0, 0)) := (HB2.out.block _ (by simp)).trans Array.getElem?_push_size
      have H2 : HAt 48 h n w2 := (HN.out.alloc _).below HB2.out (by simp; omega)
      refine wp_region_held (S := fun w' => w'.heap[w.heap.size]? = some (.cells #[.int .i64 op, .int .i64 (d : Int), .int .i64 (a : Int), .int .i64 (b : Int), .int .i64 (S v), .bool aq, .bool rl, .int .i64 p, .int .i64 q] 34 (0, 0))) (by kernel_rfl) ?_
      refine takeH (i := 0) (v := .pointer (some ⟨n, 0, none⟩)) 13 rfl rfl (by kernel_rfl) (by kernel_rfl) (by kernel_rfl) (fun _ _ _ h => h) (.inl ⟨by kernel_rfl, fun _ _ => by kernel_rfl⟩) HI ?_
      simp only [Act.put, List.setIfInBounds_toArray, List.set_cons_succ, List.set_cons_zero]
      refine takeH (i := 1) (v := .agg #[.int .i64 op, .int .i64 (d : Int), .int .i64 (a : Int), .int .i64 (b : Int), .int .i64 (S v), .bool aq, .bool rl, .int .i64 p, .int .i64 q]) 14 rfl rfl (by kernel_rfl) (by kernel_rfl) (by kernel_rfl) (fun _ _ _ h => h) (.inl ⟨by kernel_rfl, fun w' hS => load_run 34 _ rfl w.heap.size rfl 34 _ (0, 0) _ hS Tryz.underlying34 rfl (by kernel_rfl)⟩) HI ?_
      simp only [Act.put, List.setIfInBounds_toArray, List.set_cons_succ, List.set_cons_zero]
      refine takeH (i := 2) (v := .int .u64 (U found)) 15 rfl rfl (by kernel_rfl) (by kernel_rfl) (by kernel_rfl) (fun _ _ _ h => h) (.inl ⟨by kernel_rfl, fun _ _ => by kernel_rfl⟩) HI ?_
      simp only [Act.put, List.setIfInBounds_toArray, List.set_cons_succ, List.set_cons_zero]
      refine takeH (i := 3) (v := .bool won) 16 rfl rfl (by kernel_rfl) (by kernel_rfl) (by kernel_rfl) (fun _ _ _ h => h) (.inl ⟨by kernel_rfl, fun _ _ => by kernel_rfl⟩) HI ?_
      simp only [Act.put, List.setIfInBounds_toArray, List.set_cons_succ, List.set_cons_zero]
      refine takeH (i := 5) (v := .pointer (some ⟨n, 0, none⟩)) 18 rfl rfl (by kernel_rfl) (by kernel_rfl) (by kernel_rfl) (fun _ _ _ h => h) (.inl ⟨by kernel_rfl, fun _ _ => by kernel_rfl⟩) HI ?_
      simp only [Act.put, List.setIfInBounds_toArray, List.set_cons_succ, List.set_cons_zero]
      refine takeH (i := 6) (v := .agg #[.int .i64 op, .int .i64 (d : Int), .int .i64 (a : Int), .int .i64 (b : Int), .int .i64 (S v), .bool aq, .bool rl, .int .i64 p, .int .i64 q]) 19 rfl rfl (by kernel_rfl) (by kernel_rfl) (by kernel_rfl) (fun _ _ _ h => h) (.inl ⟨by kernel_rfl, fun w' hS => load_run 34 _ rfl w.heap.size rfl 34 _ (0, 0) _ hS Tryz.underlying34 rfl (by kernel_rfl)⟩) HI ?_
      simp only [Act.put, List.setIfInBounds_toArray, List.set_cons_succ, List.set_cons_zero]
      refine wpAnyH_all (rs := [4]) (by kernel_rfl) (by simp) ?_
      intro j hj
      obtain rfl : j = 4 := by simpa using hj
      refine wpOp_in rfl (by kernel_rfl) ?_
      refine call_wp 17 rfl (by kernel_rfl) (HV.out _ H2) ?_
      rintro e w3 ⟨rfl, hbw3⟩
      refine .inl ⟨_, rfl, ?_⟩
      have HI3 : w3.heap[w.heap.size]? = some (.cells #[.int .i64 op, .int .i64 (d : Int), .int .i64 (a : Int), .int .i64 (b : Int), .int .i64 (S v), .bool aq, .bool rl, .int .i64 p, .int .i64 q] 34 (0, 0)) := (hbw3.block _ hz).trans HI
      have H3 : HAt 48 h n w3 := HAt.below (w := World.drew w2) H2 hbw3 (by show n < w2.heap.size; omega)
      refine ⟨HI3, ?_⟩
      simp only [Act.put, List.setIfInBounds_toArray, List.set_cons_succ, List.set_cons_zero]
      refine wpAnyH_all (rs := [7]) (by kernel_rfl) (by simp) ?_
      intro j hj
      obtain rfl : j = 7 := by simpa using hj
      refine wpOp_in rfl (by kernel_rfl) ?_
      refine call_wp 20 rfl (by kernel_rfl) (HX.out _ H3) ?_
      rintro e w4 ⟨rfl, hbw4⟩
      refine .inl ⟨_, rfl, ?_⟩
      have hz3 : w.heap.size < w3.heap.size := by have : w2.heap.size ≤ w3.heap.size := hbw3.size; omega
      have HI4 : w4.heap[w.heap.size]? = some (.cells #[.int .i64 op, .int .i64 (d : Int), .int .i64 (a : Int), .int .i64 (b : Int), .int .i64 (S v), .bool aq, .bool rl, .int .i64 p, .int .i64 q] 34 (0, 0)) := (hbw4.block _ hz3).trans HI3
      have H4 : HAt 48 h n w4 := H3.below hbw4 (by omega)
      have HB4 : Hid (Below w.heap.size w w4) := Lib.hid (((((Below.refl _ _).alloc (Nat.le_refl _) _).trans (HB2.out.mono (by simp))).drew.trans (hbw3.mono (Nat.le_of_lt hz))).trans (hbw4.mono (Nat.le_of_lt hz3)))
      refine ⟨HI4, ?_⟩
      simp only [Act.put, List.setIfInBounds_toArray, List.set_cons_succ, List.set_cons_zero]
      refine takeH (i := 8) (v := .int .u64 (U (valH h op a b v found won))) 8 rfl rfl (by kernel_rfl) (by kernel_rfl) (by kernel_rfl) (fun _ _ _ h => h) (.inl ⟨by kernel_rfl, fun _ _ => by kernel_rfl⟩) HI4 ?_
      simp only [Act.put, List.setIfInBounds_toArray, List.set_cons_succ, List.set_cons_zero]
      refine takeH (i := 9) (v := .int .u64 (U (toH h op a b v))) 9 rfl rfl (by kernel_rfl) (by kernel_rfl) (by kernel_rfl) (fun _ _ _ h => h) (.inl ⟨by kernel_rfl, fun _ _ => by kernel_rfl⟩) HI4 ?_
      simp only [Act.put, List.setIfInBounds_toArray, List.set_cons_succ, List.set_cons_zero]
      refine wpAnyH_done (by kernel_rfl) ?_ _
      have HH := Lib.hid (And.intro HI4 H4)
      have cpc := H4.c0
      have fpc := H4.frozen 0
      have hne : w.heap.size ≠ n := by omega
      have cd := cell_of_row w4 w.heap.size 1 _ _ _ HI4
      clear HI HI3 HI4 H2 H3 H4 hbw3 hbw4
      go_wp2_with (first | (go_at_call 31; (with_reducible refine (put_any d hd _ n (h.atPc (toH h op a b v)) _ (HAt.setPc HH.out.2 _)).mono ?_); rintro e w6 ⟨rfl, h6, hb6, hz6⟩; have H6 := Lib.hid (And.intro h6 hb6); clear h6 hb6 hz6))
      (try simp only [Exit.inBlock, Exit.then])
      exact bodyPost_end (results_none rfl _ _ _) rfl ⟨rfl, H6.out.1, ((HB4.out.mono (Nat.le_of_lt hn)).setCell (Nat.le_refl _) _).trans H6.out.2⟩
    | true =>
      rw [hf] at HX
      clear hf
      simp only [if_true] at HX ⊢
      go_enter Tryz.func14, Tryz.ntmps14
      go_upto_region 2 with (first | (go_at_call 25; (with_reducible refine (HA.out _ (HN.out.alloc _)).mono ?_); rintro e w2 ⟨⟨u, hu, rfl⟩, hb⟩; have HB2 := Lib.hid hb; clear hb))
      have hz : w.heap.size < w2.heap.size := by have := HB2.out.size; simp at this; omega
      have HI : w2.heap[w.heap.size]? = some (.cells #[.int .i64 op, .int .i64 (d : Int), .int .i64 (a : Int), .int .i64 (b : Int), .int .i64 (S v), .bool aq, .bool rl, .int .i64 p, .int .i64 q] 34 (0, 0)) := (HB2.out.block _ (by simp)).trans Array.getElem?_push_size
      have H2 : HAt 48 h n w2 := (HN.out.alloc _).below HB2.out (by simp; omega)
      refine wp_region_held (S := fun w' => w'.heap[w.heap.size]? = some (.cells #[.int .i64 op, .int .i64 (d : Int), .int .i64 (a : Int), .int .i64 (b : Int), .int .i64 (S v), .bool aq, .bool rl, .int .i64 p, .int .i64 q] 34 (0, 0))) (by kernel_rfl) ?_
      refine takeH (i := 0) (v := .pointer (some ⟨n, 0, none⟩)) 13 rfl rfl (by kernel_rfl) (by kernel_rfl) (by kernel_rfl) (fun _ _ _ h => h) (.inl ⟨by kernel_rfl, fun _ _ => by kernel_rfl⟩) HI ?_
      simp only [Act.put, List.setIfInBounds_toArray, List.set_cons_succ, List.set_cons_zero]
      refine takeH (i := 1) (v := .agg #[.int .i64 op, .int .i64 (d : Int), .int .i64 (a : Int), .int .i64 (b : Int), .int .i64 (S v), .bool aq, .bool rl, .int .i64 p, .int .i64 q]) 14 rfl rfl (by kernel_rfl) (by kernel_rfl) (by kernel_rfl) (fun _ _ _ h => h) (.inl ⟨by kernel_rfl, fun w' hS => load_run 34 _ rfl w.heap.size rfl 34 _ (0, 0) _ hS Tryz.underlying34 rfl (by kernel_rfl)⟩) HI ?_
      simp only [Act.put, List.setIfInBounds_toArray, List.set_cons_succ, List.set_cons_zero]
      refine takeH (i := 2) (v := .int .u64 (U found)) 15 rfl rfl (by kernel_rfl) (by kernel_rfl) (by kernel_rfl) (fun _ _ _ h => h) (.inl ⟨by kernel_rfl, fun _ _ => by kernel_rfl⟩) HI ?_
      simp only [Act.put, List.setIfInBounds_toArray, List.set_cons_succ, List.set_cons_zero]
      refine takeH (i := 3) (v := .bool won) 16 rfl rfl (by kernel_rfl) (by kernel_rfl) (by kernel_rfl) (fun _ _ _ h => h) (.inl ⟨by kernel_rfl, fun _ _ => by kernel_rfl⟩) HI ?_
      simp only [Act.put, List.setIfInBounds_toArray, List.set_cons_succ, List.set_cons_zero]
      refine takeH (i := 5) (v := .pointer (some ⟨n, 0, none⟩)) 18 rfl rfl (by kernel_rfl) (by kernel_rfl) (by kernel_rfl) (fun _ _ _ h => h) (.inl ⟨by kernel_rfl, fun _ _ => by kernel_rfl⟩) HI ?_
      simp only [Act.put, List.setIfInBounds_toArray, List.set_cons_succ, List.set_cons_zero]
      refine takeH (i := 6) (v := .agg #[.int .i64 op, .int .i64 (d : Int), .int .i64 (a : Int), .int .i64 (b : Int), .int .i64 (S v), .bool aq, .bool rl, .int .i64 p, .int .i64 q]) 19 rfl rfl (by kernel_rfl) (by kernel_rfl) (by kernel_rfl) (fun _ _ _ h => h) (.inl ⟨by kernel_rfl, fun w' hS => load_run 34 _ rfl w.heap.size rfl 34 _ (0, 0) _ hS Tryz.underlying34 rfl (by kernel_rfl)⟩) HI ?_
      simp only [Act.put, List.setIfInBounds_toArray, List.set_cons_succ, List.set_cons_zero]
      refine wpAnyH_all (rs := [4]) (by kernel_rfl) (by simp) ?_
      intro j hj
      obtain rfl : j = 4 := by simpa using hj
      refine wpOp_in rfl (by kernel_rfl) ?_
      refine call_wp 17 rfl (by kernel_rfl) (HV.out _ H2) ?_
      rintro e w3 ⟨rfl, hbw3⟩
      refine .inl ⟨_, rfl, ?_⟩
      have HI3 : w3.heap[w.heap.size]? = some (.cells #[.int .i64 op, .int .i64 (d : Int), .int .i64 (a : Int), .int .i64 (b : Int), .int .i64 (S v), .bool aq, .bool rl, .int .i64 p, .int .i64 q] 34 (0, 0)) := (hbw3.block _ hz).trans HI
      have H3 : HAt 48 h n w3 := HAt.below (w := World.drew w2) H2 hbw3 (by show n < w2.heap.size; omega)
      refine ⟨HI3, ?_⟩
      simp only [Act.put, List.setIfInBounds_toArray, List.set_cons_succ, List.set_cons_zero]
      refine wpAnyH_all (rs := [7]) (by kernel_rfl) (by simp) ?_
      intro j hj
      obtain rfl : j = 7 := by simpa using hj
      refine wpOp_in rfl (by kernel_rfl) ?_
      refine call_wp 20 rfl (by kernel_rfl) (HX.out _ H3) ?_
      rintro e w4 ⟨rfl, hbw4⟩
      refine .inr ⟨_, rfl, ?_⟩
      have hz3 : w.heap.size < w3.heap.size := by have : w2.heap.size ≤ w3.heap.size := hbw3.size; omega
      simp only [Exit.then]
      exact ⟨rfl, rfl, ((((Below.refl _ _).alloc (Nat.le_refl _) _).trans (HB2.out.mono (by simp))).drew.trans (hbw3.mono (Nat.le_of_lt hz))).trans (hbw4.mono (Nat.le_of_lt hz3))⟩
end Go.Proofs.YtdiacnjkffdegaaGreat
