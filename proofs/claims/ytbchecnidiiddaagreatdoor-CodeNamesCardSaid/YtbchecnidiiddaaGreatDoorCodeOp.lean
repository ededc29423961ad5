/-
  Proved here: a book tells the op whose parts a word's parts are, 0 of none. Condition: one goroutine; the book's lock is free.
  (With it: Proved here: a book makes its parts once: the first time a new map, behind that the same one. Condition: one goroutine; the book's lock is free.)
-/
import Derived.Test.YtbchecnidiiddaaGreatDoorCodeOnce
import Derived.Laws.NewBlocks
import Derived.LoopTactic
namespace Go.Proofs.YtbchecnidiiddaaGreatDoor
set_option linter.unusedVariables false
open Go.RowKit

theorem lt_of_cell_ {w : World} {p j : Nat} {v : Value} (h : w.cell? ⟨p, j, none⟩ = some v) : p < w.heap.size := by
  unfold World.cell? at h
  by_cases hp : p < w.heap.size
  · exact hp
  · rw [Array.getElem?_eq_none (by simpa using hp)] at h; simp at h
def BkAt (n : Nat) (a b c d : Value) (w : World) : Prop := w.heap[n]? = some (.cells #[a, b, c, d] 49 (0, 0))
theorem BkAt.facts {n : Nat} {a b c d : Value} {w : World} (h : BkAt n a b c d w) : n < w.heap.size ∧ w.cell? ⟨n, 0, none⟩ = some a ∧ w.cell? ⟨n, 1, none⟩ = some b ∧ w.cell? ⟨n, 2, none⟩ = some c ∧ w.cell? ⟨n, 3, none⟩ = some d ∧ (∀ j, w.frozen? ⟨n, j, none⟩ = false) := by
  unfold BkAt at h
  exact ⟨(Array.getElem?_eq_some_iff.1 h).1, by simp [World.cell?, h], by simp [World.cell?, h], by simp [World.cell?, h], by simp [World.cell?, h], fun j => by simp [World.frozen?, h]⟩
theorem BkAt.below {n B : Nat} {a b c d : Value} {w w' : World} (h : BkAt n a b c d w) (hb : Below B w w') (hn : n < B) : BkAt n a b c d w' := (hb.block n hn).trans h
theorem BkAt.oth {n r : Nat} {a b c d : Value} {w w' : World} (h : BkAt n a b c d w) (ho : Oth r w w') (hn : n ≠ r) : BkAt n a b c d w' := (ho.2.2.2.2 n h.facts.1 hn).trans h
def MapAt (m : Nat) (w : World) : Prop := w.ownsMap Tryz.prog 3 partElem m 87 (.map allL)
theorem MapAt.oth {m r : Nat} {w w' : World} (h : MapAt m w) (ho : Oth r w w') (hn : m ≠ r) : MapAt m w' :=
  World.ownsMap.kept (row := some r) h ⟨ho.1, ho.2.1, ho.2.2.1, ho.2.2.2.1, fun j hj hne => ho.2.2.2.2 j hj (fun e => hne (by rw [e]))⟩ (by simp; omega)
theorem MapAt.below {m B : Nat} {w w' : World} (h : MapAt m w) (hb : Below w.heap.size w w') : MapAt m w' :=
  World.ownsMap.kept (row := none) h ⟨hb.os, hb.tape, hb.output, hb.size, fun j hj _ => hb.block j hj⟩ (by simp)
def FillOk (n : Nat) (a b c : Value) (w : World) (e : Ending) (w' : World) : Prop := ∃ m, e = .returned (.tuple #[]) ∧ w.heap.size ≤ m ∧ BkAt n a b c (.map (some m)) w' ∧ MapAt m w' ∧ Oth n w w'
set_option maxRecDepth 100000 in
set_option maxHeartbeats 1600000 in
theorem fill_any (n p : Nat) (a b c d : Value) (w : World) (hpn : p ≠ n) (hb : BkAt n a b c d w) (hp : w.cell? ⟨p, 0, none⟩ = some (.pointer (some ⟨n, 0, none⟩))) :
    Calls Tryz.prog 47 #[.pointer (some ⟨p, 0, none⟩)] w fun e w' => FillOk n a b c w e w' := by
  have K0 := Lib.hid hb
  obtain ⟨hz, -, -, -, b3, bf⟩ := hb.facts
  have f3 := bf 3
  have hzp : p < w.heap.size := lt_of_cell_ hp
  clear hb bf
  go_enter Tryz.func47, Tryz.ntmps47
  go_region_held3 (fun w' => w'.cell? ⟨p, 0, none⟩ = some (.pointer (some ⟨n, 0, none⟩))) (first | exact hp | exact (World.cell?_setCell_other _ ⟨n, 3, none⟩ ⟨p, 0, none⟩ _ (fun h => hpn (congrArg Addr.block h).symm)).trans hp | exact (World.cell?_setCell_other _ ⟨n, 3, none⟩ ⟨p, 0, none⟩ _ (fun h => hpn (congrArg Addr.block h))).trans hp) ((go_at_call 48; (with_reducible refine (allParts_any _).mono ?_); rintro e w2 ⟨rfl, hm, hb⟩; obtain ⟨hc2, hf2⟩ := bcell hb; have d0 : w2.cell? ⟨p, 0, none⟩ = some (.pointer (some ⟨n, 0, none⟩)) := (by rw [hc2 _ _ hzp]; exact hp); have d3 : w2.cell? ⟨n, 3, none⟩ = some d := (by rw [hc2 _ _ hz]; exact b3); have g3 : w2.frozen? ⟨n, 3, none⟩ = false := (by rw [hf2 _ _ hz]; exact f3); have HM := Lib.hid (show MapAt _ w2 from hm); have HB := Lib.hid hb; clear hp b3 f3 hm hb; have hp := d0; have b3 := d3; have f3 := g3; clear d0 d3 g3))
  all_goals
    go_end0
    have HB' : Below w.heap.size w w2 := ⟨HB.out.os, HB.out.tape, HB.out.output, HB.out.size, HB.out.block⟩
    have K2 := K0.out.below HB' hz
    have hO : Oth n w w2 := Oth.of HB'
    refine ⟨w.heap.size, rfl, Nat.le_refl _, heap_set _ K2, ?_, hO.trans (Oth.setCell n 3 w2 _)⟩
    exact MapAt.oth HM.out (Oth.setCell n 3 w2 _) (by show w.heap.size ≠ n; omega)
theorem Oth.drew' {r : Nat} {w w' : World} (h : Oth r w w') : Oth r w w'.drew := h
def SlowOk (n : Nat) (w : World) (e : Ending) (w' : World) : Prop := ∃ m, e = .returned (.tuple #[]) ∧ w.heap.size ≤ m ∧ BkAt n (.int .u32 1) (.int .i32 0) (.int .u32 0) (.map (some m)) w' ∧ MapAt m w' ∧ Oth n w w'
set_option maxRecDepth 100000 in
set_option maxHeartbeats 1600000 in
theorem slow_any (n p : Nat) (d : Value) (w : World) (hpn : p ≠ n) (hb : BkAt n (.int .u32 0) (.int .i32 0) (.int .u32 0) d w) (hp : w.cell? ⟨p, 0, none⟩ = some (.pointer (some ⟨n, 0, none⟩))) :
    Calls Tryz.prog 83 #[.pointer (some ⟨n, 0, none⟩), .func (.func 47) #[] #[.pointer (some ⟨p, 0, none⟩)]] w fun e w' => SlowOk n w e w' := by
  obtain ⟨hz, b0, b1, b2, b3, bf⟩ := hb.facts
  have hzp := lt_of_cell_ hp
  have f1 := bf 1
  have K1 : BkAt n (.int .u32 0) (.int .i32 1) (.int .u32 0) d (w.setCell ⟨n, 1, none⟩ (.int .i32 1)) := heap_set _ hb
  have H1 := Lib.hid K1
  have O1 := Lib.hid (Oth.setCell n 1 w (.int .i32 1))
  have hp1 : (w.setCell ⟨n, 1, none⟩ (.int .i32 1)).cell? ⟨p, 0, none⟩ = some (.pointer (some ⟨n, 0, none⟩)) := (World.cell?_setCell_other _ ⟨n, 1, none⟩ ⟨p, 0, none⟩ _ (fun h => hpn (congrArg Addr.block h).symm)).trans hp
  have HP1 := Lib.hid hp1
  have hl := run_call_load (P := Tryz.prog) Tryz.func105 (by kernel_rfl) (by kernel_rfl) (by kernel_rfl) .u32 (by kernel_rfl) (w := w.setCell ⟨n, 1, none⟩ (.int .i32 1)) (a := ⟨n, 0, none⟩) (x := 0) K1.facts.2.1
  have hnot : ∀ (x : Bool) (w : World), (Op.unary .not (.bool x)).run Tryz.prog w = .ok (.bool (!x)) w := fun _ _ => rfl
  clear K1 hp1 hb bf
  go_enter_defers Tryz.func83, Tryz.ntmps83
  go_wp2_with (go_at_call 106; refine (lock_free ⟨n, 1, none⟩ _ b1 f1).mono ?_; rintro e w' ⟨rfl, rfl⟩)
  go_wp2_with (first
    | (go_at_call 82; go_in)
    | (go_at_call 47; refine (fill_any n p _ _ _ _ _ hpn H1.out HP1.out).mono ?_; rintro e w2 ⟨m, rfl, hm, hK, hM, hO⟩; have K2 := Lib.hid hK; have M2 := Lib.hid hM; have O2 := Lib.hid (O1.out.trans hO); clear hK hM hO))
  have hm' : w.heap.size ≤ m := by simpa [World.setCell] using hm
  have hmn : m ≠ n := by omega
  have g2 := K2.out.facts
  -- the door: two calls put off, the last laid first
  refine leaves_cons (f := 108) (args := #[.pointer (some ⟨n, 0, none⟩), .bool true]) (by simp) (by simp [go_sem]) ?_
  refine (store_deferred ⟨n, 0, none⟩ (.int .u32 0) .returning _ g2.2.1 (g2.2.2.2.2.2 0)).mono ?_
  rintro e u' w3 ⟨rfl, rfl, rfl⟩
  have K3 : BkAt n (.int .u32 1) (.int .i32 1) (.int .u32 0) (.map (some m)) (w2.drew.setCell ⟨n, 0, none⟩ (.int .u32 1)) := heap_set (w := w2.drew) _ K2.out
  have g3 := K3.facts
  refine leaves_cons (f := 107) (args := #[.pointer (some ⟨n, 1, none⟩)]) (by simp [settle]) (by simp [go_sem]) ?_
  refine (unlock_deferred ⟨n, 1, none⟩ _ _ g3.2.2.1 (g3.2.2.2.2.2 1)).mono ?_
  rintro e u' w4 ⟨rfl, rfl, rfl⟩
  have O3 : Oth n w2 (w2.drew.setCell ⟨n, 0, none⟩ (.int .u32 1)) := Oth.setCell n 0 w2.drew _
  have O4 : Oth n w2 ((w2.drew.setCell ⟨n, 0, none⟩ (.int .u32 1)).setCell ⟨n, 1, none⟩ (.int .i32 0)) := O3.trans (Oth.setCell n 1 _ _)
  have hE : SlowOk n w (.returned (.tuple #[])) ((w2.drew.setCell ⟨n, 0, none⟩ (.int .u32 1)).setCell ⟨n, 1, none⟩ (.int .i32 0)) := ⟨m, rfl, hm', heap_set _ K3, M2.out.oth O4 hmn, O2.out.trans O4⟩
  simp [Leaves, settle, results, Tryz.results83]
  exact hE
set_option maxRecDepth 100000 in
set_option maxHeartbeats 1600000 in
theorem do_first (n p : Nat) (d : Value) (w : World) (hpn : p ≠ n) (hb : BkAt n (.int .u32 0) (.int .i32 0) (.int .u32 0) d w) (hp : w.cell? ⟨p, 0, none⟩ = some (.pointer (some ⟨n, 0, none⟩))) :
    Calls Tryz.prog 46 #[.pointer (some ⟨n, 0, none⟩), .func (.func 47) #[] #[.pointer (some ⟨p, 0, none⟩)]] w fun e w' => SlowOk n w e w' := by
  have h0 := hb.facts.2.1
  have hl := run_call_load (P := Tryz.prog) Tryz.func105 (by kernel_rfl) (by kernel_rfl) (by kernel_rfl) .u32 (by kernel_rfl) h0
  have hnot : ∀ (x : Bool) (w : World), (Op.unary .not (.bool x)).run Tryz.prog w = .ok (.bool (!x)) w := fun _ _ => rfl
  have HS := Lib.hid (slow_any n p d w hpn hb hp)
  clear hb hp hpn
  go_enter Tryz.func46, Tryz.ntmps46
  go_wp2_with (first | (go_at_call 83; refine HS.out.mono ?_; rintro e w' ⟨m, rfl, hm, hK, hM, hO⟩) | (go_at_call 82; go_in))
  go_end0
  exact ⟨m, rfl, hm, hK, hM, hO⟩
theorem do_done (n : Nat) (fv : Value) (w : World) (h0 : w.cell? ⟨n, 0, none⟩ = some (.int .u32 1)) :
    Calls Tryz.prog 46 #[.pointer (some ⟨n, 0, none⟩), fv] w fun e w' => e = .returned (.tuple #[]) ∧ w' = w := by
  have hl := run_call_load (P := Tryz.prog) Tryz.func105 (by kernel_rfl) (by kernel_rfl) (by kernel_rfl) .u32 (by kernel_rfl) h0
  have hnot : ∀ (x : Bool) (w : World), (Op.unary .not (.bool x)).run Tryz.prog w = .ok (.bool (!x)) w := fun _ _ => rfl
  go_enter Tryz.func46, Tryz.ntmps46
  go_wp2
  go_end0
  exact ⟨rfl, rfl⟩
def Made (n : Nat) (m : Nat) (w : World) : Prop := BkAt n (.int .u32 1) (.int .i32 0) (.int .u32 0) (.map (some m)) w ∧ MapAt m w ∧ m ≠ n
theorem Made.below {n m : Nat} {w w' : World} (h : Made n m w) (hb : Below w.heap.size w w') : Made n m w' := ⟨h.1.below hb h.1.facts.1, h.2.1.below hb (B := 0), h.2.2⟩
def PartsOk (n : Nat) (w : World) (e : Ending) (w' : World) : Prop := ∃ m, e = .returned (.map (some m)) ∧ Made n m w' ∧ Oth n w w'
set_option maxRecDepth 100000 in
set_option maxHeartbeats 1600000 in
theorem parts_first (n : Nat) (d : Value) (w : World) (hb : BkAt n (.int .u32 0) (.int .i32 0) (.int .u32 0) d w) :
    Calls Tryz.prog 23 #[.pointer (some ⟨n, 0, none⟩)] w fun e w' => PartsOk n w e w' := by
  have hz := hb.facts.1
  have hmf : ∀ (fn : Fn) (first cap : Array Value) (w : World), (Instr.makeFunc fn first cap).run Tryz.prog w = .ok (.func fn first cap) w := fun _ _ _ _ => rfl
  have H0 := Lib.hid (heap_new w (.cells #[.pointer (some ⟨n, 0, none⟩)] 55))
  have B0 := Lib.hid (one_box w (.cells #[.pointer (some ⟨n, 0, none⟩)] 55))
  have K0 := Lib.hid (hb.below B0.out hz)
  have hp0 : (w.alloc (.cells #[.pointer (some ⟨n, 0, none⟩)] 55)).cell? ⟨w.heap.size, 0, none⟩ = some (.pointer (some ⟨n, 0, none⟩)) := by simp
  have HP := Lib.hid hp0
  have hne : w.heap.size ≠ n := by omega
  have HN := Lib.hid hne
  clear hp0 hne hb
  go_enter Tryz.func23, Tryz.ntmps23
  go_wp2_with (go_at_call 46; refine (do_first n w.heap.size d _ HN.out K0.out HP.out).mono ?_; rintro e w2 ⟨m, rfl, hm, hK, hM, hO⟩; have K2 := Lib.hid hK; have M2 := Lib.hid hM; have O2 := Lib.hid ((Oth.of B0.out).trans hO); have hm1 : w.heap.size + 1 ≤ m := (by simpa using hm); have c0 : w2.cell? ⟨w.heap.size, 0, none⟩ = some (.pointer (some ⟨n, 0, none⟩)) := (by rw [World.cell?_of_block (w := w.alloc (.cells #[.pointer (some ⟨n, 0, none⟩)] 55)) (a := ⟨w.heap.size, 0, none⟩) (hO.2.2.2.2 w.heap.size (by simp) HN.out)]; exact HP.out); have c3 := K2.out.facts.2.2.2.2.1; clear hK hM hO hm)
  go_ret
  exact ⟨m, rfl, ⟨K2.out, M2.out, by omega⟩, O2.out⟩
set_option maxRecDepth 100000 in
set_option maxHeartbeats 1600000 in
theorem parts_again (n m : Nat) (w : World) (hb : Made n m w) :
    Calls Tryz.prog 23 #[.pointer (some ⟨n, 0, none⟩)] w fun e w' => e = .returned (.map (some m)) ∧ Below w.heap.size w w' := by
  have hz := hb.1.facts.1
  have hmf : ∀ (fn : Fn) (first cap : Array Value) (w : World), (Instr.makeFunc fn first cap).run Tryz.prog w = .ok (.func fn first cap) w := fun _ _ _ _ => rfl
  have B0 := Lib.hid (one_box w (.cells #[.pointer (some ⟨n, 0, none⟩)] 55))
  have K0 := Lib.hid (hb.1.below B0.out hz)
  have k0 := K0.out.facts.2.1
  have k3 := K0.out.facts.2.2.2.2.1
  have HK := Lib.hid k0
  have hp0 : (w.alloc (.cells #[.pointer (some ⟨n, 0, none⟩)] 55)).cell? ⟨w.heap.size, 0, none⟩ = some (.pointer (some ⟨n, 0, none⟩)) := by simp
  clear hb k0
  go_enter Tryz.func23, Tryz.ntmps23
  go_wp2_with (go_at_call 46; refine (do_done n _ _ HK.out).mono ?_; rintro e w2 ⟨rfl, rfl⟩)
  go_ret
  exact ⟨rfl, B0.out⟩
end Go.Proofs.YtbchecnidiiddaaGreatDoor
namespace Go.Proofs.YtbchecnidiiddaaGreatDoor
set_option linter.unusedVariables false
open Go.RowKit
open Go.Maps (Keyed)

theorem pt_eq (a b c x y z : Int) (w : World) : (binOp .eql 70 (.agg #[.int .u32 a, .int .u32 b, .int .u32 c]) (.agg #[.int .u32 x, .int .u32 y, .int .u32 z])).run Tryz.prog w = .ok (.bool (a == x && (b == y && c == z))) w := by
  cases h1 : a == x <;> cases h2 : b == y <;> cases h3 : c == z <;> go_simp <;> simp [h1, h2, h3]
/-- a book, before or behind its parts are made -/
def BookOk (n : Nat) (w : World) : Prop := (∃ d, BkAt n (.int .u32 0) (.int .i32 0) (.int .u32 0) d w) ∨ ∃ m, Made n m w
theorem BookOk.below {n : Nat} {w w' : World} (h : BookOk n w) (hb : Below w.heap.size w w') : BookOk n w' := by
  rcases h with ⟨d, h⟩ | ⟨m, h⟩
  · exact .inl ⟨d, h.below hb h.facts.1⟩
  · exact .inr ⟨m, h.below hb⟩
theorem BookOk.lt {n : Nat} {w : World} (h : BookOk n w) : n < w.heap.size := by
  rcases h with ⟨d, h⟩ | ⟨m, h⟩
  · exact h.facts.1
  · exact h.1.facts.1
theorem parts_any (n : Nat) (w : World) (h : BookOk n w) : Calls Tryz.prog 23 #[.pointer (some ⟨n, 0, none⟩)] w fun e w' => PartsOk n w e w' := by
  rcases h with ⟨d, h⟩ | ⟨m, h⟩
  · exact parts_first n d w h
  · refine (parts_again n m w h).mono ?_
    rintro e w' ⟨rfl, hb⟩
    exact ⟨m, rfl, h.below hb, Oth.of hb⟩
theorem split_e (b : BitVec 64) (t : Pt) (ht : Hid (splitL b = t)) (w : World) : Calls Tryz.prog 22 #[.int .u32 (U b)] w fun e w' => PtOk (.agg #[.int .u32 t.1, .int .u32 t.2.1, .int .u32 t.2.2]) w e w' := by
  have := split_any b w
  rw [ht.out] at this
  exact this
theorem has_all : ∀ k : Fin 88, k.1 ≠ 0 → Maps.has (.map allL : DU) (.int .i64 (k.1 : Nat)) = true := by decide +kernel
theorem mem_all {l : Lit} {d : DU} (h : (l, d) ∈ allL) : ∃ k : Nat, 1 ≤ k ∧ k ≤ 87 ∧ l = .int .i64 (k : Int) ∧ d = partD (codeOf k).1 (codeOf k).2.1 (codeOf k).2.2 := by
  obtain ⟨j, hj, e⟩ := List.mem_map.1 h
  have := List.mem_range.1 hj
  simp only [Prod.mk.injEq] at e
  exact ⟨j + 1, by omega, by omega, e.1.symm, e.2.symm⟩
/-- what the map has at a key -/
theorem at_all (x a b c : Int) (h : ∀ zd, (DataW.map allL : DU).atKey (.int .i64 x) zd = partD a b c) : ∃ k : Nat, 1 ≤ k ∧ k ≤ 87 ∧ x = (k : Int) ∧ codeOf k = (a.toNat, b.toNat, c.toNat) ∧ 0 ≤ a ∧ 0 ≤ b ∧ 0 ≤ c := by
  have h1 := h .nil
  unfold DataW.atKey at h1
  simp only at h1
  cases hf : allL.find? (fun p => p.1.sameKey (.int .i64 x)) with
  | none => rw [hf] at h1; unfold partD at h1; cases h1
  | some p =>
    rw [hf] at h1
    have hm := List.mem_of_find?_eq_some hf
    have hs := List.find?_some hf
    obtain ⟨l, d⟩ := p
    obtain ⟨k, hk1, hk2, rfl, rfl⟩ := mem_all hm
    refine ⟨k, hk1, hk2, ?_, ?_⟩
    · have := WideAt.sameKey_eq hs
      injection this with _ e
      exact e.symm
    · simp only [partD] at h1
      injection h1 with h1
      simp only [List.cons.injEq, DataW.lit.injEq, Lit.int.injEq, true_and, and_true] at h1
      obtain ⟨e1, e2, e3⟩ := h1
      refine ⟨?_, by omega, by omega, by omega⟩
      rw [← e1, ← e2, ← e3]
      simp
theorem opP_none (t : Pt) (h : ∀ k : Nat, 1 ≤ k → k ≤ 87 → codeOf k ≠ t) : opP t = 0 := by
  by_cases h0 : opP t = 0
  · exact h0
  · exact absurd (opP_is t h0) (h _ (by omega) (by have := opP_lt t; omega))
theorem opP_at (k : Nat) (h1 : 1 ≤ k) (h2 : k ≤ 87) : opP (codeOf k) = k := opP_code ⟨k, by omega⟩ (by show k ≠ 0; omega)
def OpOk (n : Nat) (b : BitVec 64) (w : World) (e : Ending) (w' : World) : Prop := e = .returned (.int .i64 (opP (splitL b) : Nat)) ∧ BookOk n w' ∧ Oth n w w'
def OpWay (n m r tb : Nat) (t : Pt) (w wr : World) : Prop :=
  ∃ left cnt, wr.ranges Tryz.prog 3 partElem m r 87 (.map allL) left cnt ∧ (∀ k : Nat, 1 ≤ k → k ≤ 87 → left (.int .i64 (k : Int)) = false → codeOf k ≠ t) ∧ PtAt t tb wr ∧ BkAt n (.int .u32 1) (.int .i32 0) (.int .u32 0) (.map (some m)) wr ∧ m ≠ n ∧ Oth n w wr
set_option maxRecDepth 100000 in
set_option maxHeartbeats 1600000 in
theorem op_any (n : Nat) (b : BitVec 64) (w : World) (hb : BookOk n w) : Calls Tryz.prog 14 #[.pointer (some ⟨n, 0, none⟩), .int .u32 (U b)] w fun e w' => OpOk n b w e w' := by
  obtain ⟨t, ht⟩ : ∃ t, splitL b = t := ⟨_, rfl⟩
  have HT := Lib.hid ht
  have HB := Lib.hid hb
  have hn := hb.lt
  have peq := pt_eq
  clear ht hb
  go_enter Tryz.func14, Tryz.ntmps14
  go_wp2_with (first
    | (go_at_call 22; (with_reducible refine (split_e b t HT _).mono ?_); rintro e w1 ⟨rfl, h1⟩; have B1 := Lib.hid (h1.alloc (Nat.le_trans (Nat.le_refl _) h1.size) (.cells #[.int .u32 t.1, .int .u32 t.2.1, .int .u32 t.2.2] 70)); have P1 := Lib.hid (pt_new t w1); have hs1 := h1.size; have BK1 := Lib.hid (HB.out.below B1.out); clear h1)
    | (go_at_call 23; (with_reducible refine (parts_any n _ BK1.out).mono ?_); rintro e w2 ⟨m, rfl, hM, hO⟩; have M2 := Lib.hid hM; have O2 := Lib.hid ((Oth.of B1.out).trans hO); have P2 : Hid (PtAt t w1.heap.size w2) := Lib.hid ((hO.2.2.2.2 w1.heap.size (by simp) (by omega)).trans P1.out); have hown := M2.out.2.1; clear hM hO)
    | (at_range; refine wpList_range_own _ rfl _ 47 rfl 3 70 mapLaw Tryz.underlying47 partElem m 87 (.map allL) rfl hown ?_; intro w3 hrg0 hg0 hs0))
  go_frame
  have hr1 : w1.heap.size < w2.heap.size := P2.out.facts.1
  have hr2 : m < w2.heap.size := hown.lt
  have hr3 : n < w2.heap.size := M2.out.1.facts.1
  have hmn := M2.out.2.2
  clear hown
  go_loopw [6] (fun _ wr => OpWay n m w2.heap.size w1.heap.size t w wr) (fun _ wr => wr.rangeLeft m w2.heap.size)
  case atStart =>
    have hb3 : Below w2.heap.size w2 w3 := ⟨hg0.os, hg0.tape, hg0.output, hg0.size, fun j hj => hg0.block j hj (by simp)⟩
    refine ⟨_, _, hrg0, ?_, P2.out.below hb3 hr1, M2.out.1.below hb3 hr3, hmn, O2.out.trans (Oth.of hb3)⟩
    intro k h1 h2 h
    have hh := has_all ⟨k, by omega⟩ (by show k ≠ 0; omega)
    rw [hh] at h; cases h
  case round =>
    obtain ⟨left, cnt, hrg, hl, hP, hK, -, hO⟩ := hrel
    have P4 := Lib.hid hP
    have K4 := Lib.hid hK
    have O4 := Lib.hid hO
    have L4 := Lib.hid hl
    clear hP hK hO hl
    go_wp2_with (at_next; refine wpList_next_ranges _ rfl _ rfl 3 mapLaw partElem (Value.int .i64) (fun p : Int × Int × Int => .agg #[.int .u32 p.1, .int .u32 p.2.1, .int .u32 p.2.2]) (fun key kl hk => by obtain ⟨x, h, _⟩ := Maps.keyOf_int_inv Tryz.underlying3 hk; exact ⟨x, h⟩) (fun v y hv => by obtain ⟨a, b, c, h, _⟩ := partElem_inv hv; exact ⟨(a, b, c), h⟩) m w2.heap.size 87 (.map allL) left cnt rfl hrg ?_ ?_)
    · intro hc0 hl0
      have L5 := Lib.hid (fun k (h1 : 1 ≤ k) h2 => L4.out k h1 h2 (hl0 _))
      clear hl0
      go_wp2
      go_ret
      have e : opP (splitL b) = 0 := by rw [HT.out]; exact opP_none t L5.out
      exact ⟨ret_int (by rw [e]; rfl), .inr ⟨m, K4.out, hrg.owns, hmn⟩, O4.out⟩
    · intro x ca cb cc kl yd yp w5 cnt1 hkey hlk hy hat hrg1 hlt hg1 hs1 hen
      obtain ⟨x', ex, rfl, hwx⟩ := Maps.keyOf_int_inv Tryz.underlying3 hkey
      injection ex with _ ex
      subst ex
      rw [partElem_mk] at hy
      simp only [Option.some.injEq, Prod.mk.injEq] at hy
      obtain ⟨rfl, rfl⟩ := hy
      obtain ⟨k, hk1, hk2, rfl, hck, ha0, hb0, hc0⟩ := at_all x ca cb cc hat
      have hO5 : Oth w2.heap.size wr w5 := ⟨hg1.os, hg1.tape, hg1.output, hg1.size, fun j hj hne => hg1.block j hj (by simp; omega)⟩
      have hbx : Below w5.heap.size w5 (w5.alloc (.cells #[.int .u32 ca, .int .u32 cb, .int .u32 cc] 70)) := one_box _ _
      have hrg6 := hrg1.alloc (.cells #[.int .u32 ca, .int .u32 cb, .int .u32 cc] 70)
      have P5 : Hid (PtAt t w1.heap.size w5) := Lib.hid ((hO5.2.2.2.2 w1.heap.size P4.out.facts.1 (by omega)).trans P4.out)
      have K5 := Lib.hid (K4.out.oth hO5 (by omega))
      have hO5n : Oth n w w5 := ⟨hO5.1.trans O4.out.1, hO5.2.1.trans O4.out.2.1, hO5.2.2.1.trans O4.out.2.2.1, Nat.le_trans O4.out.size hO5.size, fun j hj hne => (hO5.2.2.2.2 j (Nat.lt_of_lt_of_le hj O4.out.size) (by have := O2.out.size; omega)).trans (O4.out.2.2.2.2 j hj hne)⟩
      have O6 := Lib.hid (hO5n.trans (Oth.of hbx))
      have P6 := Lib.hid (P5.out.below hbx P5.out.facts.1)
      have K6 := Lib.hid (K5.out.below hbx K5.out.facts.1)
      have R6 := Lib.hid hrg6
      have R1 := Lib.hid hrg
      have HL6 := Lib.hid hlt
      have HCK := Lib.hid hck
      have HPOS := Lib.hid (And.intro ha0 (And.intro hb0 hc0))
      have ht1 : w1.heap.size < w5.heap.size := P5.out.facts.1
      obtain ⟨-, p0, p1, p2, -⟩ := P5.out.facts
      clear hO5 hbx hrg6 hO5n hrg1 hrg hlt hck ha0 hb0 hc0 hat hlk hkey hg1 hs1
      by_cases heq : ca = (t.1 : Int) ∧ cb = (t.2.1 : Int) ∧ cc = (t.2.2 : Int)
      · obtain ⟨rfl, rfl, rfl⟩ := heq
        have hE : (((t.1 : Int) == (t.1 : Int)) && (((t.2.1 : Int) == (t.2.1 : Int)) && ((t.2.2 : Int) == (t.2.2 : Int)))) = true := by simp
        go_wp2
        go_ret
        have e : opP (splitL b) = k := by
          rw [HT.out]
          have : codeOf k = t := by rw [HCK.out]; simp
          rw [← this]; exact opP_at k hk1 hk2
        exact ⟨ret_int (by rw [e]), .inr ⟨m, K6.out, R6.out.owns, hmn⟩, O6.out⟩
      · have hE : (ca == (t.1 : Int) && (cb == (t.2.1 : Int) && (cc == (t.2.2 : Int)))) = false := by
          rw [Bool.eq_false_iff]; intro h; simp at h; exact heq h
        have HNE : Hid (codeOf k ≠ t) := Lib.hid (fun h => heq (by rw [HCK.out] at h; obtain ⟨h1, h2, h3⟩ := HPOS.out; rw [← h]; simp; omega))
        clear heq
        go_wp2
        go_roundw
        case rel =>
          refine ⟨_, _, R6.out, ?_, P6.out, K6.out, hmn, O6.out⟩
          intro j h1 h2 h
          by_cases hj : j = k
          · subst hj; exact HNE.out
          · refine L4.out j h1 h2 ?_
            rcases hl : left (.int .i64 (j : Int))
            · rfl
            · rw [hl] at h
              simp at h
              have := WideAt.sameKey_eq h
              injection this with _ e
              exact absurd (by omega) hj
        case measure =>
          rw [R6.out.left_eq, R1.out.left_eq]; exact HL6.out
end Go.Proofs.YtbchecnidiiddaaGreatDoor
