/-
  Proved here: a book makes its parts once: the first time a new map, behind that the same one. Condition: one goroutine; the book's lock is free.
-/
import Derived.Test.YtfgfkpiddlehjaaGreatCodeOnce
import Derived.Laws.NewBlocks
namespace Go.Proofs.YtfgfkpiddlehjaaGreat
set_option linter.unusedVariables false
open Go.RowKit

theorem lt_of_cell_ {w : World} {p j : Nat} {v : Value} (h : w.cell? ⟨p, j, none⟩ = some v) : p < w.heap.size := by
  unfold World.cell? at h
  by_cases hp : p < w.heap.size
  · exact hp
  · rw [Array.getElem?_eq_none (by simpa using hp)] at h; simp at h
def BkAt (n : Nat) (a b c d : Value) (w : World) : Prop := w.heap[n]? = some (.cells #[a, b, c, d] 52 (0, 0))
theorem BkAt.facts {n : Nat} {a b c d : Value} {w : World} (h : BkAt n a b c d w) : n < w.heap.size ∧ w.cell? ⟨n, 0, none⟩ = some a ∧ w.cell? ⟨n, 1, none⟩ = some b ∧ w.cell? ⟨n, 2, none⟩ = some c ∧ w.cell? ⟨n, 3, none⟩ = some d ∧ (∀ j, w.frozen? ⟨n, j, none⟩ = false) := by
  unfold BkAt at h
  exact ⟨(Array.getElem?_eq_some_iff.1 h).1, by simp [World.cell?, h], by simp [World.cell?, h], by simp [World.cell?, h], by simp [World.cell?, h], fun j => by simp [World.frozen?, h]⟩
theorem BkAt.below {n B : Nat} {a b c d : Value} {w w' : World} (h : BkAt n a b c d w) (hb : Below B w w') (hn : n < B) : BkAt n a b c d w' := (hb.block n hn).trans h
theorem BkAt.oth {n r : Nat} {a b c d : Value} {w w' : World} (h : BkAt n a b c d w) (ho : Oth r w w') (hn : n ≠ r) : BkAt n a b c d w' := (ho.2.2.2.2 n h.facts.1 hn).trans h
def MapAt (m : Nat) (w : World) : Prop := w.ownsMap Tryz.prog 3 partElem m 87 (.map allL)
theorem MapAt.oth {m r : Nat} {w w' : World} (h : MapAt m w) (ho : Oth r w w') (hn : m ≠ r) : MapAt m w' :=
  World.ownsMap.kept (row := some r) h ⟨ho.1, ho.2.1, ho.2.2.1, ho.2.2.2.1, fun j hj hne => ho.2.2.2.2 j hj (fun e => hne (by rw [e]))⟩ (by simp; omega)
theorem MapAt.below {m B : Nat} {w w' : World} (h : MapAt m w) (hb : Below w.heap.size w w') : MapAt m w' :=
  World.ownsMap.kept (row := none) h ⟨hb.os, hb.tape, hb.output, hb.size, fun j hj _ => hb.block j hj⟩ (by simp)
def FillOk (n : Nat) (a b c : Value) (w : World) (e : Ending) (w' : World) : Prop := ∃ m, e = .returned (.tuple #[]) ∧ w.heap.size ≤ m ∧ BkAt n a b c (.map (some m)) w' ∧ MapAt m w' ∧ Oth n w w'
set_option maxRecDepth 100000 in
set_option maxHeartbeats 1600000 in
theorem fill_any (n p : Nat) (a b c d : Value) (w : World) (hpn : p ≠ n) (hb : BkAt n a b c d w) (hp : w.cell? ⟨p, 0, none⟩ = some (.pointer (some ⟨n, 0, none⟩))) :
    Calls Tryz.prog 42 #[.pointer (some ⟨p, 0, none⟩)] w fun e w' => FillOk n a b c w e w' := by
  have K0 := Lib.hid hb
  obtain ⟨hz, -, -, -, b3, bf⟩ := hb.facts
  have f3 := bf 3
  have hzp : p < w.heap.size := lt_of_cell_ hp
  clear hb bf
  go_enter Tryz.func42, Tryz.ntmps42
  go_region_held3 (fun w' => w'.cell? ⟨p, 0, none⟩ = some (.pointer (some ⟨n, 0, none⟩))) (first | exact hp | exact (World.cell?_setCell_other _ ⟨n, 3, none⟩ ⟨p, 0, none⟩ _ (fun h => hpn (congrArg Addr.block h).symm)).trans hp | exact (World.cell?_setCell_other _ ⟨n, 3, none⟩ ⟨p, 0, none⟩ _ (fun h => hpn (congrArg Addr.block h))).trans hp) ((go_at_call 43; (with_reducible refine (allParts_any _).mono ?_); rintro e w2 ⟨rfl, hm, hb⟩; obtain ⟨hc2, hf2⟩ := bcell hb; have d0 : w2.cell? ⟨p, 0, none⟩ = some (.pointer (some ⟨n, 0, none⟩)) := (by rw [hc2 _ _ hzp]; exact hp); have d3 : w2.cell? ⟨n, 3, none⟩ = some d := (by rw [hc2 _ _ hz]; exact b3); have g3 : w2.frozen? ⟨n, 3, none⟩ = false := (by rw [hf2 _ _ hz]; exact f3); have HM := Lib.hid (show MapAt _ w2 from hm); have HB := Lib.hid hb; clear hp b3 f3 hm hb; have hp := d0; have b3 := d3; have f3 := g3; clear d0 d3 g3))
  all_goals
    go_end0
    have HB' : Below w.heap.size w w2 := ⟨HB.out.os, HB.out.tape, HB.out.output, HB.out.size, HB.out.block⟩
    have K2 := K0.out.below HB' hz
    have hO : Oth n w w2 := Oth.of HB'
    refine ⟨w.heap.size, rfl, Nat.le_refl _, heap_set _ K2, ?_, hO.trans (Oth.setCell n 3 w2 _)⟩
    exact MapAt.oth HM.out (Oth.setCell n 3 w2 _) (by show w.heap.size ≠ n; omega)
theorem Oth.drew' {r : Nat} {w w' : World} (h : Oth r w w') : Oth r w w'.drew := h
def SlowOk (n : Nat) (w : World) (e : Ending) (w' : World) : Prop := ∃ m, e = .returned (.tuple #[]) ∧ w.heap.size ≤ m ∧ BkAt n (.int .u32 1) (.int .i32 0) (.int .u32 0) (.map (some m)) w' ∧ MapAt m w' ∧ Oth n w w'
set_option maxRecDepth 100000 in
set_option maxHeartbeats 1600000 in
theorem slow_any (n p : Nat) (d : Value) (w : World) (hpn : p ≠ n) (hb : BkAt n (.int .u32 0) (.int .i32 0) (.int .u32 0) d w) (hp : w.cell? ⟨p, 0, none⟩ = some (.pointer (some ⟨n, 0, none⟩))) :
    Calls Tryz.prog 74 #[.pointer (some ⟨n, 0, none⟩), .func (.func 42) #[] #[.pointer (some ⟨p, 0, none⟩)]] w fun e w' => SlowOk n w e w' := by
  obtain ⟨hz, b0, b1, b2, b3, bf⟩ := hb.facts
  have hzp := lt_of_cell_ hp
  have f1 := bf 1
  have K1 : BkAt n (.int .u32 0) (.int .i32 1) (.int .u32 0) d (w.setCell ⟨n, 1, none⟩ (.int .i32 1)) := heap_set _ hb
  have H1 := Lib.hid K1
  have O1 := Lib.hid (Oth.setCell n 1 w (.int .i32 1))
  have hp1 : (w.setCell ⟨n, 1, none⟩ (.int .i32 1)).cell? ⟨p, 0, none⟩ = some (.pointer (some ⟨n, 0, none⟩)) := (World.cell?_setCell_other _ ⟨n, 1, none⟩ ⟨p, 0, none⟩ _ (fun h => hpn (congrArg Addr.block h).symm)).trans hp
  have HP1 := Lib.hid hp1
  have hl := run_call_load (P := Tryz.prog) Tryz.func90 (by kernel_rfl) (by kernel_rfl) (by kernel_rfl) .u32 (by kernel_rfl) (w := w.setCell ⟨n, 1, none⟩ (.int .i32 1)) (a := ⟨n, 0, none⟩) (x := 0) K1.facts.2.1
  have hnot : ∀ (x : Bool) (w : World), (Op.unary .not (.bool x)).run Tryz.prog w = .ok (.bool (!x)) w := fun _ _ => rfl
  clear K1 hp1 hb bf
  go_enter_defers Tryz.func74, Tryz.ntmps74
  go_wp2_with (go_at_call 91; refine (lock_free ⟨n, 1, none⟩ _ b1 f1).mono ?_; rintro e w' ⟨rfl, rfl⟩)
  go_wp2_with (first
    | (go_at_call 73; go_in)
    | (go_at_call 42; refine (fill_any n p _ _ _ _ _ hpn H1.out HP1.out).mono ?_; rintro e w2 ⟨m, rfl, hm, hK, hM, hO⟩; have K2 := Lib.hid hK; have M2 := Lib.hid hM; have O2 := Lib.hid (O1.out.trans hO); clear hK hM hO))
  have hm' : w.heap.size ≤ m := by simpa [World.setCell] using hm
  have hmn : m ≠ n := by omega
  have g2 := K2.out.facts
  -- the door: two calls put off, the last laid first
  refine leaves_cons (f := 93) (args := #[.pointer (some ⟨n, 0, none⟩), .bool true]) (by simp) (by simp [go_sem]) ?_
  refine (store_deferred ⟨n, 0, none⟩ (.int .u32 0) .returning _ g2.2.1 (g2.2.2.2.2.2 0)).mono ?_
  rintro e u' w3 ⟨rfl, rfl, rfl⟩
  have K3 : BkAt n (.int .u32 1) (.int .i32 1) (.int .u32 0) (.map (some m)) (w2.drew.setCell ⟨n, 0, none⟩ (.int .u32 1)) := heap_set (w := w2.drew) _ K2.out
  have g3 := K3.facts
  refine leaves_cons (f := 92) (args := #[.pointer (some ⟨n, 1, none⟩)]) (by simp [settle]) (by simp [go_sem]) ?_
  refine (unlock_deferred ⟨n, 1, none⟩ _ _ g3.2.2.1 (g3.2.2.2.2.2 1)).mono ?_
  rintro e u' w4 ⟨rfl, rfl, rfl⟩
  have O3 : Oth n w2 (w2.drew.setCell ⟨n, 0, none⟩ (.int .u32 1)) := Oth.setCell n 0 w2.drew _
  have O4 : Oth n w2 ((w2.drew.setCell ⟨n, 0, none⟩ (.int .u32 1)).setCell ⟨n, 1, none⟩ (.int .i32 0)) := O3.trans (Oth.setCell n 1 _ _)
  have hE : SlowOk n w (.returned (.tuple #[])) ((w2.drew.setCell ⟨n, 0, none⟩ (.int .u32 1)).setCell ⟨n, 1, none⟩ (.int .i32 0)) := ⟨m, rfl, hm', heap_set _ K3, M2.out.oth O4 hmn, O2.out.trans O4⟩
  simp [Leaves, settle, results, Tryz.results74]
  exact hE
set_option maxRecDepth 100000 in
set_option maxHeartbeats 1600000 in
theorem do_first (n p : Nat) (d : Value) (w : World) (hpn : p ≠ n) (hb : BkAt n (.int .u32 0) (.int .i32 0) (.int .u32 0) d w) (hp : w.cell? ⟨p, 0, none⟩ = some (.pointer (some ⟨n, 0, none⟩))) :
    Calls Tryz.prog 41 #[.pointer (some ⟨n, 0, none⟩), .func (.func 42) #[] #[.pointer (some ⟨p, 0, none⟩)]] w fun e w' => SlowOk n w e w' := by
  have h0 := hb.facts.2.1
  have hl := run_call_load (P := Tryz.prog) Tryz.func90 (by kernel_rfl) (by kernel_rfl) (by kernel_rfl) .u32 (by kernel_rfl) h0
  have hnot : ∀ (x : Bool) (w : World), (Op.unary .not (.bool x)).run Tryz.prog w = .ok (.bool (!x)) w := fun _ _ => rfl
  have HS := Lib.hid (slow_any n p d w hpn hb hp)
  clear hb hp hpn
  go_enter Tryz.func41, Tryz.ntmps41
  go_wp2_with (first | (go_at_call 74; refine HS.out.mono ?_; rintro e w' ⟨m, rfl, hm, hK, hM, hO⟩) | (go_at_call 73; go_in))
  go_end0
  exact ⟨m, rfl, hm, hK, hM, hO⟩
theorem do_done (n : Nat) (fv : Value) (w : World) (h0 : w.cell? ⟨n, 0, none⟩ = some (.int .u32 1)) :
    Calls Tryz.prog 41 #[.pointer (some ⟨n, 0, none⟩), fv] w fun e w' => e = .returned (.tuple #[]) ∧ w' = w := by
  have hl := run_call_load (P := Tryz.prog) Tryz.func90 (by kernel_rfl) (by kernel_rfl) (by kernel_rfl) .u32 (by kernel_rfl) h0
  have hnot : ∀ (x : Bool) (w : World), (Op.unary .not (.bool x)).run Tryz.prog w = .ok (.bool (!x)) w := fun _ _ => rfl
  go_enter Tryz.func41, Tryz.ntmps41
  go_wp2
  go_end0
  exact ⟨rfl, rfl⟩
def Made (n : Nat) (m : Nat) (w : World) : Prop := BkAt n (.int .u32 1) (.int .i32 0) (.int .u32 0) (.map (some m)) w ∧ MapAt m w ∧ m ≠ n
theorem Made.below {n m : Nat} {w w' : World} (h : Made n m w) (hb : Below w.heap.size w w') : Made n m w' := ⟨h.1.below hb h.1.facts.1, h.2.1.below hb (B := 0), h.2.2⟩
def PartsOk (n : Nat) (w : World) (e : Ending) (w' : World) : Prop := ∃ m, e = .returned (.map (some m)) ∧ Made n m w' ∧ Oth n w w'
set_option maxRecDepth 100000 in
set_option maxHeartbeats 1600000 in
theorem parts_first (n : Nat) (d : Value) (w : World) (hb : BkAt n (.int .u32 0) (.int .i32 0) (.int .u32 0) d w) :
    Calls Tryz.prog 21 #[.pointer (some ⟨n, 0, none⟩)] w fun e w' => PartsOk n w e w' := by
  have hz := hb.facts.1
  have hmf : ∀ (fn : Fn) (first cap : Array Value) (w : World), (Instr.makeFunc fn first cap).run Tryz.prog w = .ok (.func fn first cap) w := fun _ _ _ _ => rfl
  have H0 := Lib.hid (heap_new w (.cells #[.pointer (some ⟨n, 0, none⟩)] 57))
  have B0 := Lib.hid (one_box w (.cells #[.pointer (some ⟨n, 0, none⟩)] 57))
  have K0 := Lib.hid (hb.below B0.out hz)
  have hp0 : (w.alloc (.cells #[.pointer (some ⟨n, 0, none⟩)] 57)).cell? ⟨w.heap.size, 0, none⟩ = some (.pointer (some ⟨n, 0, none⟩)) := by simp
  have HP := Lib.hid hp0
  have hne : w.heap.size ≠ n := by omega
  have HN := Lib.hid hne
  clear hp0 hne hb
  go_enter Tryz.func21, Tryz.ntmps21
  go_wp2_with (go_at_call 41; refine (do_first n w.heap.size d _ HN.out K0.out HP.out).mono ?_; rintro e w2 ⟨m, rfl, hm, hK, hM, hO⟩; have K2 := Lib.hid hK; have M2 := Lib.hid hM; have O2 := Lib.hid ((Oth.of B0.out).trans hO); have hm1 : w.heap.size + 1 ≤ m := (by simpa using hm); have c0 : w2.cell? ⟨w.heap.size, 0, none⟩ = some (.pointer (some ⟨n, 0, none⟩)) := (by rw [World.cell?_of_block (w := w.alloc (.cells #[.pointer (some ⟨n, 0, none⟩)] 57)) (a := ⟨w.heap.size, 0, none⟩) (hO.2.2.2.2 w.heap.size (by simp) HN.out)]; exact HP.out); have c3 := K2.out.facts.2.2.2.2.1; clear hK hM hO hm)
  go_ret
  exact ⟨m, rfl, ⟨K2.out, M2.out, by omega⟩, O2.out⟩
set_option maxRecDepth 100000 in
set_option maxHeartbeats 1600000 in
theorem parts_again (n m : Nat) (w : World) (hb : Made n m w) :
    Calls Tryz.prog 21 #[.pointer (some ⟨n, 0, none⟩)] w fun e w' => e = .returned (.map (some m)) ∧ Below w.heap.size w w' := by
  have hz := hb.1.facts.1
  have hmf : ∀ (fn : Fn) (first cap : Array Value) (w : World), (Instr.makeFunc fn first cap).run Tryz.prog w = .ok (.func fn first cap) w := fun _ _ _ _ => rfl
  have B0 := Lib.hid (one_box w (.cells #[.pointer (some ⟨n, 0, none⟩)] 57))
  have K0 := Lib.hid (hb.1.below B0.out hz)
  have k0 := K0.out.facts.2.1
  have k3 := K0.out.facts.2.2.2.2.1
  have HK := Lib.hid k0
  have hp0 : (w.alloc (.cells #[.pointer (some ⟨n, 0, none⟩)] 57)).cell? ⟨w.heap.size, 0, none⟩ = some (.pointer (some ⟨n, 0, none⟩)) := by simp
  clear hb k0
  go_enter Tryz.func21, Tryz.ntmps21
  go_wp2_with (go_at_call 41; refine (do_done n _ _ HK.out).mono ?_; rintro e w2 ⟨rfl, rfl⟩)
  go_ret
  exact ⟨rfl, B0.out⟩
end Go.Proofs.YtfgfkpiddlehjaaGreat
