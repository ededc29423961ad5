/-
  Proved here: the carrier's number carries a number whose bits are spread over spans, into its word or out of it. Condition: four spans at most, each within 64 bits.
  (With it: Proved here: the contracts of the package word's Ones, Low, Part, Put, in the walk's spelling: each returns the value named and leaves the world as it was. No condition.)
-/
import Derived.Test.YtbchecnidiiddaaGreatDoorInsnStand
import Derived.Test.YtbchecnidiiddaaGreatDoorCodePlain
import Derived.Deep.QuietTactic
import Derived.BigQuiet
import Derived.LoopTactic
import Derived.StillTailTactics
namespace Go.Proofs.YtbchecnidiiddaaGreatDoor
set_option linter.unusedVariables false
open Go.RowKit

theorem Ones_any (n : Int) (w : World) : Calls Tryz.prog 81 #[.int .i64 n] w fun e w' => e = .returned (.int .u64 (onesI n)) ∧ w = w' := by
  have hc := cl_lo n 64 (by omega)
  have hc' := cl_hi n 64 (by omega)
  go_enter Tryz.func81, Tryz.ntmps81
  go_wp2_with (go_at_call 17; (with_reducible refine (clamp_any _ _ _).mono ?_); rintro e w' ⟨rfl, rfl⟩)
  go_ret
  exact ⟨rfl, rfl⟩

theorem Low_any (x n : Int) (w : World) : Calls Tryz.prog 42 #[.int .u64 x, .int .i64 n] w fun e w' => e = .returned (.int .u64 (lowI x n)) ∧ w = w' := by
  go_enter Tryz.func42, Tryz.ntmps42
  go_wp2_with (go_at_call 81; (with_reducible refine (Ones_any _ _).mono ?_); rintro e w' ⟨rfl, rfl⟩)
  go_ret
  exact ⟨rfl, rfl⟩

theorem Part_any (x f n : Int) (w : World) : Calls Tryz.prog 44 #[.int .u64 x, .int .i64 f, .int .i64 n] w fun e w' => e = .returned (.int .u64 (partI x f n)) ∧ w = w' := by
  have hc := cl_lo f 64 (by omega)
  have hc' := cl_hi f 64 (by omega)
  go_enter Tryz.func44, Tryz.ntmps44
  go_wp2_with (first | (go_at_call 17; (with_reducible refine (clamp_any _ _ _).mono ?_); rintro e w' ⟨rfl, rfl⟩) | (go_at_call 42; (with_reducible refine (Low_any _ _ _).mono ?_); rintro e w' ⟨rfl, rfl⟩))
  go_ret
  exact ⟨rfl, rfl⟩

theorem Put_any (x f n v : Int) (w : World) : Calls Tryz.prog 110 #[.int .u64 x, .int .i64 f, .int .i64 n, .int .u64 v] w fun e w' => e = .returned (.int .u64 (putI x f n v)) ∧ w = w' := by
  have hc := cl_lo f 64 (by omega)
  have hc' := cl_hi f 64 (by omega)
  go_enter Tryz.func110, Tryz.ntmps110
  go_wp2_with (first | (go_at_call 17; (with_reducible refine (clamp_any _ _ _).mono ?_); rintro e w' ⟨rfl, rfl⟩) | (go_at_call 81; (with_reducible refine (Ones_any _ _).mono ?_); rintro e w' ⟨rfl, rfl⟩))
  go_ret
  exact ⟨rfl, rfl⟩

/-! ### what leaves all blocks but one, but two, as they were -/
def Oth (r : Nat) (w w' : World) : Prop := w'.os = w.os ∧ w'.tape = w.tape ∧ w'.output = w.output ∧ w.heap.size ≤ w'.heap.size ∧ ∀ k, k < w.heap.size → k ≠ r → w'.heap[k]? = w.heap[k]?
theorem Oth.refl (r : Nat) (w : World) : Oth r w w := ⟨rfl, rfl, rfl, Nat.le_refl _, fun _ _ _ => rfl⟩
theorem Oth.trans {r : Nat} {w w1 w2 : World} (h : Oth r w w1) (k : Oth r w1 w2) : Oth r w w2 :=
  ⟨k.1.trans h.1, k.2.1.trans h.2.1, k.2.2.1.trans h.2.2.1, Nat.le_trans h.2.2.2.1 k.2.2.2.1, fun i hi hr => (k.2.2.2.2 i (Nat.lt_of_lt_of_le hi h.2.2.2.1) hr).trans (h.2.2.2.2 i hi hr)⟩
theorem Oth.of {r : Nat} {w w' : World} (h : Below w.heap.size w w') : Oth r w w' := ⟨h.os, h.tape, h.output, h.size, fun k hk _ => h.block k hk⟩
theorem Oth.alloc (r : Nat) (w : World) (o : Obj) : Oth r w (w.alloc o) := Oth.of ((Below.refl _ _).alloc (Nat.le_refl _) o)
theorem Oth.drewN (r : Nat) (w : World) (n : Nat) : Oth r w (w.drewN n) := ⟨rfl, rfl, rfl, Nat.le_refl _, fun _ _ _ => rfl⟩
theorem Oth.setCell (r j : Nat) (w : World) (v : Value) : Oth r w (w.setCell ⟨r, j, none⟩ v) := ⟨rfl, rfl, rfl, by simp [World.setCell], fun k _ hr => Below.heap_setCell _ _ _ _ (fun e => hr e)⟩
theorem Oth.below {r B : Nat} {w w' : World} (h : Oth r w w') (hr : B ≤ r) (hB : B ≤ w.heap.size) : Below B w w' := ⟨h.1, h.2.1, h.2.2.1, h.2.2.2.1, fun k hk => h.2.2.2.2 k (by omega) (by omega)⟩
theorem Oth.size {r : Nat} {w w' : World} (h : Oth r w w') : w.heap.size ≤ w'.heap.size := h.2.2.2.1
def Oth2 (r q : Nat) (w w' : World) : Prop := w'.os = w.os ∧ w'.tape = w.tape ∧ w'.output = w.output ∧ w.heap.size ≤ w'.heap.size ∧ ∀ k, k < w.heap.size → k ≠ r → k ≠ q → w'.heap[k]? = w.heap[k]?
theorem Oth2.refl (r q : Nat) (w : World) : Oth2 r q w w := ⟨rfl, rfl, rfl, Nat.le_refl _, fun _ _ _ _ => rfl⟩
theorem Oth2.trans {r q : Nat} {w w1 w2 : World} (h : Oth2 r q w w1) (k : Oth2 r q w1 w2) : Oth2 r q w w2 :=
  ⟨k.1.trans h.1, k.2.1.trans h.2.1, k.2.2.1.trans h.2.2.1, Nat.le_trans h.2.2.2.1 k.2.2.2.1, fun i hi hr hq => (k.2.2.2.2 i (Nat.lt_of_lt_of_le hi h.2.2.2.1) hr hq).trans (h.2.2.2.2 i hi hr hq)⟩
theorem Oth.two {r : Nat} {w w' : World} (h : Oth r w w') (q : Nat) : Oth2 r q w w' := ⟨h.1, h.2.1, h.2.2.1, h.2.2.2.1, fun k hk hr _ => h.2.2.2.2 k hk hr⟩
theorem Oth.two' {q : Nat} {w w' : World} (h : Oth q w w') (r : Nat) : Oth2 r q w w' := ⟨h.1, h.2.1, h.2.2.1, h.2.2.2.1, fun k hk _ hq => h.2.2.2.2 k hk hq⟩
theorem Oth2.below {r q B : Nat} {w w' : World} (h : Oth2 r q w w') (hr : B ≤ r) (hq : B ≤ q) (hB : B ≤ w.heap.size) : Below B w w' := ⟨h.1, h.2.1, h.2.2.1, h.2.2.2.1, fun k hk => h.2.2.2.2 k (by omega) (by omega) (by omega)⟩
theorem Oth2.size {r q : Nat} {w w' : World} (h : Oth2 r q w w') : w.heap.size ≤ w'.heap.size := h.2.2.2.1

theorem heap_set {w : World} {n j : Nat} {cs : Array Value} {t : TypeId} (v : Value) (h : w.heap[n]? = some (.cells cs t (0, 0))) : (w.setCell ⟨n, j, none⟩ v).heap[n]? = some (.cells (cs.setIfInBounds j v) t (0, 0)) := by
  obtain ⟨hlt, hk⟩ := Array.getElem?_eq_some_iff.1 h
  show (w.heap.modify n _)[n]? = _
  rw [Array.getElem?_eq_getElem (by rw [Array.size_modify]; exact hlt), Array.getElem_modify_self, hk]
  rfl
theorem heap_far {w : World} {n m j : Nat} (v : Value) (h : n ≠ m) : (w.setCell ⟨m, j, none⟩ v).heap[n]? = w.heap[n]? := Below.heap_setCell _ _ _ n h

/-! ### a carrier, spans, in memory -/
def CarAt (c : Nat) (b : BitVec 64) (o : Bool) (w : World) : Prop := w.heap[c]? = some (.cells #[.int .u64 (U b), .bool o] 58 (0, 0))
theorem CarAt.facts {c : Nat} {b : BitVec 64} {o : Bool} {w : World} (h : CarAt c b o w) : c < w.heap.size ∧ w.cell? ⟨c, 0, none⟩ = some (.int .u64 (U b)) ∧ w.cell? ⟨c, 1, none⟩ = some (.bool o) ∧ w.frozen? ⟨c, 0, none⟩ = false := by
  unfold CarAt at h
  exact ⟨(Array.getElem?_eq_some_iff.1 h).1, by simp [World.cell?, h], by simp [World.cell?, h], by simp [World.frozen?, h]⟩
theorem CarAt.oth {c r : Nat} {b : BitVec 64} {o : Bool} {w w' : World} (h : CarAt c b o w) (ho : Oth r w w') (hn : c ≠ r) : CarAt c b o w' := (ho.2.2.2.2 c h.facts.1 hn).trans h
theorem CarAt.below {c B : Nat} {b : BitVec 64} {o : Bool} {w w' : World} (h : CarAt c b o w) (hb : Below B w w') (hn : c < B) : CarAt c b o w' := (hb.block c hn).trans h
theorem CarAt.set {c : Nat} {b : BitVec 64} {o : Bool} {w : World} (h : CarAt c b o w) (v : BitVec 64) : CarAt c v o (w.setCell ⟨c, 0, none⟩ (.int .u64 (U v))) := heap_set _ h
def spanCells (l : List Sp) : List Value := l.flatMap fun s => [.int .i64 s.1, .int .i64 s.2.1, .int .i64 s.2.2]
def SpansAt (g : Nat) (l : List Sp) (w : World) : Prop := g < w.heap.size ∧ ∀ k s, l[k]? = some s → w.cell? ⟨g, k * 3, none⟩ = some (.int .i64 s.1) ∧ w.cell? ⟨g, k * 3 + 1, none⟩ = some (.int .i64 s.2.1) ∧ w.cell? ⟨g, k * 3 + 2, none⟩ = some (.int .i64 s.2.2)
theorem SpansAt.oth {g r : Nat} {l : List Sp} {w w' : World} (h : SpansAt g l w) (ho : Oth r w w') (hn : g ≠ r) : SpansAt g l w' := by
  have e : ∀ j, w'.cell? ⟨g, j, none⟩ = w.cell? ⟨g, j, none⟩ := fun j => World.cell?_of_block (w := w) (a := ⟨g, j, none⟩) (ho.2.2.2.2 g h.1 hn)
  exact ⟨Nat.lt_of_lt_of_le h.1 ho.size, fun k s hk => by rw [e, e, e]; exact h.2 k s hk⟩
theorem SpansAt.below {g : Nat} {l : List Sp} {w w' : World} (h : SpansAt g l w) (hb : Below w.heap.size w w') : SpansAt g l w' := by
  have e : ∀ j, w'.cell? ⟨g, j, none⟩ = w.cell? ⟨g, j, none⟩ := fun j => hb.cell (p := ⟨g, j, none⟩) h.1
  exact ⟨Nat.lt_of_lt_of_le h.1 hb.size, fun k s hk => by rw [e, e, e]; exact h.2 k s hk⟩
theorem inS_snoc (v : BitVec 64) : ∀ (l : List Sp) (s : Sp) (b : BitVec 64), inS v (l ++ [s]) b = put (inS v l b) s.1 s.2.1 (part v s.2.2 s.2.1)
  | [], _, _ => rfl
  | _ :: l, s, b => inS_snoc v l s _
theorem outS_snoc (b : BitVec 64) : ∀ (l : List Sp) (s : Sp) (v : BitVec 64), outS b (l ++ [s]) v = put (outS b l v) s.2.2 s.2.1 (part b s.1 s.2.1)
  | [], _, _ => rfl
  | _ :: l, s, v => outS_snoc b l s _
theorem part_small (b : BitVec 64) (f n : Nat) (hf : f ≤ 64) (hn : n ≤ 64) : partI (U b) f n = U (part b f n) := by
  rw [partI_U, ck_in _ (by omega) (by omega), ck_in _ (by omega) (by omega)]; rfl
theorem put_small (b v : BitVec 64) (f n : Nat) (hf : f ≤ 64) (hn : n ≤ 64) : putI (U b) f n (U v) = U (put b f n v) := by
  rw [putI_U, ck_in _ (by omega) (by omega), ck_in _ (by omega) (by omega)]; rfl
theorem below_drewN {B : Nat} {w w' : World} (h : Below B w w') (n : Nat) : Below B w (w'.drewN n) := ⟨h.os, h.tape, h.output, h.size, h.block⟩
theorem sameq {P : Program} {f : FuncId} {args : Array Value} {w : World} {v : Value} (h : Calls P f args w fun e w' => e = .returned v ∧ w = w') : Calls P f args w fun e w' => e = .returned v ∧ w' = w := h.mono fun _ _ h => ⟨h.1, h.2.symm⟩
theorem one_box (w : World) (o : Obj) : Below w.heap.size w (w.alloc o) := (Below.refl _ _).alloc (Nat.le_refl _) o
theorem loose_of {i : Ins} {n : Nat} {w : World} (h : InsAt i n w) (j : Nat) : w.frozen? ⟨n, j, none⟩ = false := by unfold InsAt at h; simp [World.frozen?, h]
theorem InsAt.oth {i : Ins} {n r : Nat} {w w' : World} (h : InsAt i n w) (ho : Oth r w w') (hn : n ≠ r) : InsAt i n w' := (ho.2.2.2.2 n h.facts.1 hn).trans h
end Go.Proofs.YtbchecnidiiddaaGreatDoor
namespace Go.Proofs.YtbchecnidiiddaaGreatDoor
set_option linter.unusedVariables false
open Go.RowKit

def Within (l : List Sp) : Prop := l.length ≤ 4 ∧ ∀ s ∈ l, s.1 ≤ 64 ∧ s.2.1 ≤ 64 ∧ s.2.2 ≤ 64
theorem Part_b (b : BitVec 64) (f n : Nat) (hf : f ≤ 64) (hn : n ≤ 64) (w : World) : Calls Tryz.prog 44 #[.int .u64 (U b), .int .i64 f, .int .i64 n] w fun e w' => e = .returned (.int .u64 (U (part b f n))) ∧ w = w' := by
  rw [← part_small b f n hf hn]; exact Part_any _ _ _ w
theorem Put_b (b v : BitVec 64) (f n : Nat) (hf : f ≤ 64) (hn : n ≤ 64) (w : World) : Calls Tryz.prog 110 #[.int .u64 (U b), .int .i64 f, .int .i64 n, .int .u64 (U v)] w fun e w' => e = .returned (.int .u64 (U (put b f n v))) ∧ w = w' := by
  rw [← put_small b v f n hf hn]; exact Put_any _ _ _ _ w
/-- under way, into the word: so many spans are done -/
def InWay (c g : Nat) (b v : BitVec 64) (l : List Sp) (w0 : World) (x y : Value) (w : World) : Prop :=
  ∃ k : Nat, k ≤ l.length ∧ x = .int .i64 k ∧ y = .int .u64 (U v) ∧ CarAt c (inS v (l.take k) b) false w ∧ SpansAt g l w ∧ Oth c w0 w
def OutWay (c g : Nat) (b v : BitVec 64) (l : List Sp) (w0 : World) (x y : Value) (w : World) : Prop :=
  ∃ k : Nat, k ≤ l.length ∧ x = .int .i64 k ∧ y = .int .u64 (U (outS b (l.take k) v)) ∧ CarAt c b true w ∧ SpansAt g l w ∧ Oth c w0 w
def NumOk (c : Nat) (b' v' : BitVec 64) (o : Bool) (w : World) (e : Ending) (w' : World) : Prop := e = .returned (.int .u64 (U v')) ∧ CarAt c b' o w' ∧ Oth c w w'
theorem within_at {l : List Sp} (h : Within l) {k : Nat} {s : Sp} (hs : l[k]? = some s) : s.1 ≤ 64 ∧ s.2.1 ≤ 64 ∧ s.2.2 ≤ 64 := h.2 s (List.mem_of_getElem? hs)
theorem take_snoc' {l : List Sp} {k : Nat} {s : Sp} (hs : l[k]? = some s) : l.take (k + 1) = l.take k ++ [s] := by
  obtain ⟨h, rfl⟩ := List.getElem?_eq_some_iff.1 hs
  rw [List.take_succ_eq_append_getElem h]
theorem out_step (b v : BitVec 64) {l : List Sp} {k s1 s2 s3 : Nat} (hs : l[k]? = some (s1, s2, s3)) : put (outS b (l.take k) v) s3 s2 (part b s1 s2) = outS b (l.take (k + 1)) v := by
  rw [take_snoc' hs, outS_snoc]
theorem in_step (b v : BitVec 64) {l : List Sp} {k s1 s2 s3 : Nat} (hs : l[k]? = some (s1, s2, s3)) : put (inS v (l.take k) b) s1 s2 (part v s3 s2) = inS v (l.take (k + 1)) b := by
  rw [take_snoc' hs, inS_snoc]
set_option maxRecDepth 100000 in
set_option maxHeartbeats 2000000 in
theorem number_out (c g cap : Nat) (b v : BitVec 64) (l : List Sp) (w : World) (hl : Within l) (hc : CarAt c b true w) (hg : SpansAt g l w) (hcg : g ≠ c) :
    Calls Tryz.prog 86 #[.pointer (some ⟨c, 0, none⟩), .int .u64 (U v), .slice (some ⟨g, 0, none⟩) l.length cap] w fun e w' => NumOk c b (outS b l v) true w e w' := by
  have C0 := Lib.hid hc
  have G0 := Lib.hid hg
  have HL := Lib.hid hl
  have HCG := Lib.hid hcg
  have hln : l.length ≤ 4 := hl.1
  clear hc hg hl hcg
  go_enter Tryz.func86, Tryz.ntmps86
  go_wp2
  go_loopw [1, 11] (fun y x wr => OutWay c g b v l w x y wr) (fun _ x _ => (4 - intOf x).toNat)
  case atStart => exact ⟨0, Nat.zero_le _, rfl, rfl, C0.out, G0.out, Oth.refl _ _⟩
  case round =>
    obtain ⟨k, hk, rfl, rfl, hC, hG, hO⟩ := hrel
    have C1 := Lib.hid hC
    have G1 := Lib.hid hG
    have O1 := Lib.hid hO
    clear hC hG hO
    by_cases hlt : k < l.length
    · obtain ⟨s, hs⟩ : ∃ s, l[k]? = some s := ⟨l[k], List.getElem?_eq_getElem hlt⟩
      obtain ⟨s1, s2, s3⟩ := s
      obtain ⟨c1, c2, c3⟩ := G1.out.2 k _ hs
      obtain ⟨hz, b0, b1, _⟩ := C1.out.facts
      obtain ⟨l1, l2, l3⟩ := within_at HL.out hs
      have hq := Lib.hid (out_step b v hs)
      simp only at l1 l2 l3
      have HB := Lib.hid ((((Below.refl wr.heap.size wr).alloc (Nat.le_refl _) (.cells #[.int .i64 s1, .int .i64 s2, .int .i64 s3] 131))))
      clear hs
      go_wp2
      go_quiet (first | (go_at_call 44; exact Calls.quiet_of_same (sameq (Part_b _ _ _ l1 l2 _))) | (go_at_call 110; exact Calls.quiet_of_same (sameq (Put_b _ _ _ _ l3 l2 _))))
      go_wp2
      go_round
      case rel =>
        refine ⟨k + 1, by omega, by go_num, by rw [hq.out], ?_, ?_, ?_⟩
        · exact C1.out.below (below_drewN HB.out nq) hz
        · exact G1.out.below (below_drewN HB.out nq)
        · exact O1.out.trans (Oth.of (below_drewN HB.out nq))
      case measure => simp [intOf]; omega
    · go_wp2
      go_ret
      have e : l.take k = l := List.take_of_length_le (by omega)
      rw [e]
      exact ⟨rfl, C1.out, O1.out⟩
set_option maxRecDepth 100000 in
set_option maxHeartbeats 2000000 in
theorem number_in (c g cap : Nat) (b v : BitVec 64) (l : List Sp) (w : World) (hl : Within l) (hc : CarAt c b false w) (hg : SpansAt g l w) (hcg : g ≠ c) :
    Calls Tryz.prog 86 #[.pointer (some ⟨c, 0, none⟩), .int .u64 (U v), .slice (some ⟨g, 0, none⟩) l.length cap] w fun e w' => NumOk c (inS v l b) v false w e w' := by
  have C0 := Lib.hid hc
  have G0 := Lib.hid hg
  have HL := Lib.hid hl
  have HCG := Lib.hid hcg
  have hln : l.length ≤ 4 := hl.1
  clear hc hg hl hcg
  go_enter Tryz.func86, Tryz.ntmps86
  go_wp2
  go_loopw [1, 11] (fun y x wr => InWay c g b v l w x y wr) (fun _ x _ => (4 - intOf x).toNat)
  case atStart => exact ⟨0, Nat.zero_le _, rfl, rfl, C0.out, G0.out, Oth.refl _ _⟩
  case round =>
    obtain ⟨k, hk, rfl, rfl, hC, hG, hO⟩ := hrel
    have C1 := Lib.hid hC
    have G1 := Lib.hid hG
    have O1 := Lib.hid hO
    clear hC hG hO
    by_cases hlt : k < l.length
    · obtain ⟨s, hs⟩ : ∃ s, l[k]? = some s := ⟨l[k], List.getElem?_eq_getElem hlt⟩
      obtain ⟨s1, s2, s3⟩ := s
      obtain ⟨c1, c2, c3⟩ := G1.out.2 k _ hs
      obtain ⟨hz, b0, b1, b2⟩ := C1.out.facts
      obtain ⟨l1, l2, l3⟩ := within_at HL.out hs
      have hq := Lib.hid (in_step b v hs)
      simp only at l1 l2 l3
      clear hs
      go_wp2
      have HB := Lib.hid ((((Below.refl wr.heap.size wr).alloc (Nat.le_refl _) (.cells #[.int .i64 s1, .int .i64 s2, .int .i64 s3] 131))))
      have HZ := Lib.hid (show (wr.alloc (.cells #[.int .i64 s1, .int .i64 s2, .int .i64 s3] 131)).heap.size = wr.heap.size + 1 by simp)
      have HS := Lib.hid (heap_new wr (.cells #[.int .i64 s1, .int .i64 s2, .int .i64 s3] 131))
      go_name_world W hW
      rw [hW] at HB HZ HS
      clear b0 b1 b2 c1 c2 c3
      have C2 := Lib.hid (C1.out.below HB.out hz)
      have G2 := Lib.hid (G1.out.below HB.out)
      have O2 := Lib.hid (O1.out.trans (Oth.of HB.out))
      obtain ⟨hz, b0, b1, b2⟩ := C2.out.facts
      have c1 : W.cell? ⟨wr.heap.size, 0, none⟩ = some (.int .i64 s1) := by simp [World.cell?, HS.out]
      have c2 : W.cell? ⟨wr.heap.size, 1, none⟩ = some (.int .i64 s2) := by simp [World.cell?, HS.out]
      have c3 : W.cell? ⟨wr.heap.size, 2, none⟩ = some (.int .i64 s3) := by simp [World.cell?, HS.out]
      clear hW
      go_still_tail 18, (by kernel_rfl)
      repeat still_step
      still_call (sameq (Part_b _ _ _ l3 l2 _))
      still_call (sameq (Put_b _ _ _ _ l1 l2 _))
      repeat still_step
      refine wpStill_nil ?_
      change wpList _ _ _ _ _ W.drew
      rw [hq.out]
      go_wp2
      go_round
      case rel =>
        refine ⟨k + 1, by omega, by go_num, rfl, ?_, ?_, ?_⟩
        · exact CarAt.set (w := W.drew) C2.out _
        · exact SpansAt.oth (w := W.drew) G2.out (Oth.setCell c 0 _ _) HCG.out
        · exact Oth.trans (w1 := W.drew) O2.out (Oth.setCell c 0 _ _)
      case measure => simp [intOf]; omega
    · go_wp2
      go_ret
      have e : l.take k = l := List.take_of_length_le (by omega)
      rw [e] at C1
      exact ⟨rfl, C1.out, O1.out⟩
def nb (o : Bool) (b v : BitVec 64) (l : List Sp) : BitVec 64 := if o then b else inS v l b
def nv (o : Bool) (b v : BitVec 64) (l : List Sp) : BitVec 64 := if o then outS b l v else v
theorem number_any (c g cap n : Nat) (b v : BitVec 64) (o : Bool) (l : List Sp) (w : World) (hn : n = l.length) (hl : Within l) (hc : CarAt c b o w) (hg : SpansAt g l w) (hcg : g ≠ c) :
    Calls Tryz.prog 86 #[.pointer (some ⟨c, 0, none⟩), .int .u64 (U v), .slice (some ⟨g, 0, none⟩) n cap] w fun e w' => NumOk c (nb o b v l) (nv o b v l) o w e w' := by
  subst hn
  cases o
  · exact number_in c g cap b v l w hl hc hg hcg
  · exact number_out c g cap b v l w hl hc hg hcg
end Go.Proofs.YtbchecnidiiddaaGreatDoor
