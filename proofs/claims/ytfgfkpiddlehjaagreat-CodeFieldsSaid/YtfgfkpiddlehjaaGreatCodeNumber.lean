/-
  Proved here: the carrier's number carries a number whose bits are spread over spans, into its word or out of it. Condition: four spans at most, each within 64 bits.
-/
import Derived.Test.YtfgfkpiddlehjaaGreatCodeWord
import Derived.Deep.QuietTactic
import Derived.BigQuiet
import Derived.LoopTactic
import Derived.StillTailTactics
namespace Go.Proofs.YtfgfkpiddlehjaaGreat
set_option linter.unusedVariables false
open Go.RowKit

def Within (l : List Sp) : Prop := l.length ≤ 4 ∧ ∀ s ∈ l, s.1 ≤ 64 ∧ s.2.1 ≤ 64 ∧ s.2.2 ≤ 64
theorem Part_b (b : BitVec 64) (f n : Nat) (hf : f ≤ 64) (hn : n ≤ 64) (w : World) : Calls Tryz.prog 54 #[.int .u64 (U b), .int .i64 f, .int .i64 n] w fun e w' => e = .returned (.int .u64 (U (part b f n))) ∧ w = w' := by
  rw [← part_small b f n hf hn]; exact Part_any _ _ _ w
theorem Put_b (b v : BitVec 64) (f n : Nat) (hf : f ≤ 64) (hn : n ≤ 64) (w : World) : Calls Tryz.prog 94 #[.int .u64 (U b), .int .i64 f, .int .i64 n, .int .u64 (U v)] w fun e w' => e = .returned (.int .u64 (U (put b f n v))) ∧ w = w' := by
  rw [← put_small b v f n hf hn]; exact Put_any _ _ _ _ w
/-- under way, into the word: so many spans are done -/
def InWay (c g : Nat) (b v : BitVec 64) (l : List Sp) (w0 : World) (x y : Value) (w : World) : Prop :=
  ∃ k : Nat, k ≤ l.length ∧ x = .int .i64 k ∧ y = .int .u64 (U v) ∧ CarAt c (inS v (l.take k) b) false w ∧ SpansAt g l w ∧ Oth c w0 w
def OutWay (c g : Nat) (b v : BitVec 64) (l : List Sp) (w0 : World) (x y : Value) (w : World) : Prop :=
  ∃ k : Nat, k ≤ l.length ∧ x = .int .i64 k ∧ y = .int .u64 (U (outS b (l.take k) v)) ∧ CarAt c b true w ∧ SpansAt g l w ∧ Oth c w0 w
def NumOk (c : Nat) (b' v' : BitVec 64) (o : Bool) (w : World) (e : Ending) (w' : World) : Prop := e = .returned (.int .u64 (U v')) ∧ CarAt c b' o w' ∧ Oth c w w'
theorem within_at {l : List Sp} (h : Within l) {k : Nat} {s : Sp} (hs : l[k]? = some s) : s.1 ≤ 64 ∧ s.2.1 ≤ 64 ∧ s.2.2 ≤ 64 := h.2 s (List.mem_of_getElem? hs)
theorem take_snoc' {l : List Sp} {k : Nat} {s : Sp} (hs : l[k]? = some s) : l.take (k + 1) = l.take k ++ [s] := by
  obtain ⟨h, rfl⟩ := List.getElem?_eq_some_iff.1 hs
  rw [List.take_succ_eq_append_getElem h]
theorem out_step (b v : BitVec 64) {l : List Sp} {k s1 s2 s3 : Nat} (hs : l[k]? = some (s1, s2, s3)) : put (outS b (l.take k) v) s3 s2 (part b s1 s2) = outS b (l.take (k + 1)) v := by
  rw [take_snoc' hs, outS_snoc]
theorem in_step (b v : BitVec 64) {l : List Sp} {k s1 s2 s3 : Nat} (hs : l[k]? = some (s1, s2, s3)) : put (inS v (l.take k) b) s1 s2 (part v s3 s2) = inS v (l.take (k + 1)) b := by
  rw [take_snoc' hs, inS_snoc]
set_option maxRecDepth 100000 in
set_option maxHeartbeats 2000000 in
theorem number_out (c g cap : Nat) (b v : BitVec 64) (l : List Sp) (w : World) (hl : Within l) (hc : CarAt c b true w) (hg : SpansAt g l w) (hcg : g ≠ c) :
    Calls Tryz.prog 84 #[.pointer (some ⟨c, 0, none⟩), .int .u64 (U v), .slice (some ⟨g, 0, none⟩) l.length cap] w fun e w' => NumOk c b (outS b l v) true w e w' := by
  have C0 := Lib.hid hc
  have G0 := Lib.hid hg
  have HL := Lib.hid hl
  have HCG := Lib.hid hcg
  have hln : l.length ≤ 4 := hl.1
  clear hc hg hl hcg
  go_enter Tryz.func84, Tryz.ntmps84
  go_wp2
  go_loopw [1, 11] (fun y x wr => OutWay c g b v l w x y wr) (fun _ x _ => (4 - intOf x).toNat)
  case atStart => exact ⟨0, Nat.zero_le _, rfl, rfl, C0.out, G0.out, Oth.refl _ _⟩
  case round =>
    obtain ⟨k, hk, rfl, rfl, hC, hG, hO⟩ := hrel
    have C1 := Lib.hid hC
    have G1 := Lib.hid hG
    have O1 := Lib.hid hO
    clear hC hG hO
    by_cases hlt : k < l.length
    · obtain ⟨s, hs⟩ : ∃ s, l[k]? = some s := ⟨l[k], List.getElem?_eq_getElem hlt⟩
      obtain ⟨s1, s2, s3⟩ := s
      obtain ⟨c1, c2, c3⟩ := G1.out.2 k _ hs
      obtain ⟨hz, b0, b1, _⟩ := C1.out.facts
      obtain ⟨l1, l2, l3⟩ := within_at HL.out hs
      have hq := Lib.hid (out_step b v hs)
      simp only at l1 l2 l3
      have HB := Lib.hid ((((Below.refl wr.heap.size wr).alloc (Nat.le_refl _) (.cells #[.int .i64 s1, .int .i64 s2, .int .i64 s3] 117))))
      clear hs
      go_wp2
      go_quiet (first | (go_at_call 54; exact Calls.quiet_of_same (sameq (Part_b _ _ _ l1 l2 _))) | (go_at_call 94; exact Calls.quiet_of_same (sameq (Put_b _ _ _ _ l3 l2 _))))
      go_wp2
      go_round
      case rel =>
        refine ⟨k + 1, by omega, by go_num, by rw [hq.out], ?_, ?_, ?_⟩
        · exact C1.out.below (below_drewN HB.out nq) hz
        · exact G1.out.below (below_drewN HB.out nq)
        · exact O1.out.trans (Oth.of (below_drewN HB.out nq))
      case measure => simp [intOf]; omega
    · go_wp2
      go_ret
      have e : l.take k = l := List.take_of_length_le (by omega)
      rw [e]
      exact ⟨rfl, C1.out, O1.out⟩
set_option maxRecDepth 100000 in
set_option maxHeartbeats 2000000 in
theorem number_in (c g cap : Nat) (b v : BitVec 64) (l : List Sp) (w : World) (hl : Within l) (hc : CarAt c b false w) (hg : SpansAt g l w) (hcg : g ≠ c) :
    Calls Tryz.prog 84 #[.pointer (some ⟨c, 0, none⟩), .int .u64 (U v), .slice (some ⟨g, 0, none⟩) l.length cap] w fun e w' => NumOk c (inS v l b) v false w e w' := by
  have C0 := Lib.hid hc
  have G0 := Lib.hid hg
  have HL := Lib.hid hl
  have HCG := Lib.hid hcg
  have hln : l.length ≤ 4 := hl.1
  clear hc hg hl hcg
  go_enter Tryz.func84, Tryz.ntmps84
  go_wp2
  go_loopw [1, 11] (fun y x wr => InWay c g b v l w x y wr) (fun _ x _ => (4 - intOf x).toNat)
  case atStart => exact ⟨0, Nat.zero_le _, rfl, rfl, C0.out, G0.out, Oth.refl _ _⟩
  case round =>
    obtain ⟨k, hk, rfl, rfl, hC, hG, hO⟩ := hrel
    have C1 := Lib.hid hC
    have G1 := Lib.hid hG
    have O1 := Lib.hid hO
    clear hC hG hO
    by_cases hlt : k < l.length
    · obtain ⟨s, hs⟩ : ∃ s, l[k]? = some s := ⟨l[k], List.getElem?_eq_getElem hlt⟩
      obtain ⟨s1, s2, s3⟩ := s
      obtain ⟨c1, c2, c3⟩ := G1.out.2 k _ hs
      obtain ⟨hz, b0, b1, b2⟩ := C1.out.facts
      obtain ⟨l1, l2, l3⟩ := within_at HL.out hs
      have hq := Lib.hid (in_step b v hs)
      simp only at l1 l2 l3
      clear hs
      go_wp2
      have HB := Lib.hid ((((Below.refl wr.heap.size wr).alloc (Nat.le_refl _) (.cells #[.int .i64 s1, .int .i64 s2, .int .i64 s3] 117))))
      have HZ := Lib.hid (show (wr.alloc (.cells #[.int .i64 s1, .int .i64 s2, .int .i64 s3] 117)).heap.size = wr.heap.size + 1 by simp)
      have HS := Lib.hid (heap_new wr (.cells #[.int .i64 s1, .int .i64 s2, .int .i64 s3] 117))
      go_name_world W hW
      rw [hW] at HB HZ HS
      clear b0 b1 b2 c1 c2 c3
      have C2 := Lib.hid (C1.out.below HB.out hz)
      have G2 := Lib.hid (G1.out.below HB.out)
      have O2 := Lib.hid (O1.out.trans (Oth.of HB.out))
      obtain ⟨hz, b0, b1, b2⟩ := C2.out.facts
      have c1 : W.cell? ⟨wr.heap.size, 0, none⟩ = some (.int .i64 s1) := by simp [World.cell?, HS.out]
      have c2 : W.cell? ⟨wr.heap.size, 1, none⟩ = some (.int .i64 s2) := by simp [World.cell?, HS.out]
      have c3 : W.cell? ⟨wr.heap.size, 2, none⟩ = some (.int .i64 s3) := by simp [World.cell?, HS.out]
      clear hW
      go_still_tail 18, (by kernel_rfl)
      repeat still_step
      still_call (sameq (Part_b _ _ _ l3 l2 _))
      still_call (sameq (Put_b _ _ _ _ l1 l2 _))
      repeat still_step
      refine wpStill_nil ?_
      change wpList _ _ _ _ _ W.drew
      rw [hq.out]
      go_wp2
      go_round
      case rel =>
        refine ⟨k + 1, by omega, by go_num, rfl, ?_, ?_, ?_⟩
        · exact CarAt.set (w := W.drew) C2.out _
        · exact SpansAt.oth (w := W.drew) G2.out (Oth.setCell c 0 _ _) HCG.out
        · exact Oth.trans (w1 := W.drew) O2.out (Oth.setCell c 0 _ _)
      case measure => simp [intOf]; omega
    · go_wp2
      go_ret
      have e : l.take k = l := List.take_of_length_le (by omega)
      rw [e] at C1
      exact ⟨rfl, C1.out, O1.out⟩
def nb (o : Bool) (b v : BitVec 64) (l : List Sp) : BitVec 64 := if o then b else inS v l b
def nv (o : Bool) (b v : BitVec 64) (l : List Sp) : BitVec 64 := if o then outS b l v else v
theorem number_any (c g cap n : Nat) (b v : BitVec 64) (o : Bool) (l : List Sp) (w : World) (hn : n = l.length) (hl : Within l) (hc : CarAt c b o w) (hg : SpansAt g l w) (hcg : g ≠ c) :
    Calls Tryz.prog 84 #[.pointer (some ⟨c, 0, none⟩), .int .u64 (U v), .slice (some ⟨g, 0, none⟩) n cap] w fun e w' => NumOk c (nb o b v l) (nv o b v l) o w e w' := by
  subst hn
  cases o
  · exact number_in c g cap b v l w hl hc hg hcg
  · exact number_out c g cap b v l w hl hc hg hcg
end Go.Proofs.YtfgfkpiddlehjaaGreat
