/-
  Proved here: the document's own Writes and Reads (layer 2), as the taint's laws ask them: which register is written, which are read. Condition: the instruction's number is of 64 bits.
-/
import Derived.Test.YtfbnijcmfaeoeaaGreatRef02Check
import Derived.Test.YtfbnijcmfaeoeaaGreatInsnReads
import Derived.Test.YtfbnijcmfaeoeaaGreatTaintOwn
namespace Go.Proofs.YtfbnijcmfaeoeaaGreat
open Go.RowKit

theorem rCheck_ins (i : Ins) (k : Bool) (hb : Hid (i.ok = k)) (h : Hid (-9223372036854775808 ≤ i.imm ∧ i.imm ≤ 9223372036854775807)) (w : World) : Calls Tryz.prog 24 #[i.V] w fun e w' => e = .returned (.int .i64 (errI k)) ∧ Below w.heap.size w w' := by
  obtain ⟨v, hv⟩ := wf_S (a := i.imm) (by have h1 := h.out.1; have h2 := h.out.2; simp [Lit.wf, IntKind.min, IntKind.max, IntKind.signed, IntKind.bits]; omega)
  have H := rCheck_any i.op i.rd i.rs1 i.rs2 v i.aq i.rl i.pred i.succ w
  rw [← hv] at H
  have e : Ins.ok ⟨i.op, i.rd, i.rs1, i.rs2, i.imm, i.aq, i.rl, i.pred, i.succ⟩ = k := hb.out
  rw [e] at H
  exact H
theorem rCheck_no (i : Ins) (hb : Hid (i.ok = false)) (h : Hid (-9223372036854775808 ≤ i.imm ∧ i.imm ≤ 9223372036854775807)) (w : World) : Calls Tryz.prog 24 #[i.V] w fun e w' => e = .returned (.int .i64 2) ∧ Below w.heap.size w w' := rCheck_ins i false hb h w
theorem rCheck_ok (i : Ins) (hb : Hid (i.ok = true)) (h : Hid (-9223372036854775808 ≤ i.imm ∧ i.imm ≤ 9223372036854775807)) (w : World) : Calls Tryz.prog 24 #[i.V] w fun e w' => e = .returned (.int .i64 0) ∧ Below w.heap.size w w' := rCheck_ins i true hb h w
set_option maxRecDepth 100000 in
set_option maxHeartbeats 2000000 in
theorem rWrites_any (i : Ins) (hi : Hid (-9223372036854775808 ≤ i.imm ∧ i.imm ≤ 9223372036854775807)) (w : World) : Calls Tryz.prog 29 #[i.V] w fun e w' => e = .returned (.int .i64 (writesI i)) ∧ Below w.heap.size w w' := by
  have HS0 := Lib.hid (Stand.start i w)
  cases hb : i.ok with
  | false =>
    have e : writesI i = 0 := by unfold writesI; rw [hb]; rfl
    rw [e]
    have HN := Lib.hid hb
    clear hb e
    go_enter Tryz.func29, Tryz.ntmps29
    go_wp2_with (go_at_call 24; (with_reducible refine (rCheck_no i HN hi _).mono ?_); rintro e w2 ⟨rfl, hb2⟩; have HS2 := Lib.hid (Stand.on HS0.out hb2); clear hb2)
    go_ret
    exact ⟨rfl, Stand.below HS2.out⟩
  | true =>
    have e : writesI i = i.rd := by unfold writesI; rw [hb]; rfl
    rw [e]
    have HN := Lib.hid hb
    clear hb e
    go_enter Tryz.func29, Tryz.ntmps29
    go_wp2_with (go_at_call 24; (with_reducible refine (rCheck_ok i HN hi _).mono ?_); rintro e w2 ⟨rfl, hb2⟩; have HS2 := Lib.hid (Stand.on HS0.out hb2); clear hb2; obtain ⟨hz, c0, c1, c2, c3, c4, c5, c6, c7, c8⟩ := InsAt.facts (Stand.ins HS2.out))
    go_ret
    exact ⟨rfl, Stand.below HS2.out⟩
/-- the registers from 1 to n that are a or b -/
def scanL (n : Nat) (a b : Int) : List Int := ((List.range n).map (fun k : Nat => (k : Int) + 1)).filter fun r => decide (a = r) || decide (b = r)
theorem scan_succ (n : Nat) (a b : Int) : scanL (n + 1) a b = scanL n a b ++ (if (decide (a = (n : Int) + 1) || decide (b = (n : Int) + 1)) = true then [(n : Int) + 1] else []) := by
  unfold scanL
  rw [List.range_succ, List.map_append, List.filter_append]
  congr 1
  cases h : (decide (a = (n : Int) + 1) || decide (b = (n : Int) + 1)) <;> simp [h]
theorem scan_fin : ∀ a b : Fin 32, scanL 31 (a.1 : Nat) (b.1 : Nat) = (if ((a.1 : Nat) : Int) ≤ (b.1 : Nat) then (if ((a.1 : Nat) : Int) = (b.1 : Nat) then [((a.1 : Nat) : Int)] else [((a.1 : Nat) : Int), ((b.1 : Nat) : Int)]) else [((b.1 : Nat) : Int), ((a.1 : Nat) : Int)]).filter fun x => x != 0 := by decide +kernel
theorem scan_regs (a b : Int) (ha : 0 ≤ a ∧ a < 32) (hb : 0 ≤ b ∧ b < 32) : scanL 31 a b = regsL a b := by
  have h := scan_fin ⟨a.toNat, by omega⟩ ⟨b.toNat, by omega⟩
  simp only [Int.toNat_of_nonneg ha.1, Int.toNat_of_nonneg hb.1] at h
  rw [h, regsL_is]
theorem scan_len (n : Nat) (a b : Int) : (scanL n a b).length ≤ n := by
  unfold scanL
  exact Nat.le_trans (List.length_filter_le _ _) (by simp)
theorem Stand.grown (i : Ins) {w wr w2 : World} {vo : Value} {o : List Int} {x : Int} (HO : wr.ownsRow (w.heap.size + 1) 3 1 vo o.length (o.map (Value.int .i64))) (h : Stand i w wr) (hg : (wr.alloc (.cells #[.int .i64 x] 3)).grownBy w2 vo.ownBlock) : Stand i w w2 := by
  have hs := (Stand.below h).size
  have hl := (InsAt.facts h.1).1
  have ha := h.1.alloc (.cells #[.int .i64 x] 3)
  have hn : ∀ k, vo.ownBlock = some k → w.heap.size + 1 ≤ k := fun k hk => (HO.lt k hk).1
  refine ⟨(hg.block w.heap.size (InsAt.facts ha).1 (fun e => by have := hn _ e.symm; omega)).trans ha, ?_⟩
  exact (h.2.trans ((box_below wr (.cells #[.int .i64 x] 3)).mono hs)).grown hg (Nat.le_trans hs (box_below _ _).size) (fun k hk => by have := hn k hk; omega)
/-- what the loop keeps -/
def Scanning (i : Ins) (w : World) (vo vr : Value) (wr : World) : Prop := ∃ (k : Nat) (o : List Int), k ≤ 31 ∧ vr = .int .i64 ((k : Int) + 1) ∧ Hid (scanL k i.rs1 i.rs2 = o) ∧ wr.ownsRow (w.heap.size + 1) 3 1 vo o.length (o.map (Value.int .i64)) ∧ Stand i w wr
def readsT (i : Ins) : List Int := if i.ok = true then readsL i else []
theorem regs_ecall : regsL 10 17 = [10, 17] := by rw [regsL_is]; decide
theorem row_two (n : Nat) (w : World) (t : TypeId) (a b : Int) (hn : n ≤ w.heap.size) : ReadsN n (w.alloc (.cells #[.int .i64 a, .int .i64 b] t)) (.slice (some ⟨w.heap.size, 0, none⟩) 2 2) [a, b] := by
  refine ⟨.inr ⟨w.heap.size, 0, 2, rfl, by simp, by decide, by simp, ?_⟩, fun k hk => ?_⟩
  · intro j hj
    match j, hj with
    | 0, _ => exact alloc_row0 w a b t
    | 1, _ => exact alloc_row1 w a b t
  · simp [Value.ownBlock] at hk; omega
set_option maxRecDepth 100000 in
set_option maxHeartbeats 2000000 in
theorem rReads_no (i : Ins) (hb : Hid (i.ok = false)) (hi : Hid (-9223372036854775808 ≤ i.imm ∧ i.imm ≤ 9223372036854775807)) (w : World) : Calls Tryz.prog 27 #[i.V] w fun e w' => Merged w [] e w' := by
  have HS0 := Lib.hid (Stand.start i w)
  go_enter Tryz.func27, Tryz.ntmps27
  go_wp2_with (go_at_call 24; (with_reducible refine (rCheck_no i hb hi _).mono ?_); rintro e w2 ⟨rfl, hb2⟩; have HS2 := Lib.hid (Stand.on HS0.out hb2); clear hb2)
  go_ret
  exact ⟨_, rfl, ReadsN.nil _ _, Stand.below HS2.out⟩
set_option maxRecDepth 100000 in
set_option maxHeartbeats 2000000 in
theorem rReads_ecall (i : Ins) (hb : Hid (i.ok = true)) (ho : Hid (i.op = 64)) (hi : Hid (-9223372036854775808 ≤ i.imm ∧ i.imm ≤ 9223372036854775807)) (w : World) : Calls Tryz.prog 27 #[i.V] w fun e w' => Merged w [10, 17] e w' := by
  have HS0 := Lib.hid (Stand.start i w)
  go_enter Tryz.func27, Tryz.ntmps27
  go_wp2_with (go_at_call 24; (with_reducible refine (rCheck_ok i hb hi _).mono ?_); rintro e w2 ⟨rfl, hb2⟩; have HS2 := Lib.hid (Stand.on HS0.out hb2); clear hb2; obtain ⟨hz, c0, c1, c2, c3, c4, c5, c6, c7, c8⟩ := InsAt.facts (Stand.ins HS2.out); rw [ho.out] at c0)
  go_ret
  have hs := (Stand.below HS2.out).size
  exact ⟨_, rfl, (row_two w2.heap.size w2 _ 10 17 (Nat.le_refl _)).mono hs, (Stand.below HS2.out).trans (((Below.refl _ _).alloc (Nat.le_refl _) _).mono hs)⟩
set_option maxRecDepth 100000 in
set_option maxHeartbeats 4000000 in
theorem rReads_scan (i : Ins) (hb : Hid (i.ok = true)) (ho : i.op ≠ 64) (hi : Hid (-9223372036854775808 ≤ i.imm ∧ i.imm ≤ 9223372036854775807)) (w : World) : Calls Tryz.prog 27 #[i.V] w fun e w' => Merged w (scanL 31 i.rs1 i.rs2) e w' := by
  have HS0 := Lib.hid (Stand.start i w)
  go_enter Tryz.func27, Tryz.ntmps27
  go_wp2_with (go_at_call 24; (with_reducible refine (rCheck_ok i hb hi _).mono ?_); rintro e w2 ⟨rfl, hb2⟩; have HS2 := Lib.hid (Stand.on HS0.out hb2); clear hb2; obtain ⟨hz, c0, c1, c2, c3, c4, c5, c6, c7, c8⟩ := InsAt.facts (Stand.ins HS2.out))
  have hopf : (i.op == 64) = false := by simpa using ho
  rw [hopf]
  clear ho hopf
  go_loopw [3, 4] (fun vo vr wr => Scanning i w vo vr wr) (fun _ vr _ => (32 - intOf vr).toNat)
  case atStart => exact ⟨0, [], by omega, rfl, Lib.hid rfl, World.ownsRow_nil _ _ _ _, HS2.out⟩
  case round =>
    obtain ⟨k, o, hk, rfl, HT, hown, hst⟩ := hrel
    have HO := Lib.hid hown
    have HS3 := Lib.hid hst
    clear hown hst hz c0 c1 c2 c3 c4 c5 c6 c7 c8
    obtain ⟨hz, c0, c1, c2, c3, c4, c5, c6, c7, c8⟩ := InsAt.facts (Stand.ins HS3.out)
    by_cases hlt : k < 31
    · have hn := scan_succ k i.rs1 i.rs2
      rw [HT.out] at hn
      have hol : o.length ≤ 31 := by have := scan_len k i.rs1 i.rs2; rw [HT.out] at this; omega
      by_cases hc : i.rs1 = (k : Int) + 1 ∨ i.rs2 = (k : Int) + 1
      · have hcc : (decide (i.rs1 = (k : Int) + 1) || decide (i.rs2 = (k : Int) + 1)) = true := by simpa using hc
        rw [hcc, if_pos rfl] at hn
        have HN := Lib.hid hn
        clear hn
        by_cases h1 : i.rs1 = (k : Int) + 1
        · have hb1 : (i.rs1 == (k : Int) + 1) = true := by simpa using h1
          clear h1 hc hcc
          go_wp2_with (refine append_reads rfl (.tmp 26) (.tmp 28) rfl (w.heap.size + 1) _ o [(k : Int) + 1] rfl (HO.out.alloc _) _ rfl (reads_one _ _) (by simp; omega) (by have := hz; simp; omega) ?_; intro v1 w2 hw2 hg2; have H2 := Lib.hid hw2; have HL2 := Lib.hid (Stand.grown i HO.out HS3.out hg2); clear hw2 hg2)
          go_roundw
          case rel => exact ⟨k + 1, _, by omega, by go_num, HN, H2.out, HL2.out⟩
          case measure => simp [intOf]; omega
        · have h2 : i.rs2 = (k : Int) + 1 := hc.resolve_left h1
          have hb1 : (i.rs1 == (k : Int) + 1) = false := by simpa using h1
          have hb2 : (i.rs2 == (k : Int) + 1) = true := by simpa using h2
          clear h1 h2 hc hcc
          go_wp2_with (refine append_reads rfl (.tmp 26) (.tmp 28) rfl (w.heap.size + 1) _ o [(k : Int) + 1] rfl (HO.out.alloc _) _ rfl (reads_one _ _) (by simp; omega) (by have := hz; simp; omega) ?_; intro v1 w2 hw2 hg2; have H2 := Lib.hid hw2; have HL2 := Lib.hid (Stand.grown i HO.out HS3.out hg2); clear hw2 hg2)
          go_roundw
          case rel => exact ⟨k + 1, _, by omega, by go_num, HN, H2.out, HL2.out⟩
          case measure => simp [intOf]; omega
      · have h1 : i.rs1 ≠ (k : Int) + 1 := fun h => hc (.inl h)
        have h2 : i.rs2 ≠ (k : Int) + 1 := fun h => hc (.inr h)
        have hb1 : (i.rs1 == (k : Int) + 1) = false := by simpa using h1
        have hb2 : (i.rs2 == (k : Int) + 1) = false := by simpa using h2
        have hcc : (decide (i.rs1 = (k : Int) + 1) || decide (i.rs2 = (k : Int) + 1)) = false := by simp [h1, h2]
        rw [hcc, if_neg (by decide), List.append_nil] at hn
        have HN := Lib.hid hn
        clear hn
        go_wp2
        go_roundw
        case rel => exact ⟨k + 1, _, by omega, by go_num, HN, HO.out, HS3.out⟩
        case measure => simp [intOf]; omega
    · have e : k = 31 := by omega
      subst e
      go_wp2
      go_ret
      exact ⟨_, rfl, by rw [HT.out]; exact (readsN_of_own HO.out).mono (by omega), Stand.below HS3.out⟩
theorem rReads_any (i : Ins) (hi : Hid (-9223372036854775808 ≤ i.imm ∧ i.imm ≤ 9223372036854775807)) (w : World) : Calls Tryz.prog 27 #[i.V] w fun e w' => Merged w (readsT i) e w' := by
  unfold readsT
  cases hb : i.ok with
  | false => exact rReads_no i (Lib.hid hb) hi w
  | true =>
    rw [if_pos rfl]
    unfold readsL
    have hm := may_of i hb
    by_cases ho : i.op = 64
    · rw [if_pos ho, regs_ecall]; exact rReads_ecall i (Lib.hid hb) (Lib.hid ho) hi w
    · rw [if_neg ho, ← scan_regs i.rs1 i.rs2 ⟨hm.rs1.1, by have := hm.rs1.2; omega⟩ ⟨hm.rs2.1, by have := hm.rs2.2; omega⟩]; exact rReads_scan i (Lib.hid hb) ho hi w
end Go.Proofs.YtfbnijcmfaeoeaaGreat
