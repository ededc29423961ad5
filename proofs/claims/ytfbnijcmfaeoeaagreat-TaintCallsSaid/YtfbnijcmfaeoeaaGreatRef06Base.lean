/-
  Proved here: the document's own Rising (layer 6) tells whether a list rises. Condition: a list has at most 100000 numbers.
  Proved here: the document's own Check of a taint (layer 6) says what the program's says. Condition: the lists are short.
  Proved here: the document's own Copy of a taint (layer 6): a taint of lists of its own; nothing that was there is changed. Condition: lists of at most 10,000 numbers.
  Proved here: the document's own Join (layer 6): all of two lists that rise, in a new list; nothing, if one does not. Condition: at most 100,000 numbers.
  Proved here: the kit's Taint tells whether two taints have the same lists. Condition: at most 10,000 numbers a list.
  Plain facts: what the document joins (layer 6) is what the program's words say; how long lists of events below a number are. No Go. No condition.
  Words: what the document's own Step (layer 6) has in its boxes while it goes on; stores into them. No condition.
  Proved here: the document's own Step (layer 6) answers what the program's words say, where it refuses. Condition: at most 10,000 numbers a list; a number of 64 bits in the instruction.
-/
import Derived.Test.YtfbnijcmfaeoeaaGreatTaintWords
import Derived.Deep.QuietTactic
import Derived.BigQuiet
import Derived.Test.YtfbnijcmfaeoeaaGreatTaintStepWalk
import Derived.Test.YtfbnijcmfaeoeaaGreatTaintLight
import Derived.Test.YtfbnijcmfaeoeaaGreatTaintOwn
import Derived.Test.YtfbnijcmfaeoeaaGreatTaintMerge
import Derived.Test.YtfbnijcmfaeoeaaGreatTaintWay
import Derived.Test.YtfbnijcmfaeoeaaGreatTaintKit
import Derived.Test.YtfbnijcmfaeoeaaGreatTaintDeps
import Derived.Deep.RegionHeld3
import Derived.Test.YtfbnijcmfaeoeaaGreatTaintLocalBase
import Derived.Test.YtfbnijcmfaeoeaaGreatTaintRefReads
import Derived.Test.YtfbnijcmfaeoeaaGreatRef02Memory
import Derived.Deep.CutBlock
import Derived.Deep.DeepCutAuto
namespace Go.Proofs.YtfbnijcmfaeoeaaGreat
section
set_option linter.unusedVariables false
open Go.RowKit

theorem lastE_pos (zs : List Int) (k : Nat) (hk : 0 < k) : lastE zs k = atI zs (k - 1) := by
  obtain ⟨j, rfl⟩ : ∃ j, k = j + 1 := ⟨k - 1, by omega⟩
  exact lastE_succ zs j
def R06Ok (b : Bool) (w : World) (e : Ending) (w' : World) : Prop := e = .returned (.bool b) ∧ Below w.heap.size w w'
theorem below_drw {B : Nat} {w w' : World} (h : Below B w w') (n : Nat) : Below B w (w'.drewN n) := ⟨h.os, h.tape, h.output, h.size, h.block⟩
set_option maxRecDepth 100000 in
set_option maxHeartbeats 2000000 in
theorem rRising_nil (a : Option Addr) (c : Nat) (w : World) : Calls Tryz.prog 15 #[.slice a 0 c] w fun e w' => R06Ok (rises []) w e w' := by
  go_enter Tryz.func15, Tryz.ntmps15
  go_wp2
  go_loopw [3] (fun x W => x = .int .i64 0 ∧ w = W) (fun _ _ => 0)
  case atStart => exact ⟨rfl, (by first | trivial | rfl)⟩
  case round =>
    obtain ⟨rfl, rfl⟩ := hrel
    go_wp2
    go_ret
    exact ⟨rfl, Below.refl _ _⟩
set_option maxRecDepth 100000 in
set_option maxHeartbeats 2000000 in
theorem rRising_some (zs : List Int) (b off c : Nat) (w : World) (hlen : zs.length ≤ 100000) (hc : ∀ j, j < zs.length → w.cell? ⟨b, off + j, none⟩ = some (.int .i64 (atI zs j))) :
    Calls Tryz.prog 15 #[.slice (some ⟨b, off, none⟩) zs.length c] w fun e w' => R06Ok (rises zs) w e w' := by
  have HC := Lib.hid hc
  clear hc
  go_enter Tryz.func15, Tryz.ntmps15
  go_wp2
  go_loopw [3] (fun x W => ∃ k : Nat, k ≤ zs.length ∧ x = .int .i64 k ∧ Hid (∀ j, j < zs.length → W.cell? ⟨b, off + j, none⟩ = some (.int .i64 (atI zs j))) ∧ Hid (Below w.heap.size w W) ∧ rises (zs.take k) = true) (fun x _ => zs.length - (intOf x).toNat)
  case atStart => exact ⟨0, Nat.zero_le _, rfl, HC, Lib.hid (Below.refl _ _), by simp [rises, risesFrom]⟩
  case round =>
    obtain ⟨k, hk, rfl, HW, HB, hr⟩ := hrel
    have HR := Lib.hid hr
    clear hr HC
    by_cases hlt : k < zs.length
    · have hcell := HW.out k hlt
      have HS := Lib.hid (rises_step zs k hlt)
      by_cases hn : atI zs k < 0
      · have HF : Hid (rises zs = false) := Lib.hid (rises_stop zs (k + 1) (by
          rw [HS.out]
          by_cases h0 : k = 0
          · subst h0; have : lastE zs 0 = -1 := rfl; rw [this]; simp; intro _; omega
          · have h1 := rises_lo (zs.take k) (-1) HR.out (atI zs (k - 1)) (by
              unfold atI
              rw [List.getD_eq_getElem?_getD, List.getElem?_eq_getElem (by omega)]
              exact List.mem_iff_getElem.2 ⟨k - 1, by rw [List.length_take]; omega, by rw [List.getElem_take]; rfl⟩)
            rw [lastE_pos zs k (by omega)]; simp; intro _; omega))
        have e1 : decide (atI zs k < 0) = true := by simp [hn]
        clear hn
        go_wp2
        go_quiet (fail)
        go_wp2
        go_ret
        exact ⟨by rw [HF.out]; rfl, below_drw HB.out _⟩
      · have e1 : decide (atI zs k < 0) = false := by simp; omega
        by_cases h0 : k = 0
        · subst h0
          simp only [Nat.add_zero] at hcell
          have HN : Hid (rises (zs.take 1) = true) := Lib.hid (by rw [HS.out, HR.out]; have : lastE zs 0 = -1 := rfl; rw [this]; simp; omega)
          clear hn
          go_wp2
          go_quiet (fail)
          go_wp2
          go_roundw
          case rel => exact ⟨1, by omega, by go_num, Lib.hid (fun j hj => HW.out j hj), Lib.hid (below_drw HB.out _), HN.out⟩
          case measure => simp [intOf]; omega
        · have hp := HW.out (k - 1) (by omega)
          have hk1 : off + (k - 1) = off + k - 1 := by omega
          have HL := Lib.hid (lastE_pos zs k (by omega))
          have e2 : decide ((0 : Int) < (k : Int)) = true := by simp; omega
          obtain ⟨j, rfl⟩ : ∃ j, k = j + 1 := ⟨k - 1, by omega⟩
          simp only [Nat.add_sub_cancel] at hp HL
          by_cases hle : atI zs (j + 1) ≤ atI zs j
          · have HF : Hid (rises zs = false) := Lib.hid (rises_stop zs (j + 1 + 1) (by rw [HS.out, HL.out]; simp; intro _; omega))
            have e3 : decide (atI zs (j + 1) ≤ atI zs j) = true := by simp [hle]
            clear hn h0 hle hk1
            go_wp2
            go_quiet (fail)
            go_wp2
            go_ret
            exact ⟨by rw [HF.out]; rfl, below_drw HB.out _⟩
          · have HN : Hid (rises (zs.take (j + 1 + 1)) = true) := Lib.hid (by rw [HS.out, HR.out, HL.out]; simp; omega)
            have e3 : decide (atI zs (j + 1) ≤ atI zs j) = false := by simp; omega
            clear hn h0 hle hk1
            go_wp2
            go_quiet (fail)
            go_wp2
            go_roundw
            case rel => exact ⟨j + 1 + 1, by omega, by go_num, Lib.hid (fun j hj => HW.out j hj), Lib.hid (below_drw HB.out _), HN.out⟩
            case measure => simp [intOf]; omega
    · have HT : Hid (rises zs = true) := Lib.hid (by have := HR.out; rwa [List.take_of_length_le (by omega)] at this)
      go_wp2
      go_ret
      exact ⟨by rw [HT.out]; rfl, HB.out⟩
theorem rRising_any (v : Value) (zs : List Int) (w : World) (h : ReadsI w v zs) (hlen : zs.length ≤ 100000) : Calls Tryz.prog 15 #[v] w fun e w' => R06Ok (rises zs) w e w' := by
  rcases h with ⟨⟨a, c, rfl, _⟩, rfl⟩ | ⟨b, off, c, rfl, _, _, _, hc⟩
  · exact rRising_nil a c w
  · exact rRising_some zs b off c w hlen hc
end
section
set_option linter.unusedVariables false
open Go.RowKit

theorem ok_len (l : Tl) (h : 0 < (l.x 0).length) : l.ok = false := by
  unfold Tl.ok
  have : decide ((l.x 0).length = 0) = false := decide_eq_false (by omega)
  rw [this]; simp
theorem ok_way_no (l : Tl) (h : rises l.way = false) : l.ok = false := by
  unfold Tl.ok
  rw [h]; simp
def RChk (b : Bool) (w : World) (e : Ending) (w' : World) : Prop := e = .returned (.int .i64 (errI b)) ∧ Below w.heap.size w w'
set_option maxRecDepth 100000 in
set_option maxHeartbeats 4000000 in
theorem rTCheck_any (t : Ta) (l : Tl) (w : World) (h : TReads w t l) (hs : l.short) : Calls Tryz.prog 12 #[t.V] w fun e w' => RChk l.ok w e w' := by
  have HB := Lib.hid (box_below w (.cells (tC t) 25))
  have H := TAt.new 25 t w
  have HT := Lib.hid (h.alloc (.cells (tC t) 25))
  have hz : w.heap.size < (w.alloc (.cells (tC t) 25)).heap.size := by simp
  obtain ⟨W, HW⟩ : ∃ W, Hid (w.alloc (.cells (tC t) 25) = W) := ⟨_, Lib.hid rfl⟩
  rw [HW.out] at H HB HT hz
  have HA := Lib.hid H
  have KR : Hid (∀ (V : World) (k : Nat), Below W.heap.size W V → k < 32 → Calls Tryz.prog 15 #[t.v k] V fun e w' => R06Ok (rises (l.x k)) V e w') := Lib.hid (fun V k hb hk => rRising_any _ _ _ ((HT.out.x k hk).below hb) (by have := hs.x k hk; omega))
  have KW := Lib.hid (rRising_any t.way l.way W HT.out.w (by have := hs.w; omega))
  obtain ⟨a0, c0, e0⟩ := (HT.out.x 0 (by omega)).len
  have hc0 := HA.out.cx 0 (by omega)
  rw [e0] at hc0
  have hcw := HA.out.cw
  have hi0 : ∀ V : World, (Instr.indexAt 23 (.pointer (some ⟨w.heap.size, 0, none⟩)) (.int .i64 0)).run Tryz.prog V = .ok (.pointer (some ⟨w.heap.size, 0, none⟩)) V := fun V => index_xa w.heap.size 0 (by omega) V
  clear h hs H e0
  go_enter Tryz.func12, Tryz.ntmps12
  go_upto_region 1 with fail
  rw [HW.out]
  by_cases h0 : 0 < (l.x 0).length
  · have d0 : decide (0 < (l.x 0).length) = true := decide_eq_true (by omega)
    have HF := Lib.hid (ok_len l h0)
    clear h0
    go_wp2
    go_ret
    exact ⟨by rw [HF.out]; rfl, HB.out⟩
  · have d0 : decide (0 < (l.x 0).length) = false := decide_eq_false (by omega)
    have HL0 : Hid ((l.x 0).length = 0) := Lib.hid (by omega)
    clear h0
    cases hw : rises l.way
    · have HF := Lib.hid (ok_way_no l hw)
      have K2 := KW.out
      rw [hw] at K2
      have K3 := Lib.hid K2
      clear K2 hw
      go_wp2_with (go_at_call 15; (with_reducible refine K3.out.mono ?_); rintro e v1 ⟨rfl, hb⟩; have B1 := Lib.hid (HB.out.trans (hb.mono HB.out.size)); clear hb)
      go_ret
      exact ⟨by rw [HF.out]; rfl, B1.out⟩
    · have K2 := KW.out
      rw [hw] at K2
      have K3 := Lib.hid K2
      have HWR := Lib.hid hw
      clear K2 hw
      go_wp2_with (go_at_call 15; (with_reducible refine K3.out.mono ?_); rintro e v1 ⟨rfl, hb⟩; have B1 := Lib.hid hb; clear hb)
      go_loopw [3] (fun x V => ∃ k : Nat, k ≤ 32 ∧ x = .int .i64 k ∧ Hid (Below W.heap.size W V) ∧ Hid (∀ j, j < k → rises (l.x j) = true)) (fun x _ => 32 - (intOf x).toNat)
      case atStart => exact ⟨0, Nat.zero_le _, rfl, B1, Lib.hid (fun j hj => absurd hj (by omega))⟩
      case round =>
        obtain ⟨k, hk, rfl, BV, hr⟩ := hrel
        clear hc0 hcw hi0 B1 K3 KW
        by_cases hlt : k < 32
        · have ck := (HA.out.below BV.out hz).cx k hlt
          have hix := fun V => index_xa w.heap.size k hlt V
          cases hb : rises (l.x k)
          · have K4 := KR.out _ k BV.out hlt
            rw [hb] at K4
            have K5 := Lib.hid K4
            have HF := Lib.hid (Tl.ok_no l k hlt hb)
            clear K4 hb
            go_wp2_with (go_at_call 15; (with_reducible refine K5.out.mono ?_); rintro e v2 ⟨rfl, hb⟩; have B2 := Lib.hid (BV.out.trans (hb.mono BV.out.size)); clear hb)
            go_ret
            exact ⟨by rw [HF.out]; rfl, HB.out.trans (B2.out.mono HB.out.size)⟩
          · have K4 := KR.out _ k BV.out hlt
            rw [hb] at K4
            have K5 := Lib.hid K4
            have HN := Lib.hid hb
            clear K4 hb
            go_wp2_with (go_at_call 15; (with_reducible refine K5.out.mono ?_); rintro e v2 ⟨rfl, hb⟩; have B2 := Lib.hid (BV.out.trans (hb.mono BV.out.size)); clear hb)
            go_roundw
            case rel => exact ⟨k + 1, by omega, by go_num, B2, Lib.hid (fun j hj => (Nat.lt_succ_iff_lt_or_eq.1 hj).elim (hr.out j) (fun h => h ▸ HN.out))⟩
            case measure => simp [intOf]; omega
        · obtain rfl : k = 32 := by omega
          have HF : Hid (l.ok = true) := Lib.hid (by rw [Tl.ok_all l hr.out _ _ HWR.out (decide_eq_true HL0.out)]; rfl)
          go_wp2
          go_ret
          exact ⟨by rw [HF.out]; rfl, HB.out.trans (BV.out.mono HB.out.size)⟩
end
section
set_option linter.unusedVariables false
open Go.RowKit

abbrev E0 : Obj := .cells #[] 3
theorem made0 (W : World) : (W.alloc E0).ownsRow W.heap.size 3 1 (.slice (some ⟨W.heap.size, 0, none⟩) 0 0) 0 [] := World.ownsRow_made (base := W.heap.size) (e := 3) (size := 1) W #[] 0 (Nat.le_refl _) (by unfold maxLen; omega) (by simp)
set_option maxRecDepth 100000 in
set_option maxHeartbeats 4000000 in
theorem rCopy_any (t : Ta) (l : Tl) (w : World) (h : TReads w t l) (hs : l.short) : Calls Tryz.prog 25 #[t.V] w fun e w' => TaintOk w l e w' := by
  have S0 := Lib.hid (Ot.start t l w)
  have KH := Lib.hid (fun W (hb : Below w.heap.size w W) => h.below hb)
  have KS := Lib.hid hs
  clear h hs
  go_enter Tryz.func25, Tryz.ntmps25
  go_wp2
  go_loopw [3] (fun vi wr => ∃ (k : Nat) (t2 : Ta), k ≤ 32 ∧ vi = .int .i64 k ∧ Ot t l k t2 w wr) (fun vi _ => 32 - (intOf vi).toNat)
  case atStart => exact ⟨0, t, Nat.zero_le _, rfl, S0.out⟩
  case round =>
    obtain ⟨k, t2, hk, rfl, hot⟩ := hrel
    have HK := Lib.hid hot
    clear hot S0
    by_cases hlt : k < 32
    · have d0 := HK.out.box.cx k hlt
      rw [HK.out.rest k (Nat.le_refl _) hlt] at d0
      have zb := HK.out.box.lt
      have HR := Lib.hid (((KH.out wr HK.out.below).x k hlt).alloc E0)
      have HM := Lib.hid (made0 wr)
      have HB := Lib.hid (box_below wr E0)
      have hn := KS.out.x k hlt
      go_wp2_with (refine append_reads rfl (.tmp 9) (.tmp 13) rfl wr.heap.size _ [] (l.x k) rfl HM.out _ rfl HR.out (by simp; omega) HB.out.size ?_; intro v1 w1 hw1 hg1; have H1 := Lib.hid hw1; have HB1 := Lib.hid (HB.out.grown hg1 HB.out.size (fun k hk => (HM.out.lt k hk).1)); clear hw1 hg1; obtain ⟨a4, e4, rfl⟩ := (readsN_of_own H1.out).1.len; have A4 := Lib.hid ((readsN_of_own H1.out).mono (show w.heap.size + 2 ≤ _ from HK.out.res.lt)); have H4 := Lib.hid (HK.out.on HB1.out); clear d0; have d0 := H4.out.box.cx k hlt; have z0 := H4.out.box.frozen k)
      have H5 := Lib.hid (H4.out.put hlt (.slice a4 (l.x k).length e4) (by have := A4.out; simpa only [List.nil_append] using this))
      go_roundw
      case rel => exact ⟨k + 1, _, by omega, by go_num, H5.out⟩
      case measure => simp [intOf]; omega
    · obtain rfl : k = 32 := by omega
      have dw := HK.out.box.cw
      rw [HK.out.way] at dw
      have zb := HK.out.box.lt
      have HR := Lib.hid (((KH.out wr HK.out.below).w).alloc E0)
      have HM := Lib.hid (made0 wr)
      have HB := Lib.hid (box_below wr E0)
      have hn := KS.out.w
      go_upto_region 6 with (refine append_reads rfl (.tmp 17) (.tmp 19) rfl wr.heap.size _ [] l.way rfl HM.out _ rfl HR.out (by simp; omega) HB.out.size ?_; intro v1 w5 hw1 hg1; have H1 := Lib.hid hw1; have HB1 := Lib.hid (HB.out.grown hg1 HB.out.size (fun k hk => (HM.out.lt k hk).1)); clear hw1 hg1; obtain ⟨a5, e5, rfl⟩ := (readsN_of_own H1.out).1.len; have A4 := Lib.hid ((readsN_of_own H1.out).mono (show w.heap.size + 2 ≤ _ from HK.out.res.lt)); have H5 := Lib.hid (HK.out.on HB1.out); clear dw; have dw := H5.out.box.cw; have z0 := H5.out.box.frozen 32)
      have A5 : Hid (ReadsN (w.heap.size + 2) w5 (.slice a5 l.way.length e5) l.way) := Lib.hid (by have := A4.out; simpa only [List.nil_append] using this)
      have B6 := Lib.hid (H5.out.box.setW (.slice a5 l.way.length e5))
      have R6 := Lib.hid (H5.out.res.far (g := w.heap.size) (k := 32) (.slice a5 l.way.length e5) (by omega))
      have N6 := Lib.hid (show TReadsN (w.heap.size + 2) (w5.setCell ⟨w.heap.size, 32, none⟩ (.slice a5 l.way.length e5)) (t2.atWay (.slice a5 l.way.length e5)) l from ⟨fun k hk => (H5.out.done k hk).set _ (by omega), A5.out.set _ (by omega)⟩)
      have L6 := Lib.hid (H5.out.below.setCell (p := ⟨w.heap.size, 32, none⟩) (Nat.le_refl _) (.slice a5 l.way.length e5))
      go_wp2_with (first
        | (refine load_ta B6.out rfl (.tmp 1) rfl rfl ?_)
        | (refine store_ta R6.out _ N6.out.reads.flat rfl (.tmp 2) (.tmp 22) rfl rfl rfl ?_; intro w9 D9 ho9 hb9 hz9))
      refine bodyPost_ret (ta_end rfl rfl D9) rfl ⟨_, rfl, ⟨fun k hk => reads_after (N6.out.1 k hk) ho9 hz9, reads_after N6.out.2 ho9 hz9⟩, L6.out.trans (hb9.mono (by omega))⟩
end
section
set_option linter.unusedVariables false
open Go.RowKit

/-- a slice of ints, cell by cell -/
def RowI (w : World) (a : Option Addr) (zs : List Int) : Prop := ∀ j, j < zs.length → ∃ b off, a = some ⟨b, off, none⟩ ∧ b < w.heap.size ∧ w.cell? ⟨b, off + j, none⟩ = some (.int .i64 (atI zs j))
theorem ReadsI.row {w : World} {v : Value} {zs : List Int} (h : ReadsI w v zs) : ∃ a c, v = .slice a zs.length c ∧ RowI w a zs := by
  rcases h with ⟨⟨a, c, rfl, _⟩, rfl⟩ | ⟨b, off, c, rfl, h1, h2, h3, h4⟩
  · exact ⟨a, c, rfl, fun j hj => absurd hj (by simp)⟩
  · exact ⟨_, c, rfl, fun j hj => ⟨b, off, rfl, h3, h4 j hj⟩⟩
theorem rRising_b (v : Value) (zs : List Int) (r : Bool) (hr : rises zs = r) (w : World) (h : ReadsI w v zs) (hlen : zs.length ≤ 100000) : Calls Tryz.prog 15 #[v] w fun e w' => R06Ok r w e w' := by
  rw [← hr]; exact rRising_any v zs w h hlen
/-- what the loop keeps -/
def Joining (w : World) (M a b : List Int) (vo vi vk : Value) (wr : World) : Prop := ∃ (i k : Nat) (o : List Int), i ≤ a.length ∧ k ≤ b.length ∧ vi = .int .i64 i ∧ vk = .int .i64 k ∧ wr.ownsRow w.heap.size 3 1 vo o.length (o.map (Value.int .i64)) ∧ Below w.heap.size w wr ∧ o ++ mergeL (a.drop i) (b.drop k) = M ∧ o.length ≤ i + k
theorem join_a (a b o : List Int) (i k : Nat) (hi : i < a.length) (hk : b.length ≤ k) : o ++ mergeL (a.drop i) (b.drop k) = (o ++ [atI a i]) ++ mergeL (a.drop (i + 1)) (b.drop k) := by
  rw [joined_a a b o i k hk, joined_a a b (o ++ [atI a i]) (i + 1) k hk, drop_at a i hi]; simp
theorem join_b (a b o : List Int) (i k : Nat) (hi : a.length ≤ i) (hk : k < b.length) : o ++ mergeL (a.drop i) (b.drop k) = (o ++ [atI b k]) ++ mergeL (a.drop i) (b.drop (k + 1)) := by
  rw [joined_b a b o i k hi, joined_b a b (o ++ [atI b k]) i (k + 1) hi, drop_at b k hk]; simp
theorem join_no (w : World) (e : Ending) (h : e = .returned (.slice none 0 0)) {w' : World} (hb : Below w.heap.size w w') : Merged w [] e w' := ⟨_, h, ReadsN.nil _ _, hb⟩
set_option maxRecDepth 100000 in
set_option maxHeartbeats 4000000 in
theorem rJoin_no1 (va vb : Value) (a b : List Int) (w : World) (ha : ReadsI w va a) (hra : rises a = false) (hlen : a.length ≤ 100000) :
    Calls Tryz.prog 19 #[va, vb] w fun e w' => Merged w [] e w' := by
  have KA := Lib.hid (rRising_b _ a false hra w ha hlen)
  clear ha hra
  go_enter Tryz.func19, Tryz.ntmps19
  go_wp2_with (go_at_call 15; (with_reducible refine KA.out.mono ?_); rintro e w1 ⟨rfl, hb⟩; have B1 := Lib.hid hb; clear hb)
  go_ret
  exact join_no w _ rfl B1.out
set_option maxRecDepth 100000 in
set_option maxHeartbeats 4000000 in
theorem rJoin_no2 (va vb : Value) (a b : List Int) (w : World) (ha : ReadsI w va a) (hb : ReadsI w vb b) (hra : rises a = true) (hrb : rises b = false) (hla : a.length ≤ 100000) (hlb : b.length ≤ 100000) :
    Calls Tryz.prog 19 #[va, vb] w fun e w' => Merged w [] e w' := by
  have KA := Lib.hid (rRising_b _ a true hra w ha hla)
  have KB := Lib.hid (fun w0 (h0 : Below w.heap.size w w0) => rRising_b _ b false hrb w0 (hb.below h0) hlb)
  clear ha hb hra hrb
  go_enter Tryz.func19, Tryz.ntmps19
  go_wp2_with (first
    | (go_at_call 15; (with_reducible refine KA.out.mono ?_); rintro e w1 ⟨rfl, hb⟩; have B1 := Lib.hid hb; clear hb KA)
    | (go_at_call 15; (with_reducible refine (KB.out _ B1.out).mono ?_); rintro e w2 ⟨rfl, hb⟩; have B2 := Lib.hid (B1.out.trans (hb.mono B1.out.size)); clear hb))
  go_ret
  exact join_no w _ rfl B2.out
set_option maxRecDepth 100000 in
set_option maxHeartbeats 8000000 in
theorem rJoin_yes (va vb : Value) (a b : List Int) (w : World) (ha : ReadsI w va a) (hb : ReadsI w vb b) (hra : rises a = true) (hrb : rises b = true) (hlen : a.length + b.length ≤ 100000) :
    Calls Tryz.prog 19 #[va, vb] w fun e w' => Merged w (mergeL a b) e w' := by
  obtain ⟨M, hM⟩ : ∃ M, Hid (mergeL a b = M) := ⟨_, Lib.hid rfl⟩
  rw [hM.out]
  have KA := Lib.hid (rRising_b _ a true hra w ha (by omega))
  have KB := Lib.hid (fun w0 (h0 : Below w.heap.size w w0) => rRising_b _ b true hrb w0 (hb.below h0) (by omega))
  obtain ⟨aa, ca, rfl, hA⟩ := ha.row
  obtain ⟨ab, cb, rfl, hB⟩ := hb.row
  have RA := Lib.hid hA
  have RB := Lib.hid hB
  have S0 : Hid (∀ wr, Below w.heap.size w wr → Joining w M a b (.slice none 0 0) (.int .i64 0) (.int .i64 0) wr) := Lib.hid (fun wr h => ⟨0, 0, [], Nat.zero_le _, Nat.zero_le _, rfl, rfl, World.ownsRow_nil _ _ _ _, h, by rw [← hM.out]; simp, Nat.zero_le _⟩)
  clear ha hb hra hrb hA hB hM
  go_enter Tryz.func19, Tryz.ntmps19
  go_wp2_with (first
    | (go_at_call 15; (with_reducible refine KA.out.mono ?_); rintro e w1 ⟨rfl, hb⟩; have B1 := Lib.hid hb; clear hb KA)
    | (go_at_call 15; (with_reducible refine (KB.out _ B1.out).mono ?_); rintro e w2 ⟨rfl, hb⟩; have B2 := Lib.hid (B1.out.trans (hb.mono B1.out.size)); clear hb KB))
  go_loopw [5, 6, 7] (fun vo vi vk wr => Joining w M a b vo vi vk wr) (fun _ vi vk _ => (a.length - (intOf vi).toNat) + (b.length - (intOf vk).toNat))
  case atStart => exact S0.out _ B2.out
  case round =>
    obtain ⟨i, k, o, hi, hk, rfl, rfl, hown, hbel, hMM, hol⟩ := hrel
    have HO := Lib.hid hown
    have HL := Lib.hid hbel
    have HM := Lib.hid hMM
    have hz := hbel.size
    clear hown hbel hMM S0 B1 B2
    by_cases h1 : i < a.length
    · obtain ⟨b1, o1, rfl, l1, x1⟩ := RA.out i h1
      have c1 := (HL.out.cell (p := ⟨b1, o1 + i, none⟩) l1).trans x1
      have e0 : ((i : Int) == (a.length : Int)) = false := by simp; omega
      have d0 : decide (i < a.length) = true := by simp [h1]
      clear x1
      by_cases h2 : k < b.length
      · obtain ⟨b2, o2, rfl, l2, x2⟩ := RB.out k h2
        have c2 := (HL.out.cell (p := ⟨b2, o2 + k, none⟩) l2).trans x2
        have e1 : ((k : Int) == (b.length : Int)) = false := by simp; omega
        have d1 : decide (k < b.length) = true := by simp [h2]
        clear x2
        rcases Int.lt_trichotomy (atI a i) (atI b k) with hxy | hxy | hxy
        · have HJ := Lib.hid (joined_lt a b o i k h1 h2 hxy)
          have t0 : decide (atI a i < atI b k) = true := by simp [hxy]
          clear hxy
          go_wp2
          go_quiet (fail)
          obtain ⟨W0, HW0⟩ : ∃ W, Hid (wr.drewN nq = W) := ⟨_, Lib.hid rfl⟩
          rw [HW0.out]
          have q0 : W0 = wr.drewN nq := HW0.out.symm
          have c1' : W0.cell? ⟨b1, o1 + i, none⟩ = some (.int .i64 (atI a i)) := q0 ▸ c1
          have c2' : W0.cell? ⟨b2, o2 + k, none⟩ = some (.int .i64 (atI b k)) := q0 ▸ c2
          have HL0 : Hid (Below w.heap.size w W0) := Lib.hid (q0 ▸ (below_drw HL.out nq))
          have HO0 : Hid (W0.ownsRow w.heap.size 3 1 u5 o.length (o.map (Value.int .i64))) := Lib.hid (q0 ▸ HO.out)
          have hz0 := HL0.out.size
          clear q0 HW0 HL HO hz nq c1 c2
          go_wp2_with (refine append_reads rfl (.tmp 59) (.tmp 64) rfl w.heap.size _ o [atI a i] rfl (HO0.out.alloc _) _ rfl (reads_one _ _) (by simp; omega) (by simp; omega) ?_; intro v1 w3 hw3 hg3; have H3 := Lib.hid hw3; have L3 := Lib.hid ((HL0.out.alloc hz0 _).grown hg3 (by simp; omega) (fun k hk => (HO0.out.lt k hk).1)); clear hw3 hg3)
          go_roundw
          case rel => exact ⟨i + 1, k, o ++ [atI a i], by omega, by omega, by first | rfl | go_num, by first | rfl | go_num, H3.out, L3.out, by rw [← HM.out, HJ.out], by simp; omega⟩
          case measure => simp [intOf]; omega
        · have HJ := Lib.hid (joined_eq a b o i k h1 h2 hxy)
          have t0 : decide (atI a i < atI b k) = false := by simp; omega
          have t1 : decide (atI b k < atI a i) = false := by simp; omega
          clear hxy
          go_wp2
          go_quiet (fail)
          obtain ⟨W0, HW0⟩ : ∃ W, Hid (wr.drewN nq = W) := ⟨_, Lib.hid rfl⟩
          rw [HW0.out]
          have q0 : W0 = wr.drewN nq := HW0.out.symm
          have c1' : W0.cell? ⟨b1, o1 + i, none⟩ = some (.int .i64 (atI a i)) := q0 ▸ c1
          have c2' : W0.cell? ⟨b2, o2 + k, none⟩ = some (.int .i64 (atI b k)) := q0 ▸ c2
          have HL0 : Hid (Below w.heap.size w W0) := Lib.hid (q0 ▸ (below_drw HL.out nq))
          have HO0 : Hid (W0.ownsRow w.heap.size 3 1 u5 o.length (o.map (Value.int .i64))) := Lib.hid (q0 ▸ HO.out)
          have hz0 := HL0.out.size
          clear q0 HW0 HL HO hz nq c1 c2
          go_wp2
          go_quiet (fail)
          obtain ⟨W1, HW1⟩ : ∃ W, Hid (W0.drewN nq = W) := ⟨_, Lib.hid rfl⟩
          rw [HW1.out]
          have q1 : W1 = W0.drewN nq := HW1.out.symm
          have c1'' : W1.cell? ⟨b1, o1 + i, none⟩ = some (.int .i64 (atI a i)) := q1 ▸ c1'
          have c2'' : W1.cell? ⟨b2, o2 + k, none⟩ = some (.int .i64 (atI b k)) := q1 ▸ c2'
          have HL1 : Hid (Below w.heap.size w W1) := Lib.hid (q1 ▸ (below_drw HL0.out nq))
          have HO1 : Hid (W1.ownsRow w.heap.size 3 1 u5 o.length (o.map (Value.int .i64))) := Lib.hid (q1 ▸ HO0.out)
          have hz1 := HL1.out.size
          clear q1 HW1 HL0 HO0 hz0 nq c1' c2'
          go_wp2_with (refine append_reads rfl (.tmp 26) (.tmp 31) rfl w.heap.size _ o [atI a i] rfl (HO1.out.alloc _) _ rfl (reads_one _ _) (by simp; omega) (by simp; omega) ?_; intro v1 w3 hw3 hg3; have H3 := Lib.hid hw3; have L3 := Lib.hid ((HL1.out.alloc hz1 _).grown hg3 (by simp; omega) (fun k hk => (HO1.out.lt k hk).1)); clear hw3 hg3)
          go_roundw
          case rel => exact ⟨i + 1, k + 1, o ++ [atI a i], by omega, by omega, by first | rfl | go_num, by first | rfl | go_num, H3.out, L3.out, by rw [← HM.out, HJ.out], by simp; omega⟩
          case measure => simp [intOf]; omega
        · have HJ := Lib.hid (joined_gt a b o i k h1 h2 hxy)
          have t0 : decide (atI a i < atI b k) = false := by simp; omega
          have t1 : decide (atI b k < atI a i) = true := by simp [hxy]
          clear hxy
          go_wp2
          go_quiet (fail)
          obtain ⟨W0, HW0⟩ : ∃ W, Hid (wr.drewN nq = W) := ⟨_, Lib.hid rfl⟩
          rw [HW0.out]
          have q0 : W0 = wr.drewN nq := HW0.out.symm
          have c1' : W0.cell? ⟨b1, o1 + i, none⟩ = some (.int .i64 (atI a i)) := q0 ▸ c1
          have c2' : W0.cell? ⟨b2, o2 + k, none⟩ = some (.int .i64 (atI b k)) := q0 ▸ c2
          have HL0 : Hid (Below w.heap.size w W0) := Lib.hid (q0 ▸ (below_drw HL.out nq))
          have HO0 : Hid (W0.ownsRow w.heap.size 3 1 u5 o.length (o.map (Value.int .i64))) := Lib.hid (q0 ▸ HO.out)
          have hz0 := HL0.out.size
          clear q0 HW0 HL HO hz nq c1 c2
          go_wp2
          go_quiet (fail)
          obtain ⟨W1, HW1⟩ : ∃ W, Hid (W0.drewN nq = W) := ⟨_, Lib.hid rfl⟩
          rw [HW1.out]
          have q1 : W1 = W0.drewN nq := HW1.out.symm
          have c1'' : W1.cell? ⟨b1, o1 + i, none⟩ = some (.int .i64 (atI a i)) := q1 ▸ c1'
          have c2'' : W1.cell? ⟨b2, o2 + k, none⟩ = some (.int .i64 (atI b k)) := q1 ▸ c2'
          have HL1 : Hid (Below w.heap.size w W1) := Lib.hid (q1 ▸ (below_drw HL0.out nq))
          have HO1 : Hid (W1.ownsRow w.heap.size 3 1 u5 o.length (o.map (Value.int .i64))) := Lib.hid (q1 ▸ HO0.out)
          have hz1 := HL1.out.size
          clear q1 HW1 HL0 HO0 hz0 nq c1' c2'
          go_wp2_with (refine append_reads rfl (.tmp 84) (.tmp 89) rfl w.heap.size _ o [atI b k] rfl (HO1.out.alloc _) _ rfl (reads_one _ _) (by simp; omega) (by simp; omega) ?_; intro v1 w3 hw3 hg3; have H3 := Lib.hid hw3; have L3 := Lib.hid ((HL1.out.alloc hz1 _).grown hg3 (by simp; omega) (fun k hk => (HO1.out.lt k hk).1)); clear hw3 hg3)
          go_roundw
          case rel => exact ⟨i, k + 1, o ++ [atI b k], by omega, by omega, by first | rfl | go_num, by first | rfl | go_num, H3.out, L3.out, by rw [← HM.out, HJ.out], by simp; omega⟩
          case measure => simp [intOf]; omega
      · have HJ := Lib.hid (join_a a b o i k h1 (by omega))
        have e1 : ((k : Int) == (b.length : Int)) = true := by simp; omega
        have d1 : decide (k < b.length) = false := by simp; omega
        clear h2
        go_wp2
        go_quiet (fail)
        obtain ⟨W0, HW0⟩ : ∃ W, Hid (wr.drewN nq = W) := ⟨_, Lib.hid rfl⟩
        rw [HW0.out]
        have q0 : W0 = wr.drewN nq := HW0.out.symm
        have c1' : W0.cell? ⟨b1, o1 + i, none⟩ = some (.int .i64 (atI a i)) := q0 ▸ c1
        have HL0 : Hid (Below w.heap.size w W0) := Lib.hid (q0 ▸ (below_drw HL.out nq))
        have HO0 : Hid (W0.ownsRow w.heap.size 3 1 u5 o.length (o.map (Value.int .i64))) := Lib.hid (q0 ▸ HO.out)
        have hz0 := HL0.out.size
        clear q0 HW0 HL HO hz nq c1
        go_wp2_with (refine append_reads rfl (.tmp 59) (.tmp 64) rfl w.heap.size _ o [atI a i] rfl (HO0.out.alloc _) _ rfl (reads_one _ _) (by simp; omega) (by simp; omega) ?_; intro v1 w3 hw3 hg3; have H3 := Lib.hid hw3; have L3 := Lib.hid ((HL0.out.alloc hz0 _).grown hg3 (by simp; omega) (fun k hk => (HO0.out.lt k hk).1)); clear hw3 hg3)
        go_roundw
        case rel => exact ⟨i + 1, k, o ++ [atI a i], by omega, by omega, by first | rfl | go_num, by first | rfl | go_num, H3.out, L3.out, by rw [← HM.out, HJ.out], by simp; omega⟩
        case measure => simp [intOf]; omega
    · have e0 : ((i : Int) == (a.length : Int)) = true := by simp; omega
      have d0 : decide (i < a.length) = false := by simp; omega
      by_cases h2 : k < b.length
      · have HJ := Lib.hid (join_b a b o i k (by omega) h2)
        obtain ⟨b2, o2, rfl, l2, x2⟩ := RB.out k h2
        have c2 := (HL.out.cell (p := ⟨b2, o2 + k, none⟩) l2).trans x2
        have e1 : ((k : Int) == (b.length : Int)) = false := by simp; omega
        have d1 : decide (k < b.length) = true := by simp [h2]
        clear x2 h1
        go_wp2
        go_quiet (fail)
        obtain ⟨W0, HW0⟩ : ∃ W, Hid (wr.drewN nq = W) := ⟨_, Lib.hid rfl⟩
        rw [HW0.out]
        have q0 : W0 = wr.drewN nq := HW0.out.symm
        have c2' : W0.cell? ⟨b2, o2 + k, none⟩ = some (.int .i64 (atI b k)) := q0 ▸ c2
        have HL0 : Hid (Below w.heap.size w W0) := Lib.hid (q0 ▸ (below_drw HL.out nq))
        have HO0 : Hid (W0.ownsRow w.heap.size 3 1 u5 o.length (o.map (Value.int .i64))) := Lib.hid (q0 ▸ HO.out)
        have hz0 := HL0.out.size
        clear q0 HW0 HL HO hz nq c2
        go_wp2
        go_quiet (fail)
        obtain ⟨W1, HW1⟩ : ∃ W, Hid (W0.drewN nq = W) := ⟨_, Lib.hid rfl⟩
        rw [HW1.out]
        have q1 : W1 = W0.drewN nq := HW1.out.symm
        have c2'' : W1.cell? ⟨b2, o2 + k, none⟩ = some (.int .i64 (atI b k)) := q1 ▸ c2'
        have HL1 : Hid (Below w.heap.size w W1) := Lib.hid (q1 ▸ (below_drw HL0.out nq))
        have HO1 : Hid (W1.ownsRow w.heap.size 3 1 u5 o.length (o.map (Value.int .i64))) := Lib.hid (q1 ▸ HO0.out)
        have hz1 := HL1.out.size
        clear q1 HW1 HL0 HO0 hz0 nq c2'
        go_wp2_with (refine append_reads rfl (.tmp 84) (.tmp 89) rfl w.heap.size _ o [atI b k] rfl (HO1.out.alloc _) _ rfl (reads_one _ _) (by simp; omega) (by simp; omega) ?_; intro v1 w3 hw3 hg3; have H3 := Lib.hid hw3; have L3 := Lib.hid ((HL1.out.alloc hz1 _).grown hg3 (by simp; omega) (fun k hk => (HO1.out.lt k hk).1)); clear hw3 hg3)
        go_roundw
        case rel => exact ⟨i, k + 1, o ++ [atI b k], by omega, by omega, by first | rfl | go_num, by first | rfl | go_num, H3.out, L3.out, by rw [← HM.out, HJ.out], by simp; omega⟩
        case measure => simp [intOf]; omega
      · have d1 : decide (k < b.length) = false := by simp; omega
        have HF : Hid (o = M) := Lib.hid (by rw [← HM.out, List.drop_eq_nil_of_le (by omega), List.drop_eq_nil_of_le (by omega), mergeL_nil, List.append_nil])
        clear h1 h2
        go_wp2
        go_ret
        exact ⟨_, rfl, by rw [← HF.out]; exact readsN_of_own HO.out, HL.out⟩
theorem rJoin_any (va vb : Value) (a b : List Int) (w : World) (ha : ReadsI w va a) (hb : ReadsI w vb b) (hlen : a.length + b.length ≤ 100000) : Calls Tryz.prog 19 #[va, vb] w fun e w' => Merged w (joinL a b) e w' := by
  unfold joinL
  cases hra : rises a
  · exact rJoin_no1 va vb a b w ha hra (by omega)
  · cases hrb : rises b
    · exact rJoin_no2 va vb a b w ha hb hra hrb (by omega) (by omega)
    · exact rJoin_yes va vb a b w ha hb hra hrb hlen
end
section
set_option linter.unusedVariables false
open Go.RowKit

def likeB (l l2 : Tl) : Bool := (List.range 32).all (fun k => decide (l.x k = l2.x k)) && decide (l.way = l2.way)
theorem like_no (l l2 : Tl) (k : Nat) (hk : k < 32) (h : l.x k ≠ l2.x k) : likeB l l2 = false := by
  unfold likeB
  have : (List.range 32).all (fun k => decide (l.x k = l2.x k)) = false := by
    rw [List.all_eq_false]
    exact ⟨k, by simpa using hk, by simpa using h⟩
  rw [this]; rfl
theorem like_all (l l2 : Tl) (h : ∀ j, j < 32 → l.x j = l2.x j) : likeB l l2 = decide (l.way = l2.way) := by
  unfold likeB
  have : (List.range 32).all (fun k => decide (l.x k = l2.x k)) = true := by
    rw [List.all_eq_true]
    intro k hk
    exact decide_eq_true (h k (by simpa using hk))
  rw [this]; rfl
theorem like_self (l : Tl) : likeB l l = true := by rw [like_all l l (fun _ _ => rfl)]; simp
/-- two taints, both in boxes of the call's own -/
structure Two (t : Ta) (l : Tl) (t2 : Ta) (l2 : Tl) (w W : World) : Prop where
  at0 : TAt 25 t w.heap.size W
  at1 : TAt 25 t2 (w.heap.size + 1) W
  r0 : TReads W t l
  r1 : TReads W t2 l2
  below : Below w.heap.size w W
theorem Two.on {t : Ta} {l : Tl} {t2 : Ta} {l2 : Tl} {w W W2 : World} (h : Two t l t2 l2 w W) (hb : Below W.heap.size W W2) : Two t l t2 l2 w W2 :=
  ⟨h.at0.below hb h.at0.lt, h.at1.below hb h.at1.lt, h.r0.below hb, h.r1.below hb, h.below.trans (hb.mono h.below.size)⟩
theorem Two.drew {t : Ta} {l : Tl} {t2 : Ta} {l2 : Tl} {w W : World} (h : Two t l t2 l2 w W) : Two t l t2 l2 w W.drew := h.on (Below.refl _ _).drew
theorem Two.cells {t : Ta} {l : Tl} {t2 : Ta} {l2 : Tl} {w W : World} (h : Two t l t2 l2 w W) {k : Nat} (hk : k < 32) : W.cell? ⟨w.heap.size, k, none⟩ = some (t.v k) ∧ W.cell? ⟨w.heap.size + 1, k, none⟩ = some (t2.v k) := ⟨h.at0.cx k hk, h.at1.cx k hk⟩
theorem Two.start (t : Ta) (l : Tl) (t2 : Ta) (l2 : Tl) (w : World) (h : TReads w t l) (h2 : TReads w t2 l2) : Two t l t2 l2 w ((w.alloc (.cells (tC t) 25)).alloc (.cells (tC t2) 25)) := by
  have D1 := TAt.new 25 t2 (w.alloc (.cells (tC t) 25))
  simp only [World.size_alloc] at D1
  exact ⟨(TAt.new _ t w).alloc _, D1, (h.alloc _).alloc _, (h2.alloc _).alloc _, ((Below.refl _ _).alloc (Nat.le_refl _) _).alloc (by simp) _⟩
set_option maxRecDepth 100000 in
set_option maxHeartbeats 4000000 in
theorem kTaint_any (t t2 : Ta) (l l2 : Tl) (w : World) (h : TReads w t l) (h2 : TReads w t2 l2) (hs : l.short) : Calls Tryz.prog 9 #[t.V, t2.V] w fun e w' => SameOk w (likeB l l2) e w' := by
  have S0 := Lib.hid (Two.start t l t2 l2 w h h2)
  obtain ⟨W, HW⟩ : ∃ W, Hid ((w.alloc (.cells (tC t) 25)).alloc (.cells (tC t2) 25) = W) := ⟨_, Lib.hid rfl⟩
  have KS := Lib.hid hs
  rw [HW.out] at S0
  clear h h2 hs
  go_enter Tryz.func9, Tryz.ntmps9
  go_upto_region 1 with fail
  rw [HW.out]
  clear HW
  go_wp2
  go_loopw [5] (fun x V => ∃ k : Nat, k ≤ 32 ∧ x = .int .i64 k ∧ Hid (Two t l t2 l2 w V) ∧ Hid (∀ j, j < k → l.x j = l2.x j)) (fun x _ => 32 - (intOf x).toNat)
  case atStart => exact ⟨0, Nat.zero_le _, rfl, S0, Lib.hid (fun j hj => absurd hj (by omega))⟩
  case round =>
    obtain ⟨k, hk, rfl, G0, HR⟩ := hrel
    clear S0
    by_cases hlt : k < 32
    · obtain ⟨ck, dk⟩ := G0.out.cells hlt
      have ix := fun V => index_xa w.heap.size k hlt V
      have iy := fun V => index_xa (w.heap.size + 1) k hlt V
      have hn : Hid ((l.x k).length ≤ 100000) := Lib.hid (by have := KS.out.x k hlt; omega)
      by_cases he : l.x k = l2.x k
      · have HD : Hid (decide (l.x k = l2.x k) = true) := Lib.hid (decide_eq_true he)
        have HE := Lib.hid he
        clear he
        go_wp2
        go_region_held3 (fun w' => w'.cell? ⟨w.heap.size, k, none⟩ = some (t.v k) ∧ w'.cell? ⟨w.heap.size + 1, k, none⟩ = some (t2.v k))
          (first | exact ⟨ck, dk⟩ | exact G3.out.cells hlt)
          ((go_at_call 16; (with_reducible refine (same_b _ _ _ _ true HD.out _ (G0.out.drew.r0.x k hlt) (G0.out.drew.r1.x k hlt) hn.out).mono ?_); rintro e v3 ⟨rfl, hb⟩; have G3 := Lib.hid (G0.out.drew.on hb); clear hb))
        go_wp2
        go_roundw
        case rel => exact ⟨k + 1, by omega, by go_num, G3, Lib.hid (fun j hj => (Nat.lt_succ_iff_lt_or_eq.1 hj).elim (HR.out j) (fun h => h ▸ HE.out))⟩
        case measure => simp [intOf]; omega
      · have HD : Hid (decide (l.x k = l2.x k) = false) := Lib.hid (decide_eq_false he)
        have HF := Lib.hid (like_no l l2 k hlt he)
        clear he
        go_wp2
        go_region_held3 (fun w' => w'.cell? ⟨w.heap.size, k, none⟩ = some (t.v k) ∧ w'.cell? ⟨w.heap.size + 1, k, none⟩ = some (t2.v k))
          (first | exact ⟨ck, dk⟩ | exact G3.out.cells hlt)
          ((go_at_call 16; (with_reducible refine (same_b _ _ _ _ false HD.out _ (G0.out.drew.r0.x k hlt) (G0.out.drew.r1.x k hlt) hn.out).mono ?_); rintro e v3 ⟨rfl, hb⟩; have G3 := Lib.hid (G0.out.drew.on hb); clear hb))
        go_wp2
        go_ret
        exact SameOk.mk HF.out.symm G3.out.below
    · obtain rfl : k = 32 := by omega
      have HF := Lib.hid (like_all l l2 HR.out)
      clear hk hlt
      have ck := G0.out.at0.cw
      have dk := G0.out.at1.cw
      have hn : Hid (l.way.length ≤ 100000) := Lib.hid (by have := KS.out.w; omega)
      go_wp2_with (go_at_call 16; (with_reducible refine (same_b _ _ _ _ _ rfl _ G0.out.r0.w G0.out.r1.w hn.out).mono ?_); rintro e v3 ⟨rfl, hb⟩; have G3 := Lib.hid (G0.out.on hb); clear hb)
      go_ret
      exact SameOk.mk HF.out.symm G3.out.below
theorem kTaint_yes (t t2 : Ta) (l l2 : Tl) (w : World) (he : Hid (l = l2)) (h : TReads w t l) (h2 : TReads w t2 l2) (hs : l.short) : Calls Tryz.prog 9 #[t.V, t2.V] w fun e w' => SameOk w true e w' := by
  have := kTaint_any t t2 l l2 w h h2 hs
  rw [he.out, like_self] at this
  exact this
end
section
theorem mem_hang (l : Tl) : ∀ (rs acc : List Int) (z : Int), z ∈ rs.foldl (fun all r => mergeL all (l.x r.toNat)) acc ↔ z ∈ acc ∨ ∃ r ∈ rs, z ∈ l.x r.toNat
  | [], acc, z => by simp
  | r :: rs, acc, z => by
    rw [List.foldl_cons, mem_hang l rs, mem_mergeL]
    simp only [List.mem_cons]
    constructor
    · rintro ((h | h) | ⟨q, hq, h⟩)
      · exact .inl h
      · exact .inr ⟨r, .inl rfl, h⟩
      · exact .inr ⟨q, .inr hq, h⟩
    · rintro (h | ⟨q, rfl | hq, h⟩)
      · exact .inl (.inl h)
      · exact .inl (.inr h)
      · exact .inr ⟨q, hq, h⟩
theorem mem_hangL (l : Tl) (rs : List Int) (z : Int) : z ∈ hangL l rs ↔ ∃ r ∈ rs, z ∈ l.x r.toNat := by
  unfold hangL
  rw [mem_hang]
  simp
theorem ok_zero {l : Tl} (h : l.ok = true) : l.x 0 = [] := by
  unfold Tl.ok at h
  simp only [Bool.and_eq_true, decide_eq_true_eq] at h
  exact List.length_eq_zero_iff.1 h.2.2
theorem hang_ext (l : Tl) (h : l.ok = true) (rs ss : List Int) (he : ∀ z, (∃ r ∈ rs, z ∈ l.x r.toNat) ↔ ∃ r ∈ ss, z ∈ l.x r.toNat) : hangL l rs = hangL l ss :=
  rises_eq _ _ (rises_hang l (ok_x h) rs) (rises_hang l (ok_x h) ss) fun z => by rw [mem_hangL, mem_hangL]; exact he z
theorem hang_regs (l : Tl) (h : l.ok = true) (a b : Int) : hangL l (regsL a b) = hangL l [a, b] := by
  refine hang_ext l h _ _ fun z => ⟨?_, ?_⟩
  · rintro ⟨r, hr, hz⟩
    rcases regsL_mem a b r hr with rfl | rfl
    · exact ⟨_, by simp, hz⟩
    · exact ⟨_, by simp, hz⟩
  · rintro ⟨r, hr, hz⟩
    by_cases h0 : r = 0
    · subst h0
      rw [show (0 : Int).toNat = 0 from rfl, ok_zero h] at hz
      cases hz
    · exact ⟨r, regs_has a b r (by simpa using hr) h0, hz⟩
theorem hang_one (l : Tl) (r : Int) : hangL l [r] = l.x r.toNat := mergeL_nil _
theorem hang_last (l : Tl) (h : l.ok = true) (a : Int) : hangL l [a, 0] = hangL l [a] := by
  refine hang_ext l h _ _ fun z => ⟨?_, ?_⟩
  · rintro ⟨r, hr, hz⟩
    rcases (by simpa using hr : r = a ∨ r = 0) with rfl | rfl
    · exact ⟨_, by simp, hz⟩
    · rw [show (0 : Int).toNat = 0 from rfl, ok_zero h] at hz
      cases hz
  · rintro ⟨r, hr, hz⟩
    exact ⟨r, by simp at hr; simp [hr], hz⟩
theorem join_is (a b : List Int) (ha : rises a = true) (hb : rises b = true) : joinL a b = mergeL a b := by
  unfold joinL
  rw [ha, hb]; rfl
theorem reads_is (i : Ins) (h : i.op ≠ 64) : readsL i = regsL i.rs1 i.rs2 := by unfold readsL; rw [if_neg h]
/-- the way, as the document joins it -/
theorem way_doc (l : Tl) (i : Ins) (hl : l.ok = true) (hi : i.ok = true) (h : formOf i.op = 6 ∨ i.op = 4) : joinL l.way (hangL l (readsL i)) = wayL l i := by
  rw [join_is _ _ (ok_way hl) (rises_hang l (ok_x hl) _)]
  unfold wayL
  by_cases h6 : formOf i.op = 6
  · rw [if_pos h6, reads_is i (fun e => by rw [e] at h6; revert h6; decide), hang_regs l hl]
  · have h4 : i.op = 4 := h.resolve_left h6
    have h2 : i.rs2 = 0 := (may_of i hi).rs2.2.2 (by rw [h4]; decide)
    rw [if_neg h6, if_pos h4, reads_is i (by rw [h4]; decide), hang_regs l hl, h2, hang_last l hl]
theorem way_not (l : Tl) (i : Ins) (h : ¬ (formOf i.op = 6 ∨ i.op = 4)) : wayL l i = l.way := by
  unfold wayL
  rw [if_neg (fun e => h (.inl e)), if_neg (fun e => h (.inr e))]
theorem addr_doc (l : Tl) (i : Ins) : addrL l i = if (loadsB i.op || storesB i.op) = true then l.x i.rs1.toNat else [] := by
  unfold addrL
  rw [hang_one]
theorem data_doc (l : Tl) (i : Ins) : dataL l i = if storesB i.op = true then l.x i.rs2.toNat else [] := by
  unfold dataL
  rw [hang_one]
theorem bare_all : ∀ k : Nat, k < 88 → bareB (k : Int) = (formOf (k : Int) == 1 || (formOf (k : Int) == 2 || (k : Int) == 4)) := by decide +kernel
theorem size_all : ∀ k : Nat, k < 88 → decide (0 < sizeOf' (k : Int)) = (loadsB (k : Int) || storesB (k : Int)) := by decide +kernel
theorem bare_mem : ∀ k : Nat, k < 88 → bareB (k : Int) = true → loadsB (k : Int) = false ∧ storesB (k : Int) = false := by decide +kernel
theorem bare_doc (i : Ins) (hi : i.ok = true) : bareB i.op = (formOf i.op == 1 || (formOf i.op == 2 || i.op == 4)) := by
  obtain ⟨k, hk, h88, _⟩ := (may_of i hi).op
  rw [hk]; exact bare_all k h88
theorem size_doc (i : Ins) (hi : i.ok = true) : decide (0 < sizeOf' i.op) = (loadsB i.op || storesB i.op) := by
  obtain ⟨k, hk, h88, _⟩ := (may_of i hi).op
  rw [hk]; exact size_all k h88
theorem bare_no (i : Ins) (hi : i.ok = true) (h : bareB i.op = true) : loadsB i.op = false ∧ storesB i.op = false := by
  obtain ⟨k, hk, h88, _⟩ := (may_of i hi).op
  rw [hk] at h ⊢; exact bare_mem k h88 h
/-- what is written, as the document makes it -/
theorem written_doc (l : Tl) (i : Ins) (event : Int) (hi : i.ok = true) (he : -1 ≤ event) :
    writtenL l i event = if (loadsB i.op || storesB i.op) = true then (if 0 ≤ event then [event] else []) else if (formOf i.op == 1 || (formOf i.op == 2 || i.op == 4)) = true then [] else hangL l (readsL i) := by
  have hb := bare_doc i hi
  unfold writtenL
  rw [← hb]
  by_cases h1 : bareB i.op = true
  · obtain ⟨h2, h3⟩ := bare_no i hi h1
    rw [if_pos h1, if_pos h1, h2, h3]; rfl
  · rw [if_neg h1, if_neg h1]
    by_cases h2 : (loadsB i.op || storesB i.op) = true
    · rw [if_pos h2, if_pos h2]
      unfold madeL
      by_cases h3 : event = -1
      · rw [if_pos h3, if_neg (by omega)]
      · rw [if_neg h3, if_pos (by omega)]
    · rw [if_neg h2, if_neg h2]
/-! ### events below a number -/
def Tl.under (l : Tl) (n : Int) : Prop := (∀ k, ∀ z ∈ l.x k, z < n) ∧ ∀ z ∈ l.way, z < n
theorem rises_count : ∀ (l : List Int) (lo n : Int), risesFrom lo l = true → (∀ z ∈ l, z < n) → lo < n → (l.length : Int) + lo < n
  | [], lo, n, _, _, h => by simp; omega
  | x :: l, lo, n, h, hn, _ => by
    simp only [risesFrom, Bool.and_eq_true, decide_eq_true_eq] at h
    have := rises_count l x n h.2 (fun z hz => hn z (by simp [hz])) (hn x (by simp))
    simp only [List.length_cons]
    omega
theorem under_len (l : List Int) (n : Nat) (h : rises l = true) (hn : ∀ z ∈ l, z < (n : Int)) : l.length ≤ n := by
  have := rises_count l (-1) n h hn (by omega)
  omega
theorem under_short {l : Tl} {n : Nat} (h : l.under n) (hok : l.ok = true) (hn : n ≤ 10000) : l.short :=
  ⟨fun k _ => Nat.le_trans (under_len _ n (ok_x hok k) (h.1 k)) hn, Nat.le_trans (under_len _ n (ok_way hok) h.2) hn⟩
theorem under_zero (n : Int) : zeroTl.under n := ⟨fun k z hz => (by rw [zeroTl_x] at hz; cases hz), fun z hz => (by cases hz)⟩
theorem under_hang {l : Tl} {n : Int} (h : l.under n) (rs : List Int) : ∀ z ∈ hangL l rs, z < n := by
  intro z hz
  rw [mem_hangL] at hz
  obtain ⟨r, _, hr⟩ := hz
  exact h.1 _ z hr
theorem under_mono {l : Tl} {n m : Int} (h : l.under n) (hm : n ≤ m) : l.under m := ⟨fun k z hz => Int.lt_of_lt_of_le (h.1 k z hz) hm, fun z hz => Int.lt_of_lt_of_le (h.2 z hz) hm⟩
theorem under_way {l : Tl} {n : Int} (h : l.under n) (i : Ins) : ∀ z ∈ wayL l i, z < n := by
  intro z hz
  unfold wayL at hz
  split at hz
  · rw [mem_mergeL] at hz
    exact hz.elim (h.2 z) (under_hang h _ z)
  · split at hz
    · rw [mem_mergeL] at hz
      exact hz.elim (h.2 z) (under_hang h _ z)
    · exact h.2 z hz
theorem under_written {l : Tl} {n : Int} (h : l.under n) (i : Ins) (event : Int) (he : event < n) : ∀ z ∈ writtenL l i event, z < n := by
  intro z hz
  unfold writtenL at hz
  split at hz
  · cases hz
  · split at hz
    · unfold madeL at hz
      split at hz
      · cases hz
      · simp at hz; omega
    · exact under_hang h _ z hz
theorem under_behind {l : Tl} {n : Int} (h : l.under n) (i : Ins) (event : Int) (he : event < n) (hrd : 0 ≤ i.rd ∧ i.rd < 32) : (behindL l i event).under n := by
  refine ⟨fun k z hz => ?_, under_way h i⟩
  unfold behindL at hz
  split at hz
  · exact h.1 k z hz
  · rw [show ((l.put i.rd.toNat (writtenL l i event)).atWay (wayL l i)).x k = (l.put i.rd.toNat (writtenL l i event)).x k from rfl, Tl.put_x _ _ _ (by omega)] at hz
    split at hz
    · exact under_written h i event he z hz
    · exact h.1 k z hz
end
section
set_option linter.unusedVariables false
open Go.RowKit

/-- a list of numbers does not lie where no numbers lie -/
theorem ReadsI.apart {W : World} {v : Value} {zs : List Int} {g : Nat} {cs : Array Value} {T : TypeId} {fr : Nat × Nat} (h : ReadsI W v zs) (hg : W.heap[g]? = some (.cells cs T fr)) (hc : ∀ (k : Nat) (c : Value), cs[k]? = some c → ∀ z : Int, c ≠ Value.int .i64 z) : zs = [] ∨ v.ownBlock ≠ some g := by
  rcases h with ⟨_, h0⟩ | ⟨b, off, c, rfl, h1, h2, h3, h4⟩
  · exact .inl h0
  · rcases zs with _ | ⟨z, zs⟩
    · exact .inl rfl
    · refine .inr fun e => ?_
      simp [Value.ownBlock] at e
      have e' : b = g := by first | exact e | exact e.2 | exact e.1
      subst e'
      have := h4 0 (by simp)
      rw [cell_of_row W b (off + 0) cs T fr hg] at this
      exact hc _ _ this _ rfl
theorem apartT {W : World} {v : Value} {zs : List Int} {g : Nat} {t : Ta} {l : Tl} {T : TypeId} (h : ReadsI W v zs) (H : TAt T t g W) (hr : TReads W t l) : zs = [] ∨ v.ownBlock ≠ some g := by
  refine h.apart H fun k c hk z hz => ?_
  have hk33 : k < 33 := by have := (Array.getElem?_eq_some_iff.1 hk).1; rwa [tC_size] at this
  by_cases h32 : k < 32
  · rw [tC_x t k h32] at hk
    obtain ⟨a, e, he⟩ := (hr.x k h32).len
    rw [he, hz] at hk; cases hk
  · obtain rfl : k = 32 := by omega
    rw [tC_way t] at hk
    obtain ⟨a, e, he⟩ := hr.w.len
    rw [he, hz] at hk; cases hk
theorem apartD {W : World} {v : Value} {zs al dl yl : List Int} {g : Nat} {a d y : Value} (h : ReadsI W v zs) (H : DAt a d y g W) (ha : ReadsI W a al) (hd : ReadsI W d dl) (hy : ReadsI W y yl) : zs = [] ∨ v.ownBlock ≠ some g := by
  obtain ⟨a1, c1, rfl⟩ := ha.len
  obtain ⟨a2, c2, rfl⟩ := hd.len
  obtain ⟨a3, c3, rfl⟩ := hy.len
  refine h.apart H fun k c hk z hz => ?_
  match k with
  | 0 => simp at hk; rw [hz] at hk; cases hk
  | 1 => simp at hk; rw [hz] at hk; cases hk
  | 2 => simp at hk; rw [hz] at hk; cases hk
  | k + 3 => simp at hk
/-- a whole box is stored: lists elsewhere read as they did -/
theorem readsN_store {n m : Nat} {W W2 : World} {v : Value} {zs : List Int} (hv : ReadsN n W v zs) (ho : ∀ j, j ≠ m → W2.heap[j]? = W.heap[j]?) (hm : m < n) (hz : W2.heap.size = W.heap.size) : ReadsN n W2 v zs := by
  refine ⟨?_, hv.2⟩
  rcases hv.1 with h0 | ⟨b, off, c, e, h2, h3, h4, h5⟩
  · exact .inl h0
  · subst e
    have hbn := hv.2 b rfl
    refine .inr ⟨b, off, c, rfl, h2, h3, by omega, fun j hj => ?_⟩
    rw [← h5 j hj]
    exact World.cell?_of_block (ho b (by omega))
/-- the call's boxes: the taint in the making, the instruction, both results (nothing as yet) -/
structure B4 (i : Ins) (l : Tl) (w : World) (t : Ta) (W : World) : Prop where
  bx : TAt 25 t w.heap.size W
  bi : InsAt i (w.heap.size + 1) W
  rt : TAt 25 zeroTa (w.heap.size + 2) W
  rd : DAt (.slice none 0 0) (.slice none 0 0) (.slice none 0 0) (w.heap.size + 3) W
  rs : TReadsN (w.heap.size + 4) W t l
  below : Below w.heap.size w W
theorem B4.lt {i : Ins} {l : Tl} {w W : World} {t : Ta} (h : B4 i l w t W) : w.heap.size + 3 < W.heap.size := h.rd.lt
theorem B4.on {i : Ins} {l : Tl} {w W W2 : World} {t : Ta} (h : B4 i l w t W) (hb : Below W.heap.size W W2) : B4 i l w t W2 :=
  ⟨h.bx.below hb h.bx.lt, h.bi.below hb (Array.getElem?_eq_some_iff.1 h.bi).1, h.rt.below hb h.rt.lt, h.rd.below hb h.rd.lt, h.rs.on hb, h.below.trans (hb.mono h.below.size)⟩
/-- behind Copy and its store -/
theorem B4.start {t t3 : Ta} {l : Tl} {i : Ins} {w W W3 W4 : World} (h : Stepping t l i w W) (hn : TReadsN W.heap.size W3 t3 l) (hb : Below W.heap.size W W3) (D : TAt 25 t3 w.heap.size W4) (ho : ∀ j, j ≠ w.heap.size → W4.heap[j]? = W3.heap[j]?) (hb4 : Below w.heap.size W3 W4) (hz : W4.heap.size = W3.heap.size) : B4 i l w t3 W4 := by
  have h3 := h.on hb
  have hs := h.size
  refine ⟨D, (ho _ (by omega)).trans h3.both.at1, (ho _ (by omega)).trans h3.rt, (ho _ (by omega)).trans h3.rd, ⟨fun k hk => readsN_store ((hn.1 k hk).mono hs) ho (by omega) hz, readsN_store (hn.2.mono hs) ho (by omega) hz⟩, h3.both.below.trans hb4⟩
theorem B4.setX {i : Ins} {l : Tl} {w W : World} {t : Ta} (h : B4 i l w t W) (k : Nat) (hk : k < 32) {v : Value} {zs : List Int} (hv : ReadsN (w.heap.size + 4) W v zs) : B4 i (l.put k zs) w (t.put k v) (W.setCell ⟨w.heap.size, k, none⟩ v) := by
  refine ⟨h.bx.setX k hk v, (Below.heap_setCell W _ v _ (by show w.heap.size + 1 ≠ w.heap.size; omega)).trans h.bi, h.rt.far v (by omega), h.rd.far v (by omega), ⟨fun j hj => ?_, h.rs.2.set v (by omega)⟩, h.below.setCell (p := ⟨w.heap.size, k, none⟩) (Nat.le_refl _) v⟩
  rw [Ta.put_v t k v hk j, Tl.put_x l k zs hk j]
  by_cases e : j = k
  · rw [if_pos e, if_pos e]; exact hv.set v (by omega)
  · rw [if_neg e, if_neg e]; exact (h.rs.1 j hj).set v (by omega)
theorem B4.setW {i : Ins} {l : Tl} {w W : World} {t : Ta} (h : B4 i l w t W) {v : Value} {zs : List Int} (hv : ReadsN (w.heap.size + 4) W v zs) : B4 i (l.atWay zs) w (t.atWay v) (W.setCell ⟨w.heap.size, 32, none⟩ v) :=
  ⟨h.bx.setW v, (Below.heap_setCell W _ v _ (by show w.heap.size + 1 ≠ w.heap.size; omega)).trans h.bi, h.rt.far v (by omega), h.rd.far v (by omega), ⟨fun j hj => (h.rs.1 j hj).set v (by omega), hv.set v (by omega)⟩, h.below.setCell (p := ⟨w.heap.size, 32, none⟩) (Nat.le_refl _) v⟩
/-- a store into a box further on -/
theorem B4.far {i : Ins} {l : Tl} {w W : World} {t : Ta} (h : B4 i l w t W) {g k : Nat} (hg : w.heap.size + 4 ≤ g) (v : Value) (ha : ∀ (u : Value) (zs : List Int), ReadsI W u zs → zs = [] ∨ u.ownBlock ≠ some g) : B4 i l w t (W.setCell ⟨g, k, none⟩ v) :=
  ⟨h.bx.far v (by omega), (Below.heap_setCell W _ v _ (by show w.heap.size + 1 ≠ g; omega)).trans h.bi, h.rt.far v (by omega), h.rd.far v (by omega), ⟨fun j hj => (h.rs.1 j hj).far v (ha _ _ (h.rs.1 j hj).1), h.rs.2.far v (ha _ _ h.rs.2.1)⟩, h.below.setCell (p := ⟨g, k, none⟩) (by show w.heap.size ≤ g; omega) v⟩
/-- and the deps in box g -/
structure R6 (i : Ins) (l : Tl) (al dl yl : List Int) (w : World) (g : Nat) (t : Ta) (a d y : Value) (W : World) : Prop where
  b : B4 i l w t W
  bd : DAt a d y g W
  ds : DepsN (w.heap.size + 4) W a d y al dl yl
  low : w.heap.size + 4 ≤ g
theorem DepsN.on {n : Nat} {w w' : World} {a d y : Value} {al dl yl : List Int} (h : DepsN n w a d y al dl yl) (hb : Below w.heap.size w w') : DepsN n w' a d y al dl yl := ⟨h.1.on hb, h.2.1.on hb, h.2.2.on hb⟩
theorem R6.on {i : Ins} {l : Tl} {al dl yl : List Int} {w W W2 : World} {g : Nat} {t : Ta} {a d y : Value} (h : R6 i l al dl yl w g t a d y W) (hb : Below W.heap.size W W2) : R6 i l al dl yl w g t a d y W2 :=
  ⟨h.b.on hb, h.bd.below hb h.bd.lt, h.ds.on hb, h.low⟩
theorem R6.apart {i : Ins} {l : Tl} {al dl yl : List Int} {w W : World} {g : Nat} {t : Ta} {a d y : Value} (h : R6 i l al dl yl w g t a d y W) (u : Value) (zs : List Int) (hu : ReadsI W u zs) : zs = [] ∨ u.ownBlock ≠ some g :=
  apartD hu h.bd h.ds.1.1 h.ds.2.1.1 h.ds.2.2.1
theorem R6.setA {i : Ins} {l : Tl} {al dl yl : List Int} {w W : World} {g : Nat} {t : Ta} {a d y : Value} (h : R6 i l al dl yl w g t a d y W) {v : Value} {zs : List Int} (hv : ReadsN (w.heap.size + 4) W v zs) : R6 i l zs dl yl w g t v d y (W.setCell ⟨g, 0, none⟩ v) :=
  ⟨h.b.far h.low v h.apart, h.bd.set0 v, ⟨hv.far v (h.apart _ _ hv.1), h.ds.2.1.far v (h.apart _ _ h.ds.2.1.1), h.ds.2.2.far v (h.apart _ _ h.ds.2.2.1)⟩, h.low⟩
theorem R6.setD {i : Ins} {l : Tl} {al dl yl : List Int} {w W : World} {g : Nat} {t : Ta} {a d y : Value} (h : R6 i l al dl yl w g t a d y W) {v : Value} {zs : List Int} (hv : ReadsN (w.heap.size + 4) W v zs) : R6 i l al zs yl w g t a v y (W.setCell ⟨g, 1, none⟩ v) :=
  ⟨h.b.far h.low v h.apart, h.bd.set1 v, ⟨h.ds.1.far v (h.apart _ _ h.ds.1.1), hv.far v (h.apart _ _ hv.1), h.ds.2.2.far v (h.apart _ _ h.ds.2.2.1)⟩, h.low⟩
theorem R6.setX {i : Ins} {l : Tl} {al dl yl : List Int} {w W : World} {g : Nat} {t : Ta} {a d y : Value} (h : R6 i l al dl yl w g t a d y W) (k : Nat) (hk : k < 32) {v : Value} {zs : List Int} (hv : ReadsN (w.heap.size + 4) W v zs) : R6 i (l.put k zs) al dl yl w g (t.put k v) a d y (W.setCell ⟨w.heap.size, k, none⟩ v) :=
  ⟨h.b.setX k hk hv, h.bd.far v (by have := h.low; omega), ⟨h.ds.1.set v (by omega), h.ds.2.1.set v (by omega), h.ds.2.2.set v (by omega)⟩, h.low⟩
theorem R6.setW {i : Ins} {l : Tl} {al dl yl : List Int} {w W : World} {g : Nat} {t : Ta} {a d y : Value} (h : R6 i l al dl yl w g t a d y W) {v : Value} {zs : List Int} (hv : ReadsN (w.heap.size + 4) W v zs) : R6 i (l.atWay zs) al dl yl w g (t.atWay v) a d y (W.setCell ⟨w.heap.size, 32, none⟩ v) :=
  ⟨h.b.setW hv, h.bd.far v (by have := h.low; omega), ⟨h.ds.1.set v (by omega), h.ds.2.1.set v (by omega), h.ds.2.2.set v (by omega)⟩, h.low⟩
/-- behind the store of the deps that have the way alone -/
theorem R6.start {i : Ins} {l : Tl} {w W1 W2 : World} {n : Nat} {t : Ta} {y : Value} {o : Obj} (h : B4 i l w t W1) (hy : ReadsN n W1 y l.way) (hn : w.heap.size + 4 ≤ n) (D : DAt (.slice none 0 0) (.slice none 0 0) y W1.heap.size W2) (hb : Below W1.heap.size (W1.alloc o) W2) : R6 i l [] [] l.way w W1.heap.size t (.slice none 0 0) (.slice none 0 0) y W2 := by
  have hb2 : Below W1.heap.size W1 W2 := (box_below W1 o).trans hb
  exact ⟨h.on hb2, D, ⟨ReadsN.nil _ _, ReadsN.nil _ _, (hy.mono hn).on hb2⟩, h.lt⟩
theorem rTCheck_b (t : Ta) (l : Tl) (b : Bool) (hb : l.ok = b) (w : World) (h : TReads w t l) (hs : l.short) : Calls Tryz.prog 12 #[t.V] w fun e w' => e = .returned (.int .i64 (errI b)) ∧ Below w.heap.size w w' := by
  rw [← hb]; exact rTCheck_any t l w h hs
end
section
set_option linter.unusedVariables false
open Go.RowKit
attribute [local go_sem ↓] fold_T fold_I fold_ST fold_SD

set_option maxRecDepth 100000 in
set_option maxHeartbeats 4000000 in
theorem rStep_no1 (t : Ta) (l : Tl) (i : Ins) (event : Int) (w : World) (h : TReads w t l) (hs : l.short) (hok : l.ok = false) :
    Calls Tryz.prog 8 #[t.V, i.V, .int .i64 event] w fun e w' => StepOk w zeroTl [] [] [] 2 e w' := by
  have S0 := Lib.hid (Stepping.start t l i w h)
  have HCK := Lib.hid (fun (w0 : World) (b : Both t l i w w0) => rTCheck_b t l false hok w0 b.reads hs)
  clear h hs hok
  go_enter Tryz.func8, Tryz.ntmps8
  go_upto_region 1 with fail
  rw [zero_tC]
  obtain ⟨W, HW⟩ : ∃ W, Hid ((((w.alloc (.cells (tC t) 25)).alloc (.cells (insCells i) 27)).alloc (.cells (tC zeroTa) 25)).alloc (.cells #[.slice none 0 0, .slice none 0 0, .slice none 0 0] 31) = W) := ⟨_, Lib.hid rfl⟩
  rw [HW.out] at S0 ⊢
  have cl := S0.out.both.load
  have ci := S0.out.both.loadI
  have e33 := zero_tC
  go_wp2_with (first
    | (go_at_call 12; (with_reducible refine (HCK.out _ S0.out.both).mono ?_); rintro e w1 ⟨rfl, hb1⟩; have S1 := Lib.hid (S0.out.on hb1); clear hb1 cl ci; have cl := S1.out.both.load; have ci := S1.out.both.loadI)
    | (refine store_ta S1.out.rt zeroTa zeroFlat rfl (.tmp 6) (.tmp 30) rfl rfl (congrArg Value.agg zero_tC) ?_; intro w8 D8 ho8 hb8 hz8)
    | (refine store_d (((ho8 _ (by omega)).trans S1.out.rd)) rfl (.tmp 7) (.tmp 31) rfl _ _ _ rfl rfl rfl rfl rfl ?_; intro w9 D9 ho9 hb9 hz9))
  refine bodyPost_ret (step_end rfl rfl rfl rfl ((ho9 _ (by omega)).trans D8) D9) rfl ?_
  exact ⟨zeroTa, _, _, _, rfl, zeroTN _ _, ⟨ReadsN.nil _ _, ReadsN.nil _ _, ReadsN.nil _ _⟩, S1.out.both.below.trans ((hb8.mono (by omega)).trans (hb9.mono (by omega)))⟩
set_option maxRecDepth 100000 in
set_option maxHeartbeats 4000000 in
theorem rStep_no2 (t : Ta) (l : Tl) (i : Ins) (event : Int) (w : World) (h : TReads w t l) (hs : l.short) (him : -9223372036854775808 ≤ i.imm ∧ i.imm ≤ 9223372036854775807) (hok : l.ok = true) (hi : i.ok = false) :
    Calls Tryz.prog 8 #[t.V, i.V, .int .i64 event] w fun e w' => StepOk w zeroTl [] [] [] 2 e w' := by
  have S0 := Lib.hid (Stepping.start t l i w h)
  have HCK := Lib.hid (fun (w0 : World) (b : Both t l i w w0) => rTCheck_b t l true hok w0 b.reads hs)
  have HIC := Lib.hid (fun (w0 : World) => rCheck_no i (Lib.hid hi) (Lib.hid him) w0)
  clear h hs hok hi him
  go_enter Tryz.func8, Tryz.ntmps8
  go_upto_region 1 with fail
  rw [zero_tC]
  obtain ⟨W, HW⟩ : ∃ W, Hid ((((w.alloc (.cells (tC t) 25)).alloc (.cells (insCells i) 27)).alloc (.cells (tC zeroTa) 25)).alloc (.cells #[.slice none 0 0, .slice none 0 0, .slice none 0 0] 31) = W) := ⟨_, Lib.hid rfl⟩
  rw [HW.out] at S0 ⊢
  have cl := S0.out.both.load
  have ci := S0.out.both.loadI
  have e33 := zero_tC
  go_wp2_with (first
    | (go_at_call 12; (with_reducible refine (HCK.out _ S0.out.both).mono ?_); rintro e w1 ⟨rfl, hb1⟩; have S1 := Lib.hid (S0.out.on hb1); clear hb1 cl ci; have cl := S1.out.both.load; have ci := S1.out.both.loadI)
    | (go_at_call 24; (with_reducible refine (HIC.out _).mono ?_); rintro e w2 ⟨rfl, hb2⟩; have S2 := Lib.hid (S1.out.on hb2); clear hb2 cl ci; have cl := S2.out.both.load; have ci := S2.out.both.loadI)
    | (refine store_ta S2.out.rt zeroTa zeroFlat rfl (.tmp 6) (.tmp 30) rfl rfl (congrArg Value.agg zero_tC) ?_; intro w8 D8 ho8 hb8 hz8)
    | (refine store_d (((ho8 _ (by omega)).trans S2.out.rd)) rfl (.tmp 7) (.tmp 31) rfl _ _ _ rfl rfl rfl rfl rfl ?_; intro w9 D9 ho9 hb9 hz9))
  refine bodyPost_ret (step_end rfl rfl rfl rfl ((ho9 _ (by omega)).trans D8) D9) rfl ?_
  exact ⟨zeroTa, _, _, _, rfl, zeroTN _ _, ⟨ReadsN.nil _ _, ReadsN.nil _ _, ReadsN.nil _ _⟩, S2.out.both.below.trans ((hb8.mono (by omega)).trans (hb9.mono (by omega)))⟩
set_option maxRecDepth 100000 in
set_option maxHeartbeats 4000000 in
theorem rStep_no3 (t : Ta) (l : Tl) (i : Ins) (event : Int) (w : World) (h : TReads w t l) (hs : l.short) (him : -9223372036854775808 ≤ i.imm ∧ i.imm ≤ 9223372036854775807) (hok : l.ok = true) (hi : i.ok = true) (he : event < -1) :
    Calls Tryz.prog 8 #[t.V, i.V, .int .i64 event] w fun e w' => StepOk w zeroTl [] [] [] 2 e w' := by
  have S0 := Lib.hid (Stepping.start t l i w h)
  have HCK := Lib.hid (fun (w0 : World) (b : Both t l i w w0) => rTCheck_b t l true hok w0 b.reads hs)
  have HIC := Lib.hid (fun (w0 : World) => rCheck_ok i (Lib.hid hi) (Lib.hid him) w0)
  have d0 : decide (event < -1) = true := by simp [he]
  clear h hs hok hi him he
  go_enter Tryz.func8, Tryz.ntmps8
  go_upto_region 1 with fail
  rw [zero_tC]
  obtain ⟨W, HW⟩ : ∃ W, Hid ((((w.alloc (.cells (tC t) 25)).alloc (.cells (insCells i) 27)).alloc (.cells (tC zeroTa) 25)).alloc (.cells #[.slice none 0 0, .slice none 0 0, .slice none 0 0] 31) = W) := ⟨_, Lib.hid rfl⟩
  rw [HW.out] at S0 ⊢
  have cl := S0.out.both.load
  have ci := S0.out.both.loadI
  have e33 := zero_tC
  go_wp2_with (first
    | (go_at_call 12; (with_reducible refine (HCK.out _ S0.out.both).mono ?_); rintro e w1 ⟨rfl, hb1⟩; have S1 := Lib.hid (S0.out.on hb1); clear hb1 cl ci; have cl := S1.out.both.load; have ci := S1.out.both.loadI)
    | (go_at_call 24; (with_reducible refine (HIC.out _).mono ?_); rintro e w2 ⟨rfl, hb2⟩; have S2 := Lib.hid (S1.out.on hb2); clear hb2 cl ci; have cl := S2.out.both.load; have ci := S2.out.both.loadI)
    | (refine store_ta S2.out.rt zeroTa zeroFlat rfl (.tmp 6) (.tmp 30) rfl rfl (congrArg Value.agg zero_tC) ?_; intro w8 D8 ho8 hb8 hz8)
    | (refine store_d (((ho8 _ (by omega)).trans S2.out.rd)) rfl (.tmp 7) (.tmp 31) rfl _ _ _ rfl rfl rfl rfl rfl ?_; intro w9 D9 ho9 hb9 hz9))
  refine bodyPost_ret (step_end rfl rfl rfl rfl ((ho9 _ (by omega)).trans D8) D9) rfl ?_
  exact ⟨zeroTa, _, _, _, rfl, zeroTN _ _, ⟨ReadsN.nil _ _, ReadsN.nil _ _, ReadsN.nil _ _⟩, S2.out.both.below.trans ((hb8.mono (by omega)).trans (hb9.mono (by omega)))⟩
end
end Go.Proofs.YtfbnijcmfaeoeaaGreat
