/-
  Proved here: the package taint's fresh, Join, read (all that registers hang on) and made; nothing that was there is changed. Condition: at most 10,000 numbers a list; registers of 0 to 31, at most two of them.
-/
import Derived.Test.YtfbnijcmfaeoeaaGreatTaintMergeWalk
import Derived.Test.YtfbnijcmfaeoeaaGreatInsnReads
namespace Go.Proofs.YtfbnijcmfaeoeaaGreat
open Go.RowKit

theorem fresh_any (v : Value) (zs : List Int) (w : World) (h : ReadsI w v zs) (hlen : zs.length ≤ 100000) : Calls Tryz.prog 42 #[v] w fun e w' => Merged w zs e w' := by
  have H := Lib.hid (merge_any v (.slice none 0 0) zs [] w h (ReadsI.nil w) (by simpa using hlen))
  rw [mergeL_nil_r] at H
  clear h
  go_enter Tryz.func42, Tryz.ntmps42
  go_wp2_with (go_at_call 32; (with_reducible refine (H.out).mono ?_); rintro e w1 ⟨v1, rfl, hw1, hb1⟩; have HW := Lib.hid hw1; have HB := Lib.hid hb1; clear hw1 hb1)
  go_ret
  exact ⟨_, rfl, HW.out, HB.out⟩
def joinL (a b : List Int) : List Int := if rises a && rises b then mergeL a b else []
theorem Join_any (va vb : Value) (a b : List Int) (w : World) (ha : ReadsI w va a) (hb : ReadsI w vb b) (hlen : a.length + b.length ≤ 100000) :
    Calls Tryz.prog 17 #[va, vb] w fun e w' => Merged w (joinL a b) e w' := by
  have H := Lib.hid (merge_any va vb a b w ha hb hlen)
  have HA := Lib.hid (rising_any va a w ha (by omega))
  have HB := Lib.hid (rising_any vb b w hb (by omega))
  clear ha hb
  cases h1 : rises a with
  | false =>
    have e : joinL a b = [] := by unfold joinL; rw [h1]; rfl
    rw [e]
    have H1 := Lib.hid h1
    clear h1 e
    go_enter Tryz.func17, Tryz.ntmps17
    go_wp2_with (go_at_call 14; (with_reducible refine (HA.out).mono ?_); rw [H1.out]; rintro e w1 ⟨rfl, rfl⟩)
    go_ret
    exact ⟨_, rfl, ReadsN.nil _ _, Below.refl _ _⟩
  | true =>
    have H1 := Lib.hid h1
    cases h2 : rises b with
    | false =>
      have e : joinL a b = [] := by unfold joinL; rw [h1, h2]; rfl
      rw [e]
      have H2 := Lib.hid h2
      clear h1 h2 e
      go_enter Tryz.func17, Tryz.ntmps17
      go_wp2_with (first
        | (go_at_call 14; (with_reducible refine (HA.out).mono ?_); rw [H1.out]; rintro e w1 ⟨rfl, rfl⟩; clear HA)
        | (go_at_call 14; (with_reducible refine (HB.out).mono ?_); rw [H2.out]; rintro e w1 ⟨rfl, rfl⟩))
      go_ret
      exact ⟨_, rfl, ReadsN.nil _ _, Below.refl _ _⟩
    | true =>
      have e : joinL a b = mergeL a b := by unfold joinL; rw [h1, h2]; rfl
      rw [e]
      have H2 := Lib.hid h2
      clear h1 h2 e
      go_enter Tryz.func17, Tryz.ntmps17
      go_wp2_with (first
        | (go_at_call 14; (with_reducible refine (HA.out).mono ?_); rw [H1.out]; rintro e w1 ⟨rfl, rfl⟩; clear HA)
        | (go_at_call 14; (with_reducible refine (HB.out).mono ?_); rw [H2.out]; rintro e w1 ⟨rfl, rfl⟩)
        | (go_at_call 32; (with_reducible refine (H.out).mono ?_); rintro e w1 ⟨v1, rfl, hw1, hb1⟩; have HW := Lib.hid hw1; have HB := Lib.hid hb1; clear hw1 hb1))
      go_ret
      exact ⟨_, rfl, HW.out, HB.out⟩
def madeL (event : Int) : List Int := if event = -1 then [] else [event]
theorem made_any (event : Int) (w : World) : Calls Tryz.prog 58 #[.int .i64 event] w fun e w' => Merged w (madeL event) e w' := by
  by_cases h : event = -1
  · subst h
    go_enter Tryz.func58, Tryz.ntmps58
    go_wp2
    go_ret
    exact ⟨_, rfl, ReadsN.nil _ _, Below.refl _ _⟩
  · have e : madeL event = [event] := by unfold madeL; rw [if_neg h]
    rw [e]
    clear e
    have h1 : (event == -1) = false := by simpa using h
    go_enter Tryz.func58, Tryz.ntmps58
    go_wp2
    go_ret
    refine ⟨_, rfl, ⟨.inr ⟨w.heap.size, 0, 1, rfl, by simp, by omega, by simp, fun j hj => ?_⟩, fun k hk => by simp [Value.ownBlock] at hk; omega⟩, box_below _ _⟩
    have : j = 0 := by simpa using hj
    subst this
    simp [atI]
/-- all that registers hang on -/
def hangL (l : Tl) (rs : List Int) : List Int := rs.foldl (fun all r => mergeL all (l.x r.toNat)) []
theorem hangL_step (l : Tl) (rs : List Int) (k : Nat) (hk : k < rs.length) : hangL l (rs.take (k + 1)) = mergeL (hangL l (rs.take k)) (l.x (atI rs k).toNat) := by
  unfold hangL
  rw [List.take_succ_eq_append_getElem hk, List.foldl_append]
  unfold atI
  rw [List.getD_eq_getElem?_getD, List.getElem?_eq_getElem hk]
  rfl
theorem hangL_len (l : Tl) (hs : l.short) (rs : List Int) (hr : ∀ k, k < rs.length → 0 ≤ atI rs k ∧ atI rs k < 32) : ∀ k, k ≤ rs.length → (hangL l (rs.take k)).length ≤ k * 10000 := by
  intro k
  induction k with
  | zero => intro _; simp [hangL]
  | succ k ih =>
    intro hk
    rw [hangL_step l rs k (by omega)]
    have h1 := mergeL_length (hangL l (rs.take k)) (l.x (atI rs k).toNat)
    have h2 := ih (by omega)
    have h3 := hr k (by omega)
    have h4 := hs.x (atI rs k).toNat (by omega)
    omega
def Reading (w : World) (l : Tl) (rs : List Int) (va vi : Value) (wr : World) : Prop := ∃ k : Nat, k ≤ rs.length ∧ vi = .int .i64 k ∧ ReadsN w.heap.size wr va (hangL l (rs.take k)) ∧ Below w.heap.size w wr
/-- a slice that reads so, whatever its room -/
def ReadsC (w : World) (v : Value) (zs : List Int) : Prop := (EmptyS v ∧ zs = []) ∨ ∃ b off c, v = .slice (some ⟨b, off, none⟩) zs.length c ∧ ∀ j, j < zs.length → w.cell? ⟨b, off + j, none⟩ = some (.int .i64 (atI zs j))
theorem ReadsI.any {w : World} {v : Value} {zs : List Int} (h : ReadsI w v zs) : ReadsC w v zs := by
  rcases h with h | ⟨b, off, c, e, _, _, _, h4⟩
  · exact .inl h
  · exact .inr ⟨b, off, c, e, h4⟩
theorem readsC_row {n g c : Nat} {w : World} {zs : List Int} (h : ReadRow n w g zs) : ReadsC w (.slice (some ⟨g, 0, none⟩) zs.length c) zs :=
  .inr ⟨g, 0, c, rfl, fun j hj => by rw [Nat.zero_add]; exact h.2 j hj⟩
set_option maxRecDepth 100000 in
set_option maxHeartbeats 4000000 in
theorem read_any (t : Ta) (l : Tl) (vr : Value) (rs : List Int) (w : World) (h : TReads w t l) (hs : l.short) (hr : ReadsC w vr rs) (hrs : ∀ k, k < rs.length → 0 ≤ atI rs k ∧ atI rs k < 32) (hlen : rs.length ≤ 4) :
    Calls Tryz.prog 46 #[t.V, vr] w fun e w' => Merged w (hangL l rs) e w' := by
  have HB := Lib.hid (box_below w (.cells (tC t) 25))
  have H := TAt.new 25 t w
  have HT := Lib.hid (h.alloc (.cells (tC t) 25))
  have hlt : w.heap.size < (w.alloc (.cells (tC t) 25)).heap.size := by simp
  obtain ⟨W, HW⟩ : ∃ W, Hid (w.alloc (.cells (tC t) 25) = W) := ⟨_, Lib.hid rfl⟩
  rw [HW.out] at H HB HT hlt
  have HA := Lib.hid H
  have hL := Lib.hid (hangL_len l hs rs hrs)
  have hP := Lib.hid (hangL_step l rs)
  have hS := Lib.hid hs
  have hQ := Lib.hid hrs
  have hM := Lib.hid (fun (va : Value) (a : List Int) (k : Nat) (w0 : World) (hk : k < 32) (ha : ReadsI w0 va a) (hl : a.length ≤ 50000) (hw : Below W.heap.size W w0) => merge_any va (t.v k) a (l.x k) w0 ha ((HT.out.x k hk).below hw) (by have := hS.out.x k hk; omega))
  rcases hr with ⟨⟨ae, ce, rfl, _⟩, rfl⟩ | ⟨b, off, c, rfl, hc⟩
  · clear h hs H hrs
    go_enter Tryz.func46, Tryz.ntmps46
    go_upto_region 1 with fail
    rw [HW.out]
    go_wp2
    refine wp_loop_rounds 1 ?_
    rw [rounds_succ]
    go_wp2
    go_ret
    exact ⟨_, rfl, ReadsN.nil _ _, HB.out⟩
  · have hC : Hid (∀ j, j < rs.length → b < W.heap.size ∧ W.cell? ⟨b, off + j, none⟩ = some (.int .i64 (atI rs j))) := Lib.hid fun j hj => by
      have hb := World.block_lt_of_cell? w _ (hc j hj)
      exact ⟨Nat.lt_of_lt_of_le hb HB.out.size, (HB.out.cell (p := ⟨b, off + j, none⟩) hb).trans (hc j hj)⟩
    clear h hs H hrs hc
    go_enter Tryz.func46, Tryz.ntmps46
    go_upto_region 1 with fail
    rw [HW.out]
    go_wp2
    go_loopw [5, 10] (fun va vi wr => Reading W l rs va vi wr) (fun _ i _ => rs.length - (intOf i).toNat)
    case atStart => exact ⟨0, Nat.zero_le _, rfl, ReadsN.nil _ _, Below.refl _ _⟩
    case round =>
      obtain ⟨k, hk, rfl, hA, hbel⟩ := hrel
      have HL := Lib.hid hbel
      have HAA := Lib.hid hA
      have HAr := Lib.hid (HA.out.below hbel hlt)
      clear hA hbel
      by_cases hkl : k < rs.length
      · obtain ⟨rn, hrn⟩ : ∃ rn : Nat, Hid (atI rs k = (rn : Int)) := ⟨(atI rs k).toNat, Lib.hid (by have := hQ.out k hkl; omega)⟩
        have hrlt : rn < 32 := by have := hQ.out k hkl; rw [hrn.out] at this; omega
        have hcell : wr.cell? ⟨b, off + k, none⟩ = some (.int .i64 (rn : Int)) := by
          rw [← hrn.out]
          exact (HL.out.cell (p := ⟨b, off + k, none⟩) (hC.out k hkl).1).trans (hC.out k hkl).2
        have hcx := HAr.out.cx rn hrlt
        have HM := Lib.hid (hM.out _ _ rn wr hrlt HAA.out.1 (by have := hL.out k (by omega); omega) HL.out)
        have HN : Hid (mergeL (hangL l (rs.take k)) (l.x rn) = hangL l (rs.take (k + 1))) := Lib.hid (by rw [hP.out k hkl, hrn.out, Int.toNat_natCast])
        rw [HN.out] at HM
        go_wp2_with (go_at_call 32; (with_reducible refine (HM.out).mono ?_); rintro e w1 ⟨v1, rfl, hw1, hb1⟩; have HW1 := Lib.hid hw1; have HB1 := Lib.hid (HL.out.trans (hb1.mono HL.out.size)); clear hw1 hb1)
        go_roundw
        case rel => exact ⟨k + 1, by omega, by go_num, HW1.out.mono HL.out.size, HB1.out⟩
        case measure => simp [intOf]; omega
      · have he : k = rs.length := by omega
        have HE : Hid (rs.take k = rs) := Lib.hid (List.take_of_length_le (by omega))
        rw [HE.out] at HAA
        go_wp2
        go_ret
        exact ⟨_, rfl, HAA.out.mono HB.out.size, HB.out.trans (HL.out.mono HB.out.size)⟩
end Go.Proofs.YtfbnijcmfaeoeaaGreat
