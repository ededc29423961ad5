/-
  Proved here: the law's rising answers, of numbers, each that is above all ahead; the kit's Own a new list; nothing that was there is changed. Condition: at most 1,000 numbers, each of 64 bits.
-/
import Derived.Test.YtmdaleokhekdeaaTaintJoinsPlain
import Derived.Test.YtmdaleokhekdeaaTaintLives
namespace Go.Proofs.Ytmdaleokhekdeaa
open Go.RowKit

set_option maxRecDepth 100000 in
set_option maxHeartbeats 2000000 in
theorem own_any (v : Value) (zs : List Int) (w : World) (h : ReadsI w v zs) (hlen : zs.length ≤ 100000) : Calls Try.prog 27 #[v] w fun e w' => Merged w zs e w' := by
  have HR := Lib.hid (h.alloc (.cells #[] 3))
  have HO := Lib.hid (World.ownsRow_made (base := w.heap.size) (e := 3) (size := 1) w #[] 0 (Nat.le_refl _) (by unfold maxLen; omega) (by simp))
  have HB := Lib.hid (box_below w (.cells #[] 3))
  clear h
  go_enter Try.func27, Try.ntmps27
  go_wp2_with (refine append_reads rfl (.tmp 3) (.tmp 4) rfl w.heap.size _ [] zs rfl HO.out _ rfl HR.out (by simp; omega) HB.out.size ?_; intro v1 w1 hw1 hg1; have H1 := Lib.hid hw1; have HB1 := Lib.hid (HB.out.grown hg1 HB.out.size (fun k hk => (HO.out.lt k hk).1)); clear hw1 hg1)
  go_ret
  exact ⟨_, rfl, readsN_of_own H1.out, HB1.out⟩
/-- what the loop keeps -/
def Rising (w : World) (l : List Int) (vo vi : Value) (wr : World) : Prop := ∃ (k : Nat) (o : List Int), k ≤ l.length ∧ vi = .int .i64 k ∧ Hid (riseL (l.take k) = o) ∧ wr.ownsRow w.heap.size 3 1 vo o.length (o.map (Value.int .i64)) ∧ Below w.heap.size w wr
theorem pick200 (n : Int) (h : -9223372036854775808 ≤ n ∧ n ≤ 9223372036854775807) (w : World) : Calls Try.prog 25 #[.int .i64 n, .int .i64 200] w fun e w' => e = .returned (.int .i64 (pickI n 200)) ∧ w = w' := Pick_any n 200 h.1 h.2 (by omega) w
theorem own_last {w : World} {base : Nat} {v : Value} {o : List Int} {z : Int} (h : w.ownsRow base 3 1 v (o ++ [z]).length ((o ++ [z]).map (Value.int .i64))) : ∃ g c, v = .slice (some ⟨g, 0, none⟩) (o.length + 1) c ∧ w.cell? ⟨g, o.length, none⟩ = some (.int .i64 z) := by
  have h' := h
  rcases h.2 with ⟨rfl, h0⟩ | ⟨g, cap, cur, rfl, hn, hgg, hcap, hmax, hs, ht⟩
  · simp at h0
  · refine ⟨g, cap, by simp, ?_⟩
    have hc := h'.cells (g := g) (by simp [Value.ownBlock]) o.length (.int .i64 z) (by simp)
    have ha : (⟨g, 0, none⟩ : Addr).add o.length = ⟨g, o.length, none⟩ := by unfold Addr.add; split <;> simp_all
    rw [ha] at hc
    exact hc
set_option maxRecDepth 100000 in
set_option maxHeartbeats 4000000 in
theorem rise_some (zs : List Int) (b off c : Nat) (w : World) (hlen : zs.length ≤ 1000) (hb : b < w.heap.size) (hc : ∀ j, j < zs.length → w.cell? ⟨b, off + j, none⟩ = some (.int .i64 (atI zs j))) (hf : ∀ j, j < zs.length → -9223372036854775808 ≤ atI zs j ∧ atI zs j ≤ 9223372036854775807) :
    Calls Try.prog 28 #[.slice (some ⟨b, off, none⟩) zs.length c] w fun e w' => Merged w (riseL zs) e w' := by
  have HC := Lib.hid hc
  have HF := Lib.hid hf
  clear hc hf
  go_enter Try.func28, Try.ntmps28
  go_wp2
  go_loopw [3, 4] (fun vo vi wr => Rising w zs vo vi wr) (fun _ vi _ => zs.length - (intOf vi).toNat)
  case atStart => exact ⟨0, [], Nat.zero_le _, rfl, Lib.hid rfl, World.ownsRow_nil _ _ _ _, Below.refl _ _⟩
  case round =>
    obtain ⟨k, o, hk, rfl, HT, hown, hbel⟩ := hrel
    have HO := Lib.hid hown
    have HL := Lib.hid hbel
    clear hown hbel
    by_cases hlt : k < zs.length
    · have hcell := (HL.out.cell (p := ⟨b, off + k, none⟩) hb).trans (HC.out k hlt)
      have HP := Lib.hid (pick200 (atI zs k) (HF.out k hlt))
      obtain ⟨n, hn⟩ : ∃ n, Hid (pickI (atI zs k) 200 = n) := ⟨_, Lib.hid rfl⟩
      rw [hn.out] at HP
      have HS : Hid (riseL (zs.take (k + 1)) = riseStep o n) := Lib.hid (by rw [riseL_take zs k hlt, HT.out, hn.out])
      have hol : o.length ≤ 1000 := by have := (riseL_ok zs k hk).2; rw [HT.out] at this; omega
      have one : True := trivial
      rcases List.eq_nil_or_concat o with rfl | ⟨o', z, rfl⟩
      · rw [riseStep_nil] at HS
        obtain ⟨ov, oc, rfl⟩ := (readsI_of_own HO.out).len
        go_wp2_with (first
          | (go_at_call 25; (with_reducible refine (HP.out _).mono ?_); rintro e w1 ⟨rfl, rfl⟩)
          | (refine append_reads rfl (.tmp 30) (.tmp 32) rfl w.heap.size _ [] [n] rfl (HO.out.alloc _) _ rfl (reads_one _ _) (by simp) (Nat.le_trans HL.out.size (box_below _ _).size) ?_; intro v1 w2 hw2 hg2; have H2 := Lib.hid hw2; have HL2 := Lib.hid ((HL.out.trans ((box_below wr (.cells #[.int .i64 n] 3)).mono HL.out.size)).grown hg2 (Nat.le_trans HL.out.size (box_below _ _).size) (fun k hk => (HO.out.lt k hk).1)); clear hw2 hg2))
        go_roundw
        case rel => exact ⟨k + 1, _, by omega, by go_num, HS, H2.out, HL2.out⟩
        case measure => simp [intOf]; omega
      · rw [List.concat_eq_append] at HO HS hol
        obtain ⟨g, cap, rfl, hz⟩ := own_last HO.out
        have hol' : o'.length ≤ 1000 := by simp at hol; omega
        by_cases hzn : z < n
        · rw [riseStep_up _ _ _ hzn] at HS
          go_wp2_with (first
            | (go_at_call 25; (with_reducible refine (HP.out _).mono ?_); rintro e w1 ⟨rfl, rfl⟩)
            | (refine append_reads rfl (.tmp 30) (.tmp 32) rfl w.heap.size _ (o' ++ [z]) [n] rfl (HO.out.alloc _) _ rfl (reads_one _ _) (by simp; omega) (Nat.le_trans HL.out.size (box_below _ _).size) ?_; intro v1 w2 hw2 hg2; have H2 := Lib.hid hw2; have HL2 := Lib.hid ((HL.out.trans ((box_below wr (.cells #[.int .i64 n] 3)).mono HL.out.size)).grown hg2 (Nat.le_trans HL.out.size (box_below _ _).size) (fun k hk => (HO.out.lt k hk).1)); clear hw2 hg2))
          go_roundw
          case rel => exact ⟨k + 1, _, by omega, by go_num, HS, H2.out, HL2.out⟩
          case measure => simp [intOf]; omega
        · rw [riseStep_no _ _ _ hzn] at HS
          have hd : decide (z < n) = false := by simpa using hzn
          have hge : n ≤ z := by omega
          go_wp2_with (go_at_call 25; (with_reducible refine (HP.out _).mono ?_); rintro e w1 ⟨rfl, rfl⟩)
          go_roundw
          case rel => exact ⟨k + 1, _, by omega, by go_num, HS, HO.out, HL.out⟩
          case measure => simp [intOf]; omega
    · have HE : Hid (zs.take k = zs) := Lib.hid (List.take_of_length_le (by omega))
      rw [HE.out] at HT
      go_wp2
      go_ret
      exact ⟨_, rfl, by rw [HT.out]; exact readsN_of_own HO.out, HL.out⟩
end Go.Proofs.Ytmdaleokhekdeaa
