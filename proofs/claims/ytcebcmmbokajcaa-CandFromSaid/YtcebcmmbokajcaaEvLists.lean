/-
  Proved here: appending what a slice reads as; the kit's Own, Same, OwnDeps, Deps, LightDeps and Pick; slices.Equal; nothing that was there is changed. Condition: lists of at most 100,000 numbers.
-/
import Derived.Test.YtcebcmmbokajcaaEvAhead
import Derived.Test.YtcebcmmbokajcaaShelf
import Derived.Laws.AppendOwn
import Derived.Laws.AppendOwnNone
import Derived.Deep.QuietTactic
import Derived.BigQuiet
namespace Go.Proofs.Ytcebcmmbokajcaa
set_option linter.unusedVariables false
set_option linter.unusedSimpArgs false
open Go.RowKit
attribute [local go_sem ↓] fold_E fold_SE

/-- append of what a slice reads as, to a row of the call's own -/
theorem append_reads {ops : Array Oper} {rest : List Oper} {o : Oper} {a : Act} {w : World} {Q : Exit → Act → World → Prop} (hgd : o.guard = none) (s x : Operand)
    (ho : o.op = .call { callee := .builtin .append, args := #[s, x], argTypes := #[24, 24] }) (base : Nat) (v : Value) (xs zs : List Int) (hs : a.eval s = v) (hown : w.ownsRow base 3 1 v xs.length (xs.map (Value.int .i64)))
    (vx : Value) (hx : a.eval x = vx) (hr : ReadsI w vx zs) (hlen : xs.length + zs.length ≤ 1000000) (hbase : base ≤ w.heap.size)
    (h : ∀ v' w', w'.ownsRow base 3 1 v' (xs ++ zs).length ((xs ++ zs).map (Value.int .i64)) → w.grownBy w' v.ownBlock → wpList Try.prog ops Q rest (a.put o.dst v') w') : wpList Try.prog ops Q (o :: rest) a w := by
  obtain ⟨i0, hi, hz0, hz1, hz2⟩ := info_parts infoInt
  rcases hr with ⟨⟨ad, c, rfl, hc0⟩, rfl⟩ | ⟨b, off, c, rfl, h1, h2, h3, h4⟩
  · cases ad with
    | none =>
      obtain rfl := hc0 rfl
      refine wpList_append_own_none hgd s x _ ho base 3 i0 1 Try.underlying24 hi v _ _ hs hown hx ?_
      exact h v w (by simpa using hown) (World.grownBy.refl _ _)
    | some ad =>
      refine wpList_append_own w hgd s x _ ho base 3 i0 (.int .i64 0) 1 8 Try.underlying24 hi hz0 hz1 hz2 rfl (by decide) v _ _ hs hown ad 0 c [] hx (by simp) ?_ ?_ (by unfold maxLen; simp at hlen; omega) (by simp at hlen; omega) hbase ?_
      · intro j u hu; simp at hu
      · intro u hu; simp at hu
      · intro v' w' h5 h6 _
        exact h v' w' (by simpa using h5) h6
  · refine wpList_append_own w hgd s x _ ho base 3 i0 (.int .i64 0) 1 8 Try.underlying24 hi hz0 hz1 hz2 rfl (by decide) v _ _ hs hown ⟨b, off, none⟩ zs.length c (zs.map (Value.int .i64)) hx (by simp) ?_ ?_ (by unfold maxLen; omega) (by omega) hbase ?_
    · intro j u hu
      have hj : j < zs.length := by
        have := (List.getElem?_eq_some_iff.1 hu).1
        simpa using this
      have ha : (⟨b, off, none⟩ : Addr).add j = ⟨b, off + j, none⟩ := by unfold Addr.add; split <;> simp_all
      rw [ha, h4 j hj]
      rw [← hu]
      simp [atI, hj]
    · exact ints_oneCell .i64 zs
    · intro v' w' h5 h6 _
      exact h v' w' (by simpa using h5) h6
/-- a new list -/
def Merged (w : World) (M : List Int) (e : Ending) (w' : World) : Prop := ∃ v, e = .returned v ∧ ReadsN w.heap.size w' v M ∧ Below w.heap.size w w'
set_option maxRecDepth 100000 in
set_option maxHeartbeats 2000000 in
theorem own_any (v : Value) (zs : List Int) (w : World) (h : ReadsI w v zs) (hlen : zs.length ≤ 100000) : Calls Try.prog 44 #[v] w fun e w' => Merged w zs e w' := by
  have HR := Lib.hid (h.alloc (.cells #[] 3))
  have HO := Lib.hid (World.ownsRow_made (base := w.heap.size) (e := 3) (size := 1) w #[] 0 (Nat.le_refl _) (by unfold maxLen; omega) (by simp))
  have HB := Lib.hid (box_below w (.cells #[] 3))
  clear h
  go_enter Try.func44, Try.ntmps44
  go_wp2_with (refine append_reads rfl (.tmp 3) (.tmp 4) rfl w.heap.size _ [] zs rfl HO.out _ rfl HR.out (by simp; omega) HB.out.size ?_; intro v1 w1 hw1 hg1; have H1 := Lib.hid hw1; have HB1 := Lib.hid (HB.out.grown hg1 HB.out.size (fun k hk => (HO.out.lt k hk).1)); clear hw1 hg1)
  go_ret
  exact ⟨_, rfl, readsN_of_own H1.out, HB1.out⟩
theorem take_more (a b : List Int) (k : Nat) (ha : k < a.length) (hb : k < b.length) (h : a.take k = b.take k) : (a.take (k + 1) = b.take (k + 1)) ↔ atI a k = atI b k := by
  rw [List.take_succ_eq_append_getElem ha, List.take_succ_eq_append_getElem hb, h]
  unfold atI
  rw [List.getD_eq_getElem?_getD, List.getD_eq_getElem?_getD, List.getElem?_eq_getElem ha, List.getElem?_eq_getElem hb]
  simp only [List.append_cancel_left_eq, List.cons.injEq, and_true, Option.getD_some]
theorem take_ne (a b : List Int) (k : Nat) (h : a.take k ≠ b.take k) : a ≠ b := fun e => h (by rw [e])
def SameOk (w : World) (b : Bool) (e : Ending) (w' : World) : Prop := e = .returned (.bool b) ∧ Below w.heap.size w w'
theorem SameOk.mk {w w' : World} {b c : Bool} (h : b = c) (hb : Below w.heap.size w w') : SameOk w c (.returned (.bool b)) w' := ⟨by rw [h], hb⟩
theorem below_drewW {B : Nat} {a w : World} (h : Below B a w) (n : Nat) : Below B a (w.drewN n) := ⟨h.os, h.tape, h.output, h.size, h.block⟩
set_option maxRecDepth 100000 in
set_option maxHeartbeats 2000000 in
theorem same_lens (a1 a2 : Option Addr) (n m c d : Nat) (hnm : n ≠ m) (w : World) : Calls Try.prog 14 #[.slice a1 n c, .slice a2 m d] w fun e w' => SameOk w false e w' := by
  have h1 : (((n : Nat) : Int) != ((m : Nat) : Int)) = true := by simp; omega
  go_enter Try.func14, Try.ntmps14
  go_wp2
  go_ret
  exact ⟨rfl, Below.refl _ _⟩
set_option maxRecDepth 100000 in
set_option maxHeartbeats 2000000 in
theorem same_none (a1 a2 : Option Addr) (c d : Nat) (w : World) : Calls Try.prog 14 #[.slice a1 0 c, .slice a2 0 d] w fun e w' => SameOk w true e w' := by
  go_enter Try.func14, Try.ntmps14
  go_wp2
  refine wp_loop_rounds 1 ?_
  rw [rounds_succ]
  go_wp2
  go_ret
  exact ⟨rfl, Below.refl _ _⟩
set_option maxRecDepth 100000 in
set_option maxHeartbeats 2000000 in
theorem same_some (a b : List Int) (n b1 o1 c1 b2 o2 c2 : Nat) (w : World) (ha : a.length = n) (hb : b.length = n) (hn : n ≤ 100000) (hl1 : b1 < w.heap.size) (hl2 : b2 < w.heap.size) (h1 : ∀ j, j < n → w.cell? ⟨b1, o1 + j, none⟩ = some (.int .i64 (atI a j))) (h2 : ∀ j, j < n → w.cell? ⟨b2, o2 + j, none⟩ = some (.int .i64 (atI b j))) :
    Calls Try.prog 14 #[.slice (some ⟨b1, o1, none⟩) n c1, .slice (some ⟨b2, o2, none⟩) n c2] w fun e w' => SameOk w (decide (a = b)) e w' := by
  have H1 := Lib.hid h1
  have H2 := Lib.hid h2
  have HA := Lib.hid ha
  have HB := Lib.hid hb
  clear h1 h2 ha hb
  go_enter Try.func14, Try.ntmps14
  go_wp2
  go_loopw [5] (fun i wr => ∃ k : Nat, k ≤ n ∧ i = .int .i64 k ∧ Hid (a.take k = b.take k) ∧ Below w.heap.size w wr) (fun i _ => n - (intOf i).toNat)
  case atStart => exact ⟨0, Nat.zero_le _, rfl, Lib.hid (by simp), Below.refl _ _⟩
  case round =>
    obtain ⟨k, hk, rfl, HT, hbel⟩ := hrel
    have HL := Lib.hid hbel
    clear hbel
    by_cases hlt : k < n
    · have hc1 := (HL.out.cell (p := ⟨b1, o1 + k, none⟩) hl1).trans (H1.out k hlt)
      have hc2 := (HL.out.cell (p := ⟨b2, o2 + k, none⟩) hl2).trans (H2.out k hlt)
      have HM := Lib.hid (take_more a b k (by rw [HA.out]; exact hlt) (by rw [HB.out]; exact hlt) HT.out)
      by_cases he : atI a k = atI b k
      · have h0 : (atI a k != atI b k) = false := by simpa using he
        have HE := Lib.hid he
        clear he
        go_upto_region 6 with fail
        go_quiet (fail)
        have HL2 := Lib.hid (below_drewW HL.out nq)
        go_wp2
        go_roundw
        case rel => exact ⟨k + 1, by omega, by go_num, Lib.hid (HM.out.2 HE.out), HL2.out⟩
        case measure => simp [intOf]; omega
      · have h0 : (atI a k != atI b k) = true := by simpa using he
        have HE := Lib.hid he
        clear he
        go_upto_region 6 with fail
        go_quiet (fail)
        have HL2 := Lib.hid (below_drewW HL.out nq)
        go_wp2
        go_ret
        refine SameOk.mk ?_ HL2.out
        exact (decide_eq_false (take_ne a b (k + 1) (fun h => HE.out (HM.out.1 h)))).symm
    · have HK : Hid (k = n) := Lib.hid (by omega)
      go_wp2
      go_ret
      refine SameOk.mk ?_ HL.out
      have := HT.out
      rw [List.take_of_length_le (by rw [HA.out]; omega), List.take_of_length_le (by rw [HB.out]; omega)] at this
      exact (decide_eq_true this).symm
theorem same_any (va vb : Value) (a b : List Int) (w : World) (ha : ReadsI w va a) (hb : ReadsI w vb b) (hn : a.length ≤ 100000) : Calls Try.prog 14 #[va, vb] w fun e w' => SameOk w (decide (a = b)) e w' := by
  by_cases hl : a.length = b.length
  · rcases ha with ⟨⟨a1, c1, rfl, _⟩, rfl⟩ | ⟨b1, o1, c1, rfl, _, _, g1, g2⟩
    · obtain ⟨a2, d, rfl⟩ := hb.len
      have hb0 : b = [] := List.length_eq_zero_iff.1 (by rw [← hl]; rfl)
      subst hb0
      exact same_none a1 a2 c1 d w
    · rcases hb with ⟨⟨a2, c2, rfl, _⟩, rfl⟩ | ⟨b2, o2, c2, rfl, _, _, g3, g4⟩
      · have ha0 : a = [] := List.length_eq_zero_iff.1 (by rw [hl]; rfl)
        subst ha0
        exact same_none _ a2 c1 c2 w
      · rw [← hl]
        exact same_some a b a.length b1 o1 c1 b2 o2 c2 w rfl hl.symm hn g1 g3 g2 (by rw [hl]; exact g4)
  · obtain ⟨a1, c1, rfl⟩ := ha.len
    obtain ⟨a2, c2, rfl⟩ := hb.len
    have e : decide (a = b) = false := decide_eq_false (fun h => hl (by rw [h]))
    rw [e]
    exact same_lens a1 a2 _ _ c1 c2 hl w
/-- a bool, and draws alone -/
def SameQ (w : World) (b : Bool) (e : Ending) (w' : World) : Prop := e = .returned (.bool b) ∧ ∃ m, w' = w.drewN m
theorem SameQ.mk {w w' : World} {b c : Bool} (h : b = c) (hb : ∃ m, w' = w.drewN m) : SameQ w c (.returned (.bool b)) w' := ⟨by rw [h], hb⟩
theorem drewN_none (w : World) : ∃ m, w = w.drewN m := ⟨0, by cases w; rfl⟩
theorem drewN_more {w w1 w2 : World} (h1 : ∃ m, w1 = w.drewN m) (h2 : ∃ m, w2 = w1.drewN m) : ∃ m, w2 = w.drewN m := by
  obtain ⟨m, rfl⟩ := h1
  obtain ⟨n, rfl⟩ := h2
  exact ⟨m + n, World.drewN_drewN ..⟩
theorem drewN_under {w w1 : World} (h : ∃ m, w1 = w.drewN m) : Below w.heap.size w w1 := by
  obtain ⟨m, rfl⟩ := h
  exact below_drewW (Below.refl _ _) m
theorem equal_any (va vb : Value) (a b : List Int) (w : World) (ha : ReadsI w va a) (hb : ReadsI w vb b) (hn : a.length ≤ 100000) : Calls Try.prog 42 #[va, vb] w fun e w' => SameQ w (decide (a = b)) e w' := by
  by_cases hl : a.length = b.length
  · by_cases h0 : a.length = 0
    · obtain ⟨a1, c1, rfl⟩ := ha.len
      obtain ⟨a2, c2, rfl⟩ := hb.len
      have ea : a = [] := List.length_eq_zero_iff.1 h0
      have eb : b = [] := List.length_eq_zero_iff.1 (by omega)
      subst ea eb
      refine (Try.slices_Equal_int_empty a1 a2 c1 0 c2 w (by omega)).mono ?_
      rintro e w' ⟨rfl, rfl⟩
      exact ⟨rfl, drewN_none _⟩
    · rcases ha with ⟨⟨a1, c1, rfl, _⟩, rfl⟩ | ⟨b1, o1, c1, rfl, _, _, g1, g2⟩
      · exact absurd rfl h0
      · rcases hb with ⟨⟨a2, c2, rfl, _⟩, rfl⟩ | ⟨b2, o2, c2, rfl, _, _, g3, g4⟩
        · exact absurd hl h0
        · refine (Try.slices_Equal_int b1 o1 a.length c1 b2 o2 b.length c2 a b w (Nat.le_refl _) (Nat.le_refl _) (by omega) (by omega) g2 g4).mono ?_
          rintro e w' ⟨rfl, q, rfl⟩
          refine SameQ.mk ?_ ⟨q, rfl⟩
          rw [List.take_length, List.take_length, Bool.eq_iff_iff]
          simp
  · obtain ⟨a1, c1, rfl⟩ := ha.len
    obtain ⟨a2, c2, rfl⟩ := hb.len
    refine (Try.slices_Equal_int_lens a1 a2 a.length c1 b.length c2 w hl).mono ?_
    rintro e w' ⟨rfl, rfl⟩
    exact SameQ.mk (decide_eq_false (fun h => hl (by rw [h]))).symm (drewN_none _)
theorem same_yes (va vb : Value) (a b : List Int) (w : World) (h : Hid (a = b)) (ha : ReadsI w va a) (hb : ReadsI w vb b) (hn : a.length ≤ 100000) : Calls Try.prog 14 #[va, vb] w fun e w' => SameOk w true e w' := by
  have := same_any va vb a b w ha hb hn
  rw [decide_eq_true h.out] at this
  exact this
end Go.Proofs.Ytcebcmmbokajcaa
