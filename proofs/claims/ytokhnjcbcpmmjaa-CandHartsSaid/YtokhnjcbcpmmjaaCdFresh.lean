/-
  Proved here: cand's All answers all events by number, their lists in new memory; nothing that was there is changed. Condition: a light candidate that may be.
-/
import Derived.Test.YtokhnjcbcpmmjaaCdLook
import Derived.Deep.RegionLaw
namespace Go.Proofs.Ytokhnjcbcpmmjaa
set_option linter.unusedVariables false
set_option linter.unusedSimpArgs false
open Go.RowKit
attribute [local go_sem ↓] fold_E fold_SE

theorem small_at {c : Cd} (h : Lt c) (n : Nat) (hn : n < c.N) : small (c.at n).2 := by
  obtain ⟨k, j, hk, hj, rfl⟩ := num_of c.len c.nh n hn
  rw [c.at_is k j hk hj]
  exact (h.small k hk).2 j hj
theorem fresh_any (v : Value) (zs : List Int) (w : World) (h : ReadsI w v zs) (hlen : zs.length ≤ 100000) : Calls Try.prog 20 #[v] w fun e w' => MergedT w zs e w' := by
  have HR := Lib.hid h
  clear h
  go_enter Try.func20, Try.ntmps20
  go_wp2_with (refine append_reads rfl (.const (.slice none 0 0)) (.tmp 3) rfl w.heap.size _ [] zs rfl (World.ownsRow_nil _ _ _ _) _ rfl HR.out (by simp; omega) (Nat.le_refl _) ?_; intro v1 w1 hw1 hg1; have G1 := Lib.hid hw1; have HB1 := Lib.hid ((Below.refl w.heap.size w).grown hg1 (Nat.le_refl _) (fun k hk => absurd (show (Value.slice none 0 0).ownBlock = some k from hk) (by simp [Value.ownBlock]))); clear hw1 hg1)
  go_ret
  exact ⟨_, rfl, readsN_of_own G1.out, typed_of_own G1.out, HB1.out⟩
/-- the events: those of es have lists of their own, the others are as they were -/
structure Fr (c : Cd) (es : List Ev) (g : Nat) (w W : World) : Prop where
  blk : W.heap[g]? = some (.cells (flat (es ++ ((allP c c.nh).map (·.1)).drop es.length)).toArray 42 (0, 0))
  cp : Cp (fun n => (c.at n).1) (fun n => (c.at n).2) es W
  new : w.heap.size ≤ g
  below : Below w.heap.size w W
  old : ∀ n, n < c.N → EReads w (c.at n).1 (c.at n).2
theorem Fr.reads {c : Cd} {es : List Ev} {g : Nat} {w W : World} (h : Fr c es g w W) (n : Nat) (hn : n < c.N) : EReads W (c.at n).1 (c.at n).2 := (h.old n hn).below h.below
theorem Fr.lt {c : Cd} {es : List Ev} {g : Nat} {w W : World} (h : Fr c es g w W) : g < W.heap.size := (Array.getElem?_eq_some_iff.1 h.blk).1
theorem Fr.on {c : Cd} {es : List Ev} {g : Nat} {w W W2 : World} (h : Fr c es g w W) (hb : Below W.heap.size W W2) : Fr c es g w W2 := ⟨(hb.block g h.lt).trans h.blk, h.cp.on hb, h.new, h.below.trans (hb.mono h.below.size), h.old⟩
theorem Fr.three {c : Cd} {es : List Ev} {g : Nat} {w W : World} (h : Fr c es g w W) (k : Nat) (hk : es.length = k) (hn : k < c.N) : W.cell? ⟨g, k * 14 + 11, none⟩ = some (c.at k).1.a ∧ W.cell? ⟨g, k * 14 + 12, none⟩ = some (c.at k).1.d ∧ W.cell? ⟨g, k * 14 + 13, none⟩ = some (c.at k).1.y := by
  have he : (es ++ ((allP c c.nh).map (·.1)).drop es.length)[k]? = some (c.at k).1 := by
    rw [List.getElem?_append_right (by omega), hk, List.getElem?_drop, Nat.sub_self, Nat.add_zero, List.getElem?_map, c.at_mem k hn]; rfl
  refine ⟨?_, ?_, ?_⟩
  · rw [cell_of_row W g _ _ _ _ h.blk]; simpa using flat_at _ k 11 _ (c.at k).1.a he rfl
  · rw [cell_of_row W g _ _ _ _ h.blk]; simpa using flat_at _ k 12 _ (c.at k).1.d he rfl
  · rw [cell_of_row W g _ _ _ _ h.blk]; simpa using flat_at _ k 13 _ (c.at k).1.y he rfl
theorem Cp.store {ev : Nat → Ev} {el : Nat → El} {es : List Ev} {w : World} (h : Cp ev el es w) {g i : Nat} {u : Value} (hg : IsRow g w) : Cp ev el es (w.setCell ⟨g, i, none⟩ u) :=
  ⟨h.like, fun j e hj => ereads_store (h.reads j e hj) (h.typed j e hj) hg, fun j e hj => ⟨typed_store (h.typed j e hj).1 hg, typed_store (h.typed j e hj).2.1 hg, typed_store (h.typed j e hj).2.2 hg⟩⟩
theorem flat_put (es rest : List Ev) (e : Ev) (va vd vy : Value) : (((flat (es ++ e :: rest)).set (es.length * 14 + 11) va).set (es.length * 14 + 12) vd).set (es.length * 14 + 13) vy = flat ((es ++ [e.lists va vd vy]) ++ rest) := by
  have hl := flat_len es
  have h1 : flat (es ++ e :: rest) = flat es ++ (e.row ++ flat rest) := by rw [flat_app]; rfl
  have h2 : flat ((es ++ [e.lists va vd vy]) ++ rest) = flat es ++ ((e.lists va vd vy).row ++ flat rest) := by rw [List.append_assoc, flat_app]; rfl
  rw [h1, h2, List.set_append, if_neg (by omega), List.set_append, if_neg (by omega), List.set_append, if_neg (by omega), hl]
  congr 1
  rw [show es.length * 14 + 11 - es.length * 14 = 11 by omega, show es.length * 14 + 12 - es.length * 14 = 12 by omega, show es.length * 14 + 13 - es.length * 14 = 13 by omega]
  simp [Ev.row, Ev.lists]
theorem Fr.put {c : Cd} {es : List Ev} {g : Nat} {w W : World} (h : Fr c es g w W) (k : Nat) (hk : es.length = k) (hn : k < c.N) (va vd vy : Value) (hr : EReads W ((c.at k).1.lists va vd vy) (c.at k).2) (ht : TypedD W va vd vy) :
    Fr c (es ++ [(c.at k).1.lists va vd vy]) g w (((W.setCell ⟨g, k * 14 + 11, none⟩ va).setCell ⟨g, k * 14 + 12, none⟩ vd).setCell ⟨g, k * 14 + 13, none⟩ vy) := by
  have hd : ((allP c c.nh).map (·.1)).drop es.length = (c.at k).1 :: ((allP c c.nh).map (·.1)).drop (es.length + 1) := by
    have he : ((allP c c.nh).map (·.1))[es.length]? = some (c.at k).1 := by rw [hk, List.getElem?_map, c.at_mem k hn]; rfl
    have hlt := (List.getElem?_eq_some_iff.1 he).1
    rw [List.drop_eq_getElem_cons hlt, (List.getElem?_eq_some_iff.1 he).2]
  have hb0 := h.blk
  rw [hd] at hb0
  have i0 : IsRow g W := ⟨_, hb0⟩
  have i1 : IsRow g (W.setCell ⟨g, k * 14 + 11, none⟩ va) := i0.set _ _ _
  have i2 : IsRow g ((W.setCell ⟨g, k * 14 + 11, none⟩ va).setCell ⟨g, k * 14 + 12, none⟩ vd) := i1.set _ _ _
  have hcp := ((h.cp.add k hk hr ht).store (i := k * 14 + 11) (u := va) i0).store (i := k * 14 + 12) (u := vd) i1
  refine ⟨?_, hcp.store i2, h.new, ((h.below.setCell (p := ⟨g, _, none⟩) h.new _).setCell (p := ⟨g, _, none⟩) h.new _).setCell (p := ⟨g, _, none⟩) h.new _, h.old⟩
  have s1 := set_at _ _ (k * 14 + 11) va _ _ _ hb0
  have s2 := set_at _ _ (k * 14 + 12) vd _ _ _ s1
  have s3 := set_at _ _ (k * 14 + 13) vy _ _ _ s2
  rw [s3]
  simp only [List.setIfInBounds_toArray]
  subst hk
  rw [flat_put, List.length_append]
  rfl
def AllIs (c : Cd) (w : World) (e : Ending) (w' : World) : Prop := ∃ g es, e = .returned (.slice (some ⟨g, 0, none⟩) c.N c.N) ∧ es.length = c.N ∧ w.heap.size ≤ g ∧ w'.heap[g]? = some (.cells (flat es).toArray 42 (0, 0)) ∧ Cp (fun n => (c.at n).1) (fun n => (c.at n).2) es w' ∧ Below w.heap.size w w'
set_option maxRecDepth 100000 in
set_option maxHeartbeats 16000000 in
theorem All_yes (c : Cd) (q : Cv) (w : World) (hL : Lt c) (h : CAt c q w) (hm : c.may = true) : Calls Try.prog 12 #[cdV c q] w fun e w' => AllIs c w e w' := by
  have KK : Hid (∀ w0, CAt c q w0 → Calls Try.prog 15 #[cdV c q] w0 fun e w' => LookIs c true w0 e w') := Lib.hid (fun w0 h0 => by rw [← hm]; exact look_any2 c q w0 hL h0)
  have S0 := Lib.hid (Lk.start h)
  have HO := Lib.hid (fun n hn => (reads_of_harts h.harts n hn).1)
  have hn60 := hL.n
  have HS := Lib.hid (fun n hn => small_at hL n hn)
  clear h hm hL
  obtain ⟨u0, u1, u2, u3⟩ := S0.out.box.facts
  go_enter Try.func12, Try.ntmps12
  go_wp2_with (go_at_call 15; (with_reducible refine (KK.out _ S0.out.at_).mono ?_); rintro e' w1 ⟨v, rfl, h1, h2, hb⟩; obtain ⟨g, rfl, h3, h4⟩ := h1 rfl; have S1 := Lib.hid (S0.out.on hb); have A1 := Lib.hid h4; have G1 := Lib.hid h3; clear hb h1 h2 h3 h4 u0 u1 u2 u3)
  have F0 : Hid (Fr c [] g w w1) := Lib.hid ⟨by simpa using A1.out.blk, Cp.nil _ _ _, Nat.le_trans S0.out.below.size G1.out, S1.out.below, HO.out⟩
  go_loopw [14] (fun vi wr => ∃ (k : Nat) (es : List Ev), es.length = k ∧ k ≤ c.N ∧ vi = .int .i64 k ∧ Hid (Fr c es g w wr)) (fun vi _ => c.N - (intOf vi).toNat)
  case atStart => exact ⟨0, [], rfl, Nat.zero_le _, rfl, F0⟩
  case round =>
    obtain ⟨k, es, hes, hk, rfl, hF⟩ := hrel
    by_cases hlt : k < c.N
    · have F1 := Lib.hid (hF.out.on (Below.refl _ _).drew)
      obtain ⟨t11, t12, t13⟩ := hF.out.three k hes hlt
      have z11 : wr.frozen? ⟨g, k * 14 + 11, none⟩ = false := frozen_of_row wr g _ _ _ hF.out.blk
      have HA1 : Hid ((c.at k).2.a.length ≤ 100000) := Lib.hid (by have := (HS.out k hlt).1; omega)
      have HA2 : Hid ((c.at k).2.d.length ≤ 100000) := Lib.hid (by have := (HS.out k hlt).2.1; omega)
      have HA3 : Hid ((c.at k).2.y.length ≤ 100000) := Lib.hid (by have := (HS.out k hlt).2.2; omega)
      go_upto_region 6 with fail
      go_region_law (first
        | (go_simp; go_at_call 20; (with_reducible refine (fresh_any (c.at k).1.a (c.at k).2.a _ (F1.out.reads k hlt).ra HA1.out).mono ?_); rintro e' w2 ⟨v2, rfl, hd, ht, hb⟩; obtain ⟨a2, c2, rfl⟩ := hd.1.len; have F2 := Lib.hid (F1.out.on hb); have D2 := Lib.hid hd.1; have T2 := Lib.hid ht; clear hb hd ht; obtain ⟨y11, y12, y13⟩ := F2.out.three k hes hlt)
        | (go_simp; go_at_call 20; (with_reducible refine (fresh_any (c.at k).1.d (c.at k).2.d _ (F2.out.reads k hlt).rd HA2.out).mono ?_); rintro e' w3 ⟨v3, rfl, hd, ht, hb⟩; obtain ⟨a3, c3, rfl⟩ := hd.1.len; have F3 := Lib.hid (F2.out.on hb); have D3 := Lib.hid hd.1; have T3 := Lib.hid ht; have D2b := Lib.hid (D2.out.below hb); have T2b := Lib.hid (T2.out.on hb); clear hb hd ht; obtain ⟨x11, x12, x13⟩ := F3.out.three k hes hlt)
        | (go_simp; go_at_call 20; (with_reducible refine (fresh_any (c.at k).1.y (c.at k).2.y _ (F3.out.reads k hlt).ry HA3.out).mono ?_); rintro e' w4 ⟨v4, rfl, hd, ht, hb⟩; obtain ⟨a4, c4, rfl⟩ := hd.1.len; have F4 := Lib.hid (F3.out.on hb); have P4 := Lib.hid (show EReads w4 ((c.at k).1.lists (.slice a2 (c.at k).2.a.length c2) (.slice a3 (c.at k).2.d.length c3) (.slice a4 (c.at k).2.y.length c4)) (c.at k).2 from ⟨D2b.out.below hb, D3.out.below hb, hd.1⟩); have T4 := Lib.hid (show TypedD w4 (.slice a2 (c.at k).2.a.length c2) (.slice a3 (c.at k).2.d.length c3) (.slice a4 (c.at k).2.y.length c4) from ⟨T2b.out.on hb, T3.out.on hb, ht⟩); clear hb hd ht; obtain ⟨v11, v12, v13⟩ := F4.out.three k hes hlt; have s11 := frozen_of_row w4 g (k * 14 + 11) _ _ F4.out.blk; have s12 := frozen_of_row w4 g (k * 14 + 12) _ _ F4.out.blk; have s13 := frozen_of_row w4 g (k * 14 + 13) _ _ F4.out.blk))
      all_goals
        go_wp2
        go_roundw
        case rel => exact ⟨k + 1, _, by rw [List.length_append, hes]; rfl, by omega, by go_num, Lib.hid (F4.out.put k hes hlt _ _ _ P4.out T4.out)⟩
        case measure => simp [intOf]; omega
    · obtain rfl : k = c.N := by omega
      go_wp2
      go_ret
      refine ⟨g, es, rfl, hes, hF.out.new, ?_, hF.out.cp, hF.out.below⟩
      have := hF.out.blk
      rw [List.drop_eq_nil_of_le (by rw [List.length_map, allP_len, hes]; exact Nat.le_refl _), List.append_nil] at this
      exact this
end Go.Proofs.Ytokhnjcbcpmmjaa
