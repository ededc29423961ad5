/-
  Proved here: what a row's events are, and what rows become by a store into one event of a copy. No condition.
  (With it: Proved here: the kit's OwnEvents answers a row of events of its own; nothing that was there is changed. Condition: at most 60 events.)
-/
import Derived.Test.YtgkiaeddlahngaaGreatDoorEvRowWords
namespace Go.Proofs.YtgkiaeddlahngaaGreatDoor
set_option linter.unusedVariables false
set_option linter.unusedSimpArgs false
open Go.RowKit
attribute [local go_sem ↓] fold_E fold_SE

theorem owns_none (a : Option Addr) (c : Nat) (ev : Nat → Ev) (el : Nat → El) (w : World) : Calls Tryz.prog 34 #[.slice a 0 c] w fun e w' => OwnsIs w 0 ev el e w' := by
  go_enter Tryz.func34, Tryz.ntmps34
  go_wp2
  refine wp_loop_rounds 1 ?_
  rw [rounds_succ]
  go_wp2
  go_ret
  exact ⟨.slice none 0 0, [], rfl, rfl, World.ownsRow_nil _ _ _ _, Cp.nil _ _ _, Below.refl _ _⟩
set_option maxRecDepth 100000 in
set_option maxHeartbeats 4000000 in
theorem owns_row (n b off c : Nat) (ev : Nat → Ev) (el : Nat → El) (w : World) (hn : n ≤ 60) (h : Evs n b off ev el w) :
    Calls Tryz.prog 34 #[.slice (some ⟨b, off, none⟩) n c] w fun e w' => OwnsIs w n ev el e w' := by
  have HV := Lib.hid h
  clear h
  go_enter Tryz.func34, Tryz.ntmps34
  go_wp2
  go_loopw [3, 4] (fun vo vi wr => ∃ (k : Nat) (es : List Ev) (v : Value), v = vo ∧ k ≤ n ∧ vi = .int .i64 k ∧ Hid (es.length = k) ∧ Hid (wr.ownsRow w.heap.size 48 14 vo k (flat es)) ∧ Hid (Cp ev el es wr) ∧ Below w.heap.size w wr) (fun _ vi _ => n - (intOf vi).toNat)
  case atStart => exact ⟨0, [], _, rfl, Nat.zero_le _, rfl, Lib.hid rfl, Lib.hid (World.ownsRow_nil _ _ _ _), Lib.hid (Cp.nil _ _ _), Below.refl _ _⟩
  case round =>
    obtain ⟨k, es, v, rfl, hk, rfl, hlen, hO, hC, hbel⟩ := hrel
    have HL := Lib.hid hbel
    clear hbel
    by_cases hlt : k < n
    · have HE := Lib.hid (HV.out.below HL.out)
      have cl := (HE.out.at_ k hlt).load
      have KO := Lib.hid (ownEvent_any (ev k) (el k) wr (HE.out.reads k hlt) (HE.out.len k hlt))
      have hk1 : k ≤ 1000 := by omega
      go_wp2_with (first
        | (go_at_call 48; (with_reducible refine (KO.out).mono ?_); rintro e' w1 ⟨va, vd, vy, rfl, hd, ht, hb⟩; obtain ⟨a1, c1, rfl⟩ := hd.1.1.len; obtain ⟨a2, c2, rfl⟩ := hd.2.1.1.len; obtain ⟨a3, c3, rfl⟩ := hd.2.2.1.len; have L1 := Lib.hid ((HL.out.trans (hb.mono HL.out.size)).alloc (HL.out.trans (hb.mono HL.out.size)).size (.cells #[.int .i64 ((ev k).lists (.slice a1 (el k).a.length c1) (.slice a2 (el k).d.length c2) (.slice a3 (el k).y.length c3)).hart, .int .i64 ((ev k).lists (.slice a1 (el k).a.length c1) (.slice a2 (el k).d.length c2) (.slice a3 (el k).y.length c3)).pos, .int .i64 ((ev k).lists (.slice a1 (el k).a.length c1) (.slice a2 (el k).d.length c2) (.slice a3 (el k).y.length c3)).kind, .int .u64 ((ev k).lists (.slice a1 (el k).a.length c1) (.slice a2 (el k).d.length c2) (.slice a3 (el k).y.length c3)).addr, .int .u64 ((ev k).lists (.slice a1 (el k).a.length c1) (.slice a2 (el k).d.length c2) (.slice a3 (el k).y.length c3)).load, .int .u64 ((ev k).lists (.slice a1 (el k).a.length c1) (.slice a2 (el k).d.length c2) (.slice a3 (el k).y.length c3)).store, .bool ((ev k).lists (.slice a1 (el k).a.length c1) (.slice a2 (el k).d.length c2) (.slice a3 (el k).y.length c3)).aq, .bool ((ev k).lists (.slice a1 (el k).a.length c1) (.slice a2 (el k).d.length c2) (.slice a3 (el k).y.length c3)).rl, .int .i64 ((ev k).lists (.slice a1 (el k).a.length c1) (.slice a2 (el k).d.length c2) (.slice a3 (el k).y.length c3)).pred, .int .i64 ((ev k).lists (.slice a1 (el k).a.length c1) (.slice a2 (el k).d.length c2) (.slice a3 (el k).y.length c3)).succ, .int .i64 ((ev k).lists (.slice a1 (el k).a.length c1) (.slice a2 (el k).d.length c2) (.slice a3 (el k).y.length c3)).pair, ((ev k).lists (.slice a1 (el k).a.length c1) (.slice a2 (el k).d.length c2) (.slice a3 (el k).y.length c3)).a, ((ev k).lists (.slice a1 (el k).a.length c1) (.slice a2 (el k).d.length c2) (.slice a3 (el k).y.length c3)).d, ((ev k).lists (.slice a1 (el k).a.length c1) (.slice a2 (el k).d.length c2) (.slice a3 (el k).y.length c3)).y] 48)); have O1 := Lib.hid ((own_on hO.out hb).alloc (.cells #[.int .i64 ((ev k).lists (.slice a1 (el k).a.length c1) (.slice a2 (el k).d.length c2) (.slice a3 (el k).y.length c3)).hart, .int .i64 ((ev k).lists (.slice a1 (el k).a.length c1) (.slice a2 (el k).d.length c2) (.slice a3 (el k).y.length c3)).pos, .int .i64 ((ev k).lists (.slice a1 (el k).a.length c1) (.slice a2 (el k).d.length c2) (.slice a3 (el k).y.length c3)).kind, .int .u64 ((ev k).lists (.slice a1 (el k).a.length c1) (.slice a2 (el k).d.length c2) (.slice a3 (el k).y.length c3)).addr, .int .u64 ((ev k).lists (.slice a1 (el k).a.length c1) (.slice a2 (el k).d.length c2) (.slice a3 (el k).y.length c3)).load, .int .u64 ((ev k).lists (.slice a1 (el k).a.length c1) (.slice a2 (el k).d.length c2) (.slice a3 (el k).y.length c3)).store, .bool ((ev k).lists (.slice a1 (el k).a.length c1) (.slice a2 (el k).d.length c2) (.slice a3 (el k).y.length c3)).aq, .bool ((ev k).lists (.slice a1 (el k).a.length c1) (.slice a2 (el k).d.length c2) (.slice a3 (el k).y.length c3)).rl, .int .i64 ((ev k).lists (.slice a1 (el k).a.length c1) (.slice a2 (el k).d.length c2) (.slice a3 (el k).y.length c3)).pred, .int .i64 ((ev k).lists (.slice a1 (el k).a.length c1) (.slice a2 (el k).d.length c2) (.slice a3 (el k).y.length c3)).succ, .int .i64 ((ev k).lists (.slice a1 (el k).a.length c1) (.slice a2 (el k).d.length c2) (.slice a3 (el k).y.length c3)).pair, ((ev k).lists (.slice a1 (el k).a.length c1) (.slice a2 (el k).d.length c2) (.slice a3 (el k).y.length c3)).a, ((ev k).lists (.slice a1 (el k).a.length c1) (.slice a2 (el k).d.length c2) (.slice a3 (el k).y.length c3)).d, ((ev k).lists (.slice a1 (el k).a.length c1) (.slice a2 (el k).d.length c2) (.slice a3 (el k).y.length c3)).y] 48)); have C1 := Lib.hid (((hC.out.on hb).on (box_below w1 (.cells #[.int .i64 ((ev k).lists (.slice a1 (el k).a.length c1) (.slice a2 (el k).d.length c2) (.slice a3 (el k).y.length c3)).hart, .int .i64 ((ev k).lists (.slice a1 (el k).a.length c1) (.slice a2 (el k).d.length c2) (.slice a3 (el k).y.length c3)).pos, .int .i64 ((ev k).lists (.slice a1 (el k).a.length c1) (.slice a2 (el k).d.length c2) (.slice a3 (el k).y.length c3)).kind, .int .u64 ((ev k).lists (.slice a1 (el k).a.length c1) (.slice a2 (el k).d.length c2) (.slice a3 (el k).y.length c3)).addr, .int .u64 ((ev k).lists (.slice a1 (el k).a.length c1) (.slice a2 (el k).d.length c2) (.slice a3 (el k).y.length c3)).load, .int .u64 ((ev k).lists (.slice a1 (el k).a.length c1) (.slice a2 (el k).d.length c2) (.slice a3 (el k).y.length c3)).store, .bool ((ev k).lists (.slice a1 (el k).a.length c1) (.slice a2 (el k).d.length c2) (.slice a3 (el k).y.length c3)).aq, .bool ((ev k).lists (.slice a1 (el k).a.length c1) (.slice a2 (el k).d.length c2) (.slice a3 (el k).y.length c3)).rl, .int .i64 ((ev k).lists (.slice a1 (el k).a.length c1) (.slice a2 (el k).d.length c2) (.slice a3 (el k).y.length c3)).pred, .int .i64 ((ev k).lists (.slice a1 (el k).a.length c1) (.slice a2 (el k).d.length c2) (.slice a3 (el k).y.length c3)).succ, .int .i64 ((ev k).lists (.slice a1 (el k).a.length c1) (.slice a2 (el k).d.length c2) (.slice a3 (el k).y.length c3)).pair, ((ev k).lists (.slice a1 (el k).a.length c1) (.slice a2 (el k).d.length c2) (.slice a3 (el k).y.length c3)).a, ((ev k).lists (.slice a1 (el k).a.length c1) (.slice a2 (el k).d.length c2) (.slice a3 (el k).y.length c3)).d, ((ev k).lists (.slice a1 (el k).a.length c1) (.slice a2 (el k).d.length c2) (.slice a3 (el k).y.length c3)).y] 48))).add k hlen.out (EReads.below (w := w1) (e := ((ev k).lists (.slice a1 (el k).a.length c1) (.slice a2 (el k).d.length c2) (.slice a3 (el k).y.length c3))) ⟨hd.1.1, hd.2.1.1, hd.2.2.1⟩ (box_below w1 _)) (ht.on (box_below w1 _))); clear hd ht hb cl)
        | (refine append_ev rfl (.tmp 11) (.tmp 17) rfl w.heap.size v k (flat es) rfl O1.out ((ev k).lists (.slice a1 (el k).a.length c1) (.slice a2 (el k).d.length c2) (.slice a3 (el k).y.length c3)) ⟨rfl, rfl, rfl⟩ w1.heap.size rfl (EvAt.new ((ev k).lists (.slice a1 (el k).a.length c1) (.slice a2 (el k).d.length c2) (.slice a3 (el k).y.length c3)) w1) hk1 L1.out.size ?_; intro v2 w2 hw2 hg2; have L2 := Lib.hid (L1.out.grown hg2 L1.out.size (fun g hg => (O1.out.lt g hg).1)); have C2 := Lib.hid (C1.out.grown O1.out hg2); have O2 := Lib.hid hw2; clear hw2 hg2))
      go_roundw
      case rel => exact ⟨k + 1, es ++ [((ev k).lists (.slice a1 (el k).a.length c1) (.slice a2 (el k).d.length c2) (.slice a3 (el k).y.length c3))], _, rfl, by omega, by go_num, Lib.hid (by rw [List.length_append, hlen.out]; rfl), Lib.hid (by rw [flat_more]; exact O2.out), C2, L2.out⟩
      case measure => simp [intOf]; omega
    · obtain rfl : k = n := by omega
      go_wp2
      go_ret
      exact ⟨_, es, rfl, hlen.out, hO.out, hC.out, HL.out⟩
end Go.Proofs.YtgkiaeddlahngaaGreatDoor
namespace Go.Proofs.YtgkiaeddlahngaaGreatDoor
set_option linter.unusedVariables false
set_option linter.unusedSimpArgs false
open Go.RowKit

theorem rowL_pre {hart : Int} {ev : Nat → Ev} {el : Nat → El} {n k : Nat} {last : Int} (h : rowL hart ev el n = some last) (hk : k ≤ n) : ∃ l, rowL hart ev el k = some l := by
  cases hr : rowL hart ev el k with
  | none => rw [rowL_none hart ev el k hr n hk] at h; cases h
  | some l => exact ⟨l, rfl⟩
theorem step_ok {hart : Int} {ev : Nat → Ev} {el : Nat → El} {k : Nat} {last last' : Int} (h : rowStep hart ev el k last = some last') : (ev k).hart = hart ∧ (ev k).pos = k ∧ chkE (ev k) (el k) = true ∧
    (((ev k).kind = 3 ∧ last' = k) ∨ ((ev k).kind = 4 ∧ (ev k).pair = last ∧ last' = -1) ∨ ((ev k).kind ≠ 3 ∧ (ev k).kind ≠ 4 ∧ last' = last)) := by
  unfold rowStep at h
  by_cases h1 : (ev k).hart = hart
  rotate_left
  · simp [h1] at h
  by_cases h2 : (ev k).pos = k
  rotate_left
  · simp [h1, h2] at h
  cases h3 : chkE (ev k) (el k) with
  | false => simp [h1, h2, h3] at h
  | true =>
    refine ⟨h1, h2, rfl, ?_⟩
    by_cases h4 : (ev k).kind = 3
    · simp [h1, h2, h3, h4] at h
      exact .inl ⟨h4, by omega⟩
    · by_cases h5 : (ev k).kind = 4
      · by_cases h6 : (ev k).pair = last
        · refine .inr (.inl ⟨h5, h6, ?_⟩)
          simp [h1, h2, h3, h5, h6] at h
          omega
        · simp [h1, h2, h3, h5, h6] at h
      · simp [h1, h2, h3, h4, h5] at h
        exact .inr (.inr ⟨h4, h5, by omega⟩)
theorem rowL_at {hart : Int} {ev : Nat → Ev} {el : Nat → El} {n : Nat} {last : Int} (h : rowL hart ev el n = some last) (k : Nat) (hk : k < n) : ∃ l l', rowL hart ev el k = some l ∧ rowStep hart ev el k l = some l' ∧ rowL hart ev el (k + 1) = some l' := by
  obtain ⟨l, hl⟩ := rowL_pre h (show k ≤ n by omega)
  obtain ⟨l', hl'⟩ := rowL_pre h (show k + 1 ≤ n by omega)
  exact ⟨l, l', hl, by rw [← rowL_step hl]; exact hl', hl'⟩
theorem rowL_inv {hart : Int} {ev : Nat → Ev} {el : Nat → El} : ∀ (k : Nat) (last : Int), rowL hart ev el k = some last → last = -1 ∨ (0 ≤ last ∧ last < k ∧ (ev last.toNat).kind = 3 ∧ ∀ j, j < k → (ev j).kind = 4 → (ev j).pair ≠ last) := by
  intro k
  induction k with
  | zero => intro last h; left; simp [rowL] at h; omega
  | succ k ih =>
    intro last h
    obtain ⟨l, l', h1, h2, h3⟩ := rowL_at h k (by omega)
    rw [h3] at h
    obtain rfl : l' = last := by simpa using h
    obtain ⟨e1, e2, e3, e4⟩ := step_ok h2
    rcases e4 with ⟨k3, rfl⟩ | ⟨_, _, rfl⟩ | ⟨k3, k4, rfl⟩
    · right
      refine ⟨by omega, by omega, by simpa using k3, fun j hj hj4 => ?_⟩
      have hjk : j < k := by
        rcases Nat.lt_or_ge j k with h | h
        · exact h
        · obtain rfl : j = k := by omega
          rw [k3] at hj4; cases hj4
      obtain ⟨m, m', _, q2, _⟩ := rowL_at h3 j (by omega)
      obtain ⟨_, p2, p3, _⟩ := step_ok q2
      have := chk_pair p3 hj4
      rw [p2] at this
      omega
    · exact .inl rfl
    · rcases ih _ h1 with h0 | ⟨p1, p2, p3, p4⟩
      · exact .inl h0
      · right
        refine ⟨p1, by omega, p3, fun j hj hj4 => ?_⟩
        rcases Nat.lt_or_ge j k with h | h
        · exact p4 j h hj4
        · obtain rfl : j = k := by omega
          exact absurd hj4 k4
/-- what a row's SC is -/
theorem rowL_sc {hart : Int} {ev : Nat → Ev} {el : Nat → El} {n : Nat} {last : Int} (h : rowL hart ev el n = some last) (k : Nat) (hk : k < n) (h4 : (ev k).kind = 4) :
    ∃ m : Nat, (ev k).pair = m ∧ m < k ∧ (ev m).kind = 3 ∧ ∀ j, j < k → (ev j).kind = 4 → (ev j).pair ≠ m := by
  obtain ⟨l, l', h1, h2, h3⟩ := rowL_at h k hk
  obtain ⟨e1, e2, e3, e4⟩ := step_ok h2
  have hp := chk_pair e3 h4
  rcases e4 with ⟨k3, _⟩ | ⟨_, hpl, _⟩ | ⟨_, k4, _⟩
  · rw [k3] at h4; cases h4
  · rcases rowL_inv k l h1 with h0 | ⟨p1, p2, p3, p4⟩
    · omega
    · refine ⟨l.toNat, by omega, by omega, p3, fun j hj hj4 => ?_⟩
      have := p4 j hj hj4
      omega
  · exact absurd h4 k4
theorem rowL_no {hart : Int} {ev : Nat → Ev} {el : Nat → El} {n : Nat} (k : Nat) (hk : k < n) (h : (ev k).hart ≠ hart ∨ (ev k).pos ≠ k) : (rowL hart ev el n).isSome = false := by
  cases hr : rowL hart ev el n with
  | none => rfl
  | some last =>
    obtain ⟨l, l', _, h2, _⟩ := rowL_at hr k hk
    obtain ⟨e1, e2, _⟩ := step_ok h2
    rcases h with h | h
    · exact absurd e1 h
    · exact absurd e2 h
/-- a row of events in a block of its own -/
def IsRow (g : Nat) (w : World) : Prop := ∃ cur, w.heap[g]? = some (.cells cur 48 (0, 0))
structure Cr (n g : Nat) (ev : Nat → Ev) (el : Nat → El) (w : World) : Prop where
  heap : IsRow g w
  evs : Evs n g 0 ev el w
  typed : ∀ j, j < n → TypedD w (ev j).a (ev j).d (ev j).y
theorem IsRow.on {g : Nat} {w w' : World} (h : IsRow g w) (hb : Below w.heap.size w w') : IsRow g w' := by
  obtain ⟨c, hc⟩ := h
  exact ⟨c, (hb.block g (Array.getElem?_eq_some_iff.1 hc).1).trans hc⟩
theorem IsRow.lt {g : Nat} {w : World} (h : IsRow g w) : g < w.heap.size := by
  obtain ⟨c, hc⟩ := h
  exact (Array.getElem?_eq_some_iff.1 hc).1
theorem IsRow.free {g : Nat} {w : World} (h : IsRow g w) (k : Nat) : w.frozen? ⟨g, k, none⟩ = false := by
  obtain ⟨c, hc⟩ := h
  exact frozen_of_row w g k _ _ hc
theorem IsRow.set {g : Nat} {w : World} (h : IsRow g w) (g2 i : Nat) (u : Value) : IsRow g (w.setCell ⟨g2, i, none⟩ u) := by
  obtain ⟨c, hc⟩ := h
  by_cases e : g = g2
  · subst e
    exact ⟨_, set_at _ _ _ _ _ _ _ hc⟩
  · exact ⟨c, (Below.heap_setCell w ⟨g2, i, none⟩ u g e).trans hc⟩
theorem Cr.on {n g : Nat} {ev : Nat → Ev} {el : Nat → El} {w w' : World} (h : Cr n g ev el w) (hb : Below w.heap.size w w') : Cr n g ev el w' :=
  ⟨h.heap.on hb, h.evs.below hb, fun j hj => (h.typed j hj).on hb⟩
theorem ne_of_typed {w : World} {v : Value} {g b : Nat} (ht : TypedI w v) (hg : IsRow g w) (hb : v.ownBlock = some b) : b ≠ g := by
  intro e
  subst e
  obtain ⟨c, hc⟩ := ht b hb
  obtain ⟨c2, hc2⟩ := hg
  rw [hc] at hc2
  simp at hc2
theorem typed_store {w : World} {v : Value} {g i : Nat} {u : Value} (ht : TypedI w v) (hg : IsRow g w) : TypedI (w.setCell ⟨g, i, none⟩ u) v := fun b hb => by
  obtain ⟨c, hc⟩ := ht b hb
  exact ⟨c, (Below.heap_setCell w ⟨g, i, none⟩ u b (ne_of_typed ht hg hb)).trans hc⟩
theorem reads_store {w : World} {v : Value} {zs : List Int} {g i : Nat} {u : Value} (hr : ReadsI w v zs) (ht : TypedI w v) (hg : IsRow g w) : ReadsI (w.setCell ⟨g, i, none⟩ u) v zs := by
  rcases hr with h0 | ⟨b, off, c, rfl, h1, h2, h3, h4⟩
  · exact .inl h0
  · refine .inr ⟨b, off, c, rfl, h1, h2, by simpa [World.setCell] using h3, fun j hj => ?_⟩
    rw [← h4 j hj]
    exact World.cell?_of_block (Below.heap_setCell w ⟨g, i, none⟩ u b (ne_of_typed ht hg rfl))
theorem ereads_store {w : World} {e : Ev} {l : El} {g i : Nat} {u : Value} (hr : EReads w e l) (ht : TypedD w e.a e.d e.y) (hg : IsRow g w) : EReads (w.setCell ⟨g, i, none⟩ u) e l :=
  ⟨reads_store hr.1 ht.1 hg, reads_store hr.2.1 ht.2.1 hg, reads_store hr.2.2 ht.2.2 hg⟩
theorem cell_set (w : World) (g i j : Nat) (u : Value) (h : IsRow g w) (hne : j ≠ i) : (w.setCell ⟨g, i, none⟩ u).cell? ⟨g, j, none⟩ = w.cell? ⟨g, j, none⟩ := by
  obtain ⟨c, hc⟩ := h
  rw [cell_of_row _ g j _ _ _ (set_at w g i u c _ _ hc), cell_of_row w g j _ _ _ hc, Array.getElem?_setIfInBounds_ne (by omega)]
theorem cell_same (w : World) (g i : Nat) (u v : Value) (h : IsRow g w) (hv : w.cell? ⟨g, i, none⟩ = some v) : (w.setCell ⟨g, i, none⟩ u).cell? ⟨g, i, none⟩ = some u := by
  obtain ⟨c, hc⟩ := h
  rw [cell_of_row w g i _ _ _ hc] at hv
  rw [cell_of_row _ g i _ _ _ (set_at w g i u c _ _ hc)]
  have := (Array.getElem?_eq_some_iff.1 hv).1
  simp [this]
theorem Cr.far {n g : Nat} {ev : Nat → Ev} {el : Nat → El} {w : World} (h : Cr n g ev el w) {g2 i : Nat} {u : Value} (hg : IsRow g2 w) (hne : g ≠ g2) : Cr n g ev el (w.setCell ⟨g2, i, none⟩ u) :=
  ⟨h.heap.set _ _ _, ⟨fun k hk j v hv => (World.cell?_of_block (Below.heap_setCell w ⟨g2, i, none⟩ u g hne)).trans (h.evs.at_ k hk j v hv), fun k hk => ereads_store (h.evs.reads k hk) (h.typed k hk) hg, h.evs.len, h.evs.low, fun hp => by simpa [World.setCell] using h.evs.lt hp⟩,
    fun j hj => ⟨typed_store (h.typed j hj).1 hg, typed_store (h.typed j hj).2.1 hg, typed_store (h.typed j hj).2.2 hg⟩⟩
/-- an event of it put anew -/
theorem Cr.put {n g : Nat} {ev : Nat → Ev} {el : Nat → El} {w : World} (h : Cr n g ev el w) (k i : Nat) (hk : k < n) (hi : i < 14) (u : Value) (e2 : Ev) (hlists : e2.a = (ev k).a ∧ e2.d = (ev k).d ∧ e2.y = (ev k).y) (hu : 0 ≤ e2.addr)
    (hrow : e2.row = (ev k).row.set i u) : Cr n g (fun j => if j = k then e2 else ev j) el (w.setCell ⟨g, k * 14 + i, none⟩ u) := by
  have hcell : ∀ m, m < n → EvIn (if m = k then e2 else ev m) g (0 + m * 14) (w.setCell ⟨g, k * 14 + i, none⟩ u) := by
    intro m hm j v hv
    have hj : j < 14 := by have := (Array.getElem?_eq_some_iff.1 hv).1; simpa using this
    by_cases e : m = k
    · subst e
      rw [if_pos rfl] at hv
      have hv' : e2.row[j]? = some v := by unfold Ev.row; simpa using hv
      rw [hrow] at hv'
      by_cases ej : j = i
      · subst ej
        rw [List.getElem?_set_self (by rw [row_len]; omega)] at hv'
        obtain rfl : u = v := by simpa using hv'
        have h0 : ∃ v0, (#[.int .i64 (ev m).hart, .int .i64 (ev m).pos, .int .i64 (ev m).kind, .int .u64 (ev m).addr, .int .u64 (ev m).load, .int .u64 (ev m).store, .bool (ev m).aq, .bool (ev m).rl, .int .i64 (ev m).pred, .int .i64 (ev m).succ, .int .i64 (ev m).pair, (ev m).a, (ev m).d, (ev m).y] : Array Value)[j]? = some v0 := ⟨_, Array.getElem?_eq_getElem (by simpa using hj)⟩
        obtain ⟨v0, h0⟩ := h0
        have h1 := h.evs.at_ m hm j v0 h0
        rw [Nat.zero_add] at h1 ⊢
        exact cell_same w g _ u v0 h.heap h1
      · rw [List.getElem?_set_ne (by omega)] at hv'
        have h1 := h.evs.at_ m hm j v (by unfold Ev.row at hv'; simpa using hv')
        rw [Nat.zero_add] at h1 ⊢
        rw [cell_set w g _ _ u h.heap (by omega)]
        exact h1
    · rw [if_neg e] at hv
      have h1 := h.evs.at_ m hm j v hv
      rw [Nat.zero_add] at h1 ⊢
      rw [cell_set w g _ _ u h.heap (by omega)]
      exact h1
  refine ⟨h.heap.set _ _ _, ⟨hcell, fun m hm => ?_, h.evs.len, fun m hm => ?_, fun hp => by simpa [World.setCell] using h.evs.lt hp⟩, fun m hm => ?_⟩
  · by_cases e : m = k
    · subst e
      rw [if_pos rfl]
      have := ereads_store (g := g) (i := m * 14 + i) (u := u) (h.evs.reads m hm) (h.typed m hm) h.heap
      exact ⟨by rw [hlists.1]; exact this.1, by rw [hlists.2.1]; exact this.2.1, by rw [hlists.2.2]; exact this.2.2⟩
    · rw [if_neg e]
      exact ereads_store (h.evs.reads m hm) (h.typed m hm) h.heap
  · by_cases e : m = k
    · rw [if_pos e]; exact hu
    · rw [if_neg e]; exact h.evs.low m hm
  · have ht := h.typed m hm
    by_cases e : m = k
    · subst e
      rw [if_pos rfl, hlists.1, hlists.2.1, hlists.2.2]
      exact ⟨typed_store ht.1 h.heap, typed_store ht.2.1 h.heap, typed_store ht.2.2 h.heap⟩
    · rw [if_neg e]
      exact ⟨typed_store ht.1 h.heap, typed_store ht.2.1 h.heap, typed_store ht.2.2 h.heap⟩
/-- OwnEvents' answer, of a row that is not empty -/
theorem copy_of {w w' : World} {n : Nat} {ev : Nat → Ev} {el : Nat → El} {v : Value} {es : List Ev} (hn : 0 < n) (hlen : es.length = n) (hO : w'.ownsRow w.heap.size 48 14 v n (flat es)) (hC : Cp ev el es w') (hl : ∀ k, k < n → (el k).n) (hu : ∀ k, k < n → 0 ≤ (ev k).addr) :
    ∃ g cap ev2, v = .slice (some ⟨g, 0, none⟩) n cap ∧ w.heap.size ≤ g ∧ Cr n g ev2 el w' ∧ ∀ j, j < n → (ev2 j).hart = (ev j).hart ∧ (ev2 j).pos = (ev j).pos ∧ (ev2 j).addr = (ev j).addr := by
  rcases hO.2 with ⟨_, h0⟩ | ⟨g, cap, cur, rfl, hb, hgg, _⟩
  · omega
  have hat : ∀ j, j < n → es[j]? = some (es.getD j zeroEv) := fun j hj => by
    rw [List.getD_eq_getElem?_getD, List.getElem?_eq_getElem (by omega)]; rfl
  refine ⟨g, cap, fun j => es.getD j zeroEv, rfl, hb, ⟨⟨cur, hgg⟩, ⟨fun k hk j v hv => ?_, fun k hk => hC.reads k _ (hat k hk), hl, fun k hk => ?_, fun _ => (Array.getElem?_eq_some_iff.1 hgg).1⟩, fun j hj => hC.typed j _ (hat j hj)⟩, fun j hj => ?_⟩
  · have := hO.cells (g := g) rfl (k * 14 + j) v (flat_at es k j _ v (hat k hk) (by unfold Ev.row; simpa using hv))
    rw [Addr.add_lit] at this
    rw [Nat.zero_add] at this ⊢
    exact this
  · obtain ⟨a, d, y, he⟩ := hC.like k _ (hat k hk)
    rw [he]
    exact hu k hk
  · obtain ⟨a, d, y, he⟩ := hC.like j _ (hat j hj)
    show (es.getD j zeroEv).hart = _ ∧ (es.getD j zeroEv).pos = _ ∧ (es.getD j zeroEv).addr = _
    rw [he]
    exact ⟨rfl, rfl, rfl⟩
end Go.Proofs.YtgkiaeddlahngaaGreatDoor
