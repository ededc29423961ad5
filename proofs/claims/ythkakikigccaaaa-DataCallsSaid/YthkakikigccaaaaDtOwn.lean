/-
  Proved here: appends of pieces and of a seat to a row of the call's own; Own of pieces. No condition but lengths.
-/
import Derived.Test.YthkakikigccaaaaDtKit
import Derived.Laws.AppendOwn
import Derived.Laws.AppendOwnNone
namespace Go.Proofs.Ythkakikigccaaaa
open Go.RowKit Go.Lib
set_option linter.unusedVariables false
set_option linter.unusedSimpArgs false

section
variable {α : Type} {enc : α → List Value} {k : Nat}
theorem flat_len (hk : ∀ x, (enc x).length = k) : ∀ l : List α, (l.flatMap enc).length = l.length * k
  | [] => by simp
  | x :: l => by rw [List.flatMap_cons, List.length_append, flat_len hk l, hk, List.length_cons, Nat.succ_mul]; omega
theorem flat_at (hk : ∀ x, (enc x).length = k) : ∀ (l : List α) (i r : Nat) (hi : i < l.length), r < k → (l.flatMap enc)[i * k + r]? = (enc l[i])[r]?
  | x :: l, 0, r, _, hr => by
    rw [List.flatMap_cons, List.getElem?_append_left (by rw [hk]; omega)]; simp
  | x :: l, i + 1, r, hi, hr => by
    rw [List.flatMap_cons, List.getElem?_append_right (by rw [hk, Nat.succ_mul]; omega), hk, show (i + 1) * k + r - k = i * k + r by rw [Nat.succ_mul]; omega]
    exact flat_at hk l i r (by simpa using hi) hr
end
def flatP (l : List Pc) : List Value := l.flatMap pcV
def flatS (l : List Se) : List Value := l.flatMap seV
theorem flatP_len (l : List Pc) : (flatP l).length = l.length * 3 := flat_len (enc := pcV) (k := 3) (fun _ => rfl) l
theorem flatS_len (l : List Se) : (flatS l).length = l.length * 4 := flat_len (enc := seV) (k := 4) (fun _ => rfl) l
theorem flatP_one (l : List Pc) : ∀ u ∈ flatP l, u.oneCell' = true := fun u hu => by
  obtain ⟨p, _, hp⟩ := List.mem_flatMap.1 hu
  exact pcV_one p u hp
theorem seV_one (x : Se) (v : Value) (h : v ∈ seV x) : v.oneCell' = true := by
  simp only [seV, List.mem_cons, List.not_mem_nil, or_false] at h
  rcases h with rfl | rfl | rfl | rfl <;> rfl
theorem flatP_cell {l : List Pc} {w : World} {b off : Nat} (h : Ps w b off l) (j : Nat) (u : Value) (hu : (flatP l)[j]? = some u) : w.cell? ⟨b, off + j, none⟩ = some u := by
  have hj : j < l.length * 3 := by
    have := (List.getElem?_eq_some_iff.1 hu).1
    rwa [flatP_len] at this
  have hq := flat_at (enc := pcV) (k := 3) (fun _ => rfl) l (j / 3) (j % 3) (by omega) (by omega)
  rw [show j / 3 * 3 + j % 3 = j by omega] at hq
  have hu' : (pcV (l[j / 3]'(by omega)))[j % 3]? = some u := by rw [← hq]; exact hu
  obtain ⟨c0, c1, c2⟩ := h.at_ (j / 3) (by omega)
  have hm : j % 3 = 0 ∨ j % 3 = 1 ∨ j % 3 = 2 := by omega
  rcases hm with hm | hm | hm
  · rw [hm] at hu'; simp [pcV] at hu'; subst hu'
    rw [show off + j = off + j / 3 * 3 by omega]; exact c0
  · rw [hm] at hu'; simp [pcV] at hu'; subst hu'
    rw [show off + j = off + j / 3 * 3 + 1 by omega]; exact c1
  · rw [hm] at hu'; simp [pcV] at hu'; subst hu'
    rw [show off + j = off + j / 3 * 3 + 2 by omega]; exact c2
/-- append of pieces -/
theorem append_ps {ops : Array Oper} {rest : List Oper} {o : Oper} {a : Act} {w : World} {Q : Exit → Act → World → Prop} (hgd : o.guard = none) (s x : Operand)
    (ho : o.op = .call { callee := .builtin .append, args := #[s, x], argTypes := #[26, 26] }) (base : Nat) (v : Value) (n : Nat) (xs : List Value) (hs : a.eval s = v) (hown : w.ownsRow base 32 3 v n xs)
    (ad : Option Addr) (l : List Pc) (c : Nat) (hc : ad = none → c = 0) (hx : a.eval x = .slice ad l.length c) (hr : Sl w ad l) (hlen : l.length ≤ 1000) (hn : n ≤ 1000) (hbase : base ≤ w.heap.size)
    (h : ∀ v' w', w'.ownsRow base 32 3 v' (n + l.length) (xs ++ flatP l) → w.grownBy w' v.ownBlock → wpList Try.prog ops Q rest (a.put o.dst v') w') : wpList Try.prog ops Q (o :: rest) a w := by
  obtain ⟨i0, hi, hz0, hz1, hz2⟩ := info_parts infoPc
  rcases hr with rfl | ⟨b, off, rfl, hr⟩
  · cases ad with
    | none =>
      obtain rfl := hc rfl
      refine wpList_append_own_none hgd s x _ ho base 32 i0 3 Try.underlying26 hi v _ _ hs hown hx ?_
      exact h v w (by simpa [flatP] using hown) (World.grownBy.refl _ _)
    | some ad =>
      refine wpList_append_own w hgd s x _ ho base 32 i0 (.agg #[.string ⟨#[]⟩, .int .i64 0, .int .i64 0]) 3 32 Try.underlying26 hi hz0 hz1 hz2 (by kernel_rfl) (by decide) v _ _ hs hown ad 0 c [] hx (by simp) ?_ ?_ (by unfold maxLen; omega) (by omega) hbase ?_
      · intro j u hu; simp at hu
      · intro u hu; simp at hu
      · intro v' w' h5 h6 _
        exact h v' w' (by simpa [flatP] using h5) h6
  · refine wpList_append_own w hgd s x _ ho base 32 i0 (.agg #[.string ⟨#[]⟩, .int .i64 0, .int .i64 0]) 3 32 Try.underlying26 hi hz0 hz1 hz2 (by kernel_rfl) (by decide) v _ _ hs hown ⟨b, off, none⟩ l.length c (flatP l) hx (flatP_len l) ?_ (flatP_one l) (by unfold maxLen; omega) (by omega) hbase ?_
    · intro j u hu
      rw [Addr.add_lit]
      exact flatP_cell hr j u hu
    · intro v' w' h5 h6 _
      exact h v' w' h5 h6
/-- a row of the call's own as a slice of pieces -/
theorem ps_of_own {base : Nat} {w : World} {v : Value} {l : List Pc} (h : w.ownsRow base 32 3 v l.length (flatP l)) : ∃ (a : Option Addr) (c : Nat), v = .slice a l.length c ∧ (a = none → c = 0) ∧ Sl w a l := by
  have ho := h
  rcases h.2 with ⟨rfl, h0⟩ | ⟨g, cap, cur, rfl, hb, hgg, hcc, hm2, hs, ht⟩
  · have : l = [] := List.eq_nil_of_length_eq_zero h0
    subst this
    exact ⟨none, 0, rfl, fun _ => rfl, .inl rfl⟩
  · refine ⟨some ⟨g, 0, none⟩, cap, rfl, (fun h => nomatch h), .inr ⟨g, 0, rfl, ⟨fun k hk => ?_, (Array.getElem?_eq_some_iff.1 hgg).1⟩⟩⟩
    have at_ : ∀ r u, r < 3 → (pcV l[k])[r]? = some u → w.cell? ⟨g, 0 + k * 3 + r, none⟩ = some u := by
      intro r u hr hu
      have hx : (flatP l)[k * 3 + r]? = some u := by rw [← hu]; exact flat_at (enc := pcV) (k := 3) (fun _ => rfl) l k r hk hr
      have := ho.cells (g := g) (by simp [Value.ownBlock]) (k * 3 + r) u hx
      rw [Addr.add_lit] at this
      rw [← this]; congr 2; omega
    exact ⟨at_ 0 _ (by omega) rfl, at_ 1 _ (by omega) rfl, at_ 2 _ (by omega) rfl⟩
def OwnOut (l : List Pc) (w : World) (e : Ending) (w' : World) : Prop := ∃ v, e = .returned v ∧ w'.ownsRow w.heap.size 32 3 v l.length (flatP l) ∧ Below w.heap.size w w'
set_option maxRecDepth 100000 in
set_option maxHeartbeats 2000000 in
theorem Own_any (a : Option Addr) (c : Nat) (l : List Pc) (w : World) (hc : a = none → c = 0) (h : Sl w a l) (hlen : l.length ≤ 1000) : Calls Try.prog 16 #[.slice a l.length c] w (OwnOut l w) := by
  have HR := Lib.hid (h.below (one_below w (.cells #[] 32)))
  have HO := Lib.hid (World.ownsRow_made (base := w.heap.size) (e := 32) (size := 3) w #[] 0 (Nat.le_refl _) (by unfold maxLen; omega) (by simp))
  have HB := Lib.hid (one_below w (.cells #[] 32))
  have HC := Lib.hid hc
  clear h hc
  go_enter Try.func16, Try.ntmps16
  go_wp2_with (refine append_ps rfl (.tmp 3) (.tmp 4) rfl w.heap.size _ 0 [] rfl HO.out a l c HC.out rfl HR.out hlen (by omega) HB.out.size ?_; intro v1 w1 hw1 hg1; have H1 := Lib.hid hw1; have HB1 := Lib.hid (HB.out.grown hg1 HB.out.size (fun k hk => (HO.out.lt k hk).1)); clear hw1 hg1)
  go_ret
  exact ⟨_, rfl, by have := H1.out; simpa using this, HB1.out⟩
end Go.Proofs.Ythkakikigccaaaa
