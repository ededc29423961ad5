/-
  Proved here: the law's spread answers a candidate of the call's own: a fence behind each event, the numbers twice as great; nothing that was there is changed. Condition: a light candidate of at most 30 events.
  (With it: Words: the candidate that spread makes, under way: rows of rows of events of the call's own, and what keeps them; append of two events, of a row. No condition. (With it: Words: a candidate with a fence of all to all behind each event, its numbers twice as great. No condition. (With it: Proved here: the law's twice answers each number of a list twice as great, in a row of the call's own; nothing that was there is changed. Condition: at most 100,000 numbers.)))
-/
import Derived.Test.YtgkiaeddlahngaaGreatDoorEvKit
import Derived.Test.YtgkiaeddlahngaaGreatDoorCdFew
import Derived.Test.YtgkiaeddlahngaaGreatDoorPpView
import Derived.Test.YtgkiaeddlahngaaGreatDoorPpOwn
namespace Go.Proofs.YtgkiaeddlahngaaGreatDoor
set_option linter.unusedVariables false
set_option linter.unusedSimpArgs false
open Go.RowKit

/-- twice a number, as ints go round -/
def dbl (x : Int) : Int := wrap64 (2 * x)
theorem dbl_i64 (x : Int) : IntKind.i64.wrap (2 * x) = dbl x := by rw [IntKind.wrap_i64]; unfold dbl wrap64; rfl
theorem reads_cell {w : World} {a : Option Addr} {c : Nat} {zs : List Int} (h : ReadsI w (.slice a zs.length c) zs) {k : Nat} (hk : k < zs.length) : ∃ b off, a = some ⟨b, off, none⟩ ∧ w.cell? ⟨b, off + k, none⟩ = some (.int .i64 (atI zs k)) := by
  rcases h with ⟨_, rfl⟩ | ⟨b, off, c', e, h1, h2, h3, h4⟩
  · simp at hk
  · injection e with e1 e2 e3
    exact ⟨b, off, e1, h4 k hk⟩
theorem atI_one (x : Int) : atI [x] 0 = x := rfl
theorem reads_one {w : World} {x : Int} : ReadsI (w.alloc (.cells #[.int .i64 x] 3)) (.slice (some ⟨w.heap.size, 0, none⟩) 1 1) [x] := by
  refine .inr ⟨w.heap.size, 0, 1, rfl, by simp, by omega, by simp, fun j hj => ?_⟩
  obtain rfl : j = 0 := by simp at hj; omega
  have h0 : (w.alloc (.cells #[.int .i64 x] 3)).heap[w.heap.size]? = some (.cells #[.int .i64 x] 3 (0, 0)) := Array.getElem?_push_size
  rw [cell_of_row _ w.heap.size _ _ _ _ h0]; rfl
theorem map_snoc (l : List Int) (k : Nat) (hk : k < l.length) : (l.take k).map dbl ++ [dbl (atI l k)] = (l.take (k + 1)).map dbl := by
  rw [List.take_add_one, List.getElem?_eq_getElem hk, List.map_append]
  simp [atI, hk]
set_option maxRecDepth 100000 in
set_option maxHeartbeats 4000000 in
theorem twice_any (v : Value) (zs : List Int) (w : World) (h : ReadsI w v zs) (hlen : zs.length ≤ 100000) : Calls Tryz.prog 49 #[v] w fun e w' => MergedT w (zs.map dbl) e w' := by
  obtain ⟨a, c, rfl⟩ := h.len
  have H := Lib.hid h
  clear h
  go_enter Tryz.func49, Tryz.ntmps49
  go_wp2
  go_loopw [3, 4] (fun vo vi wr => ∃ (k : Nat) (v : Value) (n : Nat), v = vo ∧ k ≤ zs.length ∧ vi = .int .i64 k ∧ Hid (((zs.take k).map dbl).length = n) ∧ Hid (wr.ownsRow w.heap.size 3 1 vo n (((zs.take k).map dbl).map (Value.int .i64))) ∧ Hid (Below w.heap.size w wr)) (fun _ vi _ => zs.length - (intOf vi).toNat)
  case atStart => exact ⟨0, _, 0, rfl, Nat.zero_le _, rfl, Lib.hid rfl, Lib.hid (World.ownsRow_nil _ _ _ _), Lib.hid (Below.refl _ _)⟩
  case round =>
    obtain ⟨k, v, n, rfl, hk, rfl, hn, hO, hB⟩ := hrel
    by_cases hlt : k < zs.length
    · obtain ⟨b, off, rfl, hc⟩ := reads_cell (H.out.below hB.out) hlt
      have hd1 : wrap64 (2 * atI zs k) = dbl (atI zs k) := rfl
      have hki : (k : Int) < (zs.length : Int) := by omega
      have hk0 : (0 : Int) ≤ (k : Int) := by omega
      have hnk : n ≤ 100000 := by rw [← hn.out]; simp; omega
      have hOn : Hid (wr.ownsRow w.heap.size 3 1 v ((zs.take k).map dbl).length (((zs.take k).map dbl).map (Value.int .i64))) := Lib.hid (by rw [hn.out]; exact hO.out)
      have R1 : Hid (ReadsI (wr.alloc (.cells #[.int .i64 (dbl (atI zs k))] 3)) (.slice (some ⟨wr.heap.size, 0, none⟩) 1 1) [dbl (atI zs k)]) := Lib.hid reads_one
      have O1 := Lib.hid (hOn.out.alloc (.cells #[.int .i64 (dbl (atI zs k))] 3))
      have B1 := Lib.hid (hB.out.alloc hB.out.size (.cells #[.int .i64 (dbl (atI zs k))] 3))
      have hl2 : Hid (((zs.take k).map dbl).length + [dbl (atI zs k)].length ≤ 1000000) := Lib.hid (by rw [hn.out]; simp; omega)
      clear hOn
      go_wp2_with (refine append_reads rfl (.tmp 11) (.tmp 17) rfl w.heap.size v ((zs.take k).map dbl) [dbl (atI zs k)] rfl O1.out _ rfl R1.out hl2.out B1.out.size ?_; intro v2 w2 ho2 hg2; have O2 := Lib.hid ho2; have B2 := Lib.hid (B1.out.grown hg2 B1.out.size (fun g hg => (O1.out.lt g hg).1)); clear ho2 hg2)
      go_roundw
      case rel => exact ⟨k + 1, _, n + 1, rfl, by omega, by go_num, Lib.hid (by rw [← map_snoc zs k hlt, List.length_append, hn.out]; rfl), Lib.hid (by have := O2.out; rw [List.length_append, hn.out, map_snoc zs k hlt] at this; exact this), B2⟩
      case measure => simp [intOf]; omega
    · obtain rfl : k = zs.length := by omega
      rw [List.take_length] at hO hn
      go_wp2
      go_ret
      exact ⟨v, rfl, by
        have h1 := hO.out
        rw [← hn.out] at h1
        exact readsN_of_own h1, typed_of_own hO.out, hB.out⟩
def TwIs (w : World) (zs : List Int) (e : Ending) (w' : World) : Prop := ∃ a c, e = .returned (.slice a zs.length c) ∧ ReadsN w.heap.size w' (.slice a zs.length c) (zs.map dbl) ∧ TypedI w' (.slice a zs.length c) ∧ Below w.heap.size w w'
theorem twice_is (v : Value) (zs : List Int) (w : World) (h : ReadsI w v zs) (hlen : zs.length ≤ 100000) : Calls Tryz.prog 49 #[v] w fun e w' => TwIs w zs e w' := by
  refine (twice_any v zs w h hlen).mono ?_
  rintro e w' ⟨v, rfl, h1, h2, h3⟩
  obtain ⟨a, c, rfl⟩ := h1.1.len
  rw [List.length_map] at h1 h2 ⊢
  exact ⟨a, c, rfl, h1, h2, h3⟩
end Go.Proofs.YtgkiaeddlahngaaGreatDoor
namespace Go.Proofs.YtgkiaeddlahngaaGreatDoor
set_option linter.unusedVariables false
set_option linter.unusedSimpArgs false
open Go.RowKit

/-- d is c with a fence behind each event -/
structure Sp (c d : Cd) : Prop where
  N : d.N = 2 * c.N
  hart : ∀ n, n < c.N → (d.at (2 * n)).1.hart = (c.at n).1.hart
  mem : ∀ n, n < c.N → memE (d.at (2 * n)).1 = memE (c.at n).1
  side : ∀ n, n < c.N → sideE (d.at (2 * n + 1)).1 = 0
  pred : ∀ n, n < c.N → (d.at (2 * n + 1)).1.pred = 3
  succ : ∀ n, n < c.N → (d.at (2 * n + 1)).1.succ = 3
/-- the event at a place twice as great, its pair too -/
def dblE (e : Ev) (j : Nat) : Ev := ⟨e.hart, 2 * (j : Int), e.kind, e.addr, e.load, e.store, e.aq, e.rl, e.pred, e.succ, dbl e.pair, e.a, e.d, e.y⟩
/-- the fence behind it -/
def fenE (h j : Nat) : Ev := ⟨(h : Int), 2 * (j : Int) + 1, 6, 0, 0, 0, false, false, 3, 3, 0, .slice none 0 0, .slice none 0 0, .slice none 0 0⟩
def dblL (l : El) : El := ⟨l.a.map dbl, l.d.map dbl, l.y.map dbl⟩
def dblF (x : Int) : Int := if 0 ≤ x then dbl x else x
def frD : List Int → List Int
  | [] => []
  | x :: l => dblF x :: (-1) :: frD l
theorem frD_len : ∀ (l : List Int), (frD l).length = 2 * l.length
  | [] => rfl
  | x :: l => by unfold frD; simp [frD_len l]; omega
theorem frD_snoc : ∀ (l : List Int) (x : Int), frD (l ++ [x]) = frD l ++ [dblF x, -1]
  | [], x => rfl
  | y :: l, x => by simp [frD, frD_snoc l x]
theorem frD_next (l : List Int) (k : Nat) (hk : k < l.length) : frD (l.take (k + 1)) = frD (l.take k) ++ [dblF (atI l k), -1] := by
  rw [List.take_add_one, List.getElem?_eq_getElem hk, ← frD_snoc]
  simp [atI, hk]
def evD (c : Cd) (h k : Nat) : Ev := if k % 2 = 0 then dblE (c.ev h (k / 2)) (k / 2) else fenE h (k / 2)
def elD (c : Cd) (h k : Nat) : El := if k % 2 = 0 then dblL (c.el h (k / 2)) else nilL
def spreadC (c : Cd) : Cd := ⟨c.nh, fun h => 2 * c.len h, evD c, elD c, c.fs, frD c.fr, c.od.map dbl⟩
theorem evD_even (c : Cd) (h j : Nat) : evD c h (2 * j) = dblE (c.ev h j) j := by unfold evD; rw [if_pos (by omega), show 2 * j / 2 = j by omega]
theorem evD_odd (c : Cd) (h j : Nat) : evD c h (2 * j + 1) = fenE h j := by unfold evD; rw [if_neg (by omega), show (2 * j + 1) / 2 = j by omega]
theorem elD_even (c : Cd) (h j : Nat) : elD c h (2 * j) = dblL (c.el h j) := by unfold elD; rw [if_pos (by omega), show 2 * j / 2 = j by omega]
theorem elD_odd (c : Cd) (h j : Nat) : elD c h (2 * j + 1) = nilL := by unfold elD; rw [if_neg (by omega)]
theorem base_two (len : Nat → Nat) : ∀ k, baseL (fun h => 2 * len h) k = 2 * baseL len k
  | 0 => rfl
  | k + 1 => by show baseL _ k + 2 * len k = 2 * (baseL len k + len k); rw [base_two len k]; omega
theorem spread_at (c : Cd) (n : Nat) (hn : n < c.N) : ∃ h j, ((spreadC c).at (2 * n)).1 = dblE (c.at n).1 j ∧ ((spreadC c).at (2 * n + 1)).1 = fenE h j := by
  obtain ⟨h, j, hh, hj, rfl⟩ := num_of c.len c.nh n hn
  have e0 := (spreadC c).at_is h (2 * j) hh (show 2 * j < 2 * c.len h by omega)
  have e1 := (spreadC c).at_is h (2 * j + 1) hh (show 2 * j + 1 < 2 * c.len h by omega)
  have hb : baseL (spreadC c).len h = 2 * baseL c.len h := base_two c.len h
  rw [hb] at e0 e1
  refine ⟨h, j, ?_, ?_⟩
  · rw [show 2 * (baseL c.len h + j) = 2 * baseL c.len h + 2 * j by omega, e0, c.at_is h j hh hj]
    exact evD_even c h j
  · rw [show 2 * (baseL c.len h + j) + 1 = 2 * baseL c.len h + (2 * j + 1) by omega, e1]
    exact evD_odd c h j
theorem spread_sp (c : Cd) : Sp c (spreadC c) where
  N := base_two c.len c.nh
  hart := fun n hn => by obtain ⟨h, j, e0, _⟩ := spread_at c n hn; rw [e0]; rfl
  mem := fun n hn => by obtain ⟨h, j, e0, _⟩ := spread_at c n hn; rw [e0]; rfl
  side := fun n hn => by obtain ⟨h, j, _, e1⟩ := spread_at c n hn; rw [e1]; show (if hasB (fieldsOf 6) 16 then 2 else 0) + (if hasB (fieldsOf 6) 32 then 1 else 0) = 0; decide
  pred := fun n hn => by obtain ⟨h, j, _, e1⟩ := spread_at c n hn; rw [e1]; rfl
  succ := fun n hn => by obtain ⟨h, j, _, e1⟩ := spread_at c n hn; rw [e1]; rfl
theorem dbl_fits (x : Int) : -9223372036854775808 ≤ dbl x ∧ dbl x < 9223372036854775808 := by unfold dbl wrap64; omega
theorem spread_word {c : Cd} (h : ∀ h, h < c.nh → ∀ k, k < c.len h → WordX (c.ev h k)) : ∀ h, h < (spreadC c).nh → ∀ k, k < (spreadC c).len h → WordX ((spreadC c).ev h k) := fun hh h1 k h2 => by
  have h3 : k < 2 * c.len hh := h2
  show WordX (evD c hh k)
  unfold evD
  split
  · have := h hh h1 (k / 2) (by omega)
    exact ⟨this.1, dbl_fits _⟩
  · exact ⟨⟨by show (Lit.int .u64 0).wf = true; decide, by show (Lit.int .u64 0).wf = true; decide⟩, by show -9223372036854775808 ≤ (0 : Int) ∧ (0 : Int) < 9223372036854775808; omega⟩
theorem spread_lt {c : Cd} (h : Lt c) (hn : c.N ≤ 30) (hr : c.fr.length ≤ 60) (hx : ∀ h, h < c.nh → ∀ k, k < c.len h → WordX (c.ev h k)) : Lt (spreadC c) where
  ew := fun hh h1 k h2 => (spread_word hx hh h1 k h2).1
  nh := h.nh
  n := by have := (spread_sp c).N; omega
  small := fun hh h1 => by
    refine ⟨?_, fun k h2 => ?_⟩
    · show 2 * c.len hh ≤ 60
      have := baseL_lt c.len hh c.nh h1
      unfold Cd.N at hn
      omega
    · show small (elD c hh k)
      have h3 : k < 2 * c.len hh := h2
      unfold elD
      split
      · have := (h.small hh h1).2 (k / 2) (by omega)
        exact ⟨by show ((c.el hh (k / 2)).a.map dbl).length ≤ 60; rw [List.length_map]; exact this.1, by show ((c.el hh (k / 2)).d.map dbl).length ≤ 60; rw [List.length_map]; exact this.2.1, by show ((c.el hh (k / 2)).y.map dbl).length ≤ 60; rw [List.length_map]; exact this.2.2⟩
      · exact ⟨Nat.zero_le _, Nat.zero_le _, Nat.zero_le _⟩
  fs := h.fs
  fr := by show (frD c.fr).length ≤ 120; rw [frD_len]; omega
  od := by show (c.od.map dbl).length ≤ 120; rw [List.length_map]; exact h.od
  fw := h.fw
end Go.Proofs.YtgkiaeddlahngaaGreatDoor
namespace Go.Proofs.YtgkiaeddlahngaaGreatDoor
set_option linter.unusedVariables false
set_option linter.unusedSimpArgs false
open Go.RowKit
attribute [local go_sem ↓] fold_E fold_SE fold_SC

/-- two events lie there, one behind the other -/
def Two (e f : Ev) (n : Nat) (w : World) : Prop := w.heap[n]? = some (.cells #[.int .i64 e.hart, .int .i64 e.pos, .int .i64 e.kind, .int .u64 e.addr, .int .u64 e.load, .int .u64 e.store, .bool e.aq, .bool e.rl, .int .i64 e.pred, .int .i64 e.succ, .int .i64 e.pair, e.a, e.d, e.y, .int .i64 f.hart, .int .i64 f.pos, .int .i64 f.kind, .int .u64 f.addr, .int .u64 f.load, .int .u64 f.store, .bool f.aq, .bool f.rl, .int .i64 f.pred, .int .i64 f.succ, .int .i64 f.pair, f.a, f.d, f.y] 48 (0, 0))
theorem append_two {ops : Array Oper} {rest : List Oper} {o : Oper} {a : Act} {w : World} {Q : Exit → Act → World → Prop} (hgd : o.guard = none) (s x : Operand)
    (ho : o.op = .call { callee := .builtin .append, args := #[s, x], argTypes := #[41, 41] }) (base : Nat) (v : Value) (n : Nat) (xs : List Value) (hs : a.eval s = v) (hown : w.ownsRow base 48 14 v n xs)
    (e f : Ev) (he : e.flat) (hf : f.flat) (g : Nat) (hx : a.eval x = .slice (some ⟨g, 0, none⟩) 2 2) (hr : Two e f g w) (hn : n ≤ 1000) (hbase : base ≤ w.heap.size)
    (h : ∀ v' w', w'.ownsRow base 48 14 v' (n + 2) (xs ++ (e.row ++ f.row)) → w.grownBy w' v.ownBlock → wpList Tryz.prog ops Q rest (a.put o.dst v') w') : wpList Tryz.prog ops Q (o :: rest) a w := by
  obtain ⟨i0, hi, hz0, hz1, hz2⟩ := info_parts infoEv
  refine wpList_append_own w hgd s x _ ho base 48 i0 zeroEv.V 14 152 Tryz.underlying41 hi hz0 hz1 hz2 (by kernel_rfl) (by decide) v n xs hs hown ⟨g, 0, none⟩ 2 2 (e.row ++ f.row) hx rfl ?_ ?_ (by unfold maxLen; omega) (by omega) hbase (fun v' w' h5 h6 _ => h v' w' h5 h6)
  · intro j u hu
    rw [Addr.add_lit, Nat.zero_add, cell_of_row w g j _ _ _ hr]
    unfold Ev.row at hu
    simpa using hu
  · intro u hu
    rcases List.mem_append.1 hu with hu | hu
    · simp only [Ev.row, List.mem_cons, List.not_mem_nil, or_false] at hu
      rcases hu with rfl | rfl | rfl | rfl | rfl | rfl | rfl | rfl | rfl | rfl | rfl | rfl | rfl | rfl <;> first | rfl | exact he.1 | exact he.2.1 | exact he.2.2
    · simp only [Ev.row, List.mem_cons, List.not_mem_nil, or_false] at hu
      rcases hu with rfl | rfl | rfl | rfl | rfl | rfl | rfl | rfl | rfl | rfl | rfl | rfl | rfl | rfl <;> first | rfl | exact hf.1 | exact hf.2.1 | exact hf.2.2
/-- append of one row, behind all that is read -/
theorem append_row {ops : Array Oper} {rest : List Oper} {o : Oper} {a : Act} {w : World} {Q : Exit → Act → World → Prop} (hgd : o.guard = none) (s x : Operand)
    (ho : o.op = .call { callee := .builtin .append, args := #[s, x], argTypes := #[23, 23] }) (base : Nat) (v : Value) (n : Nat) (xs : List Value) (hs : a.eval s = v) (hown : w.ownsRow base 41 1 v n xs)
    (r : Value) (h1 : r.oneCell' = true) (g : Nat) (hx : a.eval x = .slice (some ⟨g, 0, none⟩) 1 1) (hr : w.heap[g]? = some (.cells #[r] 41 (0, 0))) (hn : n ≤ 1000) (hbase : base ≤ w.heap.size)
    (h : ∀ v' w', w'.ownsRow base 41 1 v' (n + 1) (xs ++ [r]) → w.grownBy w' v.ownBlock → wpList Tryz.prog ops Q rest (a.put o.dst v') w') : wpList Tryz.prog ops Q (o :: rest) a w := by
  obtain ⟨i0, hi, hz0, hz1, hz2⟩ := info_parts infoEvs
  refine wpList_append_own w hgd s x _ ho base 41 i0 (.slice none 0 0) 1 24 Tryz.underlying23 hi hz0 hz1 hz2 (by kernel_rfl) (by decide) v n xs hs hown ⟨g, 0, none⟩ 1 1 [r] hx rfl ?_ ?_ (by unfold maxLen; omega) (by omega) hbase (fun v' w' h5 h6 _ => h v' w' h5 h6)
  · intro j u hu
    rw [Addr.add_lit, Nat.zero_add, cell_of_row w g j _ _ _ hr]
    simpa using hu
  · intro u hu
    simp only [List.mem_cons, List.not_mem_nil, or_false] at hu
    subst hu
    exact h1
/-- the candidate under way -/
structure Sx (c d : Cd) (q : Cv) (gB lo : Nat) (vF vH : Value) (k : Nat) (ess : List (List Ev)) (vals : List Value) (w W : World) : Prop where
  lk : Lk c q w W
  res : CBox (.slice none 0 0) (.slice none 0 0) (.slice none 0 0) (.slice none 0 0) (w.heap.size + 1) W
  out : CBox vF vH (.slice none 0 0) (.slice none 0 0) gB W
  first : W.ownsRow w.heap.size 59 2 vF c.fs.length (flatC c.fs)
  rows : RowsE lo W d k ess vals
  own : W.ownsRow lo 41 1 vH k vals
  h1 : w.heap.size + 1 < gB
  h2 : gB < lo
  f : ∀ g, vF.ownBlock = some g → w.heap.size + 1 < g ∧ g ≠ gB ∧ g < lo
  sz : lo ≤ W.heap.size
theorem Sx.on {c d : Cd} {q : Cv} {gB lo : Nat} {vF vH : Value} {k : Nat} {ess : List (List Ev)} {vals : List Value} {w W W2 : World} (h : Sx c d q gB lo vF vH k ess vals w W) (hb : Below W.heap.size W W2) : Sx c d q gB lo vF vH k ess vals w W2 :=
  ⟨h.lk.on hb, h.res.on hb, h.out.on hb, own_on h.first hb, h.rows.keep (.of_below hb), own_on h.own hb, h.h1, h.h2, h.f, Nat.le_trans h.sz hb.size⟩
theorem Sx.outOn {c d : Cd} {q : Cv} {gB lo : Nat} {vF vH : Value} {k : Nat} {ess : List (List Ev)} {vals : List Value} {w W W2 : World} (h : Sx c d q gB lo vF vH k ess vals w W) (hg : W.grownBy W2 vH.ownBlock) : CBox vF vH (.slice none 0 0) (.slice none 0 0) gB W2 :=
  (hg.block gB h.out.lt (fun hh => by have := (h.own.lt gB hh.symm).1; have := h.h2; omega)).trans h.out
theorem Sx.free {c d : Cd} {q : Cv} {gB lo : Nat} {vF vH : Value} {k : Nat} {ess : List (List Ev)} {vals : List Value} {w W W2 : World} (h : Sx c d q gB lo vF vH k ess vals w W) (hg : W.grownBy W2 vH.ownBlock) : W2.frozen? ⟨gB, 1, none⟩ = false := frozen_of_row W2 gB 1 _ _ (h.outOn hg)
theorem Sx.cell1 {c d : Cd} {q : Cv} {gB lo : Nat} {vF vH : Value} {k : Nat} {ess : List (List Ev)} {vals : List Value} {w W : World} (h : Sx c d q gB lo vF vH k ess vals w W) : W.cell? ⟨gB, 1, none⟩ = some vH := by rw [cell_of_row W gB 1 _ _ _ h.out]; rfl
theorem Sx.there {c d : Cd} {q : Cv} {gB lo : Nat} {vF vH : Value} {k : Nat} {ess : List (List Ev)} {vals : List Value} {w W W2 : World} (h : Sx c d q gB lo vF vH k ess vals w W) (hg : W.grownBy W2 vH.ownBlock) : W2.cell? ⟨gB, 1, none⟩ = some vH := by rw [cell_of_row W2 gB 1 _ _ _ (h.outOn hg)]; rfl
/-- a row more -/
theorem Sx.step {c d : Cd} {q : Cv} {gB lo : Nat} {vF vH vH2 : Value} {k : Nat} {ess : List (List Ev)} {vals : List Value} {w W W2 : World} (h : Sx c d q gB lo vF vH k ess vals w W) {v : Value} {es : List Ev} (hr : RowE lo W v (d.len k) es (d.ev k) (d.el k))
    (ho : W2.ownsRow lo 41 1 vH2 (k + 1) (vals ++ [v])) (hg : W.grownBy W2 vH.ownBlock) : Sx c d q gB lo vF vH2 (k + 1) (ess ++ [es]) (vals ++ [v]) w (W2.setCell ⟨gB, 1, none⟩ vH2) := by
  have hvH : ∀ g, vH.ownBlock = some g → lo ≤ g := fun g hh => (h.own.lt g hh).1
  have o1 := h.h1
  have o2 := h.h2
  have blk : ∀ j, j < lo → j ≠ gB → (W2.setCell ⟨gB, 1, none⟩ vH2).heap[j]? = W.heap[j]? := fun j h1 h2 =>
    (Below.heap_setCell W2 ⟨gB, 1, none⟩ vH2 j h2).trans (hg.block j (Nat.lt_of_lt_of_le h1 h.sz) (fun hh => by have := hvH j hh.symm; omega))
  refine ⟨⟨(blk _ (by omega) (by omega)).trans h.lk.box, (h.lk.below.grown hg h.lk.below.size (fun g hh => by have := hvH g hh; omega)).setCell (by show w.heap.size ≤ gB; omega) _, h.lk.here⟩, (blk _ (by omega) (by omega)).trans h.res, ?_, ?_, ?_, ?_, h.h1, h.h2, h.f, ?_⟩
  · exact set_at W2 gB 1 vH2 _ _ _ (h.outOn hg)
  · exact own_but h.first (fun g hh => blk g (by have := h.f g hh; omega) (by have := h.f g hh; omega))
  · exact ((h.rows.more hr).grown h.own hg).keep (.set o2 _)
  · exact own_keep ho (.set o2 _)
  · exact Nat.le_trans h.sz (Nat.le_trans hg.size (by simp [World.setCell]))
/-- the row under way: two events more -/
theorem RowE.two {lo : Nat} {W : World} {v v2 : Value} {k j : Nat} {c : Cd} {es : List Ev} {W2 : World} (h : RowE lo W v (2 * j) es (evD c k) (elD c k)) {a d y : Value} (hr : EReads W ((dblE (c.ev k j) j).lists a d y) (dblL (c.el k j))) (ht : TypedD W a d y)
    (ha : NewFrom lo a) (hd : NewFrom lo d) (hy : NewFrom lo y) (ho : W2.ownsRow lo 48 14 v2 (2 * j + 2) (flat es ++ (((dblE (c.ev k j) j).lists a d y).row ++ (fenE k j).row))) (hg : W.grownBy W2 v.ownBlock) :
    RowE lo W2 v2 (2 * (j + 1)) (es ++ [(dblE (c.ev k j) j).lists a d y, fenE k j]) (evD c k) (elD c k) := by
  have e1 : (es ++ [(dblE (c.ev k j) j).lists a d y, fenE k j]) = (es ++ [(dblE (c.ev k j) j).lists a d y]) ++ [(fenE k j).lists (.slice none 0 0) (.slice none 0 0) (.slice none 0 0)] := by rw [List.append_assoc]; rfl
  have c1 : Cp (evD c k) (elD c k) (es ++ [(dblE (c.ev k j) j).lists a d y]) W := by
    have := h.cp.add (a := a) (d := d) (y := y) (2 * j) h.len (by rw [evD_even, elD_even]; exact hr) ht
    rwa [evD_even] at this
  have n1 := h.new.more (e := dblE (c.ev k j) j) ha hd hy
  have nn : ∀ n, NewFrom n (.slice none 0 0) := fun n k hk => by simp [Value.ownBlock] at hk
  have tn : TypedI W (.slice none 0 0) := fun g hg => by simp [Value.ownBlock] at hg
  have c2 : Cp (evD c k) (elD c k) ((es ++ [(dblE (c.ev k j) j).lists a d y]) ++ [(fenE k j).lists (.slice none 0 0) (.slice none 0 0) (.slice none 0 0)]) W := by
    have := c1.add (a := .slice none 0 0) (d := .slice none 0 0) (y := .slice none 0 0) (2 * j + 1) (by rw [List.length_append, h.len]; rfl) (by rw [evD_odd, elD_odd]; exact ⟨ReadsI.nil _, ReadsI.nil _, ReadsI.nil _⟩) ⟨tn, tn, tn⟩
    rwa [evD_odd] at this
  rw [e1]
  refine ⟨?_, ?_, c2.grown h.own hg, n1.more (e := fenE k j) (nn _) (nn _) (nn _)⟩
  · rw [List.length_append, List.length_append, h.len]; rfl
  · rw [flat_more, flat_more, List.append_assoc]
    exact ho
theorem Sx.start {c d : Cd} {q : Cv} {w w1 : World} {vF : Value} {b : Nat} (h : Osx c q w w1) (hb : w.heap.size + 1 < b) (hF : w1.ownsRow b 59 2 vF c.fs.length (flatC c.fs)) :
    Sx c d q w1.heap.size (w1.heap.size + 1) vF (.slice none 0 0) 0 [] [] w ((w1.alloc (.cells #[.slice none 0 0, .slice none 0 0, .slice none 0 0, .slice none 0 0] 26)).setRow w1.heap.size #[vF, .slice none 0 0, .slice none 0 0, .slice none 0 0]) := by
  have h2 := h.on (box_below w1 (.cells #[.slice none 0 0, .slice none 0 0, .slice none 0 0, .slice none 0 0] 26))
  have h3 := h2.set h.res.lt #[vF, .slice none 0 0, .slice none 0 0, .slice none 0 0]
  refine ⟨h3.lk, h3.res, setRow_heap _ _ _ _ _ _ (CBox.new (.slice none 0 0) (.slice none 0 0) (.slice none 0 0) (.slice none 0 0) w1), ?_, RowsE.nil _ _ _, World.ownsRow_nil _ _ _ _, h.res.lt, Nat.lt_succ_self _, ?_, ?_⟩
  · exact own_mono (own_but (own_on hF (box_below w1 _)) (fun g hg => setRow_other _ _ _ _ (by have := (hF.lt g hg).2; omega))) (by omega)
  · exact fun g hg => by have := hF.lt g hg; omega
  · simp
/-- an event's box, behind all that there was -/
structure Eb (e : Ev) (g : Nat) (B W : World) : Prop where
  at_ : EvAt e g W
  below : Below B.heap.size B W
theorem Eb.on {e : Ev} {g : Nat} {B W W2 : World} (h : Eb e g B W) (hb : Below W.heap.size W W2) : Eb e g B W2 := ⟨h.at_.on hb, h.below.trans (hb.mono h.below.size)⟩
theorem Eb.three {e : Ev} {g : Nat} {B W : World} (h : Eb e g B W) : W.cell? ⟨g, 11, none⟩ = some e.a ∧ W.cell? ⟨g, 12, none⟩ = some e.d ∧ W.cell? ⟨g, 13, none⟩ = some e.y := by
  obtain ⟨_, _, _, _, _, _, _, _, _, _, _, _, a, b, c⟩ := h.at_.facts
  exact ⟨a, b, c⟩
theorem DepsN.on {n : Nat} {W W2 : World} {a d y : Value} {al dl yl : List Int} (h : DepsN n W a d y al dl yl) (hb : Below W.heap.size W W2) : DepsN n W2 a d y al dl yl := ⟨h.1.on hb, h.2.1.on hb, h.2.2.on hb⟩
theorem put3 {e : Ev} {g n : Nat} {W : World} {a d y : Value} {al dl yl : List Int} (h : EvAt e g W) (hg : g < n) (hd : DepsN n W a d y al dl yl) (ht : TypedD W a d y) :
    EvAt (e.lists a d y) g (((W.setCell ⟨g, 11, none⟩ a).setCell ⟨g, 12, none⟩ d).setCell ⟨g, 13, none⟩ y) ∧ DepsN n (((W.setCell ⟨g, 11, none⟩ a).setCell ⟨g, 12, none⟩ d).setCell ⟨g, 13, none⟩ y) a d y al dl yl ∧ TypedD (((W.setCell ⟨g, 11, none⟩ a).setCell ⟨g, 12, none⟩ d).setCell ⟨g, 13, none⟩ y) a d y := by
  have far : ∀ v zs, ReadsN n W v zs → TypedI W v → ReadsN n (((W.setCell ⟨g, 11, none⟩ a).setCell ⟨g, 12, none⟩ d).setCell ⟨g, 13, none⟩ y) v zs ∧ TypedI (((W.setCell ⟨g, 11, none⟩ a).setCell ⟨g, 12, none⟩ d).setCell ⟨g, 13, none⟩ y) v := fun v zs hv ht => by
    have q1 := hv.far (k := 11) a hg
    have t1 := typed_set (k := 11) (x := a) ht hv hg
    have q2 := q1.far (k := 12) d hg
    have t2 := typed_set (k := 12) (x := d) t1 q1 hg
    exact ⟨q2.far (k := 13) y hg, typed_set (k := 13) (x := y) t2 q2 hg⟩
  have s1 : EvAt (e.lists a e.d e.y) g (W.setCell ⟨g, 11, none⟩ a) := h.setc 11 a
  have s2 : EvAt (e.lists a d e.y) g ((W.setCell ⟨g, 11, none⟩ a).setCell ⟨g, 12, none⟩ d) := s1.setc 12 d
  exact ⟨s2.setc 13 y, ⟨(far _ _ hd.1 ht.1).1, (far _ _ hd.2.1 ht.2.1).1, (far _ _ hd.2.2 ht.2.2).1⟩, (far _ _ hd.1 ht.1).2, (far _ _ hd.2.1 ht.2.1).2, (far _ _ hd.2.2 ht.2.2).2⟩
/-- the event's place and pair set -/
theorem put2 {e : Ev} {g j : Nat} {W : World} (h : EvAt e g W) : EvAt (dblE e j) g ((W.setCell ⟨g, 1, none⟩ (.int .i64 (2 * (j : Int)))).setCell ⟨g, 10, none⟩ (.int .i64 (dbl e.pair))) := by
  have s1 : EvAt ⟨e.hart, 2 * (j : Int), e.kind, e.addr, e.load, e.store, e.aq, e.rl, e.pred, e.succ, e.pair, e.a, e.d, e.y⟩ g (W.setCell ⟨g, 1, none⟩ (.int .i64 (2 * (j : Int)))) := h.setc 1 _
  exact s1.setc 10 _
theorem spread_put {e : Ev} {g j : Nat} {B W : World} {a d y a0 d0 y0 : Value} {al dl yl : List Int} (h : Eb (dblE (e.lists a0 d0 y0) j) g B W) (hg : B.heap.size ≤ g) (hd : DepsN (g + 1) W a d y al dl yl) (ht : TypedD W a d y) :
    Eb ((dblE e j).lists a d y) g B (((W.setCell ⟨g, 11, none⟩ a).setCell ⟨g, 12, none⟩ d).setCell ⟨g, 13, none⟩ y) ∧ DepsN (g + 1) (((W.setCell ⟨g, 11, none⟩ a).setCell ⟨g, 12, none⟩ d).setCell ⟨g, 13, none⟩ y) a d y al dl yl ∧ TypedD (((W.setCell ⟨g, 11, none⟩ a).setCell ⟨g, 12, none⟩ d).setCell ⟨g, 13, none⟩ y) a d y := by
  obtain ⟨h1, h2, h3⟩ := put3 h.at_ (Nat.lt_succ_self g) hd ht
  exact ⟨⟨h1, ((h.below.setCell (p := ⟨g, 11, none⟩) hg _).setCell (p := ⟨g, 12, none⟩) hg _).setCell (p := ⟨g, 13, none⟩) hg _⟩, h2, h3⟩
theorem RowE.mono {lo lo2 : Nat} {W : World} {v : Value} {n : Nat} {es : List Ev} {ev : Nat → Ev} {el : Nat → El} (h : RowE lo W v n es ev el) (hl : lo2 ≤ lo) : RowE lo2 W v n es ev el := ⟨h.len, own_mono h.own hl, h.cp, h.new.mono hl⟩
/-- rows made, From under way -/
structure Sy (c : Cd) (q : Cv) (gB : Nat) (vF vH vR : Value) (rs : List Int) (w W0 W : World) : Prop where
  keep : Keep (gB + 1) W0 W
  old : ∀ j, j < gB → W.heap[j]? = W0.heap[j]?
  out : CBox vF vH vR (.slice none 0 0) gB W
  from_ : W.ownsRow W0.heap.size 3 1 vR rs.length (rs.map (Value.int .i64))
  below : Below w.heap.size w W
theorem Sy.start {c d : Cd} {q : Cv} {gB : Nat} {vF vH : Value} {k : Nat} {ess : List (List Ev)} {vals : List Value} {w W : World} (h : Sx c d q gB (gB + 1) vF vH k ess vals w W) : Sy c q gB vF vH (.slice none 0 0) [] w W W :=
  ⟨⟨Nat.le_refl _, fun _ _ _ => rfl⟩, fun _ _ => rfl, h.out, World.ownsRow_nil _ _ _ _, h.lk.below⟩
theorem Sy.lk {c d : Cd} {q : Cv} {gB : Nat} {vF vH vR : Value} {k : Nat} {ess : List (List Ev)} {vals : List Value} {rs : List Int} {w W0 W : World} (h : Sy c q gB vF vH vR rs w W0 W) (h0 : Sx c d q gB (gB + 1) vF vH k ess vals w W0) : Lk c q w W :=
  ⟨(h.old _ (by have := h0.h1; omega)).trans h0.lk.box, h.below, h0.lk.here⟩
theorem Sy.res {c d : Cd} {q : Cv} {gB : Nat} {vF vH vR : Value} {k : Nat} {ess : List (List Ev)} {vals : List Value} {rs : List Int} {w W0 W : World} (h : Sy c q gB vF vH vR rs w W0 W) (h0 : Sx c d q gB (gB + 1) vF vH k ess vals w W0) : CBox (.slice none 0 0) (.slice none 0 0) (.slice none 0 0) (.slice none 0 0) (w.heap.size + 1) W :=
  (h.old _ h0.h1).trans h0.res
theorem Sy.on {c : Cd} {q : Cv} {gB : Nat} {vF vH vR : Value} {rs : List Int} {w W0 W W2 : World} (h : Sy c q gB vF vH vR rs w W0 W) (hb : Below W.heap.size W W2) : Sy c q gB vF vH vR rs w W0 W2 :=
  ⟨h.keep.trans (.of_below hb), fun j hj => (hb.block j (Nat.lt_trans hj h.out.lt)).trans (h.old j hj), h.out.on hb, own_on h.from_ hb, h.below.trans (hb.mono h.below.size)⟩
theorem Sy.cell2 {c : Cd} {q : Cv} {gB : Nat} {vF vH vR : Value} {rs : List Int} {w W0 W : World} (h : Sy c q gB vF vH vR rs w W0 W) : W.cell? ⟨gB, 2, none⟩ = some vR := by rw [cell_of_row W gB 2 _ _ _ h.out]; rfl
theorem Sy.outOn {c : Cd} {q : Cv} {gB : Nat} {vF vH vR : Value} {rs : List Int} {w W0 W W2 : World} (h : Sy c q gB vF vH vR rs w W0 W) (h2 : gB < W0.heap.size) (hg : W.grownBy W2 vR.ownBlock) : CBox vF vH vR (.slice none 0 0) gB W2 :=
  (hg.block gB h.out.lt (fun hh => by have := (h.from_.lt gB hh.symm).1; omega)).trans h.out
theorem Sy.free {c : Cd} {q : Cv} {gB : Nat} {vF vH vR : Value} {rs : List Int} {w W0 W W2 : World} (h : Sy c q gB vF vH vR rs w W0 W) (h2 : gB < W0.heap.size) (hg : W.grownBy W2 vR.ownBlock) : W2.frozen? ⟨gB, 2, none⟩ = false := frozen_of_row W2 gB 2 _ _ (h.outOn h2 hg)
theorem Sy.there {c : Cd} {q : Cv} {gB : Nat} {vF vH vR : Value} {rs : List Int} {w W0 W W2 : World} (h : Sy c q gB vF vH vR rs w W0 W) (h2 : gB < W0.heap.size) (hg : W.grownBy W2 vR.ownBlock) : W2.cell? ⟨gB, 2, none⟩ = some vR := by rw [cell_of_row W2 gB 2 _ _ _ (h.outOn h2 hg)]; rfl
theorem Sy.step {c : Cd} {q : Cv} {gB : Nat} {vF vH vR vR2 : Value} {rs rs2 : List Int} {w W0 W W2 : World} (h : Sy c q gB vF vH vR rs w W0 W) (h1 : w.heap.size ≤ gB) (h2 : gB < W0.heap.size) (ho : W2.ownsRow W0.heap.size 3 1 vR2 rs2.length (rs2.map (Value.int .i64))) (hg : W.grownBy W2 vR.ownBlock) :
    Sy c q gB vF vH vR2 rs2 w W0 (W2.setCell ⟨gB, 2, none⟩ vR2) := by
  have hvR : ∀ g, vR.ownBlock = some g → W0.heap.size ≤ g := fun g hh => (h.from_.lt g hh).1
  have hsz : W2.heap.size = (W2.setCell ⟨gB, 2, none⟩ vR2).heap.size := by simp [World.setCell]
  refine ⟨⟨Nat.le_trans h.keep.size (Nat.le_trans hg.size (Nat.le_of_eq hsz)), fun j h3 h4 => ?_⟩, fun j hj => ?_, set_at W2 gB 2 vR2 _ _ _ (h.outOn h2 hg), own_keep ho (.set h2 _), (h.below.grown hg h.below.size (fun g hh => by have := hvR g hh; omega)).setCell h1 _⟩
  · exact (Below.heap_setCell W2 ⟨gB, 2, none⟩ vR2 j (by show j ≠ gB; omega)).trans ((hg.block j (Nat.lt_of_lt_of_le h4 h.keep.size) (fun hh => by have := hvR j hh.symm; omega)).trans (h.keep.block j h3 h4))
  · exact (Below.heap_setCell W2 ⟨gB, 2, none⟩ vR2 j (by show j ≠ gB; omega)).trans ((hg.block j (Nat.lt_trans hj h.out.lt) (fun hh => by have := hvR j hh.symm; omega)).trans (h.old j hj))
theorem reads_two {w : World} {x y : Int} : ReadsI (w.alloc (.cells #[.int .i64 x, .int .i64 y] 3)) (.slice (some ⟨w.heap.size, 0, none⟩) 2 2) [x, y] := by
  refine .inr ⟨w.heap.size, 0, 2, rfl, by simp, by omega, by simp, fun j hj => ?_⟩
  have h0 : (w.alloc (.cells #[.int .i64 x, .int .i64 y] 3)).heap[w.heap.size]? = some (.cells #[.int .i64 x, .int .i64 y] 3 (0, 0)) := Array.getElem?_push_size
  rw [cell_of_row _ w.heap.size _ _ _ _ h0]
  have hj2 : j < 2 := by simpa using hj
  rcases j with _ | _ | j
  · rfl
  · rfl
  · omega
/-- what spread answers -/
def SpreadIs (c : Cd) (w : World) (e : Ending) (w' : World) : Prop := ∃ d q', e = .returned (cdV d q') ∧ CAt d q' w' ∧ Sp c d ∧ AsEv (spreadC c) d ∧ d.fr = (spreadC c).fr ∧ d.od = (spreadC c).od ∧ Below w.heap.size w w'
theorem Sp.like {c d d2 : Cd} (h : Sp c d) (ha : AsEv d d2) : Sp c d2 := by
  have hN := ha.N
  have hd := h.N
  refine ⟨hN.trans hd, fun n hn => ?_, fun n hn => ?_, fun n hn => ?_, fun n hn => ?_, fun n hn => ?_⟩
  · obtain ⟨a, x, y, e⟩ := ha.at (2 * n) (by omega)
    rw [e]; exact h.hart n hn
  · obtain ⟨a, x, y, e⟩ := ha.at (2 * n) (by omega)
    rw [e]; exact h.mem n hn
  · obtain ⟨a, x, y, e⟩ := ha.at (2 * n + 1) (by omega)
    rw [e]; exact h.side n hn
  · obtain ⟨a, x, y, e⟩ := ha.at (2 * n + 1) (by omega)
    rw [e]; exact h.pred n hn
  · obtain ⟨a, x, y, e⟩ := ha.at (2 * n + 1) (by omega)
    rw [e]; exact h.succ n hn
theorem evD_low {c : Cd} (hl : ∀ h, h < c.nh → ∀ k, k < c.len h → 0 ≤ (c.ev h k).addr) : ∀ h, h < (spreadC c).nh → ∀ k, k < (spreadC c).len h → 0 ≤ ((spreadC c).ev h k).addr := fun h h1 k h2 => by
  have h3 : k < 2 * c.len h := h2
  show 0 ≤ (evD c h k).addr
  unfold evD
  split
  · exact hl h h1 (k / 2) (by omega)
  · exact Int.le_refl 0
theorem Sy.done {c : Cd} {q : Cv} {gB : Nat} {aF aH aR aO : Option Addr} {cF cH cR cO : Nat} {ess : List (List Ev)} {vals : List Value} {w W0 W : World} (h0 : Sx c (spreadC c) q gB (gB + 1) (.slice aF c.fs.length cF) (.slice aH c.nh cH) c.nh ess vals w W0)
    (h : Sy c q gB (.slice aF c.fs.length cF) (.slice aH c.nh cH) (.slice aR (frD c.fr).length cR) (frD c.fr) w W0 W) {B : Nat} (hB : W0.heap.size ≤ B) (hO : ReadsN B W (.slice aO c.od.length cO) (c.od.map dbl)) (x : Value) (cs : Array Value) :
    ∃ d q', Value.agg #[.slice aF c.fs.length cF, .slice aH c.nh cH, .slice aR (frD c.fr).length cR, .slice aO c.od.length cO] = cdV d q' ∧ CAt d q' ((W.setCell ⟨gB, 3, none⟩ x).setRow (w.heap.size + 1) cs) ∧ Sp c d ∧ AsEv (spreadC c) d ∧ d.fr = (spreadC c).fr ∧ d.od = (spreadC c).od ∧ Below w.heap.size w ((W.setCell ⟨gB, 3, none⟩ x).setRow (w.heap.size + 1) cs) := by
  have o1 := h0.h1
  have o3 := h0.sz
  have ob : ∀ j, j ≠ gB → j ≠ w.heap.size + 1 → ((W.setCell ⟨gB, 3, none⟩ x).setRow (w.heap.size + 1) cs).heap[j]? = W.heap[j]? := fun j h1 h2 => (setRow_other _ _ _ _ h2).trans (Below.heap_setCell W ⟨gB, 3, none⟩ x j h1)
  have hsz : W.heap.size ≤ ((W.setCell ⟨gB, 3, none⟩ x).setRow (w.heap.size + 1) cs).heap.size := by simp [World.setCell]
  have hk : ∀ lo, gB < lo → Keep lo W ((W.setCell ⟨gB, 3, none⟩ x).setRow (w.heap.size + 1) cs) := fun lo hl => ⟨hsz, fun j h1 _ => ob j (by omega) (by omega)⟩
  have rows := (h0.rows.keep h.keep).keep (hk _ (Nat.lt_succ_self _))
  have own := own_keep (own_keep h0.own h.keep) (hk _ (Nat.lt_succ_self _))
  have first := own_but h0.first (W2 := ((W.setCell ⟨gB, 3, none⟩ x).setRow (w.heap.size + 1) cs)) (fun g hg => by
    have := h0.f g hg
    exact (ob g this.2.1 (by omega)).trans (h.old g (by omega)))
  have fr := readsI_of_own (own_keep h.from_ (hk W0.heap.size (by omega)))
  have od := readsI_keep hO.1 hO.2 (hk B (by omega))
  have hl := evD_low (fun j hj k hk => low_addr h0.lk.at_ j hj k hk)
  have eo : c.od.length = (c.od.map dbl).length := (List.length_map _).symm
  have hae : AsEv (spreadC c) ((spreadC c).copy ess (frD c.fr) (c.od.map dbl)) := copy_as rows (frD c.fr) (c.od.map dbl)
  refine ⟨(spreadC c).copy ess (frD c.fr) (c.od.map dbl), ⟨aF, cF, aH, cH, aR, cR, aO, cO⟩, ?_, ?_, (spread_sp c).like hae, hae, rfl, rfl, ?_⟩
  · show _ = Value.agg #[.slice aF c.fs.length cF, .slice aH c.nh cH, .slice aR (frD c.fr).length cR, .slice aO (c.od.map dbl).length cO]
    rw [← eo]
  · exact copy_cat (c := spreadC c) rows hl first own fr (by rw [← eo]; exact od)
  · exact (h.below.setCell (p := ⟨gB, 3, none⟩) (by show w.heap.size ≤ gB; omega) _).trans ⟨rfl, rfl, rfl, by simp, fun j hj => setRow_other _ _ _ _ (by omega)⟩
end Go.Proofs.YtgkiaeddlahngaaGreatDoor
namespace Go.Proofs.YtgkiaeddlahngaaGreatDoor
set_option linter.unusedVariables false
set_option linter.unusedSimpArgs false
open Go.RowKit
attribute [local go_sem ↓] fold_E fold_SE fold_SC

set_option maxRecDepth 100000 in
set_option maxHeartbeats 8000000 in
theorem spread_any (c : Cd) (q : Cv) (w : World) (hL : Lt c) (hn : c.N ≤ 30) (hr : c.fr.length ≤ 60) (h : CAt c q w) : Calls Tryz.prog 24 #[cdV c q] w fun e w' => SpreadIs c w e w' := by
  have S0 := Lib.hid (Osx.start h)
  have hfs : c.fs.length ≤ 1000 := by have := hL.fs; omega
  have hfr : c.fr.length ≤ 100000 := by have := hL.fr; omega
  have hod : c.od.length ≤ 100000 := by have := hL.od; omega
  have hnh := hL.nh
  have HSM := Lib.hid hL.small
  have HB := Lib.hid (fun k hk => baseL_lt c.len k c.nh hk)
  clear h hL
  go_enter Tryz.func24, Tryz.ntmps24
  go_upto_region 1 with fail
  go_name_world W1 hW
  rw [hW] at S0
  clear hW
  obtain ⟨x0, x1, x2, x3⟩ := S0.out.lk.box.facts
  have hz1 := S0.out.res.lt
  go_upto_region 2 with (go_at_call 32; (with_reducible refine (ownC_any (.slice q.aF c.fs.length q.cF) c.fs _ S0.out.lk.at_.first hfs).mono ?_); rintro e' w1 ⟨v1, rfl, h1, hb⟩; obtain ⟨aF, cF, rfl⟩ := own_form h1; have S1 := Lib.hid (S0.out.on hb); have C1 : Hid (CBox (.slice none 0 0) (.slice none 0 0) (.slice none 0 0) (.slice none 0 0) w1.heap.size (w1.alloc (.cells #[.slice none 0 0, .slice none 0 0, .slice none 0 0, .slice none 0 0] 26))) := Lib.hid (CBox.new _ _ _ _ _); have run1 := run_StoreC (y0 := .slice aF c.fs.length cF) (y1 := .slice none 0 0) (y2 := .slice none 0 0) (y3 := .slice none 0 0) C1.out rfl rfl rfl rfl; have O1 := Lib.hid (Sx.start (d := spreadC c) S1.out hz1 h1); clear h1 hb)
  clear S0 S1 C1 x0 x1 x2 x3 run1 hz1
  go_name_world W2 hW2
  rw [hW2] at O1
  clear hW2
  obtain ⟨gB, hgB⟩ : ∃ g, w1.heap.size = g := ⟨_, rfl⟩
  rw [hgB] at O1 ⊢
  clear hgB
  go_wp2
  go_loopw [4] (fun vi wr => ∃ (k : Nat) (ess : List (List Ev)) (vals : List Value) (vH : Value), k ≤ c.nh ∧ vi = .int .i64 k ∧ Hid (Sx c (spreadC c) q gB (gB + 1) (.slice aF c.fs.length cF) vH k ess vals w wr)) (fun vi _ => c.nh - (intOf vi).toNat)
  case atStart => exact ⟨0, _, _, _, Nat.zero_le _, rfl, O1⟩
  case round =>
    clear O1
    obtain ⟨k, ess, vals, vH, hk, rfl, hO⟩ := hrel
    obtain ⟨u0, u1, u2, u3⟩ := hO.out.lk.box.facts
    by_cases hlt : k < c.nh
    · obtain ⟨b, off, a2, c2, hq, hc, _, hrow⟩ := hO.out.lk.at_.harts.row k hlt
      have hki : (k : Int) < (c.nh : Int) := by omega
      have hk0 : (0 : Int) ≤ (k : Int) := by omega
      rw [hq] at u1
      have HROW := Lib.hid hrow
      have HQ := Lib.hid hq
      have hlen : Hid (c.len k ≤ 30) := Lib.hid (by have := HB.out k hlt; unfold Cd.N at hn; omega)
      clear hrow hq
      go_wp2
      go_loopw [5, 6] (fun vo vi wi => ∃ (j : Nat) (es : List Ev) (v : Value), v = vo ∧ j ≤ c.len k ∧ vi = .int .i64 j ∧ Hid (RowE wr.heap.size wi v (2 * j) es (evD c k) (elD c k)) ∧ Hid (Below wr.heap.size wr wi)) (fun _ vi _ => c.len k - (intOf vi).toNat)
      case atStart => exact ⟨0, [], _, rfl, Nat.zero_le _, rfl, Lib.hid ⟨rfl, World.ownsRow_nil _ _ _ _, Cp.nil _ _ _, NewEs.nil _⟩, Lib.hid (Below.refl _ _)⟩
      case round =>
        obtain ⟨j, es, v, rfl, hj, rfl, hR, hB⟩ := hrel
        clear u0 u1 u2 u3 hc
        have O2 := Lib.hid (hO.out.on hB.out)
        obtain ⟨u0, u1, u2, u3⟩ := O2.out.lk.box.facts
        obtain ⟨b', off', a3, c3, hq, hc, _, hrow⟩ := O2.out.lk.at_.harts.row k hlt
        rw [hq] at u1
        clear hq
        by_cases hjl : j < c.len k
        · obtain ⟨a4, c4, e4, hc4, h0 | ⟨b5, off5, rfl, hrw⟩⟩ := hrow
          · exact absurd hjl (by omega)
          injection e4 with e4 e5 e6
          subst e4 e6
          clear e5
          have hji : (j : Int) < (c.len k : Int) := by omega
          have hj0 : (0 : Int) ≤ (j : Int) := by omega
          have cl := (hrw.at_ j hjl).load
          have KO := Lib.hid (ownEvent_any (c.ev k j) (c.el k j) wr (hrw.reads j hjl) ((HSM.out k hlt).2 j hjl).n)
          have HLW := Lib.hid (hrw.low j hjl)
          clear hrw
          have hj30 : j ≤ 30 := by have := hlen.out; omega
          go_upto_region 10 with (first
            | (go_at_call 48; (with_reducible refine (KO.out).mono ?_); rintro e' w3 ⟨va, vd, vy, rfl, hd, ht, hb⟩; obtain ⟨a5, c5, rfl⟩ := hd.1.1.len; obtain ⟨a6, c6, rfl⟩ := hd.2.1.1.len; obtain ⟨a7, c7, rfl⟩ := hd.2.2.1.len; have D3 := Lib.hid hd; have T3 := Lib.hid ht; have B3 := Lib.hid hb; have E3 : Hid (EvAt zeroEv w3.heap.size (w3.alloc (.cells #[.int .i64 0, .int .i64 0, .int .i64 0, .int .u64 0, .int .u64 0, .int .u64 0, .bool false, .bool false, .int .i64 0, .int .i64 0, .int .i64 0, .slice none 0 0, .slice none 0 0, .slice none 0 0] 48))) := Lib.hid (EvAt.new zeroEv w3); clear hd ht hb)
            | (refine store_ev E3.out ((c.ev k j).lists (.slice a5 (c.el k j).a.length c5) (.slice a6 (c.el k j).d.length c6) (.slice a7 (c.el k j).y.length c7)) ⟨rfl, rfl, rfl⟩ rfl (.tmp 7) (.tmp 39) rfl rfl rfl ?_; intro w4 hE4 ho4 hb4 hz4; have B34 := Lib.hid ((box_below w3 _).trans hb4); have P4 : Hid (Eb ((c.ev k j).lists (.slice a5 (c.el k j).a.length c5) (.slice a6 (c.el k j).d.length c6) (.slice a7 (c.el k j).y.length c7)) w3.heap.size wr w4) := Lib.hid ⟨hE4, B3.out.trans (B34.out.mono B3.out.size)⟩; clear hE4 ho4 hb4 hz4))
          have HGE : Hid (wr.heap.size ≤ w3.heap.size) := Lib.hid B3.out.size
          obtain ⟨gE, hgE⟩ : ∃ g, w3.heap.size = g := ⟨_, rfl⟩
          have HGW := Lib.hid hgE
          rw [hgE] at P4 HGE B34 ⊢
          clear T3 B3 E3 hgE cl KO u0 u1 u2 u3 hc
          obtain ⟨_, y0, y1, y2, y3, y4, y5, y6, y7, y8, y9, y10, y11, y12, y13⟩ := P4.out.at_.facts
          have z1 := P4.out.at_.free 1
          have z10 := P4.out.at_.free 10
          have hd1 : wrap64 (2 * (c.ev k j).pair) = dbl (c.ev k j).pair := rfl
          have P6 : Hid (EvAt (dblE ((c.ev k j).lists (.slice a5 (c.el k j).a.length c5) (.slice a6 (c.el k j).d.length c6) (.slice a7 (c.el k j).y.length c7)) j) gE ((w4.setCell ⟨gE, 1, none⟩ (.int .i64 (2 * (j : Int)))).setCell ⟨gE, 10, none⟩ (.int .i64 (dbl (c.ev k j).pair)))) := Lib.hid (put2 P4.out.at_)
          go_upto_region 11 with fail
          have BY : Hid (Below wr.heap.size wr ((w4.setCell ⟨gE, 1, none⟩ (.int .i64 (2 * (j : Int)))).setCell ⟨gE, 10, none⟩ (.int .i64 (dbl (c.ev k j).pair)))) := Lib.hid ((P4.out.below.setCell (p := ⟨gE, 1, none⟩) HGE.out _).setCell (p := ⟨gE, 10, none⟩) HGE.out _)
          have B5 : Hid (Below gE w3 ((w4.setCell ⟨gE, 1, none⟩ (.int .i64 (2 * (j : Int)))).setCell ⟨gE, 10, none⟩ (.int .i64 (dbl (c.ev k j).pair)))) := Lib.hid ((B34.out.setCell (p := ⟨gE, 1, none⟩) (Nat.le_refl _) _).setCell (p := ⟨gE, 10, none⟩) (Nat.le_refl _) _)
          have BW := Lib.hid (D3.out.on (by rw [HGW.out]; exact B5.out))
          go_name_world Y hY
          rw [hY] at P6 BY BW
          clear hY P4 D3 B34 B5 HGW y0 y1 y2 y3 y4 y5 y6 y7 y8 y9 y10 y11 y12 y13 z1 z10 hd1
          have G0 : Hid (Eb (dblE ((c.ev k j).lists (.slice a5 (c.el k j).a.length c5) (.slice a6 (c.el k j).d.length c6) (.slice a7 (c.el k j).y.length c7)) j) gE wr Y.drew) := Lib.hid (Eb.on ⟨P6.out, BY.out⟩ (Below.refl _ _).drew)
          have R0 := Lib.hid (BW.out.on (Below.refl Y.heap.size Y).drew)
          have HSJ := Lib.hid ((HSM.out k hlt).2 j hjl).n
          have HSA : Hid ((c.el k j).a.length ≤ 100000) := Lib.hid HSJ.out.1
          have HSD : Hid ((c.el k j).d.length ≤ 100000) := Lib.hid HSJ.out.2.1
          have HSY : Hid ((c.el k j).y.length ≤ 100000) := Lib.hid HSJ.out.2.2
          have RA0 : Hid (ReadsI Y.drew (.slice a5 (c.el k j).a.length c5) (c.el k j).a) := Lib.hid R0.out.1.1
          have RD0 : Hid (ReadsI Y.drew (.slice a6 (c.el k j).d.length c6) (c.el k j).d) := Lib.hid R0.out.2.1.1
          have RY0 : Hid (ReadsI Y.drew (.slice a7 (c.el k j).y.length c7) (c.el k j).y) := Lib.hid R0.out.2.2.1
          have hz0 : gE < Y.drew.heap.size := G0.out.at_.lt
          clear BW BY P6
          go_cut [5, 7] (fun t5 t7 wx => t5 = v ∧ t7 = .pointer (some ⟨gE, 0, none⟩) ∧ ∃ va vd vy, Hid (Eb ((dblE (c.ev k j) j).lists va vd vy) gE wr wx ∧ DepsN (gE + 1) wx va vd vy ((c.el k j).a.map dbl) ((c.el k j).d.map dbl) ((c.el k j).y.map dbl) ∧ TypedD wx va vd vy))
          case first =>
            have KT : Hid (∀ W, Eb (dblE ((c.ev k j).lists (.slice a5 (c.el k j).a.length c5) (.slice a6 (c.el k j).d.length c6) (.slice a7 (c.el k j).y.length c7)) j) gE wr W → W.cell? ⟨gE, 11, none⟩ = some (.slice a5 (c.el k j).a.length c5) ∧ W.cell? ⟨gE, 12, none⟩ = some (.slice a6 (c.el k j).d.length c6) ∧ W.cell? ⟨gE, 13, none⟩ = some (.slice a7 (c.el k j).y.length c7)) := Lib.hid (fun W hW => hW.three)
            obtain ⟨p0, p1, p2⟩ := KT.out _ G0.out
            go_region_law (first
                | (go_simp; go_at_call 49; (with_reducible refine (twice_is (.slice a5 (c.el k j).a.length c5) (c.el k j).a _ RA0.out HSA.out).mono ?_); rintro e' w5 ⟨a8, c8, rfl, h5, t5, hb⟩; have G1 := Lib.hid (G0.out.on hb); have RD1 := Lib.hid (RD0.out.below hb); have RY1 := Lib.hid (RY0.out.below hb); have V5 := Lib.hid (show ReadsN (gE + 1) w5 _ _ from h5.mono hz0); have T5 := Lib.hid t5; have hz1 : gE < w5.heap.size := G1.out.at_.lt; obtain ⟨q0, q1, q2⟩ := KT.out _ G1.out; clear h5 t5 hb)
                | (go_simp; go_at_call 49; (with_reducible refine (twice_is (.slice a6 (c.el k j).d.length c6) (c.el k j).d _ RD1.out HSD.out).mono ?_); rintro e' w6 ⟨a9, c9, rfl, h6, t6, hb⟩; have G2 := Lib.hid (G1.out.on hb); have RY2 := Lib.hid (RY1.out.below hb); have V6 := Lib.hid (show ReadsN (gE + 1) w6 _ _ from h6.mono hz1); have T6 := Lib.hid t6; have V56 := Lib.hid (V5.out.on hb); have T56 := Lib.hid (T5.out.on hb); have hz2 : gE < w6.heap.size := G2.out.at_.lt; obtain ⟨r0, r1, r2⟩ := KT.out _ G2.out; clear h6 t6 hb)
                | (go_simp; go_at_call 49; (with_reducible refine (twice_is (.slice a7 (c.el k j).y.length c7) (c.el k j).y _ RY2.out HSY.out).mono ?_); rintro e' w7 ⟨a10, c10, rfl, h7, t7, hb⟩; have G3 := Lib.hid (G2.out.on hb); have V7 := Lib.hid (show DepsN (gE + 1) w7 _ _ _ ((c.el k j).a.map dbl) ((c.el k j).d.map dbl) ((c.el k j).y.map dbl) from ⟨V56.out.on hb, V6.out.on hb, h7.mono hz2⟩); have T7 := Lib.hid (show TypedD w7 _ _ _ from ⟨T56.out.on hb, T6.out.on hb, t7⟩); have f11 := G3.out.at_.free 11; have f12 := G3.out.at_.free 12; have f13 := G3.out.at_.free 13; obtain ⟨r3, r4, r5⟩ := KT.out _ G3.out; clear h7 t7 hb))
            all_goals
              go_wp2_with fail
              go_meet
              exact ⟨rfl, rfl, _, _, _, Lib.hid (spread_put G3.out HGE.out V7.out T7.out)⟩
          case rest =>
            obtain ⟨rfl, rfl, va, vd, vy, HZ⟩ := hcut
            have hva := HZ.out.2.1.1.1.len
            obtain ⟨a8, c8, rfl⟩ := HZ.out.2.1.1.1.len
            obtain ⟨a9, c9, rfl⟩ := HZ.out.2.1.2.1.1.len
            obtain ⟨a10, c10, rfl⟩ := HZ.out.2.1.2.2.1.len
            rw [List.length_map, List.length_map, List.length_map] at HZ
            clear hva
            have cl := run_LoadE HZ.out.1.at_
            have hw1 : wrap64 (2 * (j : Int) + 1) = 2 * (j : Int) + 1 := IntWalk.wrap64_in _ (by omega)
            have T9 : Hid (Two ((dblE (c.ev k j) j).lists (.slice a8 (c.el k j).a.length c8) (.slice a9 (c.el k j).d.length c9) (.slice a10 (c.el k j).y.length c10)) (fenE k j) wc.heap.size (wc.alloc (.cells #[.int .i64 (dblE (c.ev k j) j).hart, .int .i64 (dblE (c.ev k j) j).pos, .int .i64 (dblE (c.ev k j) j).kind, .int .u64 (dblE (c.ev k j) j).addr, .int .u64 (dblE (c.ev k j) j).load, .int .u64 (dblE (c.ev k j) j).store, .bool (dblE (c.ev k j) j).aq, .bool (dblE (c.ev k j) j).rl, .int .i64 (dblE (c.ev k j) j).pred, .int .i64 (dblE (c.ev k j) j).succ, .int .i64 (dblE (c.ev k j) j).pair, .slice a8 (c.el k j).a.length c8, .slice a9 (c.el k j).d.length c9, .slice a10 (c.el k j).y.length c10, .int .i64 (k : Int), .int .i64 (2 * (j : Int) + 1), .int .i64 6, .int .u64 0, .int .u64 0, .int .u64 0, .bool false, .bool false, .int .i64 3, .int .i64 3, .int .i64 0, .slice none 0 0, .slice none 0 0, .slice none 0 0] 48))) := Lib.hid Array.getElem?_push_size
            have BA : Hid (Below wr.heap.size wr (wc.alloc (.cells #[.int .i64 (dblE (c.ev k j) j).hart, .int .i64 (dblE (c.ev k j) j).pos, .int .i64 (dblE (c.ev k j) j).kind, .int .u64 (dblE (c.ev k j) j).addr, .int .u64 (dblE (c.ev k j) j).load, .int .u64 (dblE (c.ev k j) j).store, .bool (dblE (c.ev k j) j).aq, .bool (dblE (c.ev k j) j).rl, .int .i64 (dblE (c.ev k j) j).pred, .int .i64 (dblE (c.ev k j) j).succ, .int .i64 (dblE (c.ev k j) j).pair, .slice a8 (c.el k j).a.length c8, .slice a9 (c.el k j).d.length c9, .slice a10 (c.el k j).y.length c10, .int .i64 (k : Int), .int .i64 (2 * (j : Int) + 1), .int .i64 6, .int .u64 0, .int .u64 0, .int .u64 0, .bool false, .bool false, .int .i64 3, .int .i64 3, .int .i64 0, .slice none 0 0, .slice none 0 0, .slice none 0 0] 48))) := Lib.hid (HZ.out.1.below.alloc HZ.out.1.below.size _)
            have BX : Hid (Below wc.heap.size wc (wc.alloc (.cells #[.int .i64 (dblE (c.ev k j) j).hart, .int .i64 (dblE (c.ev k j) j).pos, .int .i64 (dblE (c.ev k j) j).kind, .int .u64 (dblE (c.ev k j) j).addr, .int .u64 (dblE (c.ev k j) j).load, .int .u64 (dblE (c.ev k j) j).store, .bool (dblE (c.ev k j) j).aq, .bool (dblE (c.ev k j) j).rl, .int .i64 (dblE (c.ev k j) j).pred, .int .i64 (dblE (c.ev k j) j).succ, .int .i64 (dblE (c.ev k j) j).pair, .slice a8 (c.el k j).a.length c8, .slice a9 (c.el k j).d.length c9, .slice a10 (c.el k j).y.length c10, .int .i64 (k : Int), .int .i64 (2 * (j : Int) + 1), .int .i64 6, .int .u64 0, .int .u64 0, .int .u64 0, .bool false, .bool false, .int .i64 3, .int .i64 3, .int .i64 0, .slice none 0 0, .slice none 0 0, .slice none 0 0] 48))) := Lib.hid (box_below _ _)
            have R9 := Lib.hid (hR.out.keep (.of_below BA.out))
            have O9 := Lib.hid R9.out.own
            have D9 := Lib.hid (HZ.out.2.1.on BX.out)
            have Y9 := Lib.hid (HZ.out.2.2.on BX.out)
            have hj2 : 2 * j ≤ 1000 := by omega
            have hbs := Lib.hid (Nat.le_trans hB.out.size BA.out.size)
            go_wp2_with (refine append_two rfl (.tmp 61) (.tmp 68) rfl _ _ (2 * j) (flat es) rfl O9.out ((dblE (c.ev k j) j).lists (.slice a8 (c.el k j).a.length c8) (.slice a9 (c.el k j).d.length c9) (.slice a10 (c.el k j).y.length c10)) (fenE k j) ⟨rfl, rfl, rfl⟩ ⟨rfl, rfl, rfl⟩ wc.heap.size rfl T9.out hj2 hbs.out ?_; intro v9 w9 ho9 hg9; have HO9 := Lib.hid ho9; have HG9 := Lib.hid hg9; clear ho9 hg9)
            have HLO := Lib.hid (Nat.le_trans hB.out.size (Nat.le_trans HGE.out (Nat.le_succ gE)))
            have BZ := Lib.hid (hB.out.trans (BA.out.mono hB.out.size))
            have B10 := Lib.hid (BZ.out.grown HG9.out BZ.out.size (fun g hg => (O9.out.lt g hg).1))
            have R10 := Lib.hid (RowE.two R9.out (show EReads _ _ (dblL (c.el k j)) from ⟨D9.out.1.1, D9.out.2.1.1, D9.out.2.2.1⟩) Y9.out (D9.out.1.2.mono HLO.out) (D9.out.2.1.2.mono HLO.out) (D9.out.2.2.2.mono HLO.out) HO9.out HG9.out)
            go_roundw
            case rel => exact ⟨j + 1, _, _, rfl, by omega, by go_num, R10, B10⟩
            case measure => simp [intOf]; omega
        · obtain rfl : j = c.len k := by omega
          obtain ⟨a5, c5, rfl⟩ := own_form hR.out.own
          obtain ⟨aH, cH, rfl⟩ := own_form O2.out.own
          have hk1 : k ≤ 1000 := by omega
          have O3 := Lib.hid (O2.out.on (box_below wr (.cells #[.slice a5 (2 * c.len k) c5] 41)))
          have RW3 : Hid (RowE (gB + 1) (wr.alloc (.cells #[.slice a5 (2 * c.len k) c5] 41)) (.slice a5 (2 * c.len k) c5) ((spreadC c).len k) es ((spreadC c).ev k) ((spreadC c).el k)) := Lib.hid ((hR.out.mono hO.out.sz).keep (.of_below (box_below wr _)))
          have B3 : Hid ((wr.alloc (.cells #[.slice a5 (2 * c.len k) c5] 41)).heap[wr.heap.size]? = some (.cells #[.slice a5 (2 * c.len k) c5] 41 (0, 0))) := Lib.hid Array.getElem?_push_size
          have y2 := O2.out.cell1
          go_wp2_with (refine append_row rfl (.tmp 71) (.tmp 73) rfl (gB + 1) (.slice aH k cH) k vals rfl O3.out.own (.slice a5 (2 * c.len k) c5) rfl wr.heap.size rfl B3.out hk1 O3.out.sz ?_; intro v5 w5 ho5 hg5; obtain ⟨a6, c6, rfl⟩ := own_form ho5; have O5 := Lib.hid (O3.out.step RW3.out ho5 hg5); have f5 : w5.frozen? ⟨gB, 1, none⟩ = false := O3.out.free hg5; have e5 := O3.out.there hg5; clear ho5 hg5)
          go_roundw
          case rel => exact ⟨k + 1, _, _, _, by omega, by go_num, O5⟩
          case measure => simp [intOf]; omega
    · obtain rfl : k = c.nh := by omega
      obtain ⟨aH, cH, rfl⟩ := own_form hO.out.own
      have H0 := Lib.hid hO.out
      have Y0 := Lib.hid (Sy.start hO.out)
      have hg1 : Hid (w.heap.size ≤ gB) := Lib.hid (by have := hO.out.h1; omega)
      have hg2 : Hid (gB < wr.heap.size) := Lib.hid hO.out.out.lt
      clear hO
      go_wp2
      go_loopw [8] (fun vi wi => ∃ (n : Nat) (vR : Value), n ≤ c.fr.length ∧ vi = .int .i64 n ∧ Hid (Sy c q gB (.slice aF c.fs.length cF) (.slice aH c.nh cH) vR (frD (c.fr.take n)) w wr wi)) (fun vi _ => c.fr.length - (intOf vi).toNat)
      case atStart => exact ⟨0, _, Nat.zero_le _, rfl, Y0⟩
      case round =>
        clear Y0
        obtain ⟨n, vR, hn', rfl, hY⟩ := hrel
        clear u0 u1 u2 u3
        have L2 := Lib.hid (hY.out.lk H0.out)
        obtain ⟨u0, u1, u2, u3⟩ := L2.out.box.facts
        obtain ⟨aR, cR, rfl⟩ := own_form hY.out.from_
        have hfl := frD_len (c.fr.take n)
        rw [List.length_take, Nat.min_eq_left hn'] at hfl
        by_cases hnl : n < c.fr.length
        · obtain ⟨b, off, hq, hc⟩ := reads_cell L2.out.at_.from_ hnl
          rw [hq] at u2
          clear hq
          have hni : (n : Int) < (c.fr.length : Int) := by omega
          have hn0 : (0 : Int) ≤ (n : Int) := by omega
          obtain ⟨x, hx⟩ : ∃ x, Hid (atI c.fr n = x) := ⟨_, Lib.hid rfl⟩
          rw [hx.out] at hc
          have HN := Lib.hid (frD_next c.fr n hnl)
          rw [hx.out] at HN
          have y2 := hY.out.cell2
          by_cases h0 : 0 ≤ x
          · have d0 : decide (0 ≤ x) = true := by simpa using h0
            have hw : wrap64 (2 * x) = dblF x := by unfold dblF; rw [if_pos h0]; rfl
            clear h0
            have Y1 := Lib.hid (hY.out.on (box_below wr (.cells #[.int .i64 (dblF x), .int .i64 (-1)] 3)))
            have R1 : Hid (ReadsI (wr.alloc (.cells #[.int .i64 (dblF x), .int .i64 (-1)] 3)) (.slice (some ⟨wr.heap.size, 0, none⟩) 2 2) [(dblF x), -1]) := Lib.hid reads_two
            have O1 := Lib.hid Y1.out.from_
            have hl2 : Hid ((frD (c.fr.take n)).length + [(dblF x), -1].length ≤ 1000000) := Lib.hid (by rw [hfl]; simp; omega)
            have hbs := Lib.hid Y1.out.keep.size
            have hL : Hid ((frD (c.fr.take n) ++ [(dblF x), -1]).length = 2 * n + 2) := Lib.hid (by rw [List.length_append, hfl]; rfl)
            clear hfl
            go_wp2_with (refine append_reads rfl (.tmp 93) (.tmp 95) rfl _ _ (frD (c.fr.take n)) [(dblF x), -1] rfl O1.out _ rfl R1.out hl2.out hbs.out ?_; intro v5 w5 ho5 hg5; rw [hL.out] at ho5; obtain ⟨a6, c6, rfl⟩ := own_form ho5; have Y5 := Lib.hid (Y1.out.step (rs2 := frD (c.fr.take n) ++ [(dblF x), -1]) hg1.out hg2.out (by rw [hL.out]; exact ho5) hg5); have f5 : w5.frozen? ⟨gB, 2, none⟩ = false := Y1.out.free hg2.out hg5; have e5 := Y1.out.there hg2.out hg5; clear ho5 hg5)
            go_roundw
            case rel => exact ⟨n + 1, _, by omega, by go_num, Lib.hid (by rw [HN.out]; exact Y5.out)⟩
            case measure => simp [intOf]; omega
          · have d0 : decide (0 ≤ x) = false := by simpa using h0
            have hw : Hid (dblF x = x) := Lib.hid (by unfold dblF; rw [if_neg h0])
            clear h0
            have Y1 := Lib.hid (hY.out.on (box_below wr (.cells #[.int .i64 x, .int .i64 (-1)] 3)))
            have R1 : Hid (ReadsI (wr.alloc (.cells #[.int .i64 x, .int .i64 (-1)] 3)) (.slice (some ⟨wr.heap.size, 0, none⟩) 2 2) [x, -1]) := Lib.hid reads_two
            have O1 := Lib.hid Y1.out.from_
            have hl2 : Hid ((frD (c.fr.take n)).length + [x, -1].length ≤ 1000000) := Lib.hid (by rw [hfl]; simp; omega)
            have hbs := Lib.hid Y1.out.keep.size
            have hL : Hid ((frD (c.fr.take n) ++ [x, -1]).length = 2 * n + 2) := Lib.hid (by rw [List.length_append, hfl]; rfl)
            clear hfl
            go_wp2_with (refine append_reads rfl (.tmp 93) (.tmp 95) rfl _ _ (frD (c.fr.take n)) [x, -1] rfl O1.out _ rfl R1.out hl2.out hbs.out ?_; intro v5 w5 ho5 hg5; rw [hL.out] at ho5; obtain ⟨a6, c6, rfl⟩ := own_form ho5; have Y5 := Lib.hid (Y1.out.step (rs2 := frD (c.fr.take n) ++ [x, -1]) hg1.out hg2.out (by rw [hL.out]; exact ho5) hg5); have f5 : w5.frozen? ⟨gB, 2, none⟩ = false := Y1.out.free hg2.out hg5; have e5 := Y1.out.there hg2.out hg5; clear ho5 hg5)
            go_roundw
            case rel => exact ⟨n + 1, _, by omega, by go_num, Lib.hid (by rw [HN.out, hw.out]; exact Y5.out)⟩
            case measure => simp [intOf]; omega
        · obtain rfl : n = c.fr.length := by omega
          rw [List.take_length] at hY hfl
          clear hfl
          have HOD := Lib.hid L2.out.at_.order
          have hbs := Lib.hid hY.out.keep.size
          go_wp2_with (go_at_call 49; (with_reducible refine (twice_is (.slice q.aO c.od.length q.cO) c.od _ HOD.out hod).mono ?_); rintro e' w5 ⟨a6, c6, rfl, h6, t6, hb⟩; have Y5 := Lib.hid (hY.out.on hb); have V6 := Lib.hid h6; obtain ⟨y0, y1, y2, y3⟩ := CBox.facts Y5.out.out; have f5 : w5.frozen? ⟨gB, 3, none⟩ = false := frozen_of_row w5 gB 3 _ _ Y5.out.out; have RES : Hid (CBox (.slice none 0 0) (.slice none 0 0) (.slice none 0 0) (.slice none 0 0) (w.heap.size + 1) (w5.setCell ⟨gB, 3, none⟩ (.slice a6 c.od.length c6))) := Lib.hid ((Below.heap_setCell w5 ⟨gB, 3, none⟩ (.slice a6 c.od.length c6) (w.heap.size + 1) (by show w.heap.size + 1 ≠ gB; have := H0.out.h1; omega)).trans (Y5.out.res H0.out)); have run1 := run_StoreC (y0 := .slice aF c.fs.length cF) (y1 := .slice aH c.nh cH) (y2 := .slice aR (frD c.fr).length cR) (y3 := (.slice a6 c.od.length c6)) RES.out rfl rfl rfl rfl; clear h6 t6 hb u0 u1 u2 u3)
          have HR2 : Hid (CBox (.slice aF c.fs.length cF) (.slice aH c.nh cH) (.slice aR (frD c.fr).length cR) (.slice a6 c.od.length c6) (w.heap.size + 1) ((w5.setCell ⟨gB, 3, none⟩ (.slice a6 c.od.length c6)).setRow (w.heap.size + 1) #[.slice aF c.fs.length cF, .slice aH c.nh cH, .slice aR (frD c.fr).length cR, .slice a6 c.od.length c6])) := Lib.hid (setRow_heap _ _ _ _ _ _ RES.out)
          refine bodyPost_ret (cand_end rfl rfl HR2.out) rfl ?_
          obtain ⟨d, q', he, hc, h1, h2, h3, h4, h5⟩ := Sy.done H0.out Y5.out hbs.out V6.out (.slice a6 c.od.length c6) #[.slice aF c.fs.length cF, .slice aH c.nh cH, .slice aR (frD c.fr).length cR, .slice a6 c.od.length c6]
          exact ⟨d, q', congrArg Ending.returned he, hc, h1, h2, h3, h4, h5⟩
end Go.Proofs.YtgkiaeddlahngaaGreatDoor
