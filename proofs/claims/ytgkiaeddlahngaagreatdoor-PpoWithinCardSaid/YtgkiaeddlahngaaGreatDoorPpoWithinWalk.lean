/-
  Proved here: the law PpoWithin answers true of every candidate; nothing that was there is changed. Condition: numbers of 64 bits; the table of zero bits as the library lays it.
  (With it: Proved here: maps of bools by pairs of ints: what they hold. Condition: numbers of 64 bits.)
  (With it: Proved here: the kit's LightCand with at most 14 events; nothing that was there is changed. Condition: none but that a candidate lies there.)
-/
import Derived.Test.YtgkiaeddlahngaaGreatDoorCdNumber
import Derived.Test.YtgkiaeddlahngaaGreatDoorPpPairs
import Derived.WideKeyPair
import Derived.Maps.OwnOps
import Derived.Maps.OwnSet
import Derived.Test.YtgkiaeddlahngaaGreatDoorRf09All
import Derived.Test.YtgkiaeddlahngaaGreatDoorPpLives
import Derived.Test.YtgkiaeddlahngaaGreatDoorPpView
import Derived.Test.YtgkiaeddlahngaaGreatDoorPpOwn
import Derived.Test.YtgkiaeddlahngaaGreatDoorPpWhole
namespace Go.Proofs.YtgkiaeddlahngaaGreatDoor
set_option linter.unusedVariables false
set_option linter.unusedSimpArgs false
open Go.RowKit
attribute [local go_sem ↓] fold_E fold_SE

theorem light_none14 (a : Option Addr) (c : Nat) (el : Nat → El) (w : World) : Calls Tryz.prog 27 #[.slice a 0 c, .int .i64 14] w fun e w' => LightIs w 0 el e w' := by
  go_enter Tryz.func27, Tryz.ntmps27
  go_wp2
  refine wp_loop_rounds 1 ?_
  rw [rounds_succ]
  go_wp2
  go_ret
  exact ⟨true, rfl, fun _ => ⟨by omega, fun k hk => absurd hk (by omega)⟩, Below.refl _ _⟩
theorem light_long14 (a : Option Addr) (n c : Nat) (el : Nat → El) (w : World) (hn : 14 < n) : Calls Tryz.prog 27 #[.slice a n c, .int .i64 14] w fun e w' => LightIs w n el e w' := by
  have d1 : decide (14 < n) = true := by simpa using hn
  go_enter Tryz.func27, Tryz.ntmps27
  go_wp2
  go_ret
  exact ⟨false, rfl, (fun h => by cases h), Below.refl _ _⟩
set_option maxRecDepth 100000 in
set_option maxHeartbeats 4000000 in
theorem light_row14 (n b off c : Nat) (ev : Nat → Ev) (el : Nat → El) (w : World) (hn : n ≤ 14) (h : Rw n b off ev el w) :
    Calls Tryz.prog 27 #[.slice (some ⟨b, off, none⟩) n c, .int .i64 14] w fun e w' => LightIs w n el e w' := by
  have HV := Lib.hid h
  have d1 : decide (14 < n) = false := by simp; omega
  clear h
  go_enter Tryz.func27, Tryz.ntmps27
  go_wp2
  go_loopw [5] (fun vi wr => ∃ (k : Nat), k ≤ n ∧ vi = .int .i64 k ∧ Hid (∀ j, j < k → small (el j)) ∧ Below w.heap.size w wr) (fun vi _ => n - (intOf vi).toNat)
  case atStart => exact ⟨0, Nat.zero_le _, rfl, Lib.hid (fun j hj => absurd hj (by omega)), Below.refl _ _⟩
  case round =>
    obtain ⟨k, hk, rfl, hR, hbel⟩ := hrel
    have HL := Lib.hid hbel
    clear hbel
    by_cases hlt : k < n
    · have HE := Lib.hid (HV.out.below HL.out)
      obtain ⟨u0, u1, u2⟩ := (HE.out.at_ k hlt).deps
      obtain ⟨a1, c1, e1⟩ := (HE.out.reads k hlt).1.len
      obtain ⟨a2, c2, e2⟩ := (HE.out.reads k hlt).2.1.len
      obtain ⟨a3, c3, e3⟩ := (HE.out.reads k hlt).2.2.len
      rw [e1] at u0
      rw [e2] at u1
      rw [e3] at u2
      clear e1 e2 e3
      by_cases hs : small (el k)
      · have KL := Lib.hid (fun w0 => light_b a1 a2 a3 (el k).a.length (el k).d.length (el k).y.length c1 c2 c3 true (Lib.hid (by simp [hs.1, hs.2.1, hs.2.2])) w0)
        have HS2 : Hid (∀ j, j < k + 1 → small (el j)) := Lib.hid (fun j hj => by
          by_cases h : j < k
          · exact hR.out j h
          · obtain rfl : j = k := by omega
            exact hs)
        clear hs
        go_wp2_with (go_at_call 50; (with_reducible refine (KL.out _).mono ?_); rintro e' w1 ⟨rfl, hb⟩; have L1 := Lib.hid (HL.out.trans (hb.mono HL.out.size)); clear hb)
        go_roundw
        case rel => exact ⟨k + 1, by omega, by go_num, HS2, L1.out⟩
        case measure => simp [intOf]; omega
      · have KL := Lib.hid (fun w0 => light_b a1 a2 a3 (el k).a.length (el k).d.length (el k).y.length c1 c2 c3 false (Lib.hid (by
          have hs' : ¬ ((el k).a.length ≤ 60 ∧ (el k).d.length ≤ 60 ∧ (el k).y.length ≤ 60) := hs
          cases h : (decide ((el k).a.length ≤ 60) && (decide ((el k).d.length ≤ 60) && decide ((el k).y.length ≤ 60))) with
          | false => rfl
          | true => exact absurd (by simpa using h) hs')) w0)
        clear hs
        go_wp2_with (go_at_call 50; (with_reducible refine (KL.out _).mono ?_); rintro e' w1 ⟨rfl, hb⟩; have L1 := Lib.hid (HL.out.trans (hb.mono HL.out.size)); clear hb)
        go_ret
        exact ⟨false, rfl, (fun h => by cases h), L1.out⟩
    · obtain rfl : k = n := by omega
      go_wp2
      go_ret
      exact ⟨true, rfl, fun _ => ⟨by omega, hR.out⟩, HL.out⟩
theorem light_v14 {w : World} {a : Option Addr} {n c : Nat} {ev : Nat → Ev} {el : Nat → El} (h : RowV w (.slice a n c) n ev el) : Calls Tryz.prog 27 #[.slice a n c, .int .i64 14] w fun e w' => LightIs w n el e w' := by
  obtain ⟨a', c', e, _, h⟩ := h
  injection e with e1 e2 e3
  subst e1 e3
  rcases h with rfl | ⟨b, off, rfl, h⟩
  · exact light_none14 a c el w
  · by_cases hn : n ≤ 14
    · exact light_row14 n b off c ev el w hn h
    · exact light_long14 _ n c el w (by omega)
set_option maxRecDepth 100000 in
set_option maxHeartbeats 8000000 in
theorem lightCand_any14 (c : Cd) (q : Cv) (w : World) (h : CAt c q w) : Calls Tryz.prog 7 #[cdV c q, .int .i64 14] w fun e w' => LightC c w e w' := by
  have H := Lib.hid h
  have HB0 := Lib.hid (box_below w (.cells #[.slice q.aF c.fs.length q.cF, .slice q.aH c.nh q.cH, .slice q.aR c.fr.length q.cR, .slice q.aO c.od.length q.cO] 26))
  clear h
  go_enter Tryz.func7, Tryz.ntmps7
  go_wp2
  go_loopw [5, 6] (fun vn vi wr => ∃ (k : Nat), k ≤ c.nh ∧ k ≤ 10 ∧ vi = .int .i64 k ∧ vn = .int .i64 (baseL c.len k : Nat) ∧ Hid (smallTo c k) ∧ Hid (CdAt c q w.heap.size wr) ∧ Below w.heap.size w wr) (fun _ vi _ => 10 - (intOf vi).toNat)
  case atStart => exact ⟨0, Nat.zero_le _, Nat.zero_le _, rfl, rfl, Lib.hid (fun h hh => absurd hh (by omega)), Lib.hid (CdAt.new c q w), HB0.out⟩
  case round =>
    obtain ⟨k, hk, hk10, rfl, rfl, hS, hbx, hbel⟩ := hrel
    have HB := Lib.hid hbel
    have hbase := smallTo.base k hS.out
    clear hbel
    obtain ⟨u0, u1, u2, u3⟩ := hbx.out.facts
    by_cases hlt : k < c.nh ∧ k < 10
    · obtain ⟨h1, h2⟩ := hlt
      obtain ⟨b, off, a2, c2, hq, hc, _, hrow⟩ := (H.out.harts.below HB.out).row k h1
      have KL := Lib.hid (light_v14 (w := wr) hrow)
      have hbk : baseL c.len (k + 1) = baseL c.len k + c.len k := rfl
      have hlk := Lib.hid hrow
      clear hrow
      obtain ⟨L, hL⟩ : ∃ L, baseL c.len k = L := ⟨_, rfl⟩
      rw [hL] at hbase hbk ⊢
      have h1' : (k : Int) < (c.nh : Int) := by omega
      have h2' : (k : Int) < 10 := by omega
      go_wp2_with (go_at_call 27; (with_reducible refine (KL.out).mono ?_); rintro e' w2 ⟨r, rfl, hr, hb⟩; have X2 := Lib.hid (hbx.out.on hb); have L2 := Lib.hid (HB.out.trans (hb.mono HB.out.size)); have R2 := Lib.hid hr; clear hb hr)
      · go_ret
        exact LightC.no L2.out
      · rename_i hr
        have hr2 := Lib.hid (R2.out (by simpa using hr))
        have hS2 : Hid (smallTo c (k + 1)) := Lib.hid (fun h hh => by
          rcases Nat.lt_or_ge h k with h3 | h3
          · exact hS.out h h3
          · obtain rfl : h = k := by omega
            exact hr2.out)
        have hwr : wrap64 ((L : Int) + (c.len k : Int)) = ((baseL c.len (k + 1) : Nat) : Int) := by
          rw [IntWalk.wrap64_in _ (by have := hr2.out.1; omega), hbk]; omega
        rw [hwr]
        clear hr hwr
        go_roundw
        case rel => exact ⟨k + 1, by omega, by omega, by go_num, rfl, hS2, X2, L2.out⟩
        case measure => simp [intOf]; omega
    · by_cases h9 : c.nh ≤ 9
      rotate_left
      · have d9 : decide ((c.nh : Int) ≤ 9) = false := by simp; omega
        by_cases hl : k < c.nh
        · have hk : k = 10 := by omega
          subst hk
          have h1' : (10 : Int) < (c.nh : Int) := by omega
          go_wp2
          go_ret
          exact LightC.no HB.out
        · obtain rfl : k = c.nh := by omega
          have h1' : decide ((c.nh : Int) < (c.nh : Int)) = false := by simp
          go_wp2
          go_ret
          exact LightC.no HB.out
      obtain hkn : k = c.nh := by omega
      rw [hkn] at hbase hS ⊢
      have d9 : decide ((c.nh : Int) ≤ 9) = true := by simp; omega
      have h1' : decide ((c.nh : Int) < (c.nh : Int)) = false := by simp
      have hLw := Lib.hid (fun (h2 : c.N ≤ 60) (h3 : c.fs.length ≤ 60) (h4 : c.fr.length ≤ 120) (h5 : c.od.length ≤ 120) => (show Lw c from ⟨h9, h2, hS.out, h3, h4, h5⟩))
      obtain ⟨N, hN⟩ : ∃ N, baseL c.len c.nh = N := ⟨_, rfl⟩
      have hN2 : Hid (c.N = N) := Lib.hid hN
      rw [hN] at hbase ⊢
      rw [hN2.out] at hLw
      clear hkn hk hk10 hlt h9 hN
      by_cases e2 : N ≤ 14
      · by_cases e3 : c.fs.length ≤ 14
        · by_cases e4 : c.fr.length ≤ 28
          · by_cases e5 : c.od.length ≤ 28
            · have g2 : decide ((N : Int) ≤ 14) = true := by simp; omega
              have g3 : decide ((c.fs.length : Int) ≤ 14) = true := by simp; omega
              have g4 : decide ((c.fr.length : Int) ≤ 28) = true := by simp; omega
              have g5 : decide ((c.od.length : Int) ≤ 28) = true := by simp; omega
              have hOK := Lib.hid (hLw.out (by omega) (by omega) (by omega) (by omega))
              clear e2 e3 e4 e5
              go_wp2
              go_ret
              exact ⟨_, rfl, fun _ => hOK.out, HB.out⟩
            · have g2 : decide ((N : Int) ≤ 14) = true := by simp; omega
              have g3 : decide ((c.fs.length : Int) ≤ 14) = true := by simp; omega
              have g4 : decide ((c.fr.length : Int) ≤ 28) = true := by simp; omega
              have g5 : decide ((c.od.length : Int) ≤ 28) = false := by simp; omega
              clear e2 e3 e4 e5
              go_wp2
              go_ret
              exact LightC.no HB.out
          · have g2 : decide ((N : Int) ≤ 14) = true := by simp; omega
            have g3 : decide ((c.fs.length : Int) ≤ 14) = true := by simp; omega
            have g4 : decide ((c.fr.length : Int) ≤ 28) = false := by simp; omega
            clear e2 e3 e4
            go_wp2
            go_ret
            exact LightC.no HB.out
        · have g2 : decide ((N : Int) ≤ 14) = true := by simp; omega
          have g3 : decide ((c.fs.length : Int) ≤ 14) = false := by simp; omega
          clear e2 e3
          go_wp2
          go_ret
          exact LightC.no HB.out
      · have g2 : decide ((N : Int) ≤ 14) = false := by simp; omega
        clear e2
        go_wp2
        go_ret
        exact LightC.no HB.out
end Go.Proofs.YtgkiaeddlahngaaGreatDoor
namespace Go.Proofs.YtgkiaeddlahngaaGreatDoor
set_option linter.unusedVariables false
set_option linter.unusedSimpArgs false
open Go.RowKit Go.Maps

theorem arrP : WideMaps.ArrKey Tryz.prog 36 3 2 := ⟨Tryz.underlying36, by kernel_rfl, by kernel_rfl, by kernel_rfl⟩
theorem lawP : Maps.Keyed Tryz.prog 36 := Maps.Keyed.of_law arrP.law
/-- how a pair reads as a key -/
def kP (x y : Nat) : Lit := .string (keyBytes [.int .i64 (x : Int), .int .i64 (y : Int)])
theorem wf_nat {x : Nat} (h : x < 9223372036854775808) : (Lit.int .i64 (x : Int)).wf = true := by
  have h1 : IntKind.i64.min = -9223372036854775808 := by decide
  have h2 : IntKind.i64.max = 9223372036854775807 := by decide
  simp only [Lit.wf, Bool.and_eq_true, decide_eq_true_eq]
  omega
theorem keyP {x y : Nat} (hx : x < 9223372036854775808) (hy : y < 9223372036854775808) : keyOf Tryz.prog 36 (.agg #[.int .i64 (x : Int), .int .i64 (y : Int)]) = some (kP x y) :=
  WideMaps.keyOf_pair arrP Tryz.underlying3 ⟨Tryz.prog.types.size - 1, by kernel_rfl⟩ (wf_nat hx) (wf_nat hy)
theorem kP_inj {x y x' y' : Nat} (hx : x < 9223372036854775808) (hy : y < 9223372036854775808) (hx' : x' < 9223372036854775808) (hy' : y' < 9223372036854775808) (h : kP x y = kP x' y') : x = x' ∧ y = y' := by
  have := lawP.inj (keyP hx hy) (by rw [h]; exact keyP hx' hy')
  injection this with h1
  have h2 : ([.int .i64 (x : Int), .int .i64 (y : Int)] : List Value) = [.int .i64 (x' : Int), .int .i64 (y' : Int)] := by
    have := congrArg Array.toList h1; simpa using this
  simp at h2
  omega
abbrev OMp (b n : Nat) (D : DataW Unit) (w : World) : Prop := w.ownsMap Tryz.prog 36 (plainElem (H := Unit) Tryz.prog 4) b n D
theorem zero_bool (w : World) : (zeroValue 4).run Tryz.prog w = .ok (.bool false) w := by kernel_rfl
theorem OMp.on {b n : Nat} {D : DataW Unit} {w w' : World} (h : OMp b n D w) (hb : Below w.heap.size w w') : OMp b n D w' := by
  obtain ⟨es, clock, h1, h2⟩ := h
  exact ⟨es, clock, (hb.block b (Array.getElem?_eq_some_iff.1 h1).1).trans h1, h2⟩
/-- what a map of pairs holds -/
structure MetP (S : List (Nat × Nat)) (D : DataW Unit) : Prop where
  map : IsMap D
  small : ∀ p ∈ S, p.1 < 100 ∧ p.2 < 100
  at_ : ∀ x y, (x, y) ∈ S → ∀ zd, D.atKey (kP x y) zd = .lit (.bool true)
  no : ∀ x y, x < 100 → y < 100 → (x, y) ∉ S → ∀ zd, D.atKey (kP x y) zd = zd
theorem MetP.start : MetP [] (.map []) := ⟨⟨_, rfl⟩, fun p hp => by simp at hp, fun _ _ h => by simp at h, fun _ _ _ _ _ _ => rfl⟩
theorem MetP.put {S : List (Nat × Nat)} {D : DataW Unit} (h : MetP S D) (a b : Nat) (ha : a < 100) (hb : b < 100) : MetP (S ++ [(a, b)]) (D.put (kP a b) (.lit (.bool true))) := by
  have hne : ∀ x y, x < 100 → y < 100 → ¬ (x = a ∧ y = b) → kP x y ≠ kP a b := fun x y hx hy hn e => hn (kP_inj (by omega) (by omega) (by omega) (by omega) e)
  refine ⟨?_, fun p hp => ?_, fun x y hx zd => ?_, fun x y hx hy hn zd => ?_⟩
  · obtain ⟨l, rfl⟩ := h.map
    exact ⟨_, rfl⟩
  · rcases List.mem_append.1 hp with h1 | h1
    · exact h.small p h1
    · rw [List.mem_singleton] at h1; subst h1; exact ⟨ha, hb⟩
  · by_cases he : x = a ∧ y = b
    · obtain ⟨rfl, rfl⟩ := he
      exact atKey_put_same h.map (by unfold kP WideAt.IsKeyLit; trivial) _ _
    · have hS : (x, y) ∈ S := by
        rcases List.mem_append.1 hx with h1 | h1
        · exact h1
        · rw [List.mem_singleton] at h1; injection h1 with e1 e2; exact absurd ⟨e1, e2⟩ he
      have hs := h.small _ hS
      rw [atKey_put_other (hne x y hs.1 hs.2 he)]
      exact h.at_ x y hS zd
  · have he : ¬ (x = a ∧ y = b) := fun e => hn (by rw [e.1, e.2]; simp)
    rw [atKey_put_other (hne x y hx hy he)]
    exact h.no x y hx hy (fun e => hn (List.mem_append.2 (.inl e))) zd
theorem bool_inv {P : Program} {e : TypeId} (he : P.underlying e = some .bool) {v : Value} {z : DataW Unit × List MemPlace} {r : Bool} (h : plainElem (H := Unit) P e v = some z) (hz : z.1 = .lit (.bool r)) : v = .bool r := by
  unfold plainElem at h
  rw [he] at h
  cases v with
  | bool x =>
    have h' : some ((DataW.lit (.bool x) : DataW Unit), ([] : List MemPlace)) = some z := h
    injection h' with h'
    subst h'
    injection hz with hz
    injection hz with hz
    rw [hz]
  | _ => exact nomatch h
theorem OMp.look {S : List (Nat × Nat)} {D : DataW Unit} {b n : Nat} {w : World} (h : OMp b n D w) (M : MetP S D) {x y : Nat} (hx : x < 100) (hy : y < 100) : (Instr.lookup 43 (.map (some b)) (.agg #[.int .i64 (x : Int), .int .i64 (y : Int)]) false).run Tryz.prog w = .ok (.bool (decide ((x, y) ∈ S))) w := by
  obtain ⟨v, ps, hrun, hv⟩ := World.ownsMap.lookup h lawP Tryz.underlying43 (zero_bool w) (plainElem_bool Tryz.underlying4 false) (keyP (x := x) (y := y) (by omega) (by omega))
  have : v = .bool (decide ((x, y) ∈ S)) := by
    refine bool_inv Tryz.underlying4 hv ?_
    by_cases hS : (x, y) ∈ S
    · rw [M.at_ x y hS]; simp [hS]
    · rw [M.no x y hx hy hS]; simp [hS]
  rw [← this]; exact hrun
theorem OMp.put {S : List (Nat × Nat)} {D : DataW Unit} {b n : Nat} {w : World} (h : OMp b n D w) (M : MetP S D) (hn : n < 100000) {x y : Nat} (hx : x < 100) (hy : y < 100) : ∃ w', (Instr.mapUpdate 43 (.map (some b)) (.agg #[.int .i64 (x : Int), .int .i64 (y : Int)]) (.bool true)).run Tryz.prog w = .ok () w' ∧ (OMp b (n + 1) (D.put (kP x y) (.lit (.bool true))) w' ∧ MetP (S ++ [(x, y)]) (D.put (kP x y) (.lit (.bool true)))) ∧ w.grownBy w' (some b) := by
  obtain ⟨w', h1, h2, h3⟩ := World.ownsMap.update h lawP Tryz.underlying43 (by unfold maxLen; omega) (keyP (x := x) (y := y) (by omega) (by omega)) (plainElem_bool Tryz.underlying4 true)
  exact ⟨w', h1, ⟨h2, M.put x y hx hy⟩, h3⟩
end Go.Proofs.YtgkiaeddlahngaaGreatDoor
namespace Go.Proofs.YtgkiaeddlahngaaGreatDoor
set_option linter.unusedVariables false
set_option linter.unusedSimpArgs false
open Go.RowKit Go.Maps
attribute [local go_sem ↓] fold_E fold_SE
attribute [local irreducible] wpStill

/-- the candidate, the row of all events, the row of pairs -/
structure Wn (c : Cd) (q : Cv) (es : List Ev) (vA : Value) (base : Nat) (vL : Value) (L : List (Nat × Nat)) (bL : Nat) (w W : World) : Prop where
  rg : Rg c q es vA base w W
  own : W.ownsRow bL 36 2 vL L.length (rowP2 L)
theorem Wn.on {c : Cd} {q : Cv} {es : List Ev} {vA : Value} {base : Nat} {vL : Value} {L : List (Nat × Nat)} {bL : Nat} {w W W2 : World} (h : Wn c q es vA base vL L bL w W) (hb : Below W.heap.size W W2) : Wn c q es vA base vL L bL w W2 := ⟨h.rg.on hb, own_on h.own hb⟩
theorem rowP2_len (L : List (Nat × Nat)) : (rowP2 L).length = L.length * 2 := by
  induction L with
  | nil => rfl
  | cons p l ih => simp [rowP2] at ih ⊢; omega
theorem rowP2_at : ∀ (L : List (Nat × Nat)) (i a b : Nat), L[i]? = some (a, b) → (rowP2 L)[i * 2]? = some (.int .i64 (a : Int)) ∧ (rowP2 L)[i * 2 + 1]? = some (.int .i64 (b : Int))
  | [], i, a, b, h => by simp at h
  | p :: l, 0, a, b, h => by
    simp at h; subst h
    exact ⟨rfl, rfl⟩
  | p :: l, i + 1, a, b, h => by
    have := rowP2_at l i a b (by simpa using h)
    rw [show (i + 1) * 2 = i * 2 + 2 by omega]
    exact this
theorem Wn.cells {c : Cd} {q : Cv} {es : List Ev} {vA : Value} {base g cap : Nat} {L : List (Nat × Nat)} {bL : Nat} {w W : World} (h : Wn c q es vA base (.slice (some ⟨g, 0, none⟩) L.length cap) L bL w W) {i a b : Nat} (hi : L[i]? = some (a, b)) : W.cell? ⟨g, i * 2, none⟩ = some (.int .i64 (a : Int)) ∧ W.cell? ⟨g, i * 2 + 1, none⟩ = some (.int .i64 (b : Int)) := by
  have hlt : i < L.length := (List.getElem?_eq_some_iff.1 hi).1
  obtain ⟨h1, h2⟩ := rowP2_at L i a b hi
  exact ⟨(h.own.cellAt (i * 2) (by omega)).trans h1, (h.own.cellAt (i * 2 + 1) (by omega)).trans h2⟩
theorem hart_like0 {c : Cd} {es : List Ev} {g off : Nat} {w : World} (h : RAll c (evAtN es) g off w) (k : Nat) (hk : k < c.N) : (evAtN es k).hart = (c.at k).1.hart := by
  obtain ⟨a, d, y, e⟩ := h.like k hk
  rw [e]; try rfl
set_option maxRecDepth 100000 in
set_option maxHeartbeats 32000000 in
theorem ppoWithin_any (c : Cd) (q : Cv) (w : World) (h : CAt c q w) (hx : ∀ h, h < c.nh → ∀ k, k < c.len h → WordX (c.ev h k)) (hf : ∀ j, j < c.fs.length → (0 ≤ fA c.fs j ∧ fA c.fs j < 18446744073709551616) ∧ (0 ≤ fV c.fs j ∧ fV c.fs j < 18446744073709551616)) (hT : TabT w) :
    Calls Tryz.prog 4 #[cdV c q] w fun e w' => SameOk w true e w' := by
  have S0 := Lib.hid (Lk.start h)
  have HE := Lib.hid (fun h hh k hk => (hx h hh k hk).1)
  have HP := Lib.hid (fun h hh k hk => (hx h hh k hk).2)
  have HFW := Lib.hid hf
  have HT := Lib.hid hT
  clear h hx hf hT
  go_enter Tryz.func4, Tryz.ntmps4
  go_upto_region 3 with (go_at_call 6; (with_reducible refine (plives_any _).mono ?_); rintro e' w1 ⟨rfl, hb⟩; have S1 := Lib.hid (S0.out.on hb); clear hb)
  obtain ⟨x0, x1, x2, x3⟩ := S1.out.box.facts
  obtain ⟨m, hm⟩ : ∃ m, Hid (c.may = m) := ⟨_, Lib.hid rfl⟩
  cases m with
  | false =>
    go_wp2_with (first | (go_at_call 7; (with_reducible refine (lightCand_any14 c q w1 S1.out.at_).mono ?_); rintro e' w2 ⟨r, rfl, hr, hb⟩; have S2 := Lib.hid (S1.out.on hb); have R2 := Lib.hid (fun (e : r = true) => (hr e).lt HE.out HFW.out); clear hb hr x0 x1 x2 x3; obtain ⟨x0, x1, x2, x3⟩ := S2.out.box.facts; cases r) | (go_at_call 8; (with_reducible refine (rcheck9_is c q w2 (R2.out (by first | rfl | trivial)) HP.out S2.out.at_ false hm.out).mono ?_); rintro e' w3 ⟨rfl, hb⟩; have S3 := Lib.hid (S2.out.on hb); clear hb x0 x1 x2 x3))
    · go_ret
      exact ⟨rfl, S2.out.below⟩
    · go_ret
      exact ⟨rfl, S3.out.below⟩
  | true =>
    go_upto_region 5 with (first | (go_at_call 7; (with_reducible refine (lightCand_any14 c q w1 S1.out.at_).mono ?_); rintro e' w2 ⟨r, rfl, hr, hb⟩; have S2 := Lib.hid (S1.out.on hb); have R2 := Lib.hid (fun (e : r = true) => (hr e).lt HE.out HFW.out); clear hb hr x0 x1 x2 x3; obtain ⟨x0, x1, x2, x3⟩ := S2.out.box.facts; cases r) | (go_at_call 8; (with_reducible refine (rcheck9_is c q w2 (R2.out (by first | rfl | trivial)) HP.out S2.out.at_ true hm.out).mono ?_); rintro e' w3 ⟨rfl, hb⟩; have S3 := Lib.hid (S2.out.on hb); have LT := Lib.hid (R2.out (by first | rfl | trivial)); clear hb x0 x1 x2 x3; obtain ⟨x0, x1, x2, x3⟩ := S3.out.box.facts))
    · go_ret
      exact ⟨rfl, S2.out.below⟩
    have KA := Lib.hid (fun w0 h0 => rall9_yes c q w0 LT.out HP.out h0 hm.out)
    have KR := Lib.hid (fun w0 h0 a b => Rule_any c q w0 LT.out h0 a b)
    have KH := Lib.hid (fun w0 h0 a b k r hr => Holds_any c q w0 LT.out h0 a b k r hr)
    have KW := Lib.hid (fun w0 h0 hT a b r hr => Whole_any c q w0 LT.out h0 hT a b r hr)
    have KO := Lib.hid (fun w0 h0 => ownCand_al c q w0 LT.out h0)
    have hN60 := LT.out.n
    obtain ⟨L, hLL⟩ : ∃ L, pairsW c = L := ⟨_, rfl⟩
    have HLL := Lib.hid hLL
    have HLen : Hid (L.length ≤ 3600) := Lib.hid (by rw [← hLL]; unfold pairsW; rw [hm.out, if_pos rfl]; have := pairsOut_len c hN60 c.N 0; omega)
    have HLM : Hid (∀ a b, (a, b) ∈ L ↔ ruleL c a b ≠ 0) := Lib.hid (fun a b => by rw [← hLL]; exact mem_pairsW hm.out a b)
    have HLS : Hid (L.Pairwise ltP) := Lib.hid (by rw [← hLL]; exact pairsW_sorted c)
    have KP := Lib.hid (fun d q' w0 (hd : Lt d) (h0 : CAt d q' w0) (al : Al c d) => (show Calls Tryz.prog 11 #[cdV d q'] w0 fun e w' => ∃ a cp base, e = .returned (.slice a L.length cp) ∧ w'.ownsRow base 36 2 (.slice a L.length cp) L.length (rowP2 L) ∧ Below w0.heap.size w0 w' from by
      have := own_pairs d q' w0 hd h0
      rw [al.pairs, hLL] at this
      exact this))
    clear hLL
    go_upto_region 6 with (go_at_call 22; (with_reducible refine (KA.out _ S3.out.at_).mono ?_); rintro e' w4 ⟨v, es, base, rfl, hbase, hra, hb⟩; obtain ⟨a4, c4, rfl⟩ := own_form hra.own; have G4 : Hid (Rg c q es (.slice a4 c.N c4) base w w4) := Lib.hid ⟨S3.out.on hb, hra⟩; clear hb hra hbase x0 x1 x2 x3 S1 S2 S3 R2)
    obtain ⟨x0, x1, x2, x3⟩ := G4.out.lk.box.facts
    go_upto_region 7 with (first
      | (go_at_call 10; (with_reducible refine (KO.out _ G4.out.lk.at_).mono ?_); rintro e' w5 ⟨d, q', rfl, hc, hd, hal, hb⟩; have G5 := Lib.hid (G4.out.on hb); have C5 := Lib.hid hc; have D5 := Lib.hid hd; have A5 := Lib.hid hal; clear hb hc hd hal x0 x1 x2 x3)
      | (go_at_call 11; (with_reducible refine (KP.out d q' _ D5.out C5.out A5.out).mono ?_); rintro e' w6 ⟨aL, cL, bL, rfl, ho, hb⟩; have N6 : Hid (Wn c q es (.slice a4 c.N c4) base (.slice aL L.length cL) L bL w w6) := Lib.hid ⟨G5.out.on hb, ho⟩; clear hb ho))
    clear G4 G5 C5 D5 A5 KA KO KP
    have hmm := @run_makeMap Tryz.prog
    have M0 : Hid (OMp w6.heap.size 0 (.map []) (w6.alloc (.map #[] 0))) := Lib.hid (World.ownsMap_made _ _ _ _)
    have BM : Hid (Below w6.heap.size w6 (w6.alloc (.map #[] 0))) := Lib.hid (box_below w6 _)
    go_wp2
    clear hmm
    go_loopw [6] (fun vi wr => ∃ (i : Nat) (D : DataW Unit), vi = .int .i64 (i : Int) ∧ i ≤ L.length ∧ Hid (OMp w6.heap.size i D wr) ∧ Hid (MetP (L.take i) D) ∧ Hid (Below w6.heap.size w6 wr)) (fun vi _ => L.length - (intOf vi).toNat)
    case atStart => exact ⟨0, _, rfl, by omega, M0, Lib.hid MetP.start, BM⟩
    case round =>
      obtain ⟨i, D, rfl, hi, HM, HMet, HB⟩ := hrel
      clear M0 BM
      have N1 := Lib.hid (N6.out.on HB.out)
      by_cases hlt : i < L.length
      · have d1 : decide (i < L.length) = true := by simpa using hlt
        have hi0 : (0 : Int) ≤ (i : Int) := by omega
        have hii : (i : Int) < (L.length : Int) := by omega
        have d2 : IntKind.i64.wrap ((i : Int) + 1) = ((i + 1 : Nat) : Int) := by rw [IntWalk.i64_in _ (by have := HLen.out; omega)]; omega
        obtain ⟨⟨a, b⟩, hab⟩ : ∃ p, L[i]? = some p := ⟨_, List.getElem?_eq_getElem hlt⟩
        have HAB := Lib.hid hab
        have HR0 := Lib.hid ((HLM.out a b).1 (List.mem_of_getElem? hab))
        obtain ⟨gL, cp, ev⟩ : ∃ g cap, (Value.slice aL L.length cL) = .slice (some ⟨g, 0, none⟩) L.length cap := by
          rcases N1.out.own.2 with ⟨_, h0⟩ | ⟨g, cap, cur, e, _⟩
          · omega
          · exact ⟨g, cap, e⟩
        injection ev with ev1 ev2 ev3
        subst ev1 ev3
        clear ev2
        obtain ⟨c0, c1⟩ := N1.out.cells hab
        clear hab
        have hin := aheadP_in (rule_ahead HR0.out)
        have HH := Lib.hid (aheadP_hart (rule_ahead HR0.out))
        obtain ⟨g, cap, ev, _, hra⟩ := N1.out.rg.ra.rall (by omega)
        injection ev with ev1 ev2 ev3
        subst ev1 ev3
        clear ev2
        have HA := Lib.hid hra
        clear hra
        go_upto_region 11 with fail
        have N2 := Lib.hid (N1.out.on (Below.refl wr.heap.size wr).drew.drew)
        go_region_held3 (fun w' => w'.cell? ⟨gL, i * 2, none⟩ = some (.int .i64 (a : Int)) ∧ w'.cell? ⟨gL, i * 2 + 1, none⟩ = some (.int .i64 (b : Int))) (exact ⟨c0, c1⟩) (fail)
        obtain ⟨X, hX⟩ : ∃ X, evAtN es a = X := ⟨_, rfl⟩
        obtain ⟨Y, hY⟩ : ∃ Y, evAtN es b = Y := ⟨_, rfl⟩
        have LX : Hid (∀ w0, RAll c (evAtN es) g 0 w0 → (LoadE (.pointer (some ⟨g, a * 14, none⟩))).run Tryz.prog w0 = .ok X.V w0 ∧ w0.cell? ⟨g, a * 14, none⟩ = some (.int .i64 (c.at a).1.hart)) := Lib.hid (fun w0 h0 => ⟨by rw [← hX]; exact load0 h0 a (by omega), by have := h0.at_ a (by omega) 0 _ rfl; rw [hart_like0 h0 a (by omega)] at this; simpa using this⟩)
        have LY : Hid (∀ w0, RAll c (evAtN es) g 0 w0 → (LoadE (.pointer (some ⟨g, b * 14, none⟩))).run Tryz.prog w0 = .ok Y.V w0 ∧ w0.cell? ⟨g, b * 14, none⟩ = some (.int .i64 (c.at a).1.hart)) := Lib.hid (fun w0 h0 => ⟨by rw [← hY]; exact load0 h0 b (by omega), by have := h0.at_ b (by omega) 0 _ rfl; rw [hart_like0 h0 b (by omega), ← HH.out.1] at this; simpa using this⟩)
        have KMX := Lib.hid (fun w0 => rMemory_b X true (by rw [← hX, mem_like HA.out a (by omega)]; exact HH.out.2.1) w0)
        have KMY := Lib.hid (fun w0 => rMemory_b Y true (by rw [← hY, mem_like HA.out b (by omega)]; exact HH.out.2.2) w0)
        have ha0 : (0 : Int) ≤ (a : Int) := by omega
        have hb0 : (0 : Int) ≤ (b : Int) := by omega
        have hai : (a : Int) < (c.N : Int) := by omega
        have hbi : (b : Int) < (c.N : Int) := by omega
        have d3 : decide ((a : Int) < 0) = false := by simp
        have d4 : decide ((c.N : Int) ≤ (b : Int)) = false := by simp; omega
        have d5 : decide ((b : Int) ≤ (a : Int)) = false := by simp; omega
        have d6 : decide (c.N ≤ b) = false := by simp; omega
        have d7 : decide (b ≤ a) = false := by simp; omega
        clear hX hY
        have K4 : Hid (∀ w', RAll c (evAtN es) g 0 w' → (LoadE (.pointer (some ⟨g, a * 14, none⟩))).run Tryz.prog w' = .ok X.V w' ∧ w'.cell? ⟨g, a * 14, none⟩ = some (.int .i64 (c.at a).1.hart) ∧ (LoadE (.pointer (some ⟨g, b * 14, none⟩))).run Tryz.prog w' = .ok Y.V w' ∧ w'.cell? ⟨g, b * 14, none⟩ = some (.int .i64 (c.at a).1.hart)) := Lib.hid (fun w0 h0 => ⟨(LX.out _ h0).1, (LX.out _ h0).2, (LY.out _ h0).1, (LY.out _ h0).2⟩)
        have A1 := Lib.hid (HA.out.on (Below.refl wr.heap.size wr).drew)
        have F1 := Lib.hid (K4.out _ A1.out)
        have A2 := Lib.hid (HA.out.on (Below.refl wr.heap.size wr).drew.drew)
        have F2 := Lib.hid (K4.out _ A2.out)
        clear LX LY
        go_upto_region 12 with fail
        go_cut [88] (fun t88 wx => t88 = .bool false ∧ Hid (Below wr.heap.size wr wx))
        case first => as_aux_lemma =>
         go_region_held3 (fun w' => (LoadE (.pointer (some ⟨g, a * 14, none⟩))).run Tryz.prog w' = .ok X.V w' ∧ w'.cell? ⟨g, a * 14, none⟩ = some (.int .i64 (c.at a).1.hart) ∧ (LoadE (.pointer (some ⟨g, b * 14, none⟩))).run Tryz.prog w' = .ok Y.V w' ∧ w'.cell? ⟨g, b * 14, none⟩ = some (.int .i64 (c.at a).1.hart)) (first | exact F2.out | exact F1.out | exact F3.out | exact F4.out)
          ((first
            | (go_at_call 23; (with_reducible refine (KMX.out _).mono ?_); rintro e' w7 ⟨rfl, hb⟩; have N3 := Lib.hid (N2.out.on hb); have A3 := Lib.hid (A2.out.on hb); have F3 := Lib.hid (K4.out _ A3.out); have L3 := Lib.hid hb; clear hb)
            | (go_at_call 23; (with_reducible refine (KMY.out _).mono ?_); rintro e' w8 ⟨rfl, hb⟩; have N4 := Lib.hid (N3.out.on hb); have A4 := Lib.hid (A3.out.on hb); have F4 := Lib.hid (K4.out _ A4.out); have L4 := Lib.hid hb; clear hb)))
         go_wp2_with fail
         go_meet
         exact ⟨rfl, Lib.hid (((Below.refl wr.heap.size wr).drew.drew.trans L3.out).trans (L4.out.mono L3.out.size))⟩
        case rest =>
          obtain ⟨rfl, HB12⟩ := hcut
          clear F1 F2 A1 A2 N2 K4 KMX KMY
          have HM2 := Lib.hid (HM.out.on HB12.out)
          have N8 := Lib.hid (N1.out.on HB12.out)
          have HB8 := Lib.hid (HB.out.trans (HB12.out.mono HB.out.size))
          clear c0 c1
          obtain ⟨c0, c1⟩ := N8.out.cells HAB.out
          obtain ⟨x0, x1, x2, x3⟩ := N8.out.rg.lk.box.facts
          have hla : a < 100 := by omega
          have hlb : b < 100 := by omega
          have hiL : i < 100000 := by have := HLen.out; omega
          have KW1 := Lib.hid (KW.out wc N8.out.rg.lk.at_ (HT.out.on N8.out.rg.lk.below) a b true (whole_pair hm.out HR0.out))
          by_cases hz : i = 0
          · have d8 : decide (0 < i) = false := by simp [hz]
            clear hz
            go_wp2_with (go_at_call 18; (with_reducible refine (KW1.out).mono ?_); rintro e' w9 ⟨rfl, hb⟩; obtain ⟨W9, hup, HUP0, hgr0⟩ := OMp.put (HM2.out.on hb) HMet.out hiL hla hlb; have HUP := Lib.hid HUP0; have HGR := Lib.hid hgr0; have N9 := Lib.hid (N8.out.on hb); have HB9 := Lib.hid (HB8.out.trans (hb.mono HB8.out.size)); clear HUP0 hgr0 x0 x1 x2 x3 c0 c1; obtain ⟨c0, c1⟩ := N9.out.cells HAB.out; clear hb)
            go_roundw
            case rel => exact ⟨i + 1, _, by first | rfl | simp, by omega, Lib.hid HUP.out.1, Lib.hid (by rw [List.take_add_one, HAB.out]; exact HUP.out.2), Lib.hid (HB9.out.grown HGR.out HB9.out.size (fun k hk => by cases hk; exact Nat.le_refl _))⟩
            case measure => simp [intOf]; omega
          · obtain ⟨j, hj⟩ : ∃ j, i = j + 1 := ⟨i - 1, by omega⟩
            have d8 : decide (0 < i) = true := by simp; omega
            have d9 : IntKind.i64.wrap ((i : Int) - 1) = (j : Int) := by rw [IntWalk.i64_in _ (by have := HLen.out; omega)]; omega
            have hj0 : (0 : Int) ≤ (j : Int) := by omega
            have hjj : (j : Int) < (L.length : Int) := by omega
            obtain ⟨⟨a', b'⟩, hpr⟩ : ∃ p, L[j]? = some p := ⟨_, List.getElem?_eq_getElem (by omega)⟩
            obtain ⟨e0, e1⟩ := N8.out.cells hpr
            have hlt2 : a' < a ∨ (a' = a ∧ b' < b) := by
              have hp := List.pairwise_iff_getElem.1 HLS.out j i (by omega) (by omega) (by omega)
              have q1 : L[j]'(by omega) = (a', b') := by have := (List.getElem?_eq_some_iff.1 hpr).2; exact this
              have q2 : L[i]'(by omega) = (a, b) := (List.getElem?_eq_some_iff.1 HAB.out).2
              rw [q1, q2] at hp
              exact hp
            clear hpr hj hz
            rcases hlt2 with h1 | ⟨rfl, h1⟩
            · have d10 : decide (a < a') = false := by simp; omega
              have d11 : decide (a' = a) = false := by simp; omega
              have d12 : ((a' : Int) == (a : Int)) = false := by simp; omega
              have d13 : (a' == a) = false := by simp; omega
              clear h1
              go_wp2_with (go_at_call 18; (with_reducible refine (KW1.out).mono ?_); rintro e' w9 ⟨rfl, hb⟩; obtain ⟨W9, hup, HUP0, hgr0⟩ := OMp.put (HM2.out.on hb) HMet.out hiL hla hlb; have HUP := Lib.hid HUP0; have HGR := Lib.hid hgr0; have N9 := Lib.hid (N8.out.on hb); have HB9 := Lib.hid (HB8.out.trans (hb.mono HB8.out.size)); clear HUP0 hgr0 x0 x1 x2 x3 c0 c1; obtain ⟨c0, c1⟩ := N9.out.cells HAB.out; clear hb)
              go_roundw
              case rel => exact ⟨i + 1, _, by first | rfl | simp, by omega, Lib.hid HUP.out.1, Lib.hid (by rw [List.take_add_one, HAB.out]; exact HUP.out.2), Lib.hid (HB9.out.grown HGR.out HB9.out.size (fun k hk => by cases hk; exact Nat.le_refl _))⟩
              case measure => simp [intOf]; omega
            · have d10 : decide (b ≤ b') = false := by simp; omega
              clear h1
              go_wp2_with (go_at_call 18; (with_reducible refine (KW1.out).mono ?_); rintro e' w9 ⟨rfl, hb⟩; obtain ⟨W9, hup, HUP0, hgr0⟩ := OMp.put (HM2.out.on hb) HMet.out hiL hla hlb; have HUP := Lib.hid HUP0; have HGR := Lib.hid hgr0; have N9 := Lib.hid (N8.out.on hb); have HB9 := Lib.hid (HB8.out.trans (hb.mono HB8.out.size)); clear HUP0 hgr0 x0 x1 x2 x3 c0 c1; obtain ⟨c0, c1⟩ := N9.out.cells HAB.out; clear hb)
              go_roundw
              case rel => exact ⟨i + 1, _, by first | rfl | simp, by omega, Lib.hid HUP.out.1, Lib.hid (by rw [List.take_add_one, HAB.out]; exact HUP.out.2), Lib.hid (HB9.out.grown HGR.out HB9.out.size (fun k hk => by cases hk; exact Nat.le_refl _))⟩
              case measure => simp [intOf]; omega
      · have d1 : decide (i < L.length) = false := by simpa using hlt
        have HMF : Hid (MetP L D) := Lib.hid (by have := HMet.out; rwa [List.take_of_length_le (by omega)] at this)
        go_wp2
        go_loopw [9] (fun va wq => ∃ a : Nat, a ≤ c.N ∧ va = .int .i64 (a : Int) ∧ Hid (OMp w6.heap.size i D wq) ∧ Hid (Below w6.heap.size w6 wq)) (fun va _ => c.N - (intOf va).toNat)
        case atStart => exact ⟨0, by omega, rfl, HM, HB⟩
        case round =>
          obtain ⟨a, ha, rfl, HM2, HB2⟩ := hrel
          clear HM HB HMet N1
          by_cases hal : a < c.N
          · have e1 : decide (a < c.N) = true := by simpa using hal
            have e2 : IntKind.i64.wrap ((a : Int) + 1) = ((a + 1 : Nat) : Int) := by rw [IntWalk.i64_in _ (by omega)]; omega
            go_wp2
            go_loopw [10] (fun vb wq => ∃ b : Nat, b ≤ c.N ∧ vb = .int .i64 (b : Int) ∧ Hid (OMp w6.heap.size i D wq) ∧ Hid (Below w6.heap.size w6 wq)) (fun vb _ => c.N - (intOf vb).toNat)
            case atStart => exact ⟨0, by omega, rfl, HM2, HB2⟩
            case round =>
              clear HM2 HB2
              obtain ⟨b, hb, rfl, HM3, HB3⟩ := hrel
              by_cases hbl : b < c.N
              · have f1 : decide (b < c.N) = true := by simpa using hbl
                have f2 : IntKind.i64.wrap ((b : Int) + 1) = ((b + 1 : Nat) : Int) := by rw [IntWalk.i64_in _ (by omega)]; omega
                have hla : a < 100 := by omega
                have hlb : b < 100 := by omega
                have N3 := Lib.hid (N6.out.on HB3.out)
                obtain ⟨x0, x1, x2, x3⟩ := N3.out.rg.lk.box.facts
                obtain ⟨r, hr⟩ : ∃ r, ruleL c a b = r := ⟨_, rfl⟩
                have KR1 := Lib.hid (KR.out _ N3.out.rg.lk.at_ (a : Int) (b : Int))
                rw [show ruleW c a b = r by unfold ruleW; rw [hm.out, if_pos rfl, hr]] at KR1
                have hr13 : r ≤ 13 := by rw [← hr]; exact ruleL_le c a b
                obtain ⟨p, hp⟩ : ∃ p, decide (0 < r) = p := ⟨_, rfl⟩
                have HIN : Hid (decide ((a, b) ∈ L) = p) := Lib.hid (by
                  rw [← hp, ← hr]
                  have := HLM.out a b
                  by_cases h0 : ruleL c a b = 0
                  · rw [decide_eq_false (fun h => this.1 h h0), decide_eq_false (by omega)]
                  · rw [decide_eq_true (this.2 h0), decide_eq_true (by omega)])
                have HRR := Lib.hid hr
                have f3 : decide ((r : Int) < 0) = false := by simp
                have f4 : decide (13 < r) = false := by simp; omega
                have f5 : decide ((13 : Int) < (r : Int)) = false := by simp; omega
                clear hr
                go_wp2_with (go_at_call 14; (with_reducible refine (KR1.out).mono ?_); rintro e' w8 ⟨rfl, hb⟩; have hl := OMp.look (HM3.out.on hb) HMF.out hla hlb; rw [HIN.out] at hl; have M8 := Lib.hid (HM3.out.on hb); have B8 := Lib.hid (HB3.out.trans (hb.mono HB3.out.size)); clear hb x0 x1 x2 x3)
                clear hl
                go_loopw [12] (fun vk wk => ∃ k : Nat, 1 ≤ k ∧ k ≤ 14 ∧ vk = .int .i64 (k : Int) ∧ Hid (OMp w6.heap.size i D wk) ∧ Hid (Below w6.heap.size w6 wk)) (fun vk _ => 14 - (intOf vk).toNat)
                case atStart => exact ⟨1, by omega, by omega, by first | rfl | simp, M8, B8⟩
                case round =>
                  clear M8 B8 HM3 HB3
                  obtain ⟨k, hk1, hk14, rfl, HM4, HB4⟩ := hrel
                  by_cases hkl : k ≤ 13
                  · have g1 : decide (k ≤ 13) = true := by simpa using hkl
                    have g1' : decide ((k : Int) ≤ 13) = true := by simp; omega
                    have g2 : IntKind.i64.wrap ((k : Int) + 1) = ((k + 1 : Nat) : Int) := by rw [IntWalk.i64_in _ (by omega)]; omega
                    have NK := Lib.hid (N6.out.on HB4.out)
                    obtain ⟨x0, x1, x2, x3⟩ := NK.out.rg.lk.box.facts
                    obtain ⟨h, hh⟩ : ∃ h, holdsW c (a : Int) (b : Int) (k : Int) = h := ⟨_, rfl⟩
                    have KH1 := Lib.hid (fun w0 h0 => KH.out w0 h0 (a : Int) (b : Int) (k : Int) h hh)
                    cases h with
                    | true =>
                      have hy := holdsW_yes hh
                      rw [HRR.out] at hy
                      have g3 : ((r : Int) == 0) = false := by simp; omega
                      have g4 : decide (r = 0) = false := by simp; omega
                      have g5 : decide (k < r) = false := by simp; omega
                      have g6 : (r == 0) = false := by simp; omega
                      by_cases hkr : k = r
                      · subst hkr
                        clear hh hy
                        go_wp2_with (first
                          | (go_at_call 16; (with_reducible refine (KH1.out _ NK.out.rg.lk.at_).mono ?_); rintro e' w9 ⟨rfl, hb⟩; have NK2 := Lib.hid (NK.out.on hb); have MK2 := Lib.hid (HM4.out.on hb); have BK2 := Lib.hid (HB4.out.trans (hb.mono HB4.out.size)); clear hb x0 x1 x2 x3; obtain ⟨x0, x1, x2, x3⟩ := NK2.out.rg.lk.box.facts)
                          | (go_at_call 16; (with_reducible refine (KH1.out _ NK2.out.rg.lk.at_).mono ?_); rintro e' w10 ⟨rfl, hb⟩; have MK3 := Lib.hid (MK2.out.on hb); have BK3 := Lib.hid (BK2.out.trans (hb.mono BK2.out.size)); clear hb x0 x1 x2 x3))
                        go_roundw
                        case rel => exact ⟨k + 1, by omega, by omega, by first | rfl | simp, MK3, BK3⟩
                        case measure => simp [intOf]; omega
                      · have g7 : ((k : Int) == (r : Int)) = false := by simp; omega
                        have g8 : decide (k = r) = false := by simp; omega
                        have g9 : (k == r) = false := by simp; omega
                        clear hh hy hkr
                        go_wp2_with (go_at_call 16; (with_reducible refine (KH1.out _ NK.out.rg.lk.at_).mono ?_); rintro e' w9 ⟨rfl, hb⟩; have NK2 := Lib.hid (NK.out.on hb); have MK2 := Lib.hid (HM4.out.on hb); have BK2 := Lib.hid (HB4.out.trans (hb.mono HB4.out.size)); clear hb x0 x1 x2 x3; obtain ⟨x0, x1, x2, x3⟩ := NK2.out.rg.lk.box.facts)
                        go_roundw
                        case rel => exact ⟨k + 1, by omega, by omega, by first | rfl | simp, MK2, BK2⟩
                        case measure => simp [intOf]; omega
                    | false =>
                      have hkr : k ≠ r := fun e => by
                        have := holdsW_rule hm.out (a := a) (b := b) (by rw [HRR.out]; omega)
                        rw [HRR.out, ← e, hh] at this; cases this
                      have g7 : ((k : Int) == (r : Int)) = false := by simp; omega
                      have g8 : decide (k = r) = false := by simp; omega
                      have g9 : (k == r) = false := by simp; omega
                      clear hh hkr
                      go_wp2_with (go_at_call 16; (with_reducible refine (KH1.out _ NK.out.rg.lk.at_).mono ?_); rintro e' w9 ⟨rfl, hb⟩; have NK2 := Lib.hid (NK.out.on hb); have MK2 := Lib.hid (HM4.out.on hb); have BK2 := Lib.hid (HB4.out.trans (hb.mono HB4.out.size)); clear hb x0 x1 x2 x3; obtain ⟨x0, x1, x2, x3⟩ := NK2.out.rg.lk.box.facts)
                      go_roundw
                      case rel => exact ⟨k + 1, by omega, by omega, by first | rfl | simp, MK2, BK2⟩
                      case measure => simp [intOf]; omega
                  · have g1 : decide (k ≤ 13) = false := by simpa using hkl
                    have g1' : decide ((k : Int) ≤ 13) = false := by simp; omega
                    go_wp2
                    go_roundw
                    case rel => exact ⟨b + 1, by omega, by first | rfl | simp, HM4, HB4⟩
                    case measure => simp [intOf]; omega
              · have f1 : decide (b < c.N) = false := by simpa using hbl
                go_wp2
                go_roundw
                case rel => exact ⟨a + 1, by omega, by first | rfl | simp, HM3, HB3⟩
                case measure => simp [intOf]; omega
          · have e1 : decide (a < c.N) = false := by simpa using hal
            go_wp2
            go_loopw [13] (fun vx wq => ∃ x : Nat, x ≤ L.length ∧ vx = .int .i64 (x : Int) ∧ Hid (Below w6.heap.size w6 wq)) (fun vx _ => L.length - (intOf vx).toNat)
            case atStart => exact ⟨0, by omega, rfl, HB2⟩
            case round =>
              obtain ⟨x, hx, rfl, HB3⟩ := hrel
              by_cases hxl : x < L.length
              · have e3 : decide (x < L.length) = true := by simpa using hxl
                have e4 : IntKind.i64.wrap ((x : Int) + 1) = ((x + 1 : Nat) : Int) := by rw [IntWalk.i64_in _ (by have := HLen.out; omega)]; omega
                go_wp2
                go_loopw [14] (fun vy wq => ∃ y : Nat, y ≤ L.length ∧ vy = .int .i64 (y : Int) ∧ Hid (Below w6.heap.size w6 wq)) (fun vy _ => L.length - (intOf vy).toNat)
                case atStart => exact ⟨0, by omega, rfl, HB3⟩
                case round =>
                  clear HB3
                  obtain ⟨y, hy, rfl, HB4⟩ := hrel
                  by_cases hyl : y < L.length
                  · have f3 : decide (y < L.length) = true := by simpa using hyl
                    have f4 : IntKind.i64.wrap ((y : Int) + 1) = ((y + 1 : Nat) : Int) := by rw [IntWalk.i64_in _ (by have := HLen.out; omega)]; omega
                    have hx0 : (0 : Int) ≤ (x : Int) := by omega
                    have hxx : (x : Int) < (L.length : Int) := by omega
                    have hy0 : (0 : Int) ≤ (y : Int) := by omega
                    have hyy : (y : Int) < (L.length : Int) := by omega
                    obtain ⟨⟨a, b⟩, hab⟩ : ∃ p, L[x]? = some p := ⟨_, List.getElem?_eq_getElem hxl⟩
                    obtain ⟨⟨b2, d⟩, hbd⟩ : ∃ p, L[y]? = some p := ⟨_, List.getElem?_eq_getElem hyl⟩
                    have HR1 := Lib.hid ((HLM.out a b).1 (List.mem_of_getElem? hab))
                    have HR2 := Lib.hid ((HLM.out b2 d).1 (List.mem_of_getElem? hbd))
                    have N4 := Lib.hid (N6.out.on HB4.out)
                    obtain ⟨gL, cp, ev⟩ : ∃ g cap, (Value.slice aL L.length cL) = .slice (some ⟨g, 0, none⟩) L.length cap := by
                      rcases N4.out.own.2 with ⟨_, h0⟩ | ⟨g, cap, cur, e, _⟩
                      · omega
                      · exact ⟨g, cap, e⟩
                    injection ev with ev1 ev2 ev3
                    subst ev1 ev3
                    clear ev2
                    go_upto_region 37 with fail
                    by_cases hbb : b = b2
                    · subst hbb
                      have KW1 := Lib.hid (fun w0 h0 hT => KW.out w0 h0 hT (a : Int) (d : Int) true (whole_pairs hm.out HR1.out HR2.out))
                      have KF := Lib.hid (fun w' (h : Wn c q es (.slice a4 c.N c4) base (.slice (some ⟨gL, 0, none⟩) L.length cL) L bL w w') => (show w'.cell? ⟨w.heap.size, 0, none⟩ = some (.slice q.aF c.fs.length q.cF) ∧ w'.cell? ⟨w.heap.size, 1, none⟩ = some (.slice q.aH c.nh q.cH) ∧ w'.cell? ⟨w.heap.size, 2, none⟩ = some (.slice q.aR c.fr.length q.cR) ∧ w'.cell? ⟨w.heap.size, 3, none⟩ = some (.slice q.aO c.od.length q.cO) ∧ w'.cell? ⟨gL, x * 2, none⟩ = some (.int .i64 (a : Int)) ∧ w'.cell? ⟨gL, x * 2 + 1, none⟩ = some (.int .i64 (b : Int)) ∧ w'.cell? ⟨gL, y * 2, none⟩ = some (.int .i64 (b : Int)) ∧ w'.cell? ⟨gL, y * 2 + 1, none⟩ = some (.int .i64 (d : Int)) from ⟨h.rg.lk.box.facts.1, h.rg.lk.box.facts.2.1, h.rg.lk.box.facts.2.2.1, h.rg.lk.box.facts.2.2.2, (h.cells hab).1, (h.cells hab).2, (h.cells hbd).1, (h.cells hbd).2⟩))
                      have N5 := Lib.hid (N4.out.on (Below.refl wr.heap.size wr).drew)
                      have F1 := Lib.hid (KF.out _ N4.out)
                      have F2 := Lib.hid (KF.out _ N5.out)
                      have B5 := Lib.hid (HB4.out.drew)
                      clear hab hbd
                      go_region_held3 (fun w' => w'.cell? ⟨w.heap.size, 0, none⟩ = some (.slice q.aF c.fs.length q.cF) ∧ w'.cell? ⟨w.heap.size, 1, none⟩ = some (.slice q.aH c.nh q.cH) ∧ w'.cell? ⟨w.heap.size, 2, none⟩ = some (.slice q.aR c.fr.length q.cR) ∧ w'.cell? ⟨w.heap.size, 3, none⟩ = some (.slice q.aO c.od.length q.cO) ∧ w'.cell? ⟨gL, x * 2, none⟩ = some (.int .i64 (a : Int)) ∧ w'.cell? ⟨gL, x * 2 + 1, none⟩ = some (.int .i64 (b : Int)) ∧ w'.cell? ⟨gL, y * 2, none⟩ = some (.int .i64 (b : Int)) ∧ w'.cell? ⟨gL, y * 2 + 1, none⟩ = some (.int .i64 (d : Int))) (first | exact F2.out | exact F1.out | exact F3.out)
                        ((go_at_call 18; (with_reducible refine (KW1.out _ N5.out.rg.lk.at_ (HT.out.on N5.out.rg.lk.below)).mono ?_); rintro e' w9 ⟨rfl, hb⟩; have N7 := Lib.hid (N5.out.on hb); have F3 := Lib.hid (KF.out _ N7.out); have B7 := Lib.hid (B5.out.trans (hb.mono B5.out.size)); clear hb))
                      go_wp2
                      go_roundw
                      case rel => exact ⟨y + 1, by omega, by first | rfl | simp, B7⟩
                      case measure => simp [intOf]; omega
                    · have g1 : ((b : Int) == (b2 : Int)) = false := by simp; omega
                      have g2 : decide (b = b2) = false := by simp; omega
                      have g3 : (b == b2) = false := by simp; omega
                      obtain ⟨c0, c1⟩ := N4.out.cells hab
                      obtain ⟨d0, d1⟩ := N4.out.cells hbd
                      clear hab hbd hbb
                      refine wp_region_still_tail 23 (by kernel_rfl) (by kernel_rfl) ?_
                      simp only [List.take_succ_cons, List.take_zero, List.drop_succ_cons, List.drop_zero]
                      iterate 23 (first | (refine wpStill_skip (by as_aux_lemma => kernel_rfl) ?_; simp only [Act.put, List.setIfInBounds_toArray, List.set_cons_succ, List.set_cons_zero]) | still_step)
                      refine wpStill_nil ?_
                      change wpList _ _ _ _ _ (World.drew _)
                      go_wp2
                      go_roundw
                      case rel => exact ⟨y + 1, by omega, by first | rfl | simp, Lib.hid HB4.out.drew⟩
                      case measure => simp [intOf]; omega
                  · have f3 : decide (y < L.length) = false := by simpa using hyl
                    go_wp2
                    go_roundw
                    case rel => exact ⟨x + 1, by omega, by first | rfl | simp, HB4⟩
                    case measure => simp [intOf]; omega
              · have e3 : decide (x < L.length) = false := by simpa using hxl
                go_wp2
                go_ret
                exact ⟨rfl, N6.out.rg.lk.below.trans (HB3.out.mono N6.out.rg.lk.below.size)⟩
end Go.Proofs.YtgkiaeddlahngaaGreatDoor
