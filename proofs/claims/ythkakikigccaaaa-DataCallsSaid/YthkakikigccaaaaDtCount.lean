/-
  Proved here: package data's count, Check and Size answer as the words of lists tell; nothing that was there is changed. Condition: numbers of 64 bits.
-/
import Derived.Test.YthkakikigccaaaaDtSpec
import Derived.Maps.OwnOps
import Derived.Maps.OwnSet
import Derived.DeepKeys4
import Derived.Maps.Keyed
import Derived.Lib.Strings
namespace Go.Proofs.Ythkakikigccaaaa
set_option linter.unusedVariables false
set_option linter.unusedSimpArgs false
open Go.RowKit Go.Maps

theorem laidOut : laidOutB Try.prog = true := by kernel_rfl
theorem rowT : 71 < Try.prog.types.size := of_decide_eq_true (by kernel_rfl)
theorem lawT : Keyed Try.prog 71 := Keyed.of_law (deep_law_laid laidOut (m := 2) (by omega) rowT (by kernel_rfl) (by rw [Try.underlying71]))
def kT (p : Pc) : Lit := .string (keyBytes [.string p.name.data.toList, .int .i64 p.hart])
theorem keyT {p : Pc} (h : mayB p = true) : keyOf Try.prog 71 (.agg #[.string p.name, .int .i64 p.hart]) = some (kT p) := by
  obtain ⟨h1, h2, h3, h4, h5, h6⟩ := mayB_facts h
  have hs : p.name.size ≤ maxLen := by unfold maxLen; omega
  have hw : (Lit.int .i64 p.hart).wf = true := by
    have q1 : IntKind.i64.min = -9223372036854775808 := by decide
    have q2 : IntKind.i64.max = 9223372036854775807 := by decide
    simp only [Lit.wf, Bool.and_eq_true, decide_eq_true_eq]; omega
  obtain ⟨m, hm⟩ : ∃ m, Try.prog.types.size + 1 = m + 1 + 1 := ⟨Try.prog.types.size - 1, by kernel_rfl⟩
  unfold keyOf
  simp only [Try.underlying71]
  have hkt : Try.prog.keyType 71 = true := by kernel_rfl
  have hc : Try.prog.cellsOf 71 = 2 := by kernel_rfl
  have hc1 : Try.prog.cellsOf 9 = 1 := by kernel_rfl
  have hc2 : Try.prog.cellsOf 3 = 1 := by kernel_rfl
  rw [if_pos (by simp [hkt, Value.formed, Try.underlying71, hc]), hm]
  simp only [Program.keyLits, Try.underlying71, hc, Value.cells]
  rw [if_pos (by simp)]
  simp [hc1, hc2, Try.underlying9, Try.underlying3, hs, hw, Program.keyLits, kT]
theorem kT_like {p q : Pc} (hp : mayB p = true) (hq : mayB q = true) : kT p = kT q ↔ likeB q p = true := by
  unfold likeB
  rw [Bool.and_eq_true, beq_iff_eq, beq_iff_eq, Lib.toList_data, Lib.toList_data]
  constructor
  · intro h
    have := lawT.inj (keyT hp) (by rw [h]; exact keyT hq)
    simp only [Value.agg.injEq, Array.mk.injEq, List.cons.injEq, Value.string.injEq, Value.int.injEq] at this
    exact ⟨by rw [this.1], this.2.1.2.symm⟩
  · rintro ⟨h1, h2⟩
    unfold kT; rw [h1, h2]
theorem kT_key (p : Pc) : WideAt.IsKeyLit (kT p) := by unfold kT WideAt.IsKeyLit; trivial
/-- what was met, as a map has it -/
structure Met (S : List Pc) (D : DataW Unit) : Prop where
  map : IsMap D
  has : ∀ p, mayB p = true → Maps.has D (kT p) = hasB S p
theorem Met.start : Met [] (.map []) := ⟨⟨_, rfl⟩, fun _ _ => rfl⟩
theorem Met.put {S : List Pc} {D : DataW Unit} (h : Met S D) (q : Pc) (hq : mayB q = true) (d : DataW Unit) : Met (S ++ [q]) (D.put (kT q) d) := by
  refine ⟨?_, fun p hp => ?_⟩
  · obtain ⟨l, rfl⟩ := h.map
    exact ⟨_, rfl⟩
  · have e : hasB (S ++ [q]) p = (hasB S p || likeB q p) := by unfold hasB; rw [List.any_append]; simp only [List.any_cons, List.any_nil, Bool.or_false]
    rw [e]
    by_cases hk : kT p = kT q
    · rw [hk, has_put_same h.map (kT_key q), (kT_like hp hq).1 hk, Bool.or_true]
    · rw [has_put_other hk, h.has p hp]
      have : likeB q p = false := by
        cases hb : likeB q p with
        | false => rfl
        | true => exact absurd ((kT_like hp hq).2 hb) hk
      rw [this, Bool.or_false]
abbrev OMt (b n : Nat) (D : DataW Unit) (w : World) : Prop := w.ownsMap Try.prog 71 (unitElem (H := Unit)) b n D
theorem OMt.on {b n : Nat} {D : DataW Unit} {w w' : World} (h : OMt b n D w) (hb : Below w.heap.size w w') : OMt b n D w' := by
  obtain ⟨es, clock, h1, h2⟩ := h
  exact ⟨es, clock, (hb.block b (Array.getElem?_eq_some_iff.1 h1).1).trans h1, h2⟩
theorem OMt.lt {b n : Nat} {D : DataW Unit} {w : World} (h : OMt b n D w) : b < w.heap.size := by
  obtain ⟨es, clock, h1, h2⟩ := h
  exact (Array.getElem?_eq_some_iff.1 h1).1
theorem zeroU (w : World) : (zeroValue 68).run Try.prog w = .ok (.agg #[]) w := by kernel_rfl
theorem OMt.look {S : List Pc} {D : DataW Unit} {b n : Nat} {w : World} (h : OMt b n D w) (M : Met S D) {p : Pc} (hp : mayB p = true) :
    (Instr.lookup 67 (.map (some b)) (.agg #[.string p.name, .int .i64 p.hart]) true).run Try.prog w = .ok (.tuple #[.agg #[], .bool (hasB S p)]) w := by
  obtain ⟨v, ps, hrun, hv⟩ := World.ownsMap.look_ok h lawT Try.underlying67 (zeroU w) unitElem_mk (keyT hp)
  obtain ⟨rfl, _⟩ := unitElem_inv hv
  rw [M.has p hp] at hrun
  exact hrun
theorem OMt.put {S : List Pc} {D : DataW Unit} {b n : Nat} {w : World} (h : OMt b n D w) (M : Met S D) (hn : n < 100000) {p : Pc} (hp : mayB p = true) :
    ∃ w', (Instr.mapUpdate 67 (.map (some b)) (.agg #[.string p.name, .int .i64 p.hart]) (.agg #[])).run Try.prog w = .ok () w' ∧ (OMt b (n + 1) (D.put (kT p) (.agg [])) w' ∧ Met (S ++ [p]) (D.put (kT p) (.agg []))) ∧ w.mapTurned w' b := by
  obtain ⟨w', h1, h2, h3⟩ := World.ownsMap.store h lawT Try.underlying67 (by unfold maxLen; omega) (keyT hp) (unitElem_mk (H := Unit))
  exact ⟨w', h1, ⟨h2, M.put p hp _⟩, h3⟩
/-- how far counting has come -/
structure Cs (l : List Pc) (k M : Nat) (w W : World) : Prop where
  below : Below w.heap.size w W
  le : w.heap.size ≤ M
  map : ∃ n D, n ≤ k ∧ OMt M n D W ∧ Met (l.take k) D
theorem Cs.on {l : List Pc} {k M : Nat} {w W W2 : World} (h : Cs l k M w W) (hb : Below W.heap.size W W2) : Cs l k M w W2 := by
  obtain ⟨n, D, h1, h2, h3⟩ := h.map
  exact ⟨h.below.trans (hb.mono h.below.size), h.le, n, D, h1, h2.on hb, h3⟩
theorem Cs.look {l : List Pc} {k M : Nat} {w W : World} (h : Cs l k M w W) {p : Pc} (hp : mayB p = true) :
    (Instr.lookup 67 (.map (some M)) (.agg #[.string p.name, .int .i64 p.hart]) true).run Try.prog W = .ok (.tuple #[.agg #[], .bool (hasB (l.take k) p)]) W := by
  obtain ⟨n, D, h1, h2, h3⟩ := h.map
  exact h2.look h3 hp
theorem Cs.put {l : List Pc} {k M : Nat} {w W : World} (h : Cs l k M w W) (hk : k < l.length) (h0 : k < 100000) (hp : mayB l[k] = true) :
    ∃ W', (Instr.mapUpdate 67 (.map (some M)) (.agg #[.string l[k].name, .int .i64 l[k].hart]) (.agg #[])).run Try.prog W = .ok () W' ∧ Cs l (k + 1) M w W' := by
  obtain ⟨n, D, h1, h2, h3⟩ := h.map
  obtain ⟨W', a, ⟨b, c⟩, d⟩ := h2.put h3 (by omega) hp
  refine ⟨W', a, ⟨h.below.grown d.grown h.below.size (fun j hj => by cases hj; exact h.le), h.le, n + 1, _, by omega, b, ?_⟩⟩
  rw [List.take_succ_eq_append_getElem hk]; exact c
/-- a piece in a box of its own -/
structure Bx (p : Pc) (g : Nat) (W : World) : Prop where
  n : W.cell? ⟨g, 0, none⟩ = some (.string p.name)
  s : W.cell? ⟨g, 1, none⟩ = some (.int .i64 p.size)
  h : W.cell? ⟨g, 2, none⟩ = some (.int .i64 p.hart)
  lt : g < W.heap.size
theorem Bx.on {p : Pc} {g : Nat} {W W2 : World} (h : Bx p g W) (hb : Below W.heap.size W W2) : Bx p g W2 :=
  ⟨(hb.cell (p := ⟨g, 0, none⟩) h.lt).trans h.n, (hb.cell (p := ⟨g, 1, none⟩) h.lt).trans h.s, (hb.cell (p := ⟨g, 2, none⟩) h.lt).trans h.h, Nat.lt_of_lt_of_le h.lt hb.size⟩
theorem Bx.new (p : Pc) (W : World) (T : TypeId) : Bx p W.heap.size (W.alloc (.cells #[.string p.name, .int .i64 p.size, .int .i64 p.hart] T)) := ⟨by simp, by simp, by simp, by simp⟩
theorem one_below (w : World) (o : Obj) : Below w.heap.size w (w.alloc o) := (Below.refl _ _).alloc (Nat.le_refl _) _
theorem two_below (w : World) (o1 o2 : Obj) : Below w.heap.size w ((w.alloc o1).alloc o2) := ((Below.refl _ _).alloc (Nat.le_refl _) _).alloc (by simp) _
/-- counting, whole -/
def cntV (l : List Pc) : Value := .tuple #[.int .i64 (sizeS l), .int .i64 (ckE l)]
set_option maxHeartbeats 2000000 in
set_option maxRecDepth 100000 in
theorem count_any (a : Option Addr) (c : Nat) (l : List Pc) (w : World) (hn : l.length ≤ maxLen) (hl : Sl w a l) (hw : ∀ p ∈ l, PcW p) :
    Calls Try.prog 32 #[.slice a l.length c] w fun e w' => e = .returned (cntV l) ∧ Below w.heap.size w w' := by
  have hmm := @run_makeMap Try.prog
  have HL := Lib.hid hl
  have HW := Lib.hid hw
  unfold maxLen at hn
  clear hl hw
  go_enter Try.func32, Try.ntmps32
  go_wp2
  clear hmm
  go_loopw [5, 14] (fun vd vi wr => ∃ k : Nat, k ≤ l.length ∧ vi = .int .i64 k ∧ ∃ dd : Int, vd = .int .i64 dd ∧ Hid (OkUp l k ∧ dd = sumS (l.take k)) ∧ Hid (Cs l k w.heap.size w wr)) (fun _ vi _ => l.length - (intOf vi).toNat)
  case atStart => exact ⟨0, Nat.zero_le _, rfl, 0, rfl, Lib.hid ⟨OkUp.zero l, rfl⟩, Lib.hid ⟨one_below _ _, Nat.le_refl _, 0, _, Nat.le_refl _, World.ownsMap_made _ _ _ _, Met.start⟩⟩
  case round =>
    obtain ⟨k, hk, rfl, dd, rfl, HK, HC⟩ := hrel
    have kfew : k ≤ 1024 := few HK.out.1 hk
    have d1 : 0 ≤ dd := by rw [HK.out.2]; exact sum_nonneg HK.out.1 k (Nat.le_refl _) hk
    have d2 : dd ≤ 65536 := by rw [HK.out.2]; exact sum_le HK.out.1 hk
    by_cases hlt : k < l.length
    · obtain ⟨b, off, ha, hbl, hP⟩ := Sl.at_ (HL.out.below HC.out.below) hlt
      subst ha
      obtain ⟨p, hp⟩ : ∃ p, p = l[k] := ⟨_, rfl⟩
      have HPW := Lib.hid (show PcW p by rw [hp]; exact HW.out _ (List.getElem_mem hlt))
      rw [← hp] at hP
      have HP := Lib.hid hp
      clear hp
      obtain ⟨n1, n2, n3⟩ := hP
      have r1 : IntKind.i64.wrap ((k : Int) + 1) = (k : Int) + 1 := by rw [IntKind.wrap_i64]; omega
      go_wp2_with fail
      clear n1 n2 n3
      have B1 : Hid (Bx p (wr.heap.size + 1) ((wr.alloc (.cells #[.string p.name, .int .i64 p.size, .int .i64 p.hart] 32)).alloc (.cells #[.string p.name, .int .i64 p.size, .int .i64 p.hart] 63))) := Lib.hid (by have := Bx.new p (wr.alloc (.cells #[.string p.name, .int .i64 p.size, .int .i64 p.hart] 32)) 63; simpa using this)
      obtain ⟨q, hq⟩ : ∃ q, mayB p = q := ⟨_, rfl⟩
      have HQ := Lib.hid hq
      have hmb := mayBe_any p ((wr.alloc (.cells #[.string p.name, .int .i64 p.size, .int .i64 p.hart] 32)).alloc (.cells #[.string p.name, .int .i64 p.size, .int .i64 p.hart] 63))
      rw [hq] at hmb
      clear hq
      refine hmb.mono ?_
      clear hmb
      rintro e w1 ⟨rfl, hb⟩
      have C1 := Lib.hid (HC.out.on ((two_below wr _ _).trans (hb.mono (by simp; omega))))
      have B2 := Lib.hid (B1.out.on hb)
      obtain ⟨g, hg⟩ : ∃ g, wr.heap.size + 1 = g := ⟨_, rfl⟩
      rw [hg] at B2 ⊢
      clear HC B1 hb hg
      have HE : Hid (errAt l k = errP l k p) := Lib.hid (by rw [errAt_lt hlt, ← HP.out])
      cases q with
      | false =>
        have HV : Hid (cntV l = .tuple #[.int .i64 0, .int .i64 2]) := Lib.hid (by
          have he : errAt l k = 2 := by rw [HE.out]; unfold errP; rw [if_pos HQ.out]
          have h1 := ck_bad HK.out.1 hlt he (by omega)
          unfold cntV; rw [h1, sizeS_bad (by rw [h1]; omega)])
        go_wp2
        go_ret2
        exact ⟨by rw [HV.out]; rfl, C1.out.below⟩
      | true =>
        obtain ⟨n1, n2, n3, n4⟩ := B2.out
        go_wp2_with fail
        clear n1 n2 n3 n4
        refine (title_any p _).mono ?_
        rintro e w2 ⟨rfl, hb⟩
        have C2 := Lib.hid (C1.out.on hb)
        have B3 := Lib.hid (B2.out.on hb)
        clear C1 B2 hb
        have hlk := C2.out.look HQ.out
        obtain ⟨r, hr⟩ : ∃ r, hasB (l.take k) p = r := ⟨_, rfl⟩
        have HR := Lib.hid hr
        rw [hr] at hlk
        clear hr
        cases r with
        | true =>
          have HV : Hid (cntV l = .tuple #[.int .i64 0, .int .i64 8]) := Lib.hid (by
            have he : errAt l k = 8 := by rw [HE.out]; unfold errP; rw [if_neg (by rw [HQ.out]; simp), if_pos HR.out]
            have h1 := ck_bad HK.out.1 hlt he (by omega)
            unfold cntV; rw [h1, sizeS_bad (by rw [h1]; omega)])
          go_wp2
          go_ret2
          exact ⟨by rw [HV.out]; rfl, (C2.out.on (one_below _ _)).below⟩
        | false =>
          obtain ⟨n1, n2, n3, n4⟩ := (B3.out.on (one_below w2 (.cells #[] 68)))
          have s1 := (mayB_facts HQ.out).2.2.1
          have s2 := (mayB_facts HQ.out).2.2.2.1
          have HS : Hid (sumS (l.take (k + 1)) = dd + p.size) := Lib.hid (by rw [sumS_take hlt, ← HK.out.2, ← HP.out])
          by_cases hfull : 1024 ≤ k ∨ 65536 < dd + p.size
          · have HV : Hid (cntV l = .tuple #[.int .i64 0, .int .i64 7]) := Lib.hid (by
              have he : errAt l k = 7 := by rw [HE.out]; unfold errP; rw [if_neg (by rw [HQ.out]; simp), if_neg (by rw [HR.out]; simp), if_pos (by rw [HS.out]; exact hfull)]
              have h1 := ck_bad HK.out.1 hlt he (by omega)
              unfold cntV; rw [h1, sizeS_bad (by rw [h1]; omega)])
            by_cases hf1 : 1024 ≤ k
            · have z1 : (1024 : Int) ≤ (k : Int) := by omega
              clear hfull
              go_wp2
              go_ret2
              exact ⟨by rw [HV.out]; rfl, (C2.out.on (one_below _ _)).below⟩
            · have z1 : ¬ (1024 : Int) ≤ (k : Int) := by omega
              have z2 : (65536 : Int) < dd + p.size := by omega
              clear hfull
              go_wp2
              go_ret2
              exact ⟨by rw [HV.out]; rfl, (C2.out.on (one_below _ _)).below⟩
          · have z1 : ¬ (1024 : Int) ≤ (k : Int) := by omega
            have z2 : ¬ (65536 : Int) < dd + p.size := by omega
            have HE0 : Hid (errAt l k = 0) := Lib.hid (by rw [HE.out]; unfold errP; rw [if_neg (by rw [HQ.out]; simp), if_neg (by rw [HR.out]; simp), if_neg (by rw [HS.out]; exact hfull)])
            clear hfull
            go_wp2_with fail
            clear n1 n2 n3 n4
            refine (title_any p _).mono ?_
            rintro e w3 ⟨rfl, hb⟩
            have C3 := Lib.hid ((C2.out.on (one_below w2 (.cells #[] 68))).on hb)
            clear C2 B3 hb
            obtain ⟨w4, hup, C4⟩ := C3.out.put hlt (by omega) (by rw [← HP.out]; exact HQ.out)
            rw [← HP.out] at hup
            go_wp2
            go_roundw
            case rel => exact ⟨k + 1, by omega, by go_num, dd + p.size, rfl, Lib.hid ⟨HK.out.1.succ HE0.out, HS.out.symm⟩, Lib.hid C4⟩
            case measure => simp [intOf]; omega
    · obtain rfl : k = l.length := by omega
      have HV : Hid (cntV l = .tuple #[.int .i64 dd, .int .i64 0]) := Lib.hid (by
        have h1 := ck_good HK.out.1
        unfold cntV; rw [h1, sizeS_good h1, HK.out.2, List.take_length])
      go_wp2
      go_ret2
      exact ⟨by rw [HV.out]; rfl, HC.out.below⟩
theorem Check_any (a : Option Addr) (c : Nat) (l : List Pc) (w : World) (hn : l.length ≤ maxLen) (hl : Sl w a l) (hw : ∀ p ∈ l, PcW p) :
    Calls Try.prog 13 #[.slice a l.length c] w fun e w' => e = .returned (.int .i64 (ckE l)) ∧ Below w.heap.size w w' := by
  have H : Calls Try.prog 32 #[.slice a l.length c] w fun e w' => e = .returned (.tuple #[.int .i64 (sizeS l), .int .i64 (ckE l)]) ∧ Below w.heap.size w w' := count_any a c l w hn hl hw
  generalize sizeS l = sz at H ⊢
  generalize ckE l = ce at H ⊢
  go_enter Try.func13, Try.ntmps13
  go_wp2_with (go_at_call 32; (with_reducible refine H.mono ?_); rintro e w' ⟨rfl, hb⟩; have HB := Lib.hid hb; clear hb)
  go_ret
  exact ⟨rfl, HB.out⟩
theorem Size_any (a : Option Addr) (c : Nat) (l : List Pc) (w : World) (hn : l.length ≤ maxLen) (hl : Sl w a l) (hw : ∀ p ∈ l, PcW p) :
    Calls Try.prog 14 #[.slice a l.length c] w fun e w' => e = .returned (.int .i64 (sizeS l)) ∧ Below w.heap.size w w' := by
  have H : Calls Try.prog 32 #[.slice a l.length c] w fun e w' => e = .returned (.tuple #[.int .i64 (sizeS l), .int .i64 (ckE l)]) ∧ Below w.heap.size w w' := count_any a c l w hn hl hw
  generalize sizeS l = sz at H ⊢
  generalize ckE l = ce at H ⊢
  go_enter Try.func14, Try.ntmps14
  go_wp2_with (go_at_call 32; (with_reducible refine H.mono ?_); rintro e w' ⟨rfl, hb⟩; have HB := Lib.hid hb; clear hb)
  go_ret
  exact ⟨rfl, HB.out⟩
end Go.Proofs.Ythkakikigccaaaa
