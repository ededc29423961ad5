/-
  Proved here: the document's All answers all events by number, their lists in new memory; nothing that was there is changed. Condition: a light candidate that may be, whose pairs are ints.
  (With it: Proved here: the document's Check tells whether a candidate may be; nothing that was there is changed. Condition: a light candidate whose pairs are ints.)
-/
import Derived.Test.YtgkiaeddlahngaaGreatDoorRf09Flat
import Derived.Test.YtgkiaeddlahngaaGreatDoorRf07Row
import Derived.Test.YtgkiaeddlahngaaGreatDoorRf09Pure
namespace Go.Proofs.YtgkiaeddlahngaaGreatDoor
set_option linter.unusedVariables false
set_option linter.unusedSimpArgs false
open Go.RowKit
attribute [local go_sem ↓] fold_E fold_SE

theorem rrow_v {w : World} {a : Option Addr} {n c : Nat} {ev : Nat → Ev} {el : Nat → El} (hart : Int) (h : RowV w (.slice a n c) n ev el) (hs : n ≤ 60 ∧ ∀ k, k < n → small (el k)) (hp : ∀ k, k < n → PairFits (ev k)) (r : Bool) (hr : (rowL hart ev el n).isSome = r) :
    Calls Tryz.prog 29 #[.int .i64 hart, .slice a n c] w fun e w' => RowIs w r e w' := by
  obtain ⟨a', c', e, _, h⟩ := h
  injection e with e1 e2 e3
  subst e1 e3
  subst hr
  rcases h with rfl | ⟨b, off, rfl, h⟩
  · exact rrow_nil hart a c w
  · exact rrow_some hart n b off c ev el w (by omega) (h.evs (fun k hk => (hs.2 k hk).n)) hp
/-- a row of all events, their lists in new memory -/
structure Ra (c : Cd) (es : List Ev) (v : Value) (base : Nat) (w : World) : Prop where
  own : w.ownsRow base 48 14 v c.N (flat es)
  cp : Cp (fun n => (c.at n).1) (fun n => (c.at n).2) es w
  len : es.length = c.N
theorem Ra.on {c : Cd} {es : List Ev} {v : Value} {base : Nat} {w w' : World} (h : Ra c es v base w) (hb : Below w.heap.size w w') : Ra c es v base w' := ⟨own_on h.own hb, h.cp.on hb, h.len⟩
def evAtN (es : List Ev) (k : Nat) : Ev := es.getD k zeroEv
theorem Ra.rall {c : Cd} {es : List Ev} {v : Value} {base : Nat} {w : World} (h : Ra c es v base w) (hpos : 0 < c.N) : ∃ g cap, v = .slice (some ⟨g, 0, none⟩) c.N cap ∧ c.N ≤ cap ∧ RAll c (evAtN es) g 0 w := by
  have hown := h.own
  rcases h.own.2 with ⟨_, h0⟩ | ⟨g, cap, cur, rfl, hb, hgg, hcap, _⟩
  · omega
  · refine ⟨g, cap, rfl, hcap, ⟨fun k hk j u hu => ?_, fun k hk => ?_, fun k hk => ?_, fun _ => (Array.getElem?_eq_some_iff.1 hgg).1⟩⟩
    · have he : es[k]? = some (evAtN es k) := by
        unfold evAtN
        rw [List.getD_eq_getElem?_getD, List.getElem?_eq_getElem (by rw [h.len]; exact hk)]; rfl
      have hf := flat_at es k j _ u he (by unfold Ev.row; simpa using hu)
      have hc := hown.cells (g := g) (by simp [Value.ownBlock]) (k * 14 + j) u hf
      have ha : (⟨g, 0, none⟩ : Addr).add (k * 14 + j) = ⟨g, 0 + k * 14 + j, none⟩ := by unfold Addr.add; split <;> simp_all
      rw [ha] at hc
      exact hc
    · refine h.cp.like k _ ?_
      unfold evAtN
      rw [List.getD_eq_getElem?_getD, List.getElem?_eq_getElem (by rw [h.len]; exact hk)]; rfl
    · refine (h.cp.reads k _ ?_).flat
      unfold evAtN
      rw [List.getD_eq_getElem?_getD, List.getElem?_eq_getElem (by rw [h.len]; exact hk)]; rfl
/-- the candidate's box and the row of all events -/
structure Rg (c : Cd) (q : Cv) (es : List Ev) (v : Value) (base : Nat) (w W : World) : Prop where
  lk : Lk c q w W
  ra : Ra c es v base W
theorem Rg.on {c : Cd} {q : Cv} {es : List Ev} {v : Value} {base : Nat} {w W W2 : World} (h : Rg c q es v base w W) (hb : Below W.heap.size W W2) : Rg c q es v base w W2 := ⟨h.lk.on hb, h.ra.on hb⟩
theorem mem_like {c : Cd} {es : List Ev} {g off : Nat} {w : World} (h : RAll c (evAtN es) g off w) (k : Nat) (hk : k < c.N) : memE (evAtN es k) = memE (c.at k).1 := by
  obtain ⟨a, d, y, e⟩ := h.like k hk
  rw [e]; rfl
theorem load0 {c : Cd} {E : Nat → Ev} {g : Nat} {w : World} (h : RAll c E g 0 w) (k : Nat) (hk : k < c.N) : (LoadE (.pointer (some ⟨g, k * 14, none⟩))).run Tryz.prog w = .ok (E k).V w := by
  have := h.load k hk
  rwa [Nat.zero_add] at this
theorem CheckIs.no {w w' : World} {r : Bool} (h : r = false) (hb : Below w.heap.size w w') : CheckIs w r (.returned (.int .i64 2)) w' := ⟨by rw [h]; rfl, hb⟩
theorem CheckIs.yes {w w' : World} {r : Bool} (h : r = true) (hb : Below w.heap.size w w') : CheckIs w r (.returned (.int .i64 0)) w' := ⟨by rw [h]; rfl, hb⟩
set_option maxRecDepth 100000 in
set_option maxHeartbeats 16000000 in
theorem rcheck9_any (c : Cd) (q : Cv) (w : World) (hL : Lt c) (hX : ∀ h, h < c.nh → ∀ k, k < c.len h → PairFits (c.ev h k)) (h : CAt c q w) : Calls Tryz.prog 8 #[cdV c q] w fun e w' => CheckIs w c.may e w' := by
  have S0 := Lib.hid (Lk.start h)
  have HL := Lib.hid hL
  have HX := Lib.hid hX
  have hN60 := hL.n
  have hnh9 := hL.nh
  have hod := hL.od
  obtain ⟨r, hr⟩ : ∃ r, Hid (riseL c.fs c.fs.length = r) := ⟨_, Lib.hid rfl⟩
  have KC : Hid (∀ w0, CAt c q w0 → Calls Tryz.prog 28 #[.slice q.aF c.fs.length q.cF] w0 fun e w' => SaysB w0 r e w') := Lib.hid (fun w0 h0 => by rw [← hr.out]; exact rcells_any _ c.fs w0 h0.first (by have := hL.fs; omega) (fun j hj => (hL.fw j hj).1.1))
  clear h hL hX
  obtain ⟨x0, x1, x2, x3⟩ := S0.out.box.facts
  go_enter Tryz.func8, Tryz.ntmps8
  cases r with
  | false =>
    go_wp2_with (go_at_call 28; (with_reducible refine (KC.out _ S0.out.at_).mono ?_); rintro e' w1 ⟨rfl, hb⟩; have S1 := Lib.hid (S0.out.on hb); clear hb x0 x1 x2 x3)
    go_ret
    exact CheckIs.no (may_no_rise hr.out) S1.out.below
  | true =>
    by_cases h1 : c.nh < 1
    · have d1 : decide ((c.nh : Int) < 1) = true := by simp; omega
      go_wp2_with (go_at_call 28; (with_reducible refine (KC.out _ S0.out.at_).mono ?_); rintro e' w1 ⟨rfl, hb⟩; have S1 := Lib.hid (S0.out.on hb); clear hb x0 x1 x2 x3; obtain ⟨x0, x1, x2, x3⟩ := S1.out.box.facts)
      go_ret
      exact CheckIs.no (may_no_few h1) S1.out.below
    have d1 : decide ((c.nh : Int) < 1) = false := by simp; omega
    by_cases h8 : 8 < c.nh
    · have d8 : decide ((8 : Int) < (c.nh : Int)) = true := by simp; omega
      go_wp2_with (go_at_call 28; (with_reducible refine (KC.out _ S0.out.at_).mono ?_); rintro e' w1 ⟨rfl, hb⟩; have S1 := Lib.hid (S0.out.on hb); clear hb x0 x1 x2 x3; obtain ⟨x0, x1, x2, x3⟩ := S1.out.box.facts)
      go_ret
      exact CheckIs.no (may_no_many h8) S1.out.below
    have d8 : decide ((8 : Int) < (c.nh : Int)) = false := by simp; omega
    go_wp2_with (go_at_call 28; (with_reducible refine (KC.out _ S0.out.at_).mono ?_); rintro e' w1 ⟨rfl, hb⟩; have S1 := Lib.hid (S0.out.on hb); clear hb x0 x1 x2 x3; obtain ⟨x0, x1, x2, x3⟩ := S1.out.box.facts)
    go_loopw [3, 4] (fun vn vi wr => ∃ (h : Nat), h ≤ c.nh ∧ vi = .int .i64 h ∧ vn = .int .i64 (baseL c.len h : Nat) ∧ Hid (rowsL c h = true) ∧ Hid (Lk c q w wr)) (fun _ vi _ => c.nh - (intOf vi).toNat)
    case atStart => exact ⟨0, Nat.zero_le _, rfl, rfl, Lib.hid rfl, S1⟩
    case round =>
      clear x0 x1 x2 x3 d1 d8
      obtain ⟨h, hh, rfl, rfl, hR, hK⟩ := hrel
      obtain ⟨x0, x1, x2, x3⟩ := hK.out.box.facts
      by_cases hlt : h < c.nh
      · obtain ⟨b, off, a2, c2, hq, hc, _, hrow⟩ := hK.out.at_.harts.row h hlt
        have KR := Lib.hid (fun r hr => rrow_v (w := wr) (h : Int) hrow (HL.out.small h hlt) (HX.out h hlt) r hr)
        have hbs : baseL c.len h + c.len h ≤ 60 := by have := baseL_lt c.len h c.nh hlt; have : baseL c.len c.nh ≤ 60 := hN60; omega
        obtain ⟨B, hB⟩ : ∃ B, baseL c.len h = B := ⟨_, rfl⟩
        have HB1 : Hid (baseL c.len (h + 1) = B + c.len h) := Lib.hid (by rw [← hB]; rfl)
        rw [hB] at hbs ⊢
        rw [hq] at x1
        have hh0 : (0 : Int) ≤ (h : Int) := by omega
        have hhi : (h : Int) < (c.nh : Int) := by omega
        have d4 : decide ((4096 : Int) < (B : Int) + (c.len h : Int)) = false := by simp; omega
        clear hrow hB hq
        cases hb : rowB c h with
        | true =>
          have HY := Lib.hid (all_next (rowB c) h hR.out hb)
          have KR2 := Lib.hid (KR.out true hb)
          clear hb KR
          go_wp2_with (go_at_call 29; (with_reducible refine (KR2.out).mono ?_); rintro e' w2 ⟨rfl, hb⟩; have K2 := Lib.hid (hK.out.on hb); clear hb)
          go_roundw
          case rel => exact ⟨h + 1, by omega, by go_num, by rw [HB1.out]; go_num, HY, K2⟩
          case measure => simp [intOf]; omega
        | false =>
          have HN := Lib.hid (may_no_row h hlt hb)
          have KR2 := Lib.hid (KR.out false hb)
          clear hb KR
          go_wp2_with (go_at_call 29; (with_reducible refine (KR2.out).mono ?_); rintro e' w2 ⟨rfl, hb⟩; have K2 := Lib.hid (hK.out.on hb); clear hb)
          go_ret
          exact CheckIs.no HN.out K2.out.below
      · obtain rfl : h = c.nh := by omega
        have HBN : Hid (baseL c.len c.nh = c.N) := Lib.hid rfl
        rw [HBN.out]
        have KF := Lib.hid (fun w0 h0 => flat_any c q w0 hnh9 hN60 (fun h hh j hj => ((HL.out.small h hh).2 j hj).n) h0)
        by_cases hl : c.fr.length = c.N
        rotate_left
        · have d2 : ((c.fr.length : Int) != (c.N : Int)) = true := by simpa using (show ¬ (c.fr.length : Int) = (c.N : Int) by omega)
          have HN := Lib.hid (may_no_len hl)
          clear hl
          go_wp2_with (go_at_call 30; (with_reducible refine (KF.out _ hK.out.at_).mono ?_); rintro e' w2 ⟨v, es, rfl, hlen, hown, hcp, hb⟩; have K2 := Lib.hid (hK.out.on hb); clear hb hlen hown hcp x0 x1 x2 x3; obtain ⟨x0, x1, x2, x3⟩ := K2.out.box.facts)
          go_ret
          exact CheckIs.no HN.out K2.out.below
        have d2 : ((c.fr.length : Int) != (c.N : Int)) = false := by simp [hl]
        have HFR := Lib.hid hl
        clear hl
        go_upto_region 13 with (go_at_call 30; (with_reducible refine (KF.out _ hK.out.at_).mono ?_); rintro e' w2 ⟨v, es, rfl, hlen, hown, hcp, hb⟩; have K2 : Hid (Rg c q es v (wr.heap.size + 1) w w2) := Lib.hid ⟨hK.out.on hb, hown, hcp, hlen⟩; clear hb hlen hown hcp x0 x1 x2 x3; obtain ⟨x0, x1, x2, x3⟩ := K2.out.lk.box.facts)
        have hNh : 0 < c.nh := by omega
        have hN8 : c.nh ≤ 8 := by omega
        have HYR := Lib.hid hR.out
        obtain ⟨base, hbase⟩ : ∃ base, Hid (wr.heap.size + 1 = base) := ⟨_, Lib.hid rfl⟩
        rw [hbase.out] at K2
        clear x0 x1 x2 x3 d2 KF
        go_wp2
        go_loopw [6, 7] (fun vm vi wr => ∃ (i : Nat), i ≤ c.N ∧ vi = .int .i64 i ∧ vm = .int .i64 (countW (fun n => memE (c.at n).1) i : Nat) ∧ Hid (foundL c i = true) ∧ Hid (Rg c q es v base w wr)) (fun _ vi _ => c.N - (intOf vi).toNat)
        case atStart => exact ⟨0, Nat.zero_le _, rfl, rfl, Lib.hid rfl, K2⟩
        case round =>
          obtain ⟨i, hi, rfl, rfl, hFd, hG⟩ := hrel
          obtain ⟨x0, x1, x2, x3⟩ := hG.out.lk.box.facts
          have hcw := countW_le (fun n => memE (c.at n).1) i
          by_cases hil : i < c.N
          · have hiN : i < c.N := hil
            obtain ⟨g, cap, rfl, hcap, hra⟩ := hG.out.ra.rall (by omega)
            have HA := Lib.hid hra
            have KR := Lib.hid (fun (r : Bool) (hr : findB c i = r) => (show Calls Tryz.prog 31 #[cdV c q, .slice (some ⟨g, 0, none⟩) c.N cap, .int .i64 (i : Int)] wr (fun e w' => SaysB wr r e w') by rw [← hr]; exact rfrom_any c q (evAtN es) g 0 cap i wr hG.out.lk.at_ hra hiN HFR.out (by have := HL.out.fs; omega)))
            obtain ⟨m, hm⟩ : ∃ m, Hid (memE (c.at i).1 = m) := ⟨_, Lib.hid rfl⟩
            have HC : Hid (countW (fun n => memE (c.at n).1) (i + 1) = countW (fun n => memE (c.at n).1) i + oneN m) := Lib.hid (by rw [← hm.out]; rfl)
            have KM := Lib.hid (fun w0 => rMemory_b (evAtN es i) m (by rw [mem_like hra i hiN]; exact hm.out) w0)
            obtain ⟨L, hLL⟩ : ∃ L, countW (fun n => memE (c.at n).1) i = L := ⟨_, rfl⟩
            rw [hLL] at hcw HC ⊢
            have hni : (i : Int) < (c.N : Int) := by omega
            have hn0 : (0 : Int) ≤ (i : Int) := by omega
            clear hra hcap hLL
            cases hf : findB c i with
            | false =>
              have HN := Lib.hid (may_no_from i hiN hf)
              have KR2 := Lib.hid (KR.out false hf)
              clear KR hf
              go_wp2_with (go_at_call 31; (with_reducible refine (KR2.out).mono ?_); rintro e' w3 ⟨rfl, hb⟩; have K3 := Lib.hid (hG.out.on hb); clear hb)
              go_ret
              exact CheckIs.no HN.out K3.out.lk.below
            | true =>
              have HY := Lib.hid (all_next (findB c) i hFd.out hf)
              have KR2 := Lib.hid (KR.out true hf)
              clear KR hf
              cases m with
              | true =>
                go_wp2_with (first | (go_at_call 31; (with_reducible refine (KR2.out).mono ?_); rintro e' w3 ⟨rfl, hb⟩; have K3 := Lib.hid (hG.out.on hb); have cl := load0 (HA.out.on hb) i hil; clear hb) | (go_at_call 23; (with_reducible refine (KM.out _).mono ?_); rintro e' w4 ⟨rfl, hb⟩; have K4 := Lib.hid (K3.out.on hb); clear hb cl))
                go_roundw
                case rel => exact ⟨i + 1, by omega, by go_num, by rw [HC.out]; simp [oneN], HY, K4⟩
                case measure => simp [intOf]; omega
              | false =>
                go_wp2_with (first | (go_at_call 31; (with_reducible refine (KR2.out).mono ?_); rintro e' w3 ⟨rfl, hb⟩; have K3 := Lib.hid (hG.out.on hb); have cl := load0 (HA.out.on hb) i hil; clear hb) | (go_at_call 23; (with_reducible refine (KM.out _).mono ?_); rintro e' w4 ⟨rfl, hb⟩; have K4 := Lib.hid (K3.out.on hb); clear hb cl))
                go_roundw
                case rel => exact ⟨i + 1, by omega, by go_num, by rw [HC.out]; rfl, HY, K4⟩
                case measure => simp [intOf]; omega
          · obtain rfl : i = c.N := by omega
            have hm0 : Hid (countW (fun n => memE (c.at n).1) c.N = countW (waitsL c 0) c.N) := Lib.hid rfl
            have hOI := Lib.hid (fun hO => ordered_is c hO)
            obtain ⟨L, hLL⟩ : ∃ L, countW (fun n => memE (c.at n).1) c.N = L := ⟨_, rfl⟩
            rw [← hm0.out, hLL] at hOI
            rw [hLL] at hcw ⊢
            have hmk := make_bools c.N hN60
            have HAll := Lib.hid (fun r (hr2 : orderedB c = r) => may_yes hNh hN8 hN60 hr.out HYR.out HFR.out hFd.out r hr2)
            clear hLL hm0
            obtain ⟨W0, rfl⟩ : ∃ W0 : World, W0 = wr := ⟨_, rfl⟩
            go_upto_region 22 with fail
            clear x0 x1 x2 x3 hmk
            go_wp2
            go_loopw [9] (fun vj wr => ∃ (j : Nat), j ≤ c.od.length ∧ vj = .int .i64 j ∧ Hid (ordL c j = true) ∧ Hid (BoolsAt (seenL c j) c.N W0.heap.size wr) ∧ Hid (Below W0.heap.size W0 wr)) (fun vj _ => c.od.length - (intOf vj).toNat)
            case atStart => exact ⟨0, Nat.zero_le _, rfl, Lib.hid rfl, Lib.hid (BoolsAt.ext (f := fun _ => false) (show _ = _ from Array.getElem?_push_size) (fun k _ => rfl)), Lib.hid (box_below _ _)⟩
            case round =>
              obtain ⟨j, hj, rfl, hR2, hW2, hBB⟩ := hrel
              have G2 := Lib.hid (hG.out.on hBB.out)
              obtain ⟨x0, x1, x2, x3⟩ := G2.out.lk.box.facts
              by_cases hjl : j < c.od.length
              · obtain ⟨b, off, cO, hq, ho⟩ : ∃ b off cO, Value.slice q.aO c.od.length q.cO = .slice (some ⟨b, off, none⟩) c.od.length cO ∧ ∀ j, j < c.od.length → wr.cell? ⟨b, off + j, none⟩ = some (.int .i64 (atI c.od j)) := by
                  rcases G2.out.lk.at_.order with ⟨_, h0⟩ | ⟨b, off, c2, e, _, _, _, h4⟩
                  · rw [h0] at hjl; simp at hjl
                  · exact ⟨b, off, c2, e, h4⟩
                have o9 := ho j hjl
                rw [hq] at x3
                obtain ⟨F, hF⟩ : ∃ F, Hid (atI c.od j = F) := ⟨_, Lib.hid rfl⟩
                have HST := Lib.hid (fun (h : ordAt c j = false) => may_no_ord (ordered_no c j hjl h))
                have HNX := Lib.hid (fun (h : ordAt c j = true) => all_next (ordAt c) j hR2.out h)
                have HOUT := Lib.hid (ord_out c j)
                rw [hF.out] at o9 HOUT
                clear hq ho
                have hj0 : (0 : Int) ≤ (j : Int) := by omega
                have hji : (j : Int) < (c.od.length : Int) := by omega
                by_cases f0 : F < 0
                · have HN := Lib.hid (HST.out (HOUT.out (.inl f0)))
                  go_wp2
                  go_ret
                  exact CheckIs.no HN.out G2.out.lk.below
                by_cases f1 : (c.N : Int) ≤ F
                · have HN := Lib.hid (HST.out (HOUT.out (.inr f1)))
                  have g0 : decide (F < 0) = false := by simpa using f0
                  clear f0
                  go_wp2
                  go_ret
                  exact CheckIs.no HN.out G2.out.lk.below
                obtain ⟨x, hx⟩ : ∃ x : Nat, F = x := ⟨F.toNat, by omega⟩
                subst hx
                have hxN : x < c.N := by omega
                have g0 : decide ((x : Int) < 0) = false := by simp
                have g1 : decide ((c.N : Int) ≤ (x : Int)) = false := by simp; omega
                have hx0 : (0 : Int) ≤ (x : Int) := by omega
                have hxi : (x : Int) < (c.N : Int) := by omega
                have HOS := Lib.hid (ord_seen c j x hF.out hxN)
                have HSET := Lib.hid (fun n => seen_set c j x n hF.out)
                obtain ⟨g, cap, rfl, hcap, hra⟩ := G2.out.ra.rall (by omega)
                have HA := Lib.hid hra
                have cx := hW2.out.cell x hxN
                obtain ⟨m, hm⟩ : ∃ m, Hid (memE (c.at x).1 = m) := ⟨_, Lib.hid rfl⟩
                have KM := Lib.hid (fun w0 => rMemory_b (evAtN es x) m (by rw [mem_like hra x hxN]; exact hm.out) w0)
                obtain ⟨s, hs⟩ : ∃ s, Hid (seenL c j x = s) := ⟨_, Lib.hid rfl⟩
                rw [hm.out, hs.out] at HOS
                rw [hs.out] at cx
                have cl := load0 hra x hxN
                clear hra f0 f1 HOUT hcap
                cases s with
                | true =>
                  have HN := Lib.hid (HST.out (by rw [HOS.out]; simp))
                  go_wp2
                  go_ret
                  exact CheckIs.no HN.out G2.out.lk.below
                | false =>
                  cases m with
                  | false =>
                    have HN := Lib.hid (HST.out (by rw [HOS.out]; rfl))
                    go_wp2_with (go_at_call 23; (with_reducible refine (KM.out _).mono ?_); rintro e' w4 ⟨rfl, hb⟩; have K4 := Lib.hid (G2.out.on hb); clear hb cl)
                    go_ret
                    exact CheckIs.no HN.out K4.out.lk.below
                  | true =>
                    have HY := Lib.hid (HNX.out (by rw [HOS.out]; rfl))
                    go_wp2_with (go_at_call 23; (with_reducible refine (KM.out _).mono ?_); rintro e' w4 ⟨rfl, hb⟩; have W4 := Lib.hid (hW2.out.on hb); have B4 := Lib.hid (hBB.out.trans (hb.mono hBB.out.size)); have c4 := W4.out.cell x hxN; have z4 := W4.out.free x; clear hb cl cx)
                    go_roundw
                    case rel => exact ⟨j + 1, by omega, by go_num, HY, Lib.hid (W4.out.set x true (fun n _ => HSET.out n)), Lib.hid (B4.out.setCell (p := ⟨W0.heap.size, x, none⟩) (Nat.le_refl _) _)⟩
                    case measure => simp [intOf]; omega
              · obtain rfl : j = c.od.length := by omega
                have HO := Lib.hid (hOI.out hR2.out)
                by_cases hL2 : c.od.length = L
                · have HY := Lib.hid (HAll.out true (by rw [HO.out]; simp; omega))
                  have d9 : ((c.od.length : Int) != (L : Int)) = false := by simp; omega
                  clear hL2
                  go_wp2
                  go_ret
                  exact CheckIs.yes HY.out G2.out.lk.below
                · have HN := Lib.hid (HAll.out false (by rw [HO.out]; simp; omega))
                  have d9 : ((c.od.length : Int) != (L : Int)) = true := by simp; omega
                  clear hL2
                  go_wp2
                  go_ret
                  exact CheckIs.no HN.out G2.out.lk.below
end Go.Proofs.YtgkiaeddlahngaaGreatDoor
namespace Go.Proofs.YtgkiaeddlahngaaGreatDoor
set_option linter.unusedVariables false
set_option linter.unusedSimpArgs false
open Go.RowKit
attribute [local go_sem ↓] fold_E fold_SE

theorem rcheck9_is (c : Cd) (q : Cv) (w : World) (hL : Lt c) (hX : ∀ h, h < c.nh → ∀ k, k < c.len h → PairFits (c.ev h k)) (h : CAt c q w) (r : Bool) (hr : c.may = r) : Calls Tryz.prog 8 #[cdV c q] w fun e w' => CheckIs w r e w' := by
  rw [← hr]; exact rcheck9_any c q w hL hX h
def AllR (c : Cd) (w : World) (e : Ending) (w' : World) : Prop := ∃ v es base, e = .returned v ∧ w.heap.size ≤ base ∧ Ra c es v base w' ∧ Below w.heap.size w w'
set_option maxRecDepth 100000 in
set_option maxHeartbeats 4000000 in
theorem rall9_yes (c : Cd) (q : Cv) (w : World) (hL : Lt c) (hX : ∀ h, h < c.nh → ∀ k, k < c.len h → PairFits (c.ev h k)) (h : CAt c q w) (hm : c.may = true) : Calls Tryz.prog 22 #[cdV c q] w fun e w' => AllR c w e w' := by
  have S0 := Lib.hid (Lk.start h)
  have KC := Lib.hid (fun w0 h0 => rcheck9_is c q w0 hL hX h0 true hm)
  have KF := Lib.hid (fun w0 h0 => flat_any c q w0 hL.nh hL.n (fun h hh j hj => ((hL.small h hh).2 j hj).n) h0)
  clear h hL hX hm
  obtain ⟨x0, x1, x2, x3⟩ := S0.out.box.facts
  go_enter Tryz.func22, Tryz.ntmps22
  go_wp2_with (first
    | (go_at_call 8; (with_reducible refine (KC.out _ S0.out.at_).mono ?_); rintro e' w1 ⟨rfl, hb⟩; have S1 := Lib.hid (S0.out.on hb); clear hb x0 x1 x2 x3; obtain ⟨x0, x1, x2, x3⟩ := S1.out.box.facts)
    | (go_at_call 30; (with_reducible refine (KF.out _ S1.out.at_).mono ?_); rintro e' w2 ⟨v, es, rfl, hlen, hown, hcp, hb⟩; have R2 : Hid (Ra c es v (w1.heap.size + 1) w2) := Lib.hid ⟨hown, hcp, hlen⟩; have S2 := Lib.hid (S1.out.on hb); have Z1 := Lib.hid S1.out.below.size; clear hb hlen hown hcp x0 x1 x2 x3))
  go_ret
  exact ⟨_, es, _, rfl, by have := Z1.out; omega, R2.out, S2.out.below⟩
end Go.Proofs.YtgkiaeddlahngaaGreatDoor
