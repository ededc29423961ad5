/-
  Proved here: the law DataParts answers true; nothing that was there is changed. Condition: numbers of 64 bits.
-/
import Derived.Test.YthkakikigccaaaaDtLives
namespace Go.Proofs.Ythkakikigccaaaa
open Go.RowKit Go.Lib
set_option linter.unusedVariables false
set_option linter.unusedSimpArgs false

theorem sumF_cons (f : Pc → Bool) (x : Pc) (L : List Pc) : sumF f (x :: L) = (if f x = true then x.size else 0) + sumF f L := by
  unfold sumF; rw [List.filter_cons]; split
  · rfl
  · omega
theorem sumF_next (h : Int) : ∀ l : List Pc, sumF (ltH (h + 1)) l = sumF (ltH h) l + sumF (eqH h) l
  | [] => by simp [sumF, sumS]
  | x :: l => by
    rw [sumF_cons, sumF_cons, sumF_cons, sumF_next h l]
    unfold ltH eqH
    rcases Int.lt_trichotomy x.hart h with e | e | e
    · rw [if_pos (by simp; omega), if_pos (by simp; omega), if_neg (by simp; omega)]; omega
    · rw [if_pos (by simp; omega), if_neg (by simp; omega), if_pos (by simp; omega)]; omega
    · rw [if_neg (by simp; omega), if_neg (by simp; omega), if_neg (by simp; omega)]; omega
theorem toI_next (l : List Pc) (h : Int) : toI l h = fromI l (h + 1) := by unfold toI fromI; rw [sumF_next]
theorem sumF_none {f : Pc → Bool} {l : List Pc} (h : ∀ p ∈ l, f p = false) : sumF f l = 0 := by
  unfold sumF
  rw [List.filter_eq_nil_iff.2 (fun p hp => by rw [h p hp]; simp)]; rfl
theorem sumF_all {f : Pc → Bool} {l : List Pc} (h : ∀ p ∈ l, f p = true) : sumF f l = sumS l := by
  unfold sumF
  rw [List.filter_eq_self.2 h]
theorem from_first {l : List Pc} (hU : OkUp l l.length) : fromI l (-1) = 1048576 := by
  unfold fromI
  rw [sumF_none (fun p hp => by have := mayB_facts (up_all hU p hp); simp [ltH]; omega)]; rfl
theorem from_last {l : List Pc} (hU : OkUp l l.length) : fromI l 8 = 1048576 + 8 * sumS l := by
  unfold fromI
  rw [sumF_all (fun p hp => by have := mayB_facts (up_all hU p hp); simp [ltH]; omega)]; rfl
structure FrB (l : List Pc) (h : Int) : Prop where
  a : 1048576 ≤ fromI l h
  b : fromI l h ≤ toI l h
  c : toI l h ≤ 2000000
theorem frB {l : List Pc} (hU : OkUp l l.length) (h : Int) : FrB l h := by
  have := pb hU h l.length (Nat.le_refl _)
  obtain ⟨x, y, z⟩ := this
  rw [List.take_length] at x y z
  exact ⟨by unfold fromI plI; omega, by unfold fromI toI plI; omega, by unfold toI plI; omega⟩
theorem Part_ok (a : Option Addr) (c : Nat) (l : List Pc) (h : Int) (w : World) (hn : l.length ≤ maxLen) (hl : Sl w a l) (hw : ∀ p ∈ l, PcW p) (he : ckE l = 0) (h1 : -1 ≤ h) (h2 : h < 8) :
    Calls Try.prog 9 #[.slice a l.length c, .int .i64 h] w fun e w' => e = .returned (.tuple #[.int .u64 (fromI l h), .int .u64 (toI l h), .int .i64 0]) ∧ Below w.heap.size w w' := by
  refine (Part_any a c l h w hn hl hw (by omega) (by omega)).mono ?_
  rintro e w' ⟨rfl, hb⟩
  have hE : partE l h = 0 := by unfold partE; rw [if_pos he, if_pos (by unfold ownB; simp; omega)]
  exact ⟨by unfold partF partT; rw [hE, if_pos rfl, if_pos rfl], hb⟩
/-- the piece more -/
def pM (h n : Int) : Pc := ⟨⟨#[111, 110, 101, 32, 109, 111, 114, 101, 32, 116, 104, 97, 116, 32, 104, 97, 115, 32, 110, 111, 32, 111, 116, 104, 101, 114, 32, 110, 97, 109, 101]⟩, n, h⟩
theorem pM_w (h n : Int) (h1 : -1 ≤ h) (h2 : h < 8) (n1 : 0 ≤ n) (n2 : n ≤ 100) : PcW (pM h n) := ⟨by show (ByteArray.mk #[111, 110, 101, 32, 109, 111, 114, 101, 32, 116, 104, 97, 116, 32, 104, 97, 115, 32, 110, 111, 32, 111, 116, 104, 101, 114, 32, 110, 97, 109, 101]).size ≤ maxLen; unfold maxLen; decide, by show _ ≤ n; omega, by show n ≤ _; omega, by show _ ≤ h; omega, by show h ≤ _; omega⟩
theorem sumF_snoc (f : Pc → Bool) (l : List Pc) (p : Pc) : sumF f (l ++ [p]) = sumF f l + if f p = true then p.size else 0 := by
  unfold sumF
  rw [List.filter_append, sumS_append]
  cases hf : f p <;> simp [hf, sumS]
theorem more_lo {l : List Pc} {h hh n : Int} (e : h < hh) : fromI (l ++ [pM hh n]) h = fromI l h ∧ toI (l ++ [pM hh n]) h = toI l h := by
  have e1 : ltH h (pM hh n) = false := decide_eq_false (by show ¬ hh < h; omega)
  have e2 : eqH h (pM hh n) = false := by unfold eqH; rw [beq_eq_false_iff_ne]; show hh ≠ h; omega
  unfold fromI toI plI
  rw [sumF_snoc, sumF_snoc, e1, e2]; simp
theorem more_eq {l : List Pc} {h n : Int} : fromI (l ++ [pM h n]) h = fromI l h ∧ toI (l ++ [pM h n]) h = toI l h + 8 * n := by
  have e1 : ltH h (pM h n) = false := by simp [ltH, pM]
  have e2 : eqH h (pM h n) = true := by simp [eqH, pM]
  unfold fromI toI plI
  rw [sumF_snoc, sumF_snoc, e1, e2]
  refine ⟨by simp, ?_⟩
  simp [pM]; omega
theorem more_hi {l : List Pc} {h hh n : Int} (e : hh < h) : fromI (l ++ [pM hh n]) h = fromI l h + 8 * n ∧ toI (l ++ [pM hh n]) h = toI l h + 8 * n := by
  have e1 : ltH h (pM hh n) = true := decide_eq_true (by show hh < h; omega)
  have e2 : eqH h (pM hh n) = false := by unfold eqH; rw [beq_eq_false_iff_ne]; show hh ≠ h; omega
  unfold fromI toI plI
  rw [sumF_snoc, sumF_snoc, e1, e2]
  constructor <;> (simp [pM]; omega)
theorem own_on {lo size n : Nat} {e : TypeId} {v : Value} {xs : List Value} {W W' : World} (h : W.ownsRow lo e size v n xs) (hb : Below W.heap.size W W') : W'.ownsRow lo e size v n xs := by
  refine ⟨h.1, ?_⟩
  rcases h.2 with hn | ⟨g, cap, cur, rfl, hb1, hgg, rest⟩
  · exact .inl hn
  · exact .inr ⟨g, cap, cur, rfl, hb1, (hb.block g (Array.getElem?_eq_some_iff.1 hgg).1).trans hgg, rest⟩
theorem own_lt {lo size n : Nat} {e : TypeId} {v : Value} {xs : List Value} {W : World} (h : W.ownsRow lo e size v n xs) : ∀ k, v.ownBlock = some k → lo ≤ k := fun k hk => (h.lt k hk).1
theorem flatP_snoc (l : List Pc) (p : Pc) : flatP l ++ flatP [p] = flatP (l ++ [p]) := by unfold flatP; rw [List.flatMap_append]
/-- one piece, in a block of its own -/
theorem sl_one (w : World) (p : Pc) : Sl (w.alloc (.cells #[.string p.name, .int .i64 p.size, .int .i64 p.hart] 32)) (some ⟨w.heap.size, 0, none⟩) [p] := by
  refine .inr ⟨w.heap.size, 0, rfl, ⟨fun k hk => ?_, by simp⟩⟩
  obtain rfl : k = 0 := by simp at hk; omega
  have := Bx.new p w 32
  exact ⟨this.n, this.s, this.h⟩
def TrueOut (w : World) (e : Ending) (w' : World) : Prop := e = .returned (.bool true) ∧ Below w.heap.size w w'
set_option maxHeartbeats 4000000 in
set_option maxRecDepth 100000 in
theorem dataParts_any (a : Option Addr) (c : Nat) (l : List Pc) (x y : Int) (w : World) (hc : a = none → c = 0) (hn : l.length ≤ maxLen) (hl : Sl w a l) (hw : ∀ p ∈ l, PcW p)
    (x1 : -9223372036854775808 ≤ x) (x2 : x ≤ 9223372036854775807) (y1 : -9223372036854775808 ≤ y) (y2 : y ≤ 9223372036854775807) :
    Calls Try.prog 6 #[.slice a l.length c, .int .i64 x, .int .i64 y] w (TrueOut w) := by
  have HC := Lib.hid hc
  have HN := Lib.hid hn
  have HL := Lib.hid hl
  have HW := Lib.hid hw
  have KV := Lib.hid (lives_any w)
  clear hc hn hl hw
  go_enter Try.func6, Try.ntmps6
  go_wp2_with (go_at_call 12; (with_reducible refine (KV.out).mono ?_); rintro e w1 ⟨rfl, hb⟩; have HB := Lib.hid hb; clear hb)
  refine (light_any a c l w1 HN.out (HL.out.below HB.out)).mono ?_
  rintro e w2 ⟨q, rfl, hq, hb⟩
  have HB2 := Lib.hid (HB.out.trans (hb.mono HB.out.size))
  have HQ := Lib.hid hq
  clear hq hb
  cases q with
  | false =>
    go_wp2
    go_ret
    exact ⟨rfl, HB2.out⟩
  | true =>
    have hn40 := (HQ.out rfl).1
    have KC := Lib.hid (Check_any a c l w2 HN.out (HL.out.below HB2.out) HW.out)
    obtain ⟨ce, hce⟩ : ∃ e, ckE l = e := ⟨_, rfl⟩
    rw [hce] at KC
    have HCE := Lib.hid hce
    clear hce
    by_cases h0 : ce = 0
    · subst h0
      have HU := Lib.hid (ck_up HCE.out)
      go_wp2_with (go_at_call 13; (with_reducible refine (KC.out).mono ?_); rintro e w3 ⟨rfl, hb⟩; have HB3 := Lib.hid (HB2.out.trans (hb.mono HB2.out.size)); clear hb)
      go_loopw [7, 8] (fun va vh wr => ∃ h : Int, -1 ≤ h ∧ h ≤ 8 ∧ vh = .int .i64 h ∧ ∃ A : Int, va = .int .u64 A ∧ Hid (A = fromI l h) ∧ Hid (Below w.heap.size w wr)) (fun _ vh _ => (8 - intOf vh).toNat)
      case atStart => exact ⟨-1, by omega, by omega, rfl, 1048576, rfl, Lib.hid (from_first HU.out).symm, HB3⟩
      case round =>
        obtain ⟨h, h1, h2, rfl, A, rfl, HA, HB4⟩ := hrel
        by_cases hlt : h < 8
        · have fb := frB HU.out h
          have KP := Lib.hid (Part_ok a c l h wr HN.out (HL.out.below HB4.out) HW.out HCE.out h1 hlt)
          rw [← HA.out] at KP
          obtain ⟨T, hT⟩ : ∃ T, toI l h = T := ⟨_, rfl⟩
          rw [hT] at KP
          have HT := Lib.hid (show T = fromI l (h + 1) by rw [← hT, toI_next])
          obtain ⟨g1, g2, g3⟩ := fb
          rw [hT] at g2 g3
          rw [← HA.out] at g1 g2
          have g4 : ¬ T < A := by omega
          clear hT
          go_wp2_with (go_at_call 9; (with_reducible refine (KP.out).mono ?_); rintro e w4 ⟨rfl, hb⟩; have HB5 := Lib.hid (HB4.out.trans (hb.mono HB4.out.size)); clear hb)
          go_roundw
          case rel => exact ⟨h + 1, by omega, by omega, by go_num, T, rfl, HT, HB5⟩
          case measure => simp [intOf]; omega
        · obtain rfl : h = 8 := by omega
          have KS := Lib.hid (Size_any a c l wr HN.out (HL.out.below HB4.out) HW.out)
          rw [sizeS_good HCE.out] at KS
          have hA := HA.out
          rw [from_last HU.out] at hA
          obtain ⟨S, hS⟩ : ∃ S, sumS l = S := ⟨_, rfl⟩
          rw [hS] at hA KS
          have sb : 0 ≤ S ∧ S ≤ 65536 := by
            have e1 := sum_nonneg HU.out l.length (Nat.le_refl _) (Nat.le_refl _)
            have e2 := sum_le HU.out (Nat.le_refl _)
            rw [List.take_length, hS] at e1 e2
            exact ⟨e1, e2⟩
          obtain ⟨sb1, sb2⟩ := sb
          subst hA
          clear hS HA
          go_wp2_with ((go_at_call 14; (with_reducible refine (KS.out).mono ?_); rintro e w4 ⟨rfl, hb⟩; have HB5 := Lib.hid (HB4.out.trans (hb.mono HB4.out.size)); clear hb))
          refine (Pick_any x 9 _ (by omega) (by omega) x1 x2).mono ?_
          rintro e w4' ⟨⟨r, rfl, r1, r2⟩, rfl⟩
          go_wp2_with fail
          refine (Pick_any y 50 _ (by omega) (by omega) y1 y2).mono ?_
          rintro e w4' ⟨⟨t, rfl, t1, t2⟩, rfl⟩
          obtain ⟨hh, hhh⟩ : ∃ hh, r - 1 = hh := ⟨_, rfl⟩
          obtain ⟨nn, hnn⟩ : ∃ nn, 1 + t = nn := ⟨_, rfl⟩
          have k1 : -1 ≤ hh := by omega
          have k2 : hh < 8 := by omega
          have k3 : 1 ≤ nn := by omega
          have k4 : nn ≤ 50 := by omega
          have KO := Lib.hid (Own_any a c l w4 HC.out (HL.out.below HB5.out) (by omega))
          go_wp2_with fail
          clear hhh hnn
          refine (KO.out).mono ?_
          rintro e w5 ⟨v, rfl, ho, hb⟩
          have HB6 := Lib.hid (HB5.out.trans (hb.mono HB5.out.size))
          have hb45 := Lib.hid hb
          obtain ⟨P1, hP1⟩ : ∃ P1, P1 = pM hh nn := ⟨_, rfl⟩
          have HO := Lib.hid (own_on ho (one_below w5 (.cells #[.string P1.name, .int .i64 P1.size, .int .i64 P1.hart] 32)))
          have HS := Lib.hid (sl_one w5 P1)
          have HB7 := Lib.hid (HB6.out.trans ((one_below w5 (.cells #[.string P1.name, .int .i64 P1.size, .int .i64 P1.hart] 32)).mono HB6.out.size))
          have HBASE : Hid (w4.heap.size ≤ (w5.alloc (.cells #[.string P1.name, .int .i64 P1.size, .int .i64 P1.hart] 32)).heap.size) := Lib.hid (by have := hb.size; simp; omega)
          have HW4 : Hid (w.heap.size ≤ w4.heap.size) := Lib.hid HB5.out.size
          have HP1 := Lib.hid hP1
          rw [hP1] at HO HS HB7 HBASE
          clear hP1 ho hb
          have HN40 := Lib.hid hn40
          go_wp2_with (refine append_ps rfl (.tmp 69) (.tmp 73) rfl w4.heap.size v l.length (flatP l) rfl HO.out (some ⟨w5.heap.size, 0, none⟩) [pM hh nn] 1 (fun h => nomatch h) rfl HS.out (by simp) (by omega) HBASE.out ?_; intro v6 w6 hw6 hg6; have H6 := Lib.hid hw6; have HB8 := Lib.hid (HB7.out.grown hg6 HB7.out.size (fun k hk => Nat.le_trans HW4.out (own_lt HO.out k hk))); clear hw6 hg6)
          obtain ⟨M, hM⟩ : ∃ M, M = l ++ [pM hh nn] := ⟨_, rfl⟩
          have hMl : M.length = l.length + 1 := by rw [hM]; simp
          obtain ⟨a6, c6, hv6, hc6, hs6⟩ := ps_of_own (l := M) (w := w6) (base := w4.heap.size) (v := v6) (by
            have := H6.out
            rw [flatP_snoc, ← hM] at this
            rw [hMl]; exact this)
          subst hv6
          have HM := Lib.hid hM
          have HSM := Lib.hid hs6
          have HWM := Lib.hid (show ∀ p ∈ M, PcW p by
            intro p hp
            rw [hM] at hp
            rcases List.mem_append.1 hp with h | h
            · exact HW.out p h
            · rw [List.mem_singleton] at h; subst h; exact pM_w hh nn k1 k2 (by omega) (by omega))
          have HNM := Lib.hid (show M.length ≤ maxLen by unfold maxLen; omega)
          have KC2 := Lib.hid (Check_any a6 c6 M w6 HNM.out HSM.out HWM.out)
          obtain ⟨ce, hce⟩ : ∃ e, ckE M = e := ⟨_, rfl⟩
          rw [hce] at KC2
          have HCM := Lib.hid hce
          clear hce hM hMl hs6 hc6
          by_cases h0 : ce = 0
          · subst h0
            go_wp2_with (go_at_call 13; (with_reducible refine (KC2.out).mono ?_); rintro e w7 ⟨rfl, hb⟩; have HB9 := Lib.hid (HB8.out.trans (hb.mono HB8.out.size)); have HBM := Lib.hid hb; clear hb)
            have HBL := Lib.hid HB9.out
            go_loopw [13] (fun vh wr => ∃ h : Int, -1 ≤ h ∧ h ≤ 8 ∧ vh = .int .i64 h ∧ Hid (Below w7.heap.size w7 wr)) (fun vh _ => (8 - intOf vh).toNat)
            case atStart => exact ⟨-1, by omega, by omega, rfl, Lib.hid (Below.refl _ _)⟩
            case round =>
              obtain ⟨h, h1, h2, rfl, HBR⟩ := hrel
              have HBX := Lib.hid (HB9.out.trans (HBR.out.mono HB9.out.size))
              by_cases hlt : h < 8
              · obtain ⟨g1, g2, g3⟩ := frB HU.out h
                have KP := Lib.hid (fun W (hb : Below wr.heap.size wr W) => Part_ok a c l h W HN.out ((HL.out.below HBX.out).below hb) HW.out HCE.out h1 hlt)
                have KM := Lib.hid (fun W (hb : Below wr.heap.size wr W) => Part_ok a6 c6 M h W HNM.out (((HSM.out.below HBM.out).below HBR.out).below hb) HWM.out HCM.out h1 hlt)
                obtain ⟨A, hA⟩ : ∃ A, fromI l h = A := ⟨_, rfl⟩
                obtain ⟨B, hB⟩ : ∃ B, toI l h = B := ⟨_, rfl⟩
                have more := Lib.hid (And.intro hA hB)
                rw [hA] at g1 g2 KP
                rw [hB] at g2 g3 KP
                clear hA hB
                have KP1 := Lib.hid (KP.out wr (Below.refl _ _))
                rcases Int.lt_trichotomy h hh with hlo | hlo | hlo
                · have hM2 : fromI M h = A ∧ toI M h = B := by
                    have e := more_lo (l := l) (n := nn) hlo
                    rw [HM.out, e.1, e.2, more.out.1, more.out.2]; exact ⟨rfl, rfl⟩
                  have KM1 : Hid (∀ W, Below wr.heap.size wr W → Calls Try.prog 9 #[.slice a6 M.length c6, .int .i64 h] W fun e w' => e = .returned (.tuple #[.int .u64 (A), .int .u64 (B), .int .i64 0]) ∧ Below W.heap.size W w') := Lib.hid (fun W hb => by have := KM.out W hb; rw [hM2.1, hM2.2] at this; exact this)
                  clear hM2 KM
                  have q1 : h < hh := hlo
                  have q2 : ¬ hh < h := by omega
                  have q3 : (h == hh) = false := by simp; omega
                  go_wp2_with fail
                  refine (KP1.out).mono ?_
                  rintro e w8 ⟨rfl, hb⟩
                  have HB10 := Lib.hid hb
                  clear hb
                  have KM3 := Lib.hid (KM1.out w8 HB10.out)
                  go_wp2_with fail
                  refine (KM3.out).mono ?_
                  rintro e w9 ⟨rfl, hb⟩
                  have HB11 := Lib.hid (HB10.out.trans (hb.mono HB10.out.size))
                  clear hb
                  go_wp2
                  go_roundw
                  case rel => exact ⟨h + 1, by omega, by omega, by go_num, Lib.hid (HBR.out.trans (HB11.out.mono HBR.out.size))⟩
                  case measure => simp [intOf]; omega
                · have hM2 : fromI M h = A ∧ toI M h = B + 8 * nn := by
                    have e := (show fromI (l ++ [pM hh nn]) h = fromI l h ∧ toI (l ++ [pM hh nn]) h = toI l h + 8 * nn by have hle : h = hh := hlo; rw [hle]; exact more_eq)
                    rw [HM.out, e.1, e.2, more.out.1, more.out.2]; exact ⟨rfl, rfl⟩
                  have KM1 : Hid (∀ W, Below wr.heap.size wr W → Calls Try.prog 9 #[.slice a6 M.length c6, .int .i64 h] W fun e w' => e = .returned (.tuple #[.int .u64 (A), .int .u64 (B + 8 * nn), .int .i64 0]) ∧ Below W.heap.size W w') := Lib.hid (fun W hb => by have := KM.out W hb; rw [hM2.1, hM2.2] at this; exact this)
                  clear hM2 KM
                  have q1 : ¬ h < hh := by omega
                  have q2 : ¬ hh < h := by omega
                  have q3 : (h == hh) = true := by simp; omega
                  have HLO := Lib.hid hlo
                  clear hlo
                  go_wp2_with fail
                  refine (KP1.out).mono ?_
                  rintro e w8 ⟨rfl, hb⟩
                  have HB10 := Lib.hid hb
                  clear hb
                  have KM3 := Lib.hid (KM1.out w8 HB10.out)
                  go_wp2_with fail
                  refine (KM3.out).mono ?_
                  rintro e w9 ⟨rfl, hb⟩
                  have HB11 := Lib.hid (HB10.out.trans (hb.mono HB10.out.size))
                  clear hb
                  go_wp2
                  go_roundw
                  case rel => exact ⟨h + 1, by omega, by omega, by go_num, Lib.hid (HBR.out.trans (HB11.out.mono HBR.out.size))⟩
                  case measure => simp [intOf]; omega
                · have hM2 : fromI M h = A + 8 * nn ∧ toI M h = B + 8 * nn := by
                    have e := more_hi (l := l) (n := nn) hlo
                    rw [HM.out, e.1, e.2, more.out.1, more.out.2]; exact ⟨rfl, rfl⟩
                  have KM1 : Hid (∀ W, Below wr.heap.size wr W → Calls Try.prog 9 #[.slice a6 M.length c6, .int .i64 h] W fun e w' => e = .returned (.tuple #[.int .u64 (A + 8 * nn), .int .u64 (B + 8 * nn), .int .i64 0]) ∧ Below W.heap.size W w') := Lib.hid (fun W hb => by have := KM.out W hb; rw [hM2.1, hM2.2] at this; exact this)
                  clear hM2 KM
                  have q1 : ¬ h < hh := by omega
                  have q2 : hh < h := hlo
                  have q3 : (h == hh) = false := by simp; omega
                  go_wp2_with fail
                  refine (KP1.out).mono ?_
                  rintro e w8 ⟨rfl, hb⟩
                  have HB10 := Lib.hid hb
                  clear hb
                  have KM3 := Lib.hid (KM1.out w8 HB10.out)
                  go_wp2_with fail
                  refine (KM3.out).mono ?_
                  rintro e w9 ⟨rfl, hb⟩
                  have HB11 := Lib.hid (HB10.out.trans (hb.mono HB10.out.size))
                  clear hb
                  go_wp2
                  go_roundw
                  case rel => exact ⟨h + 1, by omega, by omega, by go_num, Lib.hid (HBR.out.trans (HB11.out.mono HBR.out.size))⟩
                  case measure => simp [intOf]; omega
              · obtain rfl : h = 8 := by omega
                go_wp2
                go_ret
                exact ⟨rfl, HBX.out⟩
          · have z1 : (ce == 0) = false := by simpa using h0
            have z2 : (ce != 0) = true := by simpa using h0
            clear h0
            go_wp2_with (go_at_call 13; (with_reducible refine (KC2.out).mono ?_); rintro e w7 ⟨rfl, hb⟩; have HB9 := Lib.hid (HB8.out.trans (hb.mono HB8.out.size)); clear hb)
            go_ret
            exact ⟨rfl, HB9.out⟩
    · have z1 : (ce == 0) = false := by simpa using h0
      have z2 : (ce != 0) = true := by simpa using h0
      clear h0
      go_wp2_with (go_at_call 13; (with_reducible refine (KC.out).mono ?_); rintro e w3 ⟨rfl, hb⟩; have HB3 := Lib.hid (HB2.out.trans (hb.mono HB2.out.size)); clear hb)
      go_ret
      exact ⟨rfl, HB3.out⟩
end Go.Proofs.Ythkakikigccaaaa
