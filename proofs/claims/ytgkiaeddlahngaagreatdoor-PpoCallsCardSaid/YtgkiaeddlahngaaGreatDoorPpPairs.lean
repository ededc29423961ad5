/-
  Proved here: ppo.Pairs of any light candidate, may it be or not: the list of pairs, in a row of its own; nothing that was there is changed. No other condition.
-/
import Derived.Test.YtgkiaeddlahngaaGreatDoorPpAny
namespace Go.Proofs.YtgkiaeddlahngaaGreatDoor
set_option linter.unusedVariables false
set_option linter.unusedSimpArgs false
open Go.RowKit Go.Maps
attribute [local go_sem ↓] fold_E fold_SE

/-- the pairs of a with b on, k numbers -/
def pairsIn (c : Cd) (a : Nat) : Nat → Nat → List (Nat × Nat)
  | 0, _ => []
  | k + 1, b => if (c.at a).1.hart = (c.at b).1.hart then (if ruleL c a b ≠ 0 then [(a, b)] else []) ++ pairsIn c a k (b + 1) else []
/-- the pairs of n on, k numbers -/
def pairsOut (c : Cd) : Nat → Nat → List (Nat × Nat)
  | 0, _ => []
  | k + 1, n => pairsIn c n (c.N - (n + 1)) (n + 1) ++ pairsOut c k (n + 1)
def pairsW (c : Cd) : List (Nat × Nat) := if c.may then pairsOut c c.N 0 else []
theorem pairsIn_len (c : Cd) (a : Nat) : ∀ k b, (pairsIn c a k b).length ≤ k
  | 0, _ => by simp [pairsIn]
  | k + 1, b => by
    unfold pairsIn
    have := pairsIn_len c a k (b + 1)
    split
    · rw [List.length_append]; split <;> simp <;> omega
    · simp
theorem pairsOut_len (c : Cd) (hN : c.N ≤ 60) : ∀ k n, (pairsOut c k n).length ≤ k * 60
  | 0, _ => by simp [pairsOut]
  | k + 1, n => by
    unfold pairsOut
    have h1 := pairsIn_len c n (c.N - (n + 1)) (n + 1)
    have h2 := pairsOut_len c hN k (n + 1)
    rw [List.length_append]; omega
/-- the pairs' cells -/
def rowP2 (l : List (Nat × Nat)) : List Value := l.flatMap fun x => [.int .i64 (x.1 : Int), .int .i64 (x.2 : Int)]
theorem rowP2_more (l : List (Nat × Nat)) (a b : Nat) : rowP2 (l ++ [(a, b)]) = rowP2 l ++ [.int .i64 (a : Int), .int .i64 (b : Int)] := by simp [rowP2]
theorem infoPair : (Tryz.prog.info? 36).map (fun i => (i.zero, i.size, i.bytes)) = some (some (.agg #[.int .i64 0, .int .i64 0]), 2, 16) := by kernel_rfl
theorem append_pair {ops : Array Oper} {rest : List Oper} {o : Oper} {a : Act} {w : World} {Q : Exit → Act → World → Prop} (hgd : o.guard = none) (s x : Operand)
    (ho : o.op = .call { callee := .builtin .append, args := #[s, x], argTypes := #[33, 33] }) (base : Nat) (v : Value) (n : Nat) (xs : List Value) (hs : a.eval s = v) (hown : w.ownsRow base 36 2 v n xs)
    (y z : Int) (g : Nat) (hx : a.eval x = .slice (some ⟨g, 0, none⟩) 1 1) (hr : w.heap[g]? = some (.cells #[.int .i64 y, .int .i64 z] 36 (0, 0))) (hn : n ≤ 100000) (hbase : base ≤ w.heap.size)
    (h : ∀ v' w', w'.ownsRow base 36 2 v' (n + 1) (xs ++ [.int .i64 y, .int .i64 z]) → w.grownBy w' v.ownBlock → wpList Tryz.prog ops Q rest (a.put o.dst v') w') : wpList Tryz.prog ops Q (o :: rest) a w := by
  obtain ⟨i0, hi, hz0, hz1, hz2⟩ := info_parts infoPair
  refine wpList_append_own w hgd s x _ ho base 36 i0 (.agg #[.int .i64 0, .int .i64 0]) 2 16 Tryz.underlying33 hi hz0 hz1 hz2 (by kernel_rfl) (by decide) v n xs hs hown ⟨g, 0, none⟩ 1 1 [.int .i64 y, .int .i64 z] hx rfl ?_ ?_ (by unfold maxLen; omega) (by omega) hbase (fun v' w' h5 h6 _ => h v' w' h5 h6)
  · intro j u hu
    rw [Addr.add_lit, Nat.zero_add, cell_of_row w g j _ _ _ hr]
    simpa using hu
  · intro u hu
    simp only [List.mem_cons, List.not_mem_nil, or_false] at hu
    rcases hu with rfl | rfl <;> rfl
def PairsIs (c : Cd) (w : World) (e : Ending) (w' : World) : Prop := ∃ v n, e = .returned v ∧ (pairsW c).length = n ∧ (∃ base, w.heap.size ≤ base ∧ w'.ownsRow base 36 2 v n (rowP2 (pairsW c))) ∧ Below w.heap.size w w'
set_option maxRecDepth 100000 in
set_option maxHeartbeats 4000000 in
theorem Pairs_any (c : Cd) (q : Cv) (w : World) (hL : Lt c) (h : CAt c q w) : Calls Tryz.prog 11 #[cdV c q] w fun e w' => PairsIs c w e w' := by
  have S0 := Lib.hid (Lk.start h)
  cases hm : c.may with
  | true =>
    have HW : Hid (pairsOut c c.N 0 = pairsW c) := Lib.hid (by unfold pairsW; rw [hm]; rfl)
    obtain ⟨L, hLL⟩ : ∃ L, pairsW c = L := ⟨_, rfl⟩
    have HLL := Lib.hid hLL
    have HN60 := (Rx.of hm hL).n60
    have HLen : Hid (L.length ≤ 3600) := Lib.hid (by rw [← hLL, ← HW.out]; have := pairsOut_len c HN60 c.N 0; omega)
    rw [hLL] at HW
    clear hLL
    have KL := Lib.hid (fun w0 h0 => plook_yes c q w0 hL h0 hm)
    have KF := Lib.hid (fun p w0 h0 a b => first_any c p w0 h0 (Rx.of hm hL) (may_kind hm) a b)
    clear h hm hL
    obtain ⟨u0, u1, u2, u3⟩ := S0.out.box.facts
    go_enter Tryz.func11, Tryz.ntmps11
    go_upto_region 3 with (go_at_call 35; (with_reducible refine (KL.out _ S0.out.at_).mono ?_); rintro e' w1 ⟨p, rfl, hv, hb1⟩; have V1 := Lib.hid hv; have L1 := Lib.hid (S0.out.below.trans (hb1.mono S0.out.below.size)); obtain ⟨b0, b1, b2⟩ := hv.three; clear hv hb1 u0 u1 u2 u3)
    go_wp2
    clear b0 b1 b2
    go_loopw [5, 18] (fun vp vi wr => ∃ (n : Nat) (done : List (Nat × Nat)), vi = .int .i64 (n : Int) ∧ n ≤ c.N ∧ Hid (done ++ pairsOut c (c.N - n) n = L) ∧ Hid (wr.ownsRow w1.heap.size 36 2 vp done.length (rowP2 done)) ∧ Hid (Below w1.heap.size w1 wr)) (fun _ vi _ => c.N - (intOf vi).toNat)
    case atStart => exact ⟨0, [], rfl, by omega, Lib.hid (by rw [← HW.out]; rfl), Lib.hid (World.ownsRow_nil _ _ _ _), Lib.hid (Below.refl _ _)⟩
    case round =>
      obtain ⟨n, done, rfl, hn, HG, HO, HB⟩ := hrel
      by_cases hlt : n < c.N
      · have d1 : decide (n < c.N) = true := by simpa using hlt
        have d2 : IntKind.i64.wrap ((n : Int) + 1) = ((n + 1 : Nat) : Int) := by rw [IntWalk.i64_in _ (by omega)]; omega
        have HG2 : Hid (done ++ pairsIn c n (c.N - (n + 1)) (n + 1) ++ pairsOut c (c.N - (n + 1)) (n + 1) = L) := Lib.hid (by
          rw [← HG.out, show c.N - n = (c.N - (n + 1)) + 1 by omega, List.append_assoc]; rfl)
        go_wp2
        go_loopw [5, 7] (fun vp vb wq => ∃ (b : Nat) (dn : List (Nat × Nat)), vb = .int .i64 (b : Int) ∧ n < b ∧ b ≤ c.N ∧ Hid (dn ++ pairsIn c n (c.N - b) b ++ pairsOut c (c.N - (n + 1)) (n + 1) = L) ∧ Hid (wq.ownsRow w1.heap.size 36 2 vp dn.length (rowP2 dn)) ∧ Hid (Below w1.heap.size w1 wq)) (fun _ vb _ => c.N - (intOf vb).toNat)
        case atStart => exact ⟨n + 1, done, by first | rfl | simp, by omega, by omega, HG2, HO, HB⟩
        case round =>
          clear HG HO HB HG2
          obtain ⟨b, dn, rfl, hnb, hbN, HG, HO, HB⟩ := hrel
          have V2 := Lib.hid (V1.out.on HB.out)
          obtain ⟨b0, b1, b2⟩ := V2.out.three
          have hdl : dn.length ≤ 100000 := by
            have h1 := congrArg List.length HG.out
            rw [List.length_append, List.length_append] at h1
            have := HLen.out; omega
          by_cases hlb : b < c.N
          · have d4 : decide (b < c.N) = true := by simpa using hlb
            have d5 : IntKind.i64.wrap ((b : Int) + 1) = ((b + 1 : Nat) : Int) := by rw [IntWalk.i64_in _ (by omega)]; omega
            have HI : Hid (pairsIn c n (c.N - b) b = if (c.at n).1.hart = (c.at b).1.hart then (if ruleL c n b ≠ 0 then [(n, b)] else []) ++ pairsIn c n (c.N - (b + 1)) (b + 1) else []) := Lib.hid (by rw [show c.N - b = (c.N - (b + 1)) + 1 by omega]; rfl)
            by_cases hh : (c.at n).1.hart = (c.at b).1.hart
            · have KH := Lib.hid (oneHart_v c (finK c) p wr V2.out n b hlt hlb true (by simp [hh]))
              obtain ⟨x, hx⟩ : ∃ x, ruleL c n b = x := ⟨_, rfl⟩
              have KF1 := Lib.hid (fun w0 h0 => KF.out p w0 h0 n b)
              rw [hx] at KF1
              by_cases hx0 : x = 0
              · have d3 : ((x : Int) != 0) = false := by simp [hx0]
                have HG3 : Hid (dn ++ pairsIn c n (c.N - (b + 1)) (b + 1) ++ pairsOut c (c.N - (n + 1)) (n + 1) = L) := Lib.hid (by
                  rw [← HG.out, HI.out, if_pos hh, hx, if_neg (by simp [hx0])]; rfl)
                clear hh hx hx0
                go_wp2_with (first
                  | (go_at_call 36; (with_reducible refine (KH.out).mono ?_); rintro e' w2 ⟨rfl, hb2⟩; have V3 := Lib.hid (V2.out.on hb2); have O2 := Lib.hid (own_on HO.out hb2); have B2 := Lib.hid (HB.out.trans (hb2.mono HB.out.size)); obtain ⟨b0, b1, b2⟩ := V3.out.three; clear hb2)
                  | (go_at_call 37; (with_reducible refine (KF1.out _ V3.out).mono ?_); rintro e' w3 ⟨rfl, hb3⟩; have O3 := Lib.hid (own_on O2.out hb3); have B3 := Lib.hid (B2.out.trans (hb3.mono B2.out.size)); clear hb3))
                go_roundw
                case rel => exact ⟨b + 1, dn, by first | rfl | simp, by omega, by omega, HG3, O3, B3⟩
                case measure => simp [intOf]; omega
              · have d3 : ((x : Int) != 0) = true := by simp; omega
                have HG3 : Hid ((dn ++ [(n, b)]) ++ pairsIn c n (c.N - (b + 1)) (b + 1) ++ pairsOut c (c.N - (n + 1)) (n + 1) = L) := Lib.hid (by
                  rw [← HG.out, HI.out, if_pos hh, hx, if_pos hx0]; simp)
                clear hh hx hx0
                go_wp2_with (first
                  | (go_at_call 36; (with_reducible refine (KH.out).mono ?_); rintro e' w2 ⟨rfl, hb2⟩; have V3 := Lib.hid (V2.out.on hb2); have O2 := Lib.hid (own_on HO.out hb2); have B2 := Lib.hid (HB.out.trans (hb2.mono HB.out.size)); obtain ⟨b0, b1, b2⟩ := V3.out.three; clear hb2)
                  | (go_at_call 37; (with_reducible refine (KF1.out _ V3.out).mono ?_); rintro e' w3 ⟨rfl, hb3⟩; have O3 := Lib.hid (own_on O2.out hb3); have B3 := Lib.hid (B2.out.trans (hb3.mono B2.out.size)); clear hb3)
                  | (at_builtin; (refine append_pair rfl (.tmp 43) (.tmp 47) rfl w1.heap.size _ dn.length _ rfl (O3.out.alloc _) (n : Int) (b : Int) w3.heap.size rfl Array.getElem?_push_size hdl (by have := B3.out.size; simp; omega) ?_; intro v' w4 ho hg; have O4 := Lib.hid ho; have B4 := Lib.hid ((B3.out.alloc B3.out.size _).grown hg (by have := B3.out.size; simp; omega) (fun k hk => (O3.out.lt k hk).1)); clear ho hg)))
                go_roundw
                case rel => exact ⟨b + 1, dn ++ [(n, b)], by first | rfl | simp, by omega, by omega, HG3, Lib.hid (by rw [rowP2_more, List.length_append]; exact O4.out), B4⟩
                case measure => simp [intOf]; omega
            · have KH := Lib.hid (oneHart_v c (finK c) p wr V2.out n b hlt hlb false (by simp [hh]))
              have HG3 : Hid (dn ++ pairsOut c (c.N - (n + 1)) (n + 1) = L) := Lib.hid (by rw [← HG.out, HI.out, if_neg hh]; simp)
              clear hh
              go_wp2_with (go_at_call 36; (with_reducible refine (KH.out).mono ?_); rintro e' w2 ⟨rfl, hb2⟩; have V3 := Lib.hid (V2.out.on hb2); have O2 := Lib.hid (own_on HO.out hb2); have B2 := Lib.hid (HB.out.trans (hb2.mono HB.out.size)); obtain ⟨b0, b1, b2⟩ := V3.out.three; clear hb2)
              go_roundw
              case rel => exact ⟨n + 1, dn, by first | rfl | simp, by omega, HG3, O2, B2⟩
              case measure => simp [intOf]; omega
          · have d4 : decide (b < c.N) = false := by simpa using hlb
            have HG3 : Hid (dn ++ pairsOut c (c.N - (n + 1)) (n + 1) = L) := Lib.hid (by rw [← HG.out, show c.N - b = 0 by omega]; simp [pairsIn])
            go_wp2
            go_roundw
            case rel => exact ⟨n + 1, dn, by first | rfl | simp, by omega, HG3, HO, HB⟩
            case measure => simp [intOf]; omega
      · have d1 : decide (n < c.N) = false := by simpa using hlt
        have HD : Hid (done = L) := Lib.hid (by have := HG.out; rw [show c.N - n = 0 by omega] at this; simpa [pairsOut] using this)
        go_wp2
        go_ret
        refine ⟨_, _, rfl, rfl, ⟨_, L1.out.size, ?_⟩, L1.out.trans (HB.out.mono L1.out.size)⟩
        rw [HLL.out, ← HD.out]; exact HO.out
  | false =>
    have HW : Hid (pairsW c = []) := Lib.hid (by unfold pairsW; rw [hm]; rfl)
    have KL := Lib.hid (fun w0 h0 => plook_no c q w0 hL h0 hm)
    clear h hm hL
    obtain ⟨u0, u1, u2, u3⟩ := S0.out.box.facts
    go_enter Tryz.func11, Tryz.ntmps11
    go_upto_region 3 with (go_at_call 35; (with_reducible refine (KL.out _ S0.out.at_).mono ?_); rintro e' w1 ⟨g, rfl, hv, hb1⟩; have V1 := Lib.hid hv; have L1 := Lib.hid (S0.out.below.trans (hb1.mono S0.out.below.size)); have b0 := hv.all; clear hv hb1 u0 u1 u2 u3)
    go_wp2
    go_loopw [5, 18] (fun vp vi wr => vp = .slice none 0 0 ∧ vi = .int .i64 0 ∧ Hid (Below w.heap.size w wr)) (fun _ vi _ => 0)
    case atStart => exact ⟨rfl, rfl, L1⟩
    case round =>
      obtain ⟨rfl, rfl, HB⟩ := hrel
      go_wp2
      go_ret
      refine ⟨_, _, rfl, rfl, ⟨_, Nat.le_refl _, ?_⟩, HB.out⟩
      rw [HW.out]; exact World.ownsRow_nil _ _ _ _
end Go.Proofs.YtgkiaeddlahngaaGreatDoor
