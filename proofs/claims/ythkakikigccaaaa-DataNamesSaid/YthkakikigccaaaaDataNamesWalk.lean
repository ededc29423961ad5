/-
  Proved here: the law DataNames answers true; nothing that was there is changed. No condition.
-/
import Derived.Test.YthkakikigccaaaaDataPartsWalk
import Derived.Test.YthkakikigccaaaaDtSeek
namespace Go.Proofs.Ythkakikigccaaaa
open Go.RowKit Go.Lib
set_option linter.unusedVariables false
set_option linter.unusedSimpArgs false

def seats2 : List Se := [⟨pB, 1048576⟩, ⟨pA, 1048584⟩]
theorem seats2W : ∀ s ∈ seats2, SeW s := by
  intro s hs
  simp only [seats2, List.mem_cons, List.not_mem_nil, or_false] at hs
  rcases hs with rfl | rfl
  · exact ⟨twoW pB (by simp [twoL]), by decide, by decide⟩
  · exact ⟨twoW pA (by simp [twoL]), by decide, by decide⟩
theorem at_1 : atV seats2 1048592 = .tuple #[.agg #[.string ⟨#[97]⟩, .int .i64 2, .int .i64 1, .int .u64 1048584], .int .i64 1, .int .i64 0] := rfl
theorem at_2 : atV seats2 1048600 = .tuple #[.agg #[.string ⟨#[]⟩, .int .i64 0, .int .i64 0, .int .u64 0], .int .i64 0, .int .i64 6] := rfl
theorem find_1 : findV seats2 ⟨#[97]⟩ 0 = .tuple #[.agg #[.string ⟨#[]⟩, .int .i64 0, .int .i64 0, .int .u64 0], .int .i64 6] := by
  have h1 : isS ⟨#[97]⟩ 0 ⟨pB, 1048576⟩ = false := by unfold isS; simp [pB]
  have h2 : isS ⟨#[97]⟩ 0 ⟨pA, 1048584⟩ = false := by unfold isS; simp [pA]
  unfold findV seats2
  simp [List.find?_cons, h1, h2]
def pX : Pc := ⟨⟨#[120]⟩, 65536, -1⟩
def pY : Pc := ⟨⟨#[121]⟩, 1, -1⟩
def pZ : Pc := ⟨⟨#[]⟩, 1, 0⟩
theorem pcw (p : Pc) (h0 : p.name.size ≤ 10) (h1 : -10 ≤ p.size ∧ p.size ≤ 100000) (h2 : -10 ≤ p.hart ∧ p.hart ≤ 10) : PcW p := ⟨by unfold maxLen; omega, by omega, by omega, by omega, by omega⟩
theorem bigW : ∀ p ∈ [pX, pY], PcW p := by
  intro p hp
  simp only [List.mem_cons, List.not_mem_nil, or_false] at hp
  rcases hp with rfl | rfl
  · exact pcw _ (by decide) (by decide) (by decide)
  · exact pcw _ (by decide) (by decide) (by decide)
theorem ck_big : ckE [pX, pY] = 7 := by
  have e0 : errAt [pX, pY] 0 = 0 := by
    rw [errAt_lt (by decide)]; unfold errP
    rw [if_neg (by decide), if_neg (by simp [hasB]), if_neg (by decide)]
  have e1 : errAt [pX, pY] 1 = 7 := by
    rw [errAt_lt (by decide)]; unfold errP
    have hh : hasB ([pX, pY].take 1) [pX, pY][1] = false := by simp [hasB, likeB, pX, pY, Lib.toList_data]
    rw [if_neg (by decide), if_neg (by rw [hh]; simp), if_pos (by decide)]
  exact ck_bad ((OkUp.zero _).succ e0) (by decide) e1 (by decide)
theorem ck_three : ckE (twoL ++ [pA]) = 8 := by
  have hu := ck_up two_ok
  have e0 : errAt (twoL ++ [pA]) 0 = 0 := hu 0 (by decide)
  have e1 : errAt (twoL ++ [pA]) 1 = 0 := hu 1 (by decide)
  have e2 : errAt (twoL ++ [pA]) 2 = 8 := by
    rw [errAt_lt (by decide)]; unfold errP
    have hh : hasB ((twoL ++ [pA]).take 2) (twoL ++ [pA])[2] = true := by simp [hasB, likeB, twoL]
    rw [if_neg (by decide), if_pos hh]
  exact ck_bad (((OkUp.zero _).succ e0).succ e1) (by decide) e2 (by decide)
theorem ck_none : ckE [pZ] = 2 := by
  have e0 : errAt [pZ] 0 = 2 := by
    rw [errAt_lt (by decide)]; unfold errP
    rw [if_pos (by decide)]
  exact ck_bad (OkUp.zero _) (by decide) e0 (by decide)
theorem size_two : sizeS twoL = 3 := by rw [sizeS_good two_ok]; rfl
theorem size_big : sizeS [pX, pY] = 0 := sizeS_bad (by rw [ck_big]; decide)
theorem part_1 : fromI twoL 1 = 1048584 ∧ toI twoL 1 = 1048600 := ⟨rfl, rfl⟩
theorem part_0 : fromI twoL 0 = 1048584 ∧ toI twoL 0 = 1048584 := ⟨rfl, rfl⟩
theorem wpList_wanted {P : Program} {ops : Array Oper} {Q : Exit → Act → World → Prop} {a : Act} {w : World} {rest : List Oper} {o : Oper} (hg : Region.wanted o (yielded ops a.tmps) = true)
    (h : ∀ K : Act → World → Prop, (∀ a w, wpList P ops Q rest a w → K a w) → o.wp P a w K Q) : wpList P ops Q (o :: rest) a w :=
  wpList_step fun K hK => by rw [if_pos hg]; exact h K hK
/-- append of one piece, in an operation that is wanted -/
theorem append_one {ops : Array Oper} {rest : List Oper} {o : Oper} {a : Act} {w : World} {Q : Exit → Act → World → Prop} (hgd : Region.wanted o (yielded ops a.tmps) = true) (s x : Operand)
    (ho : o.op = .call { callee := .builtin .append, args := #[s, x], argTypes := #[26, 26] }) (base : Nat) (v : Value) (n : Nat) (xs : List Value) (hs : a.eval s = v) (hown : w.ownsRow base 32 3 v n xs)
    (b : Nat) (p : Pc) (hx : a.eval x = .slice (some ⟨b, 0, none⟩) 1 1) (hr : Ps w b 0 [p]) (hn : n ≤ 1000) (hbase : base ≤ w.heap.size)
    (h : ∀ v' w', w'.ownsRow base 32 3 v' (n + 1) (xs ++ flatP [p]) → w.grownBy w' v.ownBlock → wpList Try.prog ops Q rest (a.put o.dst v') w') : wpList Try.prog ops Q (o :: rest) a w := by
  obtain ⟨i0, hi, hz0, hz1, hz2⟩ := info_parts infoPc
  refine wpList_wanted hgd fun K hK => wp_append_own w s x _ ho base 32 i0 (.agg #[.string ⟨#[]⟩, .int .i64 0, .int .i64 0]) 3 32 Try.underlying26 hi hz0 hz1 hz2 (by kernel_rfl) (by decide) v n xs hs hown ⟨b, 0, none⟩ 1 1 (flatP [p]) hx (flatP_len [p]) ?_ (flatP_one [p]) (by unfold maxLen; omega) (by omega) hbase fun v' w' h5 h6 _ => hK _ _ (h v' w' h5 h6)
  intro j u hu
  rw [Addr.add_lit]
  exact flatP_cell hr j u hu
theorem Sl.grown {w w' : World} {b b2 : Nat} {l : List Pc} (h : Sl w (some ⟨b, 0, none⟩) l) (hg : w.grownBy w' (some b2)) (hne : b ≠ b2) : Sl w' (some ⟨b, 0, none⟩) l := by
  rcases h with h | ⟨b', o', h1, h2⟩
  · exact .inl h
  · simp only [Option.some.injEq, Addr.mk.injEq] at h1
    obtain ⟨rfl, rfl, _⟩ := h1
    have e : ∀ o, w'.cell? ⟨b, o, none⟩ = w.cell? ⟨b, o, none⟩ := fun o => World.cell?_of_block (w := w) (a := ⟨b, o, none⟩) (hg.block b h2.lt (fun e => hne (by simpa using e)))
    exact .inr ⟨b, 0, rfl, ⟨fun k hk => ⟨(e _).trans (h2.at_ k hk).n, (e _).trans (h2.at_ k hk).s, (e _).trans (h2.at_ k hk).h⟩, Nat.lt_of_lt_of_le h2.lt hg.size⟩⟩
theorem Sl.lt1 {w : World} {b : Nat} {p : Pc} {l : List Pc} (h : Sl w (some ⟨b, 0, none⟩) (p :: l)) : b < w.heap.size := by
  rcases h with h | ⟨b', o', h1, h2⟩
  · cases h
  · simp only [Option.some.injEq, Addr.mk.injEq] at h1
    obtain ⟨rfl, rfl, _⟩ := h1
    exact h2.lt
/-- the chapter's pieces, in a row of the call's own -/
def TwoNew (w : World) (e : Ending) (w' : World) : Prop := e = .returned (.slice (some ⟨w.heap.size, 0, none⟩) 2 2) ∧ w'.ownsRow w.heap.size 32 3 (.slice (some ⟨w.heap.size, 0, none⟩) 2 2) 2 (flatP twoL) ∧ Below w.heap.size w w'
theorem two_new (w : World) : Calls Try.prog 8 #[] w (TwoNew w) := by
  go_enter Try.func8, Try.ntmps8
  go_wp2
  go_ret
  exact ⟨rfl, World.ownsRow_lit w #[.string ⟨#[97]⟩, .int .i64 2, .int .i64 1, .string ⟨#[98]⟩, .int .i64 1, .int .i64 (-1)] 2 (Nat.le_refl _) (by unfold maxLen; omega) (by rfl), one_below _ _⟩
set_option maxHeartbeats 4000000 in
set_option maxRecDepth 100000 in
theorem dataNames_any (w : World) : Calls Try.prog 3 #[] w (TrueOut w) := by
  have KT := Lib.hid (fun W => two_any W)
  have h2 : Hid ((twoL.length : Nat) = 2) := Lib.hid rfl
  have s1 : ((⟨#[97]⟩ : ByteArray).toList == (⟨#[97]⟩ : ByteArray).toList) = true := by simp
  go_enter Try.func3, Try.ntmps3
  go_wp2_with fail
  refine (KT.out _).mono ?_
  rintro e w1 ⟨a1, c1, rfl, hs, hb⟩
  have HS1 := Lib.hid hs
  have HB1 := Lib.hid hb
  clear hs hb
  rw [h2.out]
  have KL := Lib.hid (lay_two a1 c1 w1 HS1.out)
  go_wp2_with (go_at_call 7; refine KL.out.mono ?_; rintro e w2 ⟨B, rfl, hT, hb⟩; have HT := Lib.hid hT; have HB2 := Lib.hid (HB1.out.trans (hb.mono HB1.out.size)); clear hb hT)
  refine (KT.out _).mono ?_
  rintro e w3 ⟨a3, c3, rfl, hs, hb⟩
  have HS3 := Lib.hid hs
  have HB3 := Lib.hid (HB2.out.trans (hb.mono HB2.out.size))
  have G3 := Lib.hid hb
  clear hs hb
  rw [h2.out]
  have KP1 := Lib.hid (Part_ok a3 c3 twoL 1 w3 (by decide) HS3.out twoW two_ok (by decide) (by decide))
  rw [part_1.1, part_1.2, h2.out] at KP1
  go_wp2_with (go_at_call 9; (with_reducible refine (KP1.out).mono ?_); rintro e w4 ⟨rfl, hb⟩; have HB4 := Lib.hid (HB3.out.trans (hb.mono HB3.out.size)); have G4 := Lib.hid (G3.out.trans (hb.mono G3.out.size)); clear hb)
  refine (KT.out _).mono ?_
  rintro e w5 ⟨a5, c5, rfl, hs, hb⟩
  have HS5 := Lib.hid hs
  have HB5 := Lib.hid (HB4.out.trans (hb.mono HB4.out.size))
  have G5 := Lib.hid (G4.out.trans (hb.mono G4.out.size))
  clear hs hb
  rw [h2.out]
  have KP2 := Lib.hid (Part_ok a5 c5 twoL 0 w5 (by decide) HS5.out twoW two_ok (by decide) (by decide))
  rw [part_0.1, part_0.2, h2.out] at KP2
  go_wp2_with (go_at_call 9; (with_reducible refine (KP2.out).mono ?_); rintro e w6 ⟨rfl, hb⟩; have HB6 := Lib.hid (HB5.out.trans (hb.mono HB5.out.size)); have G6 := Lib.hid (G5.out.trans (hb.mono G5.out.size)); clear hb)
  have HT6 : Hid (Sm w6 (some ⟨B, 0, none⟩) seats2) := Lib.hid (Sm.below HT.out.sm G6.out)
  have KA := Lib.hid (fun W (hb : Below w6.heap.size w6 W) addr (x1 : 0 ≤ addr) (x2 : addr ≤ 18446744073709551615) => At_any (some ⟨B, 0, none⟩) 2 seats2 addr W (by decide) (HT6.out.below hb) seats2W x1 x2)
  have KA1 := Lib.hid (KA.out w6 (Below.refl _ _) 1048592 (by decide) (by decide))
  rw [at_1] at KA1
  refine (show Calls Try.prog 10 #[.slice (some ⟨B, 0, none⟩) 2 2, .int .u64 1048592] w6 _ from KA1.out).mono ?_
  rintro e w7 ⟨rfl, hb⟩
  have L7 := Lib.hid (hb.trans ((one_below w7 (.cells #[.string ⟨#[97]⟩, .int .i64 2, .int .i64 1, .int .u64 1048584] 34)).mono hb.size))
  have C7 : Hid ((w7.alloc (.cells #[.string ⟨#[97]⟩, .int .i64 2, .int .i64 1, .int .u64 1048584] 34)).cell? ⟨w7.heap.size, 0, none⟩ = some (.string ⟨#[97]⟩) ∧ w7.heap.size < (w7.alloc (.cells #[.string ⟨#[97]⟩, .int .i64 2, .int .i64 1, .int .u64 1048584] 34)).heap.size) := Lib.hid ⟨by simp, by simp⟩
  clear hb
  go_wp2_with fail
  obtain ⟨g9, hg9⟩ : ∃ g9, w7.heap.size = g9 := ⟨_, rfl⟩
  rw [hg9] at C7 ⊢
  generalize (w7.alloc (.cells #[.string ⟨#[97]⟩, .int .i64 2, .int .i64 1, .int .u64 1048584] 34)) = w8 at L7 C7 ⊢
  clear hg9
  have KA2 := Lib.hid (KA.out w8 L7.out 1048600 (by decide) (by decide))
  rw [at_2] at KA2
  refine (show Calls Try.prog 10 #[.slice (some ⟨B, 0, none⟩) 2 2, .int .u64 1048600] w8 _ from KA2.out).mono ?_
  rintro e w9 ⟨rfl, hb⟩
  have L9 := Lib.hid (L7.out.trans ((hb.trans ((one_below w9 (.cells #[.string ⟨#[]⟩, .int .i64 0, .int .i64 0, .int .u64 0] 34)).mono hb.size)).mono L7.out.size))
  have C9 : Hid ((w9.alloc (.cells #[.string ⟨#[]⟩, .int .i64 0, .int .i64 0, .int .u64 0] 34)).cell? ⟨g9, 0, none⟩ = some (.string ⟨#[97]⟩) ∧ g9 < (w9.alloc (.cells #[.string ⟨#[]⟩, .int .i64 0, .int .i64 0, .int .u64 0] 34)).heap.size) := Lib.hid (by
    have hbb := hb.trans ((one_below w9 (.cells #[.string ⟨#[]⟩, .int .i64 0, .int .i64 0, .int .u64 0] 34)).mono hb.size)
    exact ⟨(hbb.cell (p := ⟨g9, 0, none⟩) C7.out.2).trans C7.out.1, Nat.lt_of_lt_of_le C7.out.2 hbb.size⟩)
  clear hb
  go_wp2_with fail
  generalize (w9.alloc (.cells #[.string ⟨#[]⟩, .int .i64 0, .int .i64 0, .int .u64 0] 34)) = w10 at L9 C9 ⊢
  have KF := Lib.hid (Find_any (some ⟨B, 0, none⟩) 2 seats2 ⟨#[97]⟩ 0 w10 (by decide) (HT6.out.below L9.out))
  rw [find_1] at KF
  refine (show Calls Try.prog 11 #[.slice (some ⟨B, 0, none⟩) 2 2, .string ⟨#[97]⟩, .int .i64 0] w10 _ from KF.out).mono ?_
  rintro e w11 ⟨rfl, hb⟩
  have hbb := Lib.hid (hb.trans ((one_below w11 (.cells #[.string ⟨#[]⟩, .int .i64 0, .int .i64 0, .int .u64 0] 34)).mono hb.size))
  have hz11 := Lib.hid hb.size
  clear hb
  have hb12 := Lib.hid (hbb.out.trans ((one_below (w11.alloc (.cells #[.string ⟨#[]⟩, .int .i64 0, .int .i64 0, .int .u64 0] 34)) (.cells #[.string ⟨#[120]⟩, .int .i64 65536, .int .i64 (-1), .string ⟨#[121]⟩, .int .i64 1, .int .i64 (-1)] 32)).mono hbb.out.size))
  have SB : Hid (Sl ((w11.alloc (.cells #[.string ⟨#[]⟩, .int .i64 0, .int .i64 0, .int .u64 0] 34)).alloc (.cells #[.string ⟨#[120]⟩, .int .i64 65536, .int .i64 (-1), .string ⟨#[121]⟩, .int .i64 1, .int .i64 (-1)] 32)) (some ⟨w11.heap.size + 1, 0, none⟩) [pX, pY]) := Lib.hid (by
    refine .inr ⟨w11.heap.size + 1, 0, rfl, ⟨fun k hk => ?_, by simp⟩⟩
    have : k = 0 ∨ k = 1 := by simp at hk; omega
    rcases this with rfl | rfl
    · exact ⟨by simp [pX], by simp [pX], by simp [pX]⟩
    · exact ⟨by simp [pY], by simp [pY], by simp [pY]⟩)
  go_wp2_with fail
  obtain ⟨gB, hgB⟩ : ∃ gB, w11.heap.size + 1 = gB := ⟨_, rfl⟩
  rw [hgB] at SB ⊢
  generalize ((w11.alloc (.cells #[.string ⟨#[]⟩, .int .i64 0, .int .i64 0, .int .u64 0] 34)).alloc (.cells #[.string ⟨#[120]⟩, .int .i64 65536, .int .i64 (-1), .string ⟨#[121]⟩, .int .i64 1, .int .i64 (-1)] 32)) = w12 at hb12 SB ⊢
  have C12 : Hid (w12.cell? ⟨g9, 0, none⟩ = some (.string ⟨#[97]⟩) ∧ g9 < w12.heap.size) := Lib.hid ⟨(hb12.out.cell (p := ⟨g9, 0, none⟩) C9.out.2).trans C9.out.1, Nat.lt_of_lt_of_le C9.out.2 hb12.out.size⟩
  have L12 := Lib.hid (HB6.out.trans ((L9.out.trans (hb12.out.mono L9.out.size)).mono HB6.out.size))
  clear hbb hz11 hgB C9 L9 C7 L7 hb12
  refine (lives_any w12).mono ?_
  rintro e w13 ⟨rfl, hb⟩
  have c13 : w13.cell? ⟨g9, 0, none⟩ = some (.string ⟨#[97]⟩) := (hb.cell (p := ⟨g9, 0, none⟩) C12.out.2).trans C12.out.1
  have SB13 := Lib.hid (SB.out.below hb)
  have L13 := Lib.hid (L12.out.trans (hb.mono L12.out.size))
  clear hb
  have KB := Lib.hid (Check_any (some ⟨gB, 0, none⟩) 2 [pX, pY] w13 (by decide) SB13.out bigW)
  rw [ck_big] at KB
  simp only [List.append_eq, List.cons_append, List.nil_append]
  go_wp2_with fail
  refine (show Calls Try.prog 13 #[.slice (some ⟨gB, 0, none⟩) 2 2] w13 _ from KB.out).mono ?_
  rintro e w14 ⟨rfl, hb⟩
  have SB14 := Lib.hid (SB13.out.below hb)
  have L14 := Lib.hid (L13.out.trans (hb.mono L13.out.size))
  clear hb c13
  go_wp2_with fail
  refine (two_new _).mono ?_
  rintro e w15 ⟨rfl, ho, hb⟩
  have HO15 := Lib.hid ho
  have SB15 := Lib.hid (SB14.out.below hb)
  have L15 := Lib.hid (L14.out.trans (hb.mono L14.out.size))
  have hb14 : Hid (w14.heap.size ≤ w15.heap.size) := Lib.hid hb.size
  clear ho hb
  obtain ⟨g14, hg14⟩ : ∃ g, w14.heap.size = g := ⟨_, rfl⟩
  rw [hg14] at HO15 hb14 ⊢
  have HG14 := Lib.hid hg14
  have HNE : Hid (gB ≠ g14) := Lib.hid (by have := SB14.out.lt1; omega)
  clear hg14
  go_wp2_with fail
  refine (KT.out _).mono ?_
  rintro e w16 ⟨a16, c16, rfl, hs, hb⟩
  have HS16 := Lib.hid hs
  have HO16 := Lib.hid (own_on HO15.out hb)
  have SB16 := Lib.hid (SB15.out.below hb)
  have L16 := Lib.hid (L15.out.trans (hb.mono L15.out.size))
  have hb16 : Hid (g14 ≤ w16.heap.size) := Lib.hid (Nat.le_trans hb14.out hb.size)
  clear hb
  rw [h2.out]
  rcases hs with h | ⟨b16, o16, rfl, hps⟩
  · exact absurd h (by simp [twoL])
  obtain ⟨m1, m2, m3⟩ := hps.at_ 0 (by decide)
  simp only [twoL, List.getElem_cons_zero, pA, Nat.zero_mul, Nat.add_zero] at m1 m2 m3
  have HO17 := Lib.hid (own_on HO16.out (one_below w16 (.cells #[.string ⟨#[97]⟩, .int .i64 2, .int .i64 1] 32)))
  have HP17 : Hid (Ps (w16.alloc (.cells #[.string ⟨#[97]⟩, .int .i64 2, .int .i64 1] 32)) w16.heap.size 0 [pA]) := Lib.hid (by
    rcases sl_one w16 pA with h | ⟨b, o, h1, h2⟩
    · cases h
    · simp only [Option.some.injEq, Addr.mk.injEq] at h1; obtain ⟨rfl, rfl, _⟩ := h1; exact h2)
  have L17 := Lib.hid (L16.out.trans ((one_below w16 (.cells #[.string ⟨#[97]⟩, .int .i64 2, .int .i64 1] 32)).mono L16.out.size))
  have SB17 := Lib.hid (SB16.out.below (one_below w16 (.cells #[.string ⟨#[97]⟩, .int .i64 2, .int .i64 1] 32)))
  have HBS : Hid (g14 ≤ (w16.alloc (.cells #[.string ⟨#[97]⟩, .int .i64 2, .int .i64 1] 32)).heap.size) := Lib.hid (by have := hb16.out; simp; omega)
  have HWG : Hid (w.heap.size ≤ g14) := Lib.hid (by rw [← HG14.out]; exact L14.out.size)
  clear hps
  go_wp2_with (refine append_one (by rfl) (.tmp 105) (.tmp 109) rfl g14 _ 2 (flatP twoL) rfl HO17.out w16.heap.size pA rfl HP17.out (by omega) HBS.out ?_; intro v18 w18 hw18 hg18; have H18 := Lib.hid hw18; have SB18 := Lib.hid (SB17.out.grown hg18 HNE.out); have L18 := Lib.hid (L17.out.grown hg18 L17.out.size (fun k hk => Nat.le_trans HWG.out (own_lt HO17.out k hk))); clear hw18 hg18)
  obtain ⟨a18, c18, hv18, _, hs18⟩ := ps_of_own (l := twoL ++ [pA]) (w := w18) (base := g14) (v := v18) (by have := H18.out; rw [flatP_snoc] at this; exact this)
  subst hv18
  have HS18 := Lib.hid hs18
  clear hs18
  have K18 := Lib.hid (Check_any a18 c18 (twoL ++ [pA]) w18 (by decide) HS18.out (by
    intro p hp
    rcases List.mem_append.1 hp with h | h
    · exact twoW p h
    · rw [List.mem_singleton] at h; subst h; exact twoW pA (by simp [twoL])))
  rw [ck_three] at K18
  refine (K18.out).mono ?_
  rintro e w19 ⟨rfl, hb⟩
  have SB19 := Lib.hid (SB18.out.below hb)
  have L19 := Lib.hid (L18.out.trans (hb.mono L18.out.size))
  clear hb
  have KZ := Lib.hid (Check_any (some ⟨w19.heap.size, 0, none⟩) 1 [pZ] (w19.alloc (.cells #[.string ⟨#[]⟩, .int .i64 1, .int .i64 0] 32)) (by decide) (sl_one w19 pZ) (by
    intro p hp
    rw [List.mem_singleton] at hp; subst hp; exact pcw _ (by decide) (by decide) (by decide)))
  rw [ck_none] at KZ
  have L20 := Lib.hid (L19.out.trans ((one_below w19 (.cells #[.string ⟨#[]⟩, .int .i64 1, .int .i64 0] 32)).mono L19.out.size))
  have SB20 := Lib.hid (SB19.out.below (one_below w19 (.cells #[.string ⟨#[]⟩, .int .i64 1, .int .i64 0] 32)))
  go_wp2_with fail
  refine (show Calls Try.prog 13 #[.slice (some ⟨w19.heap.size, 0, none⟩) 1 1] (w19.alloc (.cells #[.string ⟨#[]⟩, .int .i64 1, .int .i64 0] 32)) _ from KZ.out).mono ?_
  rintro e w21 ⟨rfl, hb⟩
  have SB21 := Lib.hid (SB20.out.below hb)
  have L21 := Lib.hid (L20.out.trans (hb.mono L20.out.size))
  clear hb
  go_wp2_with fail
  refine (KT.out _).mono ?_
  rintro e w22 ⟨a22, c22, rfl, hs, hb⟩
  have HS22 := Lib.hid hs
  have SB22 := Lib.hid (SB21.out.below hb)
  have L22 := Lib.hid (L21.out.trans (hb.mono L21.out.size))
  clear hs hb
  have K22 := Lib.hid (Size_any a22 c22 twoL w22 (by decide) HS22.out twoW)
  rw [size_two] at K22
  go_wp2_with fail
  refine (K22.out).mono ?_
  rintro e w23 ⟨rfl, hb⟩
  have SB23 := Lib.hid (SB22.out.below hb)
  have L23 := Lib.hid (L22.out.trans (hb.mono L22.out.size))
  clear hb
  have K23 := Lib.hid (Size_any (some ⟨gB, 0, none⟩) 2 [pX, pY] w23 (by decide) SB23.out bigW)
  rw [size_big] at K23
  go_wp2_with fail
  refine (show Calls Try.prog 14 #[.slice (some ⟨gB, 0, none⟩) 2 2] w23 _ from K23.out).mono ?_
  rintro e w24 ⟨rfl, hb⟩
  have L24 := Lib.hid (L23.out.trans (hb.mono L23.out.size))
  clear hb
  go_wp2
  go_ret
  exact ⟨rfl, L24.out⟩
end Go.Proofs.Ythkakikigccaaaa
