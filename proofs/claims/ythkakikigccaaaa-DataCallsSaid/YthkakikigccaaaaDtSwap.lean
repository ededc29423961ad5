/-
  Proved here: what slices.swapRangeCmpFunc and slices.rotateCmpFunc make of a row of structs: two parts exchange their places, a part is turned about. No condition but the row's own.
-/
import Derived.Test.YthkakikigccaaaaProg
import Derived.Test.YthkakikigccaaaaDtPure
import Derived.Shelf.SlSortCmp.KitK
import Derived.Sort.WalkB2
import Derived.Sort.WalkB12
import Derived.Deep.LoopGhost
import Derived.Lib.Hide
namespace Go.Proofs.Ythkakikigccaaaa
open Go.Shelf Go.RowKit Go.Lib Go.Sort
set_option linter.unusedVariables false
set_option linter.unusedSimpArgs false
variable {P : Program} {α : Type} [Inhabited α]

/-- what the sort asks of a program that bears it: its functions, its types; an element has k cells -/
structure DtL (P : Program) (k : Nat) : Prop where
  mixed : P.follows .mixedOrders = true
  f34 : P.funcs[34]? = some Try.f34
  f40 : P.funcs[40]? = some Try.f40
  f43 : P.funcs[43]? = some Try.f43
  f44 : P.funcs[44]? = some Try.f44
  f45 : P.funcs[45]? = some Try.f45
  t0 : P.underlying 0 = some (TypeDesc.tuple #[])
  a0 : ∀ w, (isAgg 0).run P w = .ok false w
  z0 : ∀ w, (Go.sizeOf 0).run P w = .ok 1 w
  v0 : ∀ w, (zeroValue 0).run P w = .ok (Value.tuple #[]) w
  t3 : P.underlying 3 = some (TypeDesc.int IntKind.i64)
  a3 : ∀ w, (isAgg 3).run P w = .ok false w
  z3 : ∀ w, (Go.sizeOf 3).run P w = .ok 1 w
  v3 : ∀ w, (zeroValue 3).run P w = .ok (Value.int IntKind.i64 0) w
  t4 : P.underlying 4 = some TypeDesc.bool
  a4 : ∀ w, (isAgg 4).run P w = .ok false w
  z4 : ∀ w, (Go.sizeOf 4).run P w = .ok 1 w
  v4 : ∀ w, (zeroValue 4).run P w = .ok (Value.bool false) w
  t51 : P.underlying 51 = some (TypeDesc.slice 63)
  a51 : ∀ w, (isAgg 51).run P w = .ok false w
  z51 : ∀ w, (Go.sizeOf 51).run P w = .ok 1 w
  v51 : ∀ w, (zeroValue 51).run P w = .ok (Value.slice none 0 0) w
  t66 : P.underlying 66 = some (TypeDesc.func #[63, 63] #[3] false)
  a66 : ∀ w, (isAgg 66).run P w = .ok false w
  z66 : ∀ w, (Go.sizeOf 66).run P w = .ok 1 w
  v66 : ∀ w, (zeroValue 66).run P w = .ok Value.nilFunc w
  t76 : P.underlying 76 = some (TypeDesc.int IntKind.u64)
  a76 : ∀ w, (isAgg 76).run P w = .ok false w
  z76 : ∀ w, (Go.sizeOf 76).run P w = .ok 1 w
  v76 : ∀ w, (zeroValue 76).run P w = .ok (Value.int IntKind.u64 0) w
  aE : ∀ w, (isAgg 63).run P w = .ok true w
  zE : ∀ w, (Go.sizeOf 63).run P w = .ok k w

theorem sw_idx {C A M B D : List α} {d : Array α} {t a b : Nat} (hl : A.length = B.length) (ht : t < A.length) (ha : a = C.length) (hb : b = C.length + A.length + M.length) (h : Sw C A M B D t d) :
    Sw C A M B D (t + 1) (swp d (a + t) (b + t)) := by subst ha; subst hb; exact sw_step hl ht h
set_option maxHeartbeats 4000000 in
set_option maxRecDepth 1000000 in
theorem swapRange_any {k : Nat} (L : DtL P k) (enc : α → List Value) (g : Nat) (cb : Array Value) (blk off cap : Nat) (d0 d : Array α) (w0 w : World) (R : RowK enc k w0 blk off d0) (hs : d0.size = d.size)
    (S : SWK enc k w0 blk off d w) (C A M B D : List α) (hd : d.toList = C ++ A ++ M ++ B ++ D) (hl : A.length = B.length) (hsz : d.size < 4611686018427387904) (a b n : Nat) (ha : a = C.length) (hb : b = C.length + A.length + M.length) (hn : n = A.length) :
    Calls P 45 #[.slice (some ⟨blk, off, none⟩) d.size cap, .int .i64 a, .int .i64 b, .int .i64 n, .func (.func g) #[] cb] w fun e w' =>
      e = .returned (.tuple #[]) ∧ ∃ d' : Array α, d'.size = d.size ∧ d'.toList = C ++ B ++ M ++ A ++ D ∧ SWK enc k w0 blk off d' w' := by
  have mixed := L.mixed; have t0 := L.t0; have a0 := L.a0; have z0 := L.z0; have v0 := L.v0; have t3 := L.t3; have a3 := L.a3; have z3 := L.z3; have v3 := L.v3; have t4 := L.t4; have a4 := L.a4; have z4 := L.z4; have v4 := L.v4; have t51 := L.t51; have a51 := L.a51; have z51 := L.z51; have v51 := L.v51; have t66 := L.t66; have a66 := L.a66; have z66 := L.z66; have v66 := L.v66; have aE := L.aE; have zE := L.zE
  have FG := L.f45
  have S0 : Aside (SWK enc k w0 blk off d w) := S
  have W0 := Lib.hid (sw_start hd)
  have bnd : b + n ≤ d.size ∧ a + n ≤ d.size := by
    have := sw_size hl (Nat.zero_le _) (sw_start hd); omega
  have HL := Lib.hid (And.intro hl (And.intro ha (And.intro hb hn)))
  clear S hd hl ha hb hn
  obtain ⟨bn1, bn2⟩ := bnd
  go_enter FG, Try.ntmps45
  go_wp2
  go_loopg [10] n (fun kx s10 wr => ∃ (t : Nat) (dk : Array α), s10 = .int .i64 t ∧ t ≤ n ∧ n ≤ kx + t ∧ dk.size = d.size ∧ Aside (SWK enc k w0 blk off dk wr) ∧ Hid (Sw C A M B D t dk))
  case atStart => exact ⟨0, d, rfl, Nat.zero_le _, by omega, rfl, S0, W0⟩
  case round =>
    clear S0 W0
    obtain ⟨t, dk, rfl, ht, hkx, hds, S1, HW⟩ := hrel
    by_cases hlt : t < n
    · have hltz : (t : Int) < (n : Int) := by omega
      go_wp2_with fail
      have ea : ((a : Int) + (t : Int)).toNat = a + t := by omega
      have pa : (0 : Int) ≤ (a : Int) + (t : Int) := by omega
      have ba : (a : Int) + (t : Int) < (d.size : Int) := by omega
      have ra : IntKind.i64.wrap ((a : Int) + (t : Int)) = (a : Int) + (t : Int) := by rw [IntKind.wrap_i64]; omega
      have eb : ((b : Int) + (t : Int)).toNat = b + t := by omega
      have pb : (0 : Int) ≤ (b : Int) + (t : Int) := by omega
      have bb : (b : Int) + (t : Int) < (d.size : Int) := by omega
      have rb : IntKind.i64.wrap ((b : Int) + (t : Int)) = (b : Int) + (t : Int) := by rw [IntKind.wrap_i64]; omega
      have S2 : Aside (SWK enc k w0 blk off (swp dk (a + t) (b + t)) ((wr.drew.setCells blk (off + (a + t) * k) (enc dk[b + t]!)).setCells blk (off + (b + t) * k) (enc dk[a + t]!))) := S1.out.swapped R (a + t) (b + t) (by omega) (by omega)
      have la := S1.out.ld1 R (by omega) P (a + t) (by omega)
      have lb := S1.out.ld1 R (by omega) P (b + t) (by omega)
      have sa := S1.out.st1 R (by omega) P (a + t) (by omega) dk[b + t]!
      have sb := S1.out.st2 R (by omega) P (a + t) (b + t) (by omega) (by omega) dk[b + t]! dk[a + t]!
      have na : (enc dk[a + t]!).length = k := R.hk _
      have nb : (enc dk[b + t]!).length = k := R.hk _
      generalize enc dk[a + t]! = cA at S2 la sb na
      generalize enc dk[b + t]! = cB at S2 lb sa sb nb
      clear S1
      go_wp2_with fail
      go_big_region_o
      clear la lb sa sb
      generalize (wr.drew.setCells blk (off + (a + t) * k) cB).setCells blk (off + (b + t) * k) cA = w2 at S2 ⊢
      go_wp2
      go_roundg (n - (t + 1))
      case measure => omega
      case rel =>
        obtain ⟨hl, ha, hb, hn⟩ := HL.out
        exact ⟨t + 1, swp dk (a + t) (b + t), by simp, by omega, by omega, by rw [size_swp]; exact hds, S2, Lib.hid (sw_idx hl (by omega) ha hb HW.out)⟩
    · have hltz : ¬ (t : Int) < (n : Int) := by omega
      go_wp2
      go_end0
      obtain ⟨hl, ha, hb, hn⟩ := HL.out
      obtain rfl : t = A.length := by omega
      exact ⟨rfl, dk, hds, by simpa using sw_end hl HW.out, S1.out⟩

omit [Inhabited α] in
theorem rt_lens {C A B D F : List α} {d : Array α} (h : Rt C A B D F d) : d.size = C.length + A.length + B.length + D.length := by
  have := congrArg List.length h.1; simp at this; omega
omit [Inhabited α] in
/-- the left part is the longer one: its head goes behind -/
theorem rt_left {C A B D F : List α} {d d' : Array α} (h : Rt C A B D F d) (hl : B.length < A.length) (h' : d'.toList = C ++ B ++ A.drop B.length ++ A.take B.length ++ D) :
    Rt (C ++ B) (A.drop B.length) (A.take B.length) D F d' := by
  refine ⟨by rw [h'], ?_⟩
  rw [← h.2]
  have : A.take B.length ++ A.drop B.length = A := List.take_append_drop _ _
  conv => rhs; rw [← this]
  simp only [List.append_assoc]
omit [Inhabited α] in
/-- the right part is the longer one: its tail goes ahead -/
theorem rt_right {C A B D F : List α} {d d' : Array α} (h : Rt C A B D F d) (hl : A.length < B.length) (h' : d'.toList = C ++ B.drop (B.length - A.length) ++ B.take (B.length - A.length) ++ A ++ D) :
    Rt C (B.drop (B.length - A.length)) (B.take (B.length - A.length)) (A ++ D) F d' := by
  refine ⟨by rw [h']; simp only [List.append_assoc], ?_⟩
  rw [← h.2]
  have : B.take (B.length - A.length) ++ B.drop (B.length - A.length) = B := List.take_append_drop _ _
  conv => rhs; rw [← this]
  simp only [List.append_assoc]
/-- how far a turning has come: parts of i and j elements about m are left -/
def Rot (enc : α → List Value) (k : Nat) (w0 : World) (blk off m : Nat) (F : List α) (n i j : Nat) (W : World) : Prop :=
  ∃ (C A B D : List α) (dk : Array α), Rt C A B D F dk ∧ A.length = i ∧ B.length = j ∧ C.length + i = m ∧ dk.size = n ∧ SWK enc k w0 blk off dk W
set_option maxHeartbeats 4000000 in
set_option maxRecDepth 1000000 in
theorem rotate_any {k : Nat} (L : DtL P k) (enc : α → List Value) (g : Nat) (cb : Array Value) (blk off cap : Nat) (d0 d : Array α) (w0 w : World) (R : RowK enc k w0 blk off d0) (hs : d0.size = d.size)
    (S : SWK enc k w0 blk off d w) (C A B D : List α) (hd : d.toList = C ++ A ++ B ++ D) (hA : 0 < A.length) (hB : 0 < B.length) (hsz : d.size < 4611686018427387904) (a m b : Nat) (ha : a = C.length) (hm : m = C.length + A.length) (hb : b = C.length + A.length + B.length) :
    Calls P 44 #[.slice (some ⟨blk, off, none⟩) d.size cap, .int .i64 a, .int .i64 m, .int .i64 b, .func (.func g) #[] cb] w fun e w' =>
      e = .returned (.tuple #[]) ∧ ∃ d' : Array α, d'.size = d.size ∧ d'.toList = C ++ B ++ A ++ D ∧ SWK enc k w0 blk off d' w' := by
  have mixed := L.mixed; have t0 := L.t0; have a0 := L.a0; have z0 := L.z0; have v0 := L.v0; have t3 := L.t3; have a3 := L.a3; have z3 := L.z3; have v3 := L.v3; have t4 := L.t4; have a4 := L.a4; have z4 := L.z4; have v4 := L.v4; have t51 := L.t51; have a51 := L.a51; have z51 := L.z51; have v51 := L.v51; have t66 := L.t66; have a66 := L.a66; have z66 := L.z66; have v66 := L.v66
  have FG := L.f44
  have e45 : ∀ args w, (callFunc 45 args).run P w = .ok (.enter 45 args) w := enters_of L.f45 (by kernel_rfl) rfl
  obtain ⟨n, hn⟩ : ∃ n, n = d.size := ⟨_, rfl⟩
  have lens : d.size = C.length + A.length + B.length + D.length := by have := congrArg List.length hd; simp at this; omega
  obtain ⟨F, hF⟩ : ∃ F, F = C ++ B ++ A ++ D := ⟨_, rfl⟩
  obtain ⟨i0, hi0⟩ : ∃ i, i = A.length := ⟨_, rfl⟩
  obtain ⟨j0, hj0⟩ : ∃ j, j = B.length := ⟨_, rfl⟩
  have S0 : Aside (Rot enc k w0 blk off m F n i0 j0 w) := ⟨C, A, B, D, d, ⟨hd, hF.symm⟩, hi0.symm, hj0.symm, by omega, hn.symm, S⟩
  have hF' := Lib.hid hF
  have em : (m : Int) - (a : Int) = (i0 : Int) := by omega
  have eb : (b : Int) - (m : Int) = (j0 : Int) := by omega
  have bj : m + j0 ≤ n := by omega
  have bi : i0 ≤ m := by omega
  have p1 : 0 < i0 := by omega
  have p2 : 0 < j0 := by omega
  have hs' : d0.size = n := by omega
  have hN := Lib.hid hn
  rw [← hn] at hsz ⊢
  clear S hd ha hm hb hA hB hn hF hi0 hj0 lens hs
  go_enter FG, Try.ntmps44
  go_wp2
  go_loopg [10, 11] (i0 + j0) (fun kx s10 s11 wr => ∃ (i j : Nat), s10 = .int .i64 i ∧ s11 = .int .i64 j ∧ 0 < i ∧ 0 < j ∧ i ≤ m ∧ m + j ≤ n ∧ i + j ≤ kx ∧ Aside (Rot enc k w0 blk off m F n i j wr))
  case atStart => exact ⟨i0, j0, rfl, rfl, p1, p2, bi, bj, Nat.le_refl _, S0⟩
  case round =>
    clear S0 em eb bj bi p1 p2
    obtain ⟨i, j, rfl, rfl, p1, p2, bi, bj, hkx, S1⟩ := hrel
    obtain ⟨C', A', B', D', dk, hrt, hlA, hlB, hCm, hdk, SK⟩ := S1.out
    have RT := Lib.hid hrt
    clear S1 hrt
    rcases Nat.lt_trichotomy i j with hij | hij | hij
    · -- the right part is the longer one
      have q1 : ¬ (i : Int) = (j : Int) := by omega
      have q2 : ¬ (j : Int) < (i : Int) := by omega
      have q3 : ((m : Int) - (i : Int)) = ((m - i : Nat) : Int) := by omega
      have q4 : ((m : Int) + (j : Int) - (i : Int)) = ((m + j - i : Nat) : Int) := by omega
      have hdec : dk.toList = C' ++ A' ++ B'.take (B'.length - A'.length) ++ B'.drop (B'.length - A'.length) ++ D' := by
        rw [RT.out.1]; simp only [List.append_assoc, List.take_append_drop]
      have hcall := swapRange_any (P := P) L enc g cb blk off cap d0 dk w0 wr R (by omega) SK C' A' (B'.take (B'.length - A'.length)) (B'.drop (B'.length - A'.length)) D' hdec (by simp; omega) (by omega) (m - i) (m + j - i) i (by omega) (by simp; omega) (by omega)
      rw [hdk, ← q3, ← q4] at hcall
      have HX := Lib.hid (And.intro hlA (And.intro hlB (And.intro hCm hdk)))
      clear hlA hlB hCm hdk hdec SK q3 q4
      go_wp2_with (go_at_fn 45; refine hcall.mono ?_; rintro e w1 ⟨rfl, S3⟩)
      obtain ⟨hlA, hlB, hCm, hdk⟩ := HX.out
      obtain ⟨d', hd', hl', S4⟩ := S3
      have q5 : (j : Int) - (i : Int) = ((j - i : Nat) : Int) := by omega
      have T1 : Aside (Rot enc k w0 blk off m F n i (j - i) w1) := ⟨C', B'.drop (B'.length - A'.length), B'.take (B'.length - A'.length), A' ++ D', d', rt_right RT.out (by omega) hl', by simp; omega, by simp; omega, hCm, by omega, S4⟩
      clear hlA hlB hCm hdk hd' hl' S4 HX RT
      rw [q5]
      go_roundg (j - i + i)
      case measure => omega
      case rel => exact ⟨i, j - i, rfl, rfl, p1, by omega, bi, by omega, by omega, T1⟩
    · -- as long as each other: the last exchange
      subst hij
      have q3 : ((m : Int) - (i : Int)) = ((m - i : Nat) : Int) := by omega
      have hdec : dk.toList = C' ++ A' ++ [] ++ B' ++ D' := by rw [RT.out.1]; simp
      have hcall := swapRange_any (P := P) L enc g cb blk off cap d0 dk w0 wr R (by omega) SK C' A' [] B' D' hdec (by omega) (by omega) (m - i) m i (by omega) (by simp; omega) (by omega)
      rw [hdk, ← q3] at hcall
      have HX := Lib.hid hdk
      clear hlA hlB hCm hdk hdec SK q3
      go_wp2_with (go_at_fn 45; refine hcall.mono ?_; rintro e w1 ⟨rfl, S3⟩)
      go_end0
      obtain ⟨d', hd', hl', S4⟩ := S3
      refine ⟨rfl, d', hd', ?_, S4⟩
      have e1 := RT.out.2
      have e2 := hF'.out
      rw [hl', ← e2, ← e1]; simp
    · -- the left part is the longer one
      have q1 : ¬ (i : Int) = (j : Int) := by omega
      have q2 : (j : Int) < (i : Int) := by omega
      have q3 : ((m : Int) - (i : Int)) = ((m - i : Nat) : Int) := by omega
      have hdec : dk.toList = C' ++ A'.take B'.length ++ A'.drop B'.length ++ B' ++ D' := by
        rw [RT.out.1, List.append_assoc C' (A'.take _), List.take_append_drop]
      have hcall := swapRange_any (P := P) L enc g cb blk off cap d0 dk w0 wr R (by omega) SK C' (A'.take B'.length) (A'.drop B'.length) B' D' hdec (by simp; omega) (by omega) (m - i) m j (by omega) (by simp; omega) (by simp; omega)
      rw [hdk, ← q3] at hcall
      have HX := Lib.hid (And.intro hlA (And.intro hlB (And.intro hCm hdk)))
      clear hlA hlB hCm hdk hdec SK q3
      go_wp2_with (go_at_fn 45; refine hcall.mono ?_; rintro e w1 ⟨rfl, S3⟩)
      obtain ⟨hlA, hlB, hCm, hdk⟩ := HX.out
      obtain ⟨d', hd', hl', S4⟩ := S3
      have q5 : (i : Int) - (j : Int) = ((i - j : Nat) : Int) := by omega
      have T1 : Aside (Rot enc k w0 blk off m F n (i - j) j w1) := ⟨C' ++ B', A'.drop B'.length, A'.take B'.length, D', d', rt_left RT.out (by omega) hl', by simp; omega, by simp; omega, by simp; omega, by omega, S4⟩
      clear hlA hlB hCm hdk hd' hl' S4 HX RT
      rw [q5]
      go_roundg (i - j + j)
      case measure => omega
      case rel => exact ⟨i - j, j, rfl, rfl, by omega, p2, by omega, by omega, by omega, T1⟩
end Go.Proofs.Ythkakikigccaaaa
