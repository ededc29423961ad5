/-
  Proved here: slices.SortStableFunc at structs, at most forty of them: the row is sorted by rank, each rank's as they stood. No condition but the row's own.
-/
import Derived.Test.YthkakikigccaaaaDtSym2
import Derived.Test.YthkakikigccaaaaDtIns
import Derived.LoopN
namespace Go.Proofs.Ythkakikigccaaaa
open Go.Shelf Go.RowKit Go.Lib Go.Sort
set_option linter.unusedVariables false
set_option linter.unusedSimpArgs false
variable {P : Program} {α : Type} [Inhabited α]

theorem sym_any {k : Nat} (L : DtL P k) (enc : α → List Value) (cf : α → α → Int) (r : α → Int) (hcf : ∀ x y, cf x y < 0 ↔ r x < r y) (g : Nat) (cb : Array Value) (blk off cap : Nat) (d0 : Array α) (w0 : World) (eg : ∀ args w, (callFunc g args).run P w = .ok (.enter g args) w)
    (hcmp : CmpLays P g cb enc k cf blk off d0.size w0) (R : RowK enc k w0 blk off d0) (n : Nat) (hs : d0.size = n) (hsz : n < 4611686018427387904) : ∀ N, SymC P enc k r g cb blk off cap n w0 N := by
  intro N
  induction N with
  | zero => intro C X Y D d w a m b hds hd S uX uY pX pY ha hm hb hN; omega
  | succ N ih =>
    intro C X Y D d w a m b hds hd S uX uY pX pY ha hm hb hN
    by_cases h1 : X.length = 1
    · obtain ⟨x, rfl⟩ := List.length_eq_one_iff.1 h1
      exact sym_left L enc cf r hcf g cb blk off cap d0 d w0 w eg hcmp R n hs hds hsz S C Y D x hd uY a m b ha (by simpa using hm) hb
    · by_cases h2 : Y.length = 1
      · obtain ⟨y, rfl⟩ := List.length_eq_one_iff.1 h2
        exact sym_right L enc cf r hcf g cb blk off cap d0 d w0 w eg hcmp R n hs hds hsz S C X D y hd uX a m b ha hm (by simpa using hb) h1
      · exact sym_step L enc cf r hcf g cb blk off cap d0 d w0 w eg hcmp R n hs hds hsz S N ih C X Y D hd uX uY a m b ha hm hb (by omega) (by omega) (by omega)
/-- what slices.insertionSortCmpFunc does -/
def InsC (P : Program) (enc : α → List Value) (k : Nat) (r : α → Int) (g : Nat) (cb : Array Value) (blk off cap n : Nat) (w0 : World) : Prop :=
  ∀ (C X D : List α) (d : Array α) (w : World) (a b : Nat), d.size = n → d.toList = C ++ X ++ D → SWK enc k w0 blk off d w → a = C.length → b = a + X.length →
    Calls P 42 #[.slice (some ⟨blk, off, none⟩) n cap, .int .i64 a, .int .i64 b, .func (.func g) #[] cb] w (MgOut enc k w0 blk off n r C X D)
/-- what came of the whole -/
def StOut (enc : α → List Value) (k : Nat) (w0 : World) (blk off n : Nat) (r : α → Int) (l : List α) (e : Ending) (w' : World) : Prop :=
  e = .returned (.tuple #[]) ∧ ∃ d' : Array α, d'.size = n ∧ St r l d'.toList ∧ SWK enc k w0 blk off d' w'
def IsOut (enc : α → List Value) (k : Nat) (w0 : World) (blk off n : Nat) (d : Array α) (w' : World) : Prop := d.size = n ∧ SWK enc k w0 blk off d w'
set_option maxHeartbeats 4000000 in
set_option maxRecDepth 1000000 in
theorem stable_small {k : Nat} (L : DtL P k) (enc : α → List Value) (r : α → Int) (g : Nat) (cb : Array Value) (blk off cap : Nat) (d : Array α) (w0 w : World) (n : Nat) (hds : d.size = n) (h20 : n < 20)
    (ei : ∀ args w, (callFunc 42 args).run P w = .ok (.enter 42 args) w) (hI : InsC P enc k r g cb blk off cap n w0) (S : SWK enc k w0 blk off d w) :
    Calls P 40 #[.slice (some ⟨blk, off, none⟩) n cap, .int .i64 n, .func (.func g) #[] cb] w (StOut enc k w0 blk off n r d.toList) := by
  have mixed := L.mixed; have t0 := L.t0; have a0 := L.a0; have z0 := L.z0; have v0 := L.v0; have t3 := L.t3; have a3 := L.a3; have z3 := L.z3; have v3 := L.v3; have t4 := L.t4; have a4 := L.a4; have z4 := L.z4; have v4 := L.v4; have t51 := L.t51; have a51 := L.a51; have z51 := L.z51; have v51 := L.v51; have t66 := L.t66; have a66 := L.a66; have z66 := L.z66; have v66 := L.v66
  have FG := L.f40
  have h1 := hI [] d.toList [] d w 0 n hds (by simp) S rfl (by simp; omega)
  have hz : ¬ (20 : Int) ≤ (n : Int) := by omega
  have hz2 : ¬ (20 : Int) < (n : Int) := by omega
  clear hI S hds
  go_enter FG, Try.ntmps40
  go_wp2_with fail
  refine wp_loop_rounds 1 ?_
  rw [rounds_succ]
  go_wp2_with (go_at_fn 42; refine h1.mono ?_; rintro e1 w1 ⟨rfl, d1, Z1, s1, l1, st1, S1⟩; have O1 := Lib.hid (And.intro s1 (And.intro l1 (And.intro st1 S1))); clear h1 s1 l1 st1 S1)
  refine wp_loop_rounds 1 ?_
  rw [rounds_succ]
  go_wp2
  go_end0
  obtain ⟨s1, l1, st1, S1⟩ := O1.out
  refine ⟨rfl, d1, s1, ?_, S1⟩
  rw [l1]; simpa using st1
set_option maxHeartbeats 4000000 in
set_option maxRecDepth 1000000 in
theorem stable_mid {k : Nat} (L : DtL P k) (enc : α → List Value) (r : α → Int) (g : Nat) (cb : Array Value) (blk off cap : Nat) (d : Array α) (w0 w : World) (n : Nat) (hds : d.size = n) (h20 : 20 ≤ n) (h40 : n ≤ 40)
    (ei : ∀ args w, (callFunc 42 args).run P w = .ok (.enter 42 args) w) (hI : InsC P enc k r g cb blk off cap n w0) (hM : ∀ N, SymC P enc k r g cb blk off cap n w0 N) (S : SWK enc k w0 blk off d w) :
    Calls P 40 #[.slice (some ⟨blk, off, none⟩) n cap, .int .i64 n, .func (.func g) #[] cb] w (StOut enc k w0 blk off n r d.toList) := by
  have mixed := L.mixed; have t0 := L.t0; have a0 := L.a0; have z0 := L.z0; have v0 := L.v0; have t3 := L.t3; have a3 := L.a3; have z3 := L.z3; have v3 := L.v3; have t4 := L.t4; have a4 := L.a4; have z4 := L.z4; have v4 := L.v4; have t51 := L.t51; have a51 := L.a51; have z51 := L.z51; have v51 := L.v51; have t66 := L.t66; have a66 := L.a66; have z66 := L.z66; have v66 := L.v66
  have FG := L.f40
  have es : ∀ args w, (callFunc 43 args).run P w = .ok (.enter 43 args) w := enters_of L.f43 (by kernel_rfl) rfl
  have hl : d.toList.length = n := by simp [hds]
  obtain ⟨A0, hA0⟩ : ∃ A0, A0 = d.toList.take 20 := ⟨_, rfl⟩
  obtain ⟨B0, hB0⟩ : ∃ B0, B0 = d.toList.drop 20 := ⟨_, rfl⟩
  have hAB : A0 ++ B0 = d.toList := by rw [hA0, hB0, List.take_append_drop]
  have hlA : A0.length = 20 := by rw [hA0, List.length_take]; omega
  have hlB : B0.length = n - 20 := by rw [hB0, List.length_drop]; omega
  have hp : d.toList = [] ++ A0 ++ B0 := by rw [← hAB]; rfl
  have h1 : Calls P 42 #[.slice (some ⟨blk, off, none⟩) n cap, .int .i64 0, .int .i64 20, .func (.func g) #[] cb] w (MgOut enc k w0 blk off n r [] A0 B0) := hI [] A0 B0 d w 0 20 hds hp S rfl (by omega)
  have HA := Lib.hid hlA
  have HB := Lib.hid hlB
  have HAB := Lib.hid hAB
  clear hA0 hB0 hlA hlB hAB
  have HI := Lib.hid hI
  have HM := Lib.hid hM
  have HL := Lib.hid hl
  clear hI hM S hds hp hl
  by_cases hq : n = 40
  · subst hq
    go_enter FG, Try.ntmps40
    go_wp2_with fail
    refine wp_loop_rounds 3 ?_
    rw [rounds_succ]
    go_wp2_with (go_at_fn 42; refine h1.mono ?_; rintro e1 w1 ⟨rfl, d1, Z1, s1, l1, st1, S1⟩; have O1 := Lib.hid (And.intro s1 (And.intro l1 (And.intro st1 S1))); clear h1 s1 l1 st1 S1)
    have h2 : Calls P 42 #[.slice (some ⟨blk, off, none⟩) (40 : Nat) cap, .int .i64 20, .int .i64 40, .func (.func g) #[] cb] w1 (MgOut enc k w0 blk off 40 r Z1 B0 []) := HI.out Z1 B0 [] d1 w1 20 40 O1.out.1 (by rw [O1.out.2.1]; simp) O1.out.2.2.2 (by have := O1.out.2.2.1.len; have := HA.out; omega) (by have := HB.out; omega)
    rw [rounds_succ]
    go_wp2_with (go_at_fn 42; refine h2.mono ?_; rintro e2 w2 ⟨rfl, d2, Z2, s2, l2, st2, S2⟩; have O2 := Lib.hid (And.intro s2 (And.intro l2 (And.intro st2 S2))); clear h2 s2 l2 st2 S2)
    have h3 : Calls P 42 #[.slice (some ⟨blk, off, none⟩) (40 : Nat) cap, .int .i64 40, .int .i64 40, .func (.func g) #[] cb] w2 (MgOut enc k w0 blk off 40 r (Z1 ++ Z2) [] []) := HI.out (Z1 ++ Z2) [] [] d2 w2 40 40 O2.out.1 (by rw [O2.out.2.1]; simp) O2.out.2.2.2 (by rw [List.length_append, O1.out.2.2.1.len, O2.out.2.2.1.len, HA.out, HB.out]) rfl
    rw [rounds_succ]
    go_wp2_with (go_at_fn 42; refine h3.mono ?_; rintro e3 w3 ⟨rfl, d3, Z3, s3, l3, st3, S3⟩; have O3 := Lib.hid (And.intro s3 (And.intro l3 (And.intro st3 S3))); clear h3 s3 l3 st3 S3)
    have z3 : Z3 = [] := List.eq_nil_of_length_eq_zero (by rw [O3.out.2.2.1.len]; rfl)
    have h4 : Calls P 43 #[.slice (some ⟨blk, off, none⟩) (40 : Nat) cap, .int .i64 0, .int .i64 20, .int .i64 40, .func (.func g) #[] cb] w3 (MgOut enc k w0 blk off 40 r [] (Z1 ++ Z2) []) := HM.out 40 [] Z1 Z2 [] d3 w3 0 20 40 O3.out.1 (by rw [O3.out.2.1, z3]; simp) O3.out.2.2.2 O1.out.2.2.1.up O2.out.2.2.1.up (by have := O1.out.2.2.1.len; have := HA.out; omega) (by have := O2.out.2.2.1.len; have := HB.out; omega) rfl (by have := O1.out.2.2.1.len; have := HA.out; omega) (by have := O2.out.2.2.1.len; have := HB.out; omega) (by omega)
    clear z3
    refine wp_loop_rounds 2 ?_
    rw [rounds_succ]
    go_wp2_with fail
    refine wp_loop_rounds 2 ?_
    rw [rounds_succ]
    go_wp2_with (go_at_fn 43; refine h4.mono ?_; rintro e4 w4 ⟨rfl, d4, Z4, s4, l4, st4, S4⟩; have O4 := Lib.hid (And.intro s4 (And.intro l4 (And.intro st4 S4))); clear h4 s4 l4 st4 S4)
    rw [rounds_succ]
    go_wp2
    rw [rounds_succ]
    go_wp2
    go_end0
    obtain ⟨s4, l4, st4, S4⟩ := O4.out
    refine ⟨rfl, d4, s4, ?_, S4⟩
    have := St.both O1.out.2.2.1 O2.out.2.2.1 st4
    rw [HAB.out] at this
    rw [l4]; simpa using this
  · have h39 : n < 40 := by omega
    have hn1 : (20 : Int) ≤ (n : Int) := by omega
    have hn2 : ¬ (40 : Int) ≤ (n : Int) := by omega
    have hn3 : ¬ (40 : Int) < (n : Int) := by omega
    go_enter FG, Try.ntmps40
    go_wp2_with fail
    refine wp_loop_rounds 2 ?_
    rw [rounds_succ]
    go_wp2_with (go_at_fn 42; refine h1.mono ?_; rintro e1 w1 ⟨rfl, d1, Z1, s1, l1, st1, S1⟩; have O1 := Lib.hid (And.intro s1 (And.intro l1 (And.intro st1 S1))); clear h1 s1 l1 st1 S1)
    have h2 : Calls P 42 #[.slice (some ⟨blk, off, none⟩) n cap, .int .i64 20, .int .i64 n, .func (.func g) #[] cb] w1 (MgOut enc k w0 blk off n r Z1 B0 []) := HI.out Z1 B0 [] d1 w1 20 n O1.out.1 (by rw [O1.out.2.1]; simp) O1.out.2.2.2 (by have := O1.out.2.2.1.len; have := HA.out; omega) (by have := HB.out; omega)
    rw [rounds_succ]
    go_wp2_with (go_at_fn 42; refine h2.mono ?_; rintro e2 w2 ⟨rfl, d2, Z2, s2, l2, st2, S2⟩; have O2 := Lib.hid (And.intro s2 (And.intro l2 (And.intro st2 S2))); clear h2 s2 l2 st2 S2)
    by_cases hq2 : n = 20
    · have hn4 : ¬ (20 : Int) < (n : Int) := by omega
      refine wp_loop_rounds 1 ?_
      rw [rounds_succ]
      go_wp2
      go_end0
      refine ⟨rfl, d2, by rw [O2.out.1, hq2], ?_, O2.out.2.2.2⟩
      have st2 := O2.out.2.2.1
      have zB : B0 = [] := List.eq_nil_of_length_eq_zero (by have := HB.out; omega)
      have z2 : Z2 = [] := List.eq_nil_of_length_eq_zero (by have := st2.len; have := HB.out; omega)
      have e := HAB.out
      rw [zB, List.append_nil] at e
      rw [O2.out.2.1, z2, ← e]
      simpa using O1.out.2.2.1
    · have hn4 : (20 : Int) < (n : Int) := by omega
      have h4 : Calls P 43 #[.slice (some ⟨blk, off, none⟩) n cap, .int .i64 0, .int .i64 20, .int .i64 n, .func (.func g) #[] cb] w2 (MgOut enc k w0 blk off n r [] (Z1 ++ Z2) []) := HM.out n [] Z1 Z2 [] d2 w2 0 20 n O2.out.1 (by rw [O2.out.2.1]; simp) O2.out.2.2.2 O1.out.2.2.1.up O2.out.2.2.1.up (by have := O1.out.2.2.1.len; have := HA.out; omega) (by have := O2.out.2.2.1.len; have := HB.out; omega) rfl (by have := O1.out.2.2.1.len; have := HA.out; omega) (by have := O2.out.2.2.1.len; have := HB.out; omega) (by omega)
      refine wp_loop_rounds 2 ?_
      rw [rounds_succ]
      go_wp2_with fail
      refine wp_loop_rounds 1 ?_
      rw [rounds_succ]
      go_wp2_with (go_at_fn 43; refine h4.mono ?_; rintro e4 w4 ⟨rfl, d4, Z4, s4, l4, st4, S4⟩; have O4 := Lib.hid (And.intro s4 (And.intro l4 (And.intro st4 S4))); clear h4 s4 l4 st4 S4)
      rw [rounds_succ]
      go_wp2
      go_end0
      obtain ⟨s4, l4, st4, S4⟩ := O4.out
      refine ⟨rfl, d4, s4, ?_, S4⟩
      have := St.both O1.out.2.2.1 O2.out.2.2.1 st4
      rw [HAB.out] at this
      rw [l4]; simpa using this
end Go.Proofs.Ythkakikigccaaaa
