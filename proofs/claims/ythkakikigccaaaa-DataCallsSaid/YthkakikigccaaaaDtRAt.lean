/-
  Proved here: the document's At answers the first seat that an address stands in; nothing that was there is changed. Condition: numbers of 64 bits.
-/
import Derived.Test.YthkakikigccaaaaDtSeek
import Derived.StillTailTactics
import Derived.LoopN
import Derived.Deep.QuietTactic
import Derived.Deep.RegionHeld3
namespace Go.Proofs.Ythkakikigccaaaa
open Go.RowKit Go.Lib
set_option linter.unusedVariables false
set_option linter.unusedSimpArgs false

theorem below_drewW {B : Nat} {a w : World} (h : Below B a w) (n : Nat) : Below B a (w.drewN n) := ⟨h.os, h.tape, h.output, h.size, h.block⟩
set_option maxHeartbeats 1000000 in
theorem rAt_any (a : Option Addr) (c : Nat) (l : List Se) (addr : Int) (w : World) (hn : l.length ≤ maxLen) (hl : Sm w a l) (hw : ∀ s ∈ l, SeW s) (a1 : 0 ≤ addr) (a2 : addr ≤ 18446744073709551615) :
    Calls Try.prog 20 #[.slice a l.length c, .int .u64 addr] w fun e w' => e = .returned (atV l addr) ∧ Below w.heap.size w w' := by
  have HL := Lib.hid hl
  have HW := Lib.hid hw
  unfold maxLen at hn
  have mixed : Try.prog.follows .mixedOrders = true := by kernel_rfl
  clear hl hw
  obtain ⟨g, hg'⟩ : ∃ g, w.heap.size = g := ⟨_, rfl⟩
  have hg : w.heap.size ≤ g := by omega
  have H0 := Lib.hid (one_below w (.cells #[.string ⟨#[]⟩, .int .i64 0, .int .i64 0, .int .u64 0] 34))
  have Z0 := Lib.hid (Bz.new w)
  rw [hg'] at Z0
  by_cases h8 : addr % 8 = 0
  · have h8b : (addr % 8 == 0) = true := by simpa using h8
    have h8c : (addr % 8 != 0) = false := by simpa using h8
    have H8 := Lib.hid h8
    clear h8
    go_enter Try.func20, Try.ntmps20
    go_wp2
    go_loopw [7] (fun vi wr => ∃ k : Nat, k ≤ l.length ∧ vi = .int .i64 k ∧ Hid (FirstAt (fun s => dbB s addr) l k) ∧ Hid (Below w.heap.size w wr) ∧ Hid (Bz g wr)) (fun vi _ => l.length - (intOf vi).toNat)
    case atStart => exact ⟨0, Nat.zero_le _, rfl, Lib.hid (FirstAt.zero _ _), H0, Z0⟩
    case round =>
      clear H0 Z0 hg'
      obtain ⟨k, hk, rfl, HF, HB, Z1⟩ := hrel
      by_cases hlt : k < l.length
      · obtain ⟨b, off, ha, hbl, hP⟩ := Sm.at_ (HL.out.below HB.out) hlt
        subst ha
        obtain ⟨s, hs⟩ : ∃ s, s = l[k] := ⟨_, rfl⟩
        rw [← hs] at hP
        obtain ⟨⟨n1, n2, n3⟩, n4⟩ := hP
        have hlz : (k : Int) < (l.length : Int) := by omega
        have r1 : IntKind.i64.wrap ((k : Int) + 1) = (k : Int) + 1 := by rw [IntKind.wrap_i64]; omega
        have HSW := Lib.hid (show SeW s by rw [hs]; exact HW.out _ (List.getElem_mem hlt))
        obtain ⟨_, s1, s2, _, _⟩ := HSW.out.p
        have d1 := HSW.out.a1
        have d2 := HSW.out.a2
        have key : (s.p.size ≤ 0) ∨ (¬ s.p.size ≤ 0 ∧ addr < s.addr) ∨ (¬ s.p.size ≤ 0 ∧ ¬ addr < s.addr ∧ s.p.size ≤ (addr - s.addr) / 8) ∨ (¬ s.p.size ≤ 0 ∧ ¬ addr < s.addr ∧ ¬ s.p.size ≤ (addr - s.addr) / 8) := by omega
        have HS := Lib.hid hs
        clear hs
        rcases key with q1 | ⟨q1, q2⟩ | ⟨q1, q2, q3⟩ | ⟨q1, q2, q3⟩
        · have HQ : Hid (dbB l[k] addr = false) := Lib.hid (by rw [← HS.out]; simp only [dbB, Bool.and_eq_false_iff, decide_eq_false_iff_not]; omega)
          have z1 : ¬ 0 < s.p.size := by omega
          have y1 : decide (0 < s.p.size) = false := decide_eq_false z1
          go_wp2_with fail
          go_quiet (fail)
          go_wp2
          go_roundw
          case rel => exact ⟨k + 1, by omega, by go_num, Lib.hid (HF.out.succ hlt HQ.out), Lib.hid (below_drewW HB.out nq), Lib.hid (Z1.out.on (below_drewW (Below.refl _ _) nq))⟩
          case measure => simp [intOf]; omega
        · have HQ : Hid (dbB l[k] addr = false) := Lib.hid (by rw [← HS.out]; simp only [dbB, Bool.and_eq_false_iff, decide_eq_false_iff_not]; omega)
          have z1 : 0 < s.p.size := by omega
          have y1 : decide (0 < s.p.size) = true := decide_eq_true z1
          have z2 : ¬ s.addr ≤ addr := by omega
          have y2 : decide (s.addr ≤ addr) = false := decide_eq_false z2
          go_wp2_with fail
          go_quiet (fail)
          go_wp2
          go_roundw
          case rel => exact ⟨k + 1, by omega, by go_num, Lib.hid (HF.out.succ hlt HQ.out), Lib.hid (below_drewW HB.out nq), Lib.hid (Z1.out.on (below_drewW (Below.refl _ _) nq))⟩
          case measure => simp [intOf]; omega
        · have HQ : Hid (dbB l[k] addr = false) := Lib.hid (by rw [← HS.out]; simp only [dbB, Bool.and_eq_false_iff, decide_eq_false_iff_not]; omega)
          have z1 : 0 < s.p.size := by omega
          have y1 : decide (0 < s.p.size) = true := decide_eq_true z1
          have z2 : s.addr ≤ addr := by omega
          have y2 : decide (s.addr ≤ addr) = true := decide_eq_true z2
          have x1 : IntKind.u64.wrap (addr - s.addr) = addr - s.addr := by rw [IntKind.wrap_u64]; omega
          have z3 : 0 ≤ addr - s.addr := by omega
          have z4 : addr - s.addr ≤ 18446744073709551615 := by omega
          have z5 : ¬ (addr - s.addr) / 8 < s.p.size := by omega
          have y5 : decide ((addr - s.addr) / 8 < s.p.size) = false := decide_eq_false z5
          go_wp2_with fail
          go_quiet (fail)
          go_wp2
          go_roundw
          case rel => exact ⟨k + 1, by omega, by go_num, Lib.hid (HF.out.succ hlt HQ.out), Lib.hid (below_drewW HB.out nq), Lib.hid (Z1.out.on (below_drewW (Below.refl _ _) nq))⟩
          case measure => simp [intOf]; omega
        · have HQ : Hid (dbB l[k] addr = true) := Lib.hid (by rw [← HS.out]; simp only [dbB, Bool.and_eq_true, decide_eq_true_eq]; omega)
          have z1 : 0 < s.p.size := by omega
          have y1 : decide (0 < s.p.size) = true := decide_eq_true z1
          have z2 : s.addr ≤ addr := by omega
          have y2 : decide (s.addr ≤ addr) = true := decide_eq_true z2
          have x1 : IntKind.u64.wrap (addr - s.addr) = addr - s.addr := by rw [IntKind.wrap_u64]; omega
          have z3 : 0 ≤ addr - s.addr := by omega
          have z4 : addr - s.addr ≤ 18446744073709551615 := by omega
          have z5 : (addr - s.addr) / 8 < s.p.size := by omega
          have y5 : decide ((addr - s.addr) / 8 < s.p.size) = true := decide_eq_true z5
          have z6 : (addr - s.addr) / 8 ≤ 9223372036854775807 := by omega
          have z7 : 0 ≤ (addr - s.addr) / 8 := by omega
          have HV := Lib.hid (at_of_some H8.out hlt HS.out HF.out HQ.out)
          have x3 : Hid (IntKind.u64.wrap ((addr - s.addr) / 8) = (addr - s.addr) / 8) := Lib.hid (by rw [IntKind.wrap_u64]; omega)
          have x2 : IntKind.i64.wrap ((addr - s.addr) / 8) = (addr - s.addr) / 8 := by rw [IntKind.wrap_i64]; omega
          go_wp2_with fail
          go_quiet (fail)
          go_wp2_with fail
          have HBD := Lib.hid (below_drewW HB.out nq)
          have ZD := Lib.hid (Z1.out.on (below_drewW (Below.refl _ _) nq))
          have hbg : b < w.heap.size := by
            rcases HL.out with h | ⟨b', off', h1, h2⟩
            · subst h; simp at hlt
            · simp only [Option.some.injEq, Addr.mk.injEq] at h1; obtain ⟨rfl, rfl, _⟩ := h1; exact h2.lt
          have hne : ¬ b = g := by omega
          have F1 : Hid ((wr.drewN nq).drew.cell? ⟨b, off + k * 4, none⟩ = some (.string s.p.name) ∧ (wr.drewN nq).drew.cell? ⟨b, off + k * 4 + 1, none⟩ = some (.int .i64 s.p.size) ∧ (wr.drewN nq).drew.cell? ⟨b, off + k * 4 + 2, none⟩ = some (.int .i64 s.p.hart) ∧ (wr.drewN nq).drew.cell? ⟨b, off + k * 4 + 3, none⟩ = some (.int .u64 s.addr)) := Lib.hid ⟨n1, n2, n3, n4⟩
          clear n1 n2 n3 n4 hbl
          generalize wr.drewN nq = W at HBD ZD F1 ⊢
          have F2 : Hid (((((W.drew.setCell ⟨g, 0, none⟩ (.string s.p.name)).setCell ⟨g, 1, none⟩ (.int .i64 s.p.size)).setCell ⟨g, 2, none⟩ (.int .i64 s.p.hart)).setCell ⟨g, 3, none⟩ (.int .u64 s.addr)).cell? ⟨b, off + k * 4, none⟩ = some (.string s.p.name) ∧ ((((W.drew.setCell ⟨g, 0, none⟩ (.string s.p.name)).setCell ⟨g, 1, none⟩ (.int .i64 s.p.size)).setCell ⟨g, 2, none⟩ (.int .i64 s.p.hart)).setCell ⟨g, 3, none⟩ (.int .u64 s.addr)).cell? ⟨b, off + k * 4 + 1, none⟩ = some (.int .i64 s.p.size) ∧ ((((W.drew.setCell ⟨g, 0, none⟩ (.string s.p.name)).setCell ⟨g, 1, none⟩ (.int .i64 s.p.size)).setCell ⟨g, 2, none⟩ (.int .i64 s.p.hart)).setCell ⟨g, 3, none⟩ (.int .u64 s.addr)).cell? ⟨b, off + k * 4 + 2, none⟩ = some (.int .i64 s.p.hart) ∧ ((((W.drew.setCell ⟨g, 0, none⟩ (.string s.p.name)).setCell ⟨g, 1, none⟩ (.int .i64 s.p.size)).setCell ⟨g, 2, none⟩ (.int .i64 s.p.hart)).setCell ⟨g, 3, none⟩ (.int .u64 s.addr)).cell? ⟨b, off + k * 4 + 3, none⟩ = some (.int .u64 s.addr)) := Lib.hid (by
            have e : ∀ o, ((((W.drew.setCell ⟨g, 0, none⟩ (.string s.p.name)).setCell ⟨g, 1, none⟩ (.int .i64 s.p.size)).setCell ⟨g, 2, none⟩ (.int .i64 s.p.hart)).setCell ⟨g, 3, none⟩ (.int .u64 s.addr)).cell? ⟨b, o, none⟩ = W.drew.cell? ⟨b, o, none⟩ := fun o => by
              rw [World.cell?_setCell_other _ _ _ _ (by simp [hne]), World.cell?_setCell_other _ _ _ _ (by simp [hne]), World.cell?_setCell_other _ _ _ _ (by simp [hne]), World.cell?_setCell_other _ _ _ _ (by simp [hne])]
            rw [e, e, e, e]; exact F1.out)
          have ZE := Lib.hid (ZD.out.on (Below.refl _ _).drew)
          have HBE := Lib.hid (below_drewW HBD.out 1)
          obtain ⟨⟨v0, c0⟩, ⟨v1, c1⟩, ⟨v2, c2⟩, ⟨v3, c3⟩, f0, f1, f2, f3, lt⟩ := ZD.out
          go_region_held3 (fun w' => w'.cell? ⟨b, off + k * 4, none⟩ = some (.string s.p.name) ∧ w'.cell? ⟨b, off + k * 4 + 1, none⟩ = some (.int .i64 s.p.size) ∧ w'.cell? ⟨b, off + k * 4 + 2, none⟩ = some (.int .i64 s.p.hart) ∧ w'.cell? ⟨b, off + k * 4 + 3, none⟩ = some (.int .u64 s.addr))
            (first | exact F1.out | exact F2.out) (fail)
          go_wp2
          refine bodyPost_ret (v := .tuple #[.agg #[.string s.p.name, .int .i64 s.p.size, .int .i64 s.p.hart, .int .u64 s.addr], .int .i64 ((addr - s.addr) / 8), .int .i64 0]) (by obtain ⟨t0, t1, t2, t3⟩ := set_four c0 c1 c2 c3 (.string s.p.name) (.int .i64 s.p.size) (.int .i64 s.p.hart) (.int .u64 s.addr); simp [results, Try.results20, go_sem, t0, t1, t2, t3, Int.tdiv_eq_ediv_of_nonneg z3, x3.out, x2]) rfl ⟨?_, below_four HBE.out hg _ _ _ _⟩
          rw [HV.out]; rfl
      · obtain rfl : k = l.length := by omega
        have HV := Lib.hid (at_of_none HF.out)
        obtain ⟨⟨v0, c0⟩, ⟨v1, c1⟩, ⟨v2, c2⟩, ⟨v3, c3⟩, f0, f1, f2, f3, lt⟩ := Z1.out
        go_wp2
        refine bodyPost_ret (v := .tuple #[.agg #[.string ⟨#[]⟩, .int .i64 0, .int .i64 0, .int .u64 0], .int .i64 0, .int .i64 6]) (by obtain ⟨t0, t1, t2, t3⟩ := set_four c0 c1 c2 c3 (.string ⟨#[]⟩) (.int .i64 0) (.int .i64 0) (.int .u64 0); simp [results, Try.results20, go_sem, t0, t1, t2, t3]) rfl ⟨?_, below_four HB.out hg _ _ _ _⟩
        rw [HV.out]
  · have h8b : (addr % 8 == 0) = false := by simpa using h8
    have h8c : (addr % 8 != 0) = true := by simpa using h8
    have HV := Lib.hid (at_of_odd (l := l) h8)
    clear h8
    subst hg'
    by_cases hlt : 0 < l.length
    · have hlz : (0 : Int) < (l.length : Int) := by omega
      go_enter Try.func20, Try.ntmps20
      go_wp2_with fail
      refine wp_loop_rounds 1 ?_
      rw [rounds_succ]
      go_wp2
      refine bodyPost_ret (v := .tuple #[.agg #[.string ⟨#[]⟩, .int .i64 0, .int .i64 0, .int .u64 0], .int .i64 0, .int .i64 6]) (by simp [results, Try.results20, go_sem]) rfl ⟨?_, H0.out⟩
      rw [HV.out]
    · have hlz : ¬ (0 : Int) < (l.length : Int) := by omega
      go_enter Try.func20, Try.ntmps20
      go_wp2_with fail
      refine wp_loop_rounds 1 ?_
      rw [rounds_succ]
      go_wp2
      refine bodyPost_ret (v := .tuple #[.agg #[.string ⟨#[]⟩, .int .i64 0, .int .i64 0, .int .u64 0], .int .i64 0, .int .i64 6]) (by simp [results, Try.results20, go_sem]) rfl ⟨?_, H0.out⟩
      rw [HV.out]
end Go.Proofs.Ythkakikigccaaaa
