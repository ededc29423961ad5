/-
  Proved here: the law AluHalves returns true at every two words, and what was there is as it was. No condition.
-/
import Derived.Test.YtdapbaakcpjafaaAluLives
import Derived.Test.YtdapbaakcpjafaaAluRefs
import Derived.Test.YtdapbaakcpjafaaAluHalvesPlain
import Derived.LoopN
import Derived.Deep.QuietTactic
import Derived.BigQuiet
import Derived.RegionTactic
import Derived.Deep.DeepCutAuto
import Derived.Deep.CutBlock
namespace Go.Proofs.Ytdapbaakcpjafaa
open Go.RowKit
theorem and_lo (a : BitVec 64) : bits .and .u64 (U a) 4294967295 = U (lo a) := by
  have e : (4294967295 : Int) = U (ones 32) := by decide +kernel
  rw [e, and_U]; rfl
theorem shr_32 (c : BitVec 64) : U c / (4294967296 : Int) = U (c >>> (32 : Nat)) := shr_U c 32
theorem shl_32 (c : BitVec 64) : IntKind.u64.wrap (U c * (4294967296 : Int)) = U (c <<< (32 : Nat)) := shl_U c 32
/-- the three arrays behind w0: x, y as made; part as it stands -/
def Stand (w0 : World) (x0 x1 y0 y1 v0 v1 v2 v3 : BitVec 64) (wr : World) : Prop :=
  Below w0.heap.size w0 wr ∧ w0.heap.size + 3 ≤ wr.heap.size ∧ (∀ j, wr.frozen? ⟨w0.heap.size, j, none⟩ = false) ∧
  wr.cell? ⟨w0.heap.size, 0, none⟩ = some (.int .u64 (U v0)) ∧ wr.cell? ⟨w0.heap.size, 1, none⟩ = some (.int .u64 (U v1)) ∧
  wr.cell? ⟨w0.heap.size, 2, none⟩ = some (.int .u64 (U v2)) ∧ wr.cell? ⟨w0.heap.size, 3, none⟩ = some (.int .u64 (U v3)) ∧
  wr.cell? ⟨w0.heap.size + 1, 0, none⟩ = some (.int .u64 (U x0)) ∧ wr.cell? ⟨w0.heap.size + 1, 1, none⟩ = some (.int .u64 (U x1)) ∧
  wr.cell? ⟨w0.heap.size + 1 + 1, 0, none⟩ = some (.int .u64 (U y0)) ∧ wr.cell? ⟨w0.heap.size + 1 + 1, 1, none⟩ = some (.int .u64 (U y1))
theorem sub_swap (x y z : BitVec 64) : x - y - z = x - z - y := by
  rw [BitVec.sub_eq_add_neg, BitVec.sub_eq_add_neg, BitVec.sub_eq_add_neg, BitVec.sub_eq_add_neg, BitVec.add_assoc, BitVec.add_assoc, BitVec.add_comm (-y)]
theorem Stand.start_o (w0 : World) (x0 x1 y0 y1 o : BitVec 64) (s t u : TypeId) :
    Stand w0 x0 x1 y0 y1 o o o o (((w0.alloc (.cells #[.int .u64 (U o), .int .u64 (U o), .int .u64 (U o), .int .u64 (U o)] s)).alloc (.cells #[.int .u64 (U x0), .int .u64 (U x1)] t)).alloc (.cells #[.int .u64 (U y0), .int .u64 (U y1)] u)) := by
  refine ⟨(((Below.refl _ _).alloc (Nat.le_refl _) _).alloc (by simp) _).alloc (by simp; omega) _, by simp, fun j => by simp [go_sem], ?_, ?_, ?_, ?_, ?_, ?_, ?_, ?_⟩ <;> simp [go_sem]
theorem Stand.drewN {w0 wr : World} {x0 x1 y0 y1 v0 v1 v2 v3 : BitVec 64} (h : Stand w0 x0 x1 y0 y1 v0 v1 v2 v3 wr) (n : Nat) : Stand w0 x0 x1 y0 y1 v0 v1 v2 v3 (wr.drewN n) :=
  ⟨h.1.trans (drewN_below _ _ _), h.2⟩
theorem Stand.drew {w0 wr : World} {x0 x1 y0 y1 v0 v1 v2 v3 : BitVec 64} (h : Stand w0 x0 x1 y0 y1 v0 v1 v2 v3 wr) : Stand w0 x0 x1 y0 y1 v0 v1 v2 v3 wr.drew :=
  ⟨h.1.drew, h.2⟩
theorem Stand.set0 {w0 wr : World} {x0 x1 y0 y1 v0 v1 v2 v3 : BitVec 64} (h : Stand w0 x0 x1 y0 y1 v0 v1 v2 v3 wr) (v : BitVec 64) : Stand w0 x0 x1 y0 y1 v v1 v2 v3 (wr.setCell ⟨w0.heap.size, 0, none⟩ (.int .u64 (U v))) := by
  obtain ⟨hb, hz, hf, h0, h1, h2, h3, h4, h5, h6, h7⟩ := h
  exact ⟨hb.setCell (Nat.le_refl _) _, by simpa using hz, fun j => by simpa [go_sem] using hf j, World.cell?_setCell_same _ _ _ h0, (World.cell?_setCell_other _ _ _ _ (by simp)).trans h1, (World.cell?_setCell_other _ _ _ _ (by simp)).trans h2, (World.cell?_setCell_other _ _ _ _ (by simp)).trans h3, (World.cell?_setCell_other _ _ _ _ (by simp)).trans h4, (World.cell?_setCell_other _ _ _ _ (by simp)).trans h5, (World.cell?_setCell_other _ _ _ _ (by simp)).trans h6, (World.cell?_setCell_other _ _ _ _ (by simp)).trans h7⟩
theorem Stand.set1 {w0 wr : World} {x0 x1 y0 y1 v0 v1 v2 v3 : BitVec 64} (h : Stand w0 x0 x1 y0 y1 v0 v1 v2 v3 wr) (v : BitVec 64) : Stand w0 x0 x1 y0 y1 v0 v v2 v3 (wr.setCell ⟨w0.heap.size, 1, none⟩ (.int .u64 (U v))) := by
  obtain ⟨hb, hz, hf, h0, h1, h2, h3, h4, h5, h6, h7⟩ := h
  exact ⟨hb.setCell (Nat.le_refl _) _, by simpa using hz, fun j => by simpa [go_sem] using hf j, (World.cell?_setCell_other _ _ _ _ (by simp)).trans h0, World.cell?_setCell_same _ _ _ h1, (World.cell?_setCell_other _ _ _ _ (by simp)).trans h2, (World.cell?_setCell_other _ _ _ _ (by simp)).trans h3, (World.cell?_setCell_other _ _ _ _ (by simp)).trans h4, (World.cell?_setCell_other _ _ _ _ (by simp)).trans h5, (World.cell?_setCell_other _ _ _ _ (by simp)).trans h6, (World.cell?_setCell_other _ _ _ _ (by simp)).trans h7⟩
theorem Stand.set2 {w0 wr : World} {x0 x1 y0 y1 v0 v1 v2 v3 : BitVec 64} (h : Stand w0 x0 x1 y0 y1 v0 v1 v2 v3 wr) (v : BitVec 64) : Stand w0 x0 x1 y0 y1 v0 v1 v v3 (wr.setCell ⟨w0.heap.size, 2, none⟩ (.int .u64 (U v))) := by
  obtain ⟨hb, hz, hf, h0, h1, h2, h3, h4, h5, h6, h7⟩ := h
  exact ⟨hb.setCell (Nat.le_refl _) _, by simpa using hz, fun j => by simpa [go_sem] using hf j, (World.cell?_setCell_other _ _ _ _ (by simp)).trans h0, (World.cell?_setCell_other _ _ _ _ (by simp)).trans h1, World.cell?_setCell_same _ _ _ h2, (World.cell?_setCell_other _ _ _ _ (by simp)).trans h3, (World.cell?_setCell_other _ _ _ _ (by simp)).trans h4, (World.cell?_setCell_other _ _ _ _ (by simp)).trans h5, (World.cell?_setCell_other _ _ _ _ (by simp)).trans h6, (World.cell?_setCell_other _ _ _ _ (by simp)).trans h7⟩
theorem Stand.set3 {w0 wr : World} {x0 x1 y0 y1 v0 v1 v2 v3 : BitVec 64} (h : Stand w0 x0 x1 y0 y1 v0 v1 v2 v3 wr) (v : BitVec 64) : Stand w0 x0 x1 y0 y1 v0 v1 v2 v (wr.setCell ⟨w0.heap.size, 3, none⟩ (.int .u64 (U v))) := by
  obtain ⟨hb, hz, hf, h0, h1, h2, h3, h4, h5, h6, h7⟩ := h
  exact ⟨hb.setCell (Nat.le_refl _) _, by simpa using hz, fun j => by simpa [go_sem] using hf j, (World.cell?_setCell_other _ _ _ _ (by simp)).trans h0, (World.cell?_setCell_other _ _ _ _ (by simp)).trans h1, (World.cell?_setCell_other _ _ _ _ (by simp)).trans h2, World.cell?_setCell_same _ _ _ h3, (World.cell?_setCell_other _ _ _ _ (by simp)).trans h4, (World.cell?_setCell_other _ _ _ _ (by simp)).trans h5, (World.cell?_setCell_other _ _ _ _ (by simp)).trans h6, (World.cell?_setCell_other _ _ _ _ (by simp)).trans h7⟩
theorem rounds_world {P : Program} {c : Code} {Q : Exit → Act → World → Prop} {m : Nat} {a : Act} {w : World} (R : World → Prop) (h : R w) (k : ∀ wr, R wr → Code.rounds P c Q m a wr) : Code.rounds P c Q m a w := k w h
set_option maxRecDepth 100000 in
set_option maxHeartbeats 4000000 in
theorem halves_any (a b : BitVec 64) (w : World) :
    Calls Try.prog 6 #[.int .u64 (U a), .int .u64 (U b)] w fun e w' => e = .returned (.bool true) ∧ Below w.heap.size w w' := by
  obtain ⟨x0, e_x0⟩ : ∃ z : BitVec 64, z = lo a := ⟨_, rfl⟩
  obtain ⟨x1, e_x1⟩ : ∃ z : BitVec 64, z = a >>> (32 : Nat) := ⟨_, rfl⟩
  have r1 : bits .and .u64 (U a) 4294967295 = U x0 := by rw [and_lo, e_x0]
  have r2 : U a / 4294967296 = U x1 := by rw [shr_32, e_x1]
  obtain ⟨y0, e_y0⟩ : ∃ z : BitVec 64, z = lo b := ⟨_, rfl⟩
  obtain ⟨y1, e_y1⟩ : ∃ z : BitVec 64, z = b >>> (32 : Nat) := ⟨_, rfl⟩
  have r3 : bits .and .u64 (U b) 4294967295 = U y0 := by rw [and_lo, e_y0]
  have r4 : U b / 4294967296 = U y1 := by rw [shr_32, e_y1]
  obtain ⟨p00, e_p00⟩ : ∃ z : BitVec 64, z = x0 * y0 := ⟨_, rfl⟩
  have r5 : IntKind.u64.wrap (U x0 * U y0) = U p00 := by rw [mul_U, e_p00]
  obtain ⟨l00, e_l00⟩ : ∃ z : BitVec 64, z = lo p00 := ⟨_, rfl⟩
  obtain ⟨h00, e_h00⟩ : ∃ z : BitVec 64, z = p00 >>> (32 : Nat) := ⟨_, rfl⟩
  have r6 : bits .and .u64 (U p00) 4294967295 = U l00 := by rw [and_lo, e_l00]
  have r7 : U p00 / 4294967296 = U h00 := by rw [shr_32, e_h00]
  obtain ⟨p01, e_p01⟩ : ∃ z : BitVec 64, z = x0 * y1 := ⟨_, rfl⟩
  have r8 : IntKind.u64.wrap (U x0 * U y1) = U p01 := by rw [mul_U, e_p01]
  obtain ⟨l01, e_l01⟩ : ∃ z : BitVec 64, z = lo p01 := ⟨_, rfl⟩
  obtain ⟨h01, e_h01⟩ : ∃ z : BitVec 64, z = p01 >>> (32 : Nat) := ⟨_, rfl⟩
  have r9 : bits .and .u64 (U p01) 4294967295 = U l01 := by rw [and_lo, e_l01]
  have r10 : U p01 / 4294967296 = U h01 := by rw [shr_32, e_h01]
  obtain ⟨p10, e_p10⟩ : ∃ z : BitVec 64, z = x1 * y0 := ⟨_, rfl⟩
  have r11 : IntKind.u64.wrap (U x1 * U y0) = U p10 := by rw [mul_U, e_p10]
  obtain ⟨l10, e_l10⟩ : ∃ z : BitVec 64, z = lo p10 := ⟨_, rfl⟩
  obtain ⟨h10, e_h10⟩ : ∃ z : BitVec 64, z = p10 >>> (32 : Nat) := ⟨_, rfl⟩
  have r12 : bits .and .u64 (U p10) 4294967295 = U l10 := by rw [and_lo, e_l10]
  have r13 : U p10 / 4294967296 = U h10 := by rw [shr_32, e_h10]
  obtain ⟨p11, e_p11⟩ : ∃ z : BitVec 64, z = x1 * y1 := ⟨_, rfl⟩
  have r14 : IntKind.u64.wrap (U x1 * U y1) = U p11 := by rw [mul_U, e_p11]
  obtain ⟨l11, e_l11⟩ : ∃ z : BitVec 64, z = lo p11 := ⟨_, rfl⟩
  obtain ⟨h11, e_h11⟩ : ∃ z : BitVec 64, z = p11 >>> (32 : Nat) := ⟨_, rfl⟩
  have r15 : bits .and .u64 (U p11) 4294967295 = U l11 := by rw [and_lo, e_l11]
  have r16 : U p11 / 4294967296 = U h11 := by rw [shr_32, e_h11]
  obtain ⟨o, e_o⟩ : ∃ z : BitVec 64, z = 0 := ⟨_, rfl⟩
  have r17 : IntKind.u64.wrap (U o + U l00) = U l00 := by rw [add_U, e_o]; exact congrArg U (BitVec.zero_add _)
  have r18 : IntKind.u64.wrap (U o + U h00) = U h00 := by rw [add_U, e_o]; exact congrArg U (BitVec.zero_add _)
  have r19 : IntKind.u64.wrap (U o + U h01) = U h01 := by rw [add_U, e_o]; exact congrArg U (BitVec.zero_add _)
  have r20 : IntKind.u64.wrap (U o + U h11) = U h11 := by rw [add_U, e_o]; exact congrArg U (BitVec.zero_add _)
  obtain ⟨c1, e_c1⟩ : ∃ z : BitVec 64, z = h00 + l01 := ⟨_, rfl⟩
  have r21 : IntKind.u64.wrap (U h00 + U l01) = U c1 := by rw [add_U, e_c1]
  obtain ⟨d1, e_d1⟩ : ∃ z : BitVec 64, z = c1 + l10 := ⟨_, rfl⟩
  have r22 : IntKind.u64.wrap (U c1 + U l10) = U d1 := by rw [add_U, e_d1]
  obtain ⟨c2, e_c2⟩ : ∃ z : BitVec 64, z = h01 + h10 := ⟨_, rfl⟩
  have r23 : IntKind.u64.wrap (U h01 + U h10) = U c2 := by rw [add_U, e_c2]
  obtain ⟨d2, e_d2⟩ : ∃ z : BitVec 64, z = c2 + l11 := ⟨_, rfl⟩
  have r24 : IntKind.u64.wrap (U c2 + U l11) = U d2 := by rw [add_U, e_d2]
  obtain ⟨s0, e_s0⟩ : ∃ z : BitVec 64, z = l00 >>> (32 : Nat) := ⟨_, rfl⟩
  have r25 : U l00 / 4294967296 = U s0 := by rw [shr_32, e_s0]
  obtain ⟨q1, e_q1⟩ : ∃ z : BitVec 64, z = d1 + s0 := ⟨_, rfl⟩
  have r26 : IntKind.u64.wrap (U d1 + U s0) = U q1 := by rw [add_U, e_q1]
  obtain ⟨z0, e_z0⟩ : ∃ z : BitVec 64, z = lo l00 := ⟨_, rfl⟩
  have r27 : bits .and .u64 (U l00) 4294967295 = U z0 := by rw [and_lo, e_z0]
  obtain ⟨s1, e_s1⟩ : ∃ z : BitVec 64, z = q1 >>> (32 : Nat) := ⟨_, rfl⟩
  have r28 : U q1 / 4294967296 = U s1 := by rw [shr_32, e_s1]
  obtain ⟨q2, e_q2⟩ : ∃ z : BitVec 64, z = d2 + s1 := ⟨_, rfl⟩
  have r29 : IntKind.u64.wrap (U d2 + U s1) = U q2 := by rw [add_U, e_q2]
  obtain ⟨z1, e_z1⟩ : ∃ z : BitVec 64, z = lo q1 := ⟨_, rfl⟩
  have r30 : bits .and .u64 (U q1) 4294967295 = U z1 := by rw [and_lo, e_z1]
  obtain ⟨s2, e_s2⟩ : ∃ z : BitVec 64, z = q2 >>> (32 : Nat) := ⟨_, rfl⟩
  have r31 : U q2 / 4294967296 = U s2 := by rw [shr_32, e_s2]
  obtain ⟨q3, e_q3⟩ : ∃ z : BitVec 64, z = h11 + s2 := ⟨_, rfl⟩
  have r32 : IntKind.u64.wrap (U h11 + U s2) = U q3 := by rw [add_U, e_q3]
  obtain ⟨z2, e_z2⟩ : ∃ z : BitVec 64, z = lo q2 := ⟨_, rfl⟩
  have r33 : bits .and .u64 (U q2) 4294967295 = U z2 := by rw [and_lo, e_z2]
  obtain ⟨j1, j2⟩ := halves_all a b x0 x1 y0 y1 p00 l00 h00 p01 l01 h01 p10 l10 h10 p11 l11 h11 c1 d1 c2 d2 s0 q1 z0 s1 q2 z1 s2 q3 z2 e_x0 e_x1 e_y0 e_y1 e_p00 e_l00 e_h00 e_p01 e_l01 e_h01 e_p10 e_l10 e_h10 e_p11 e_l11 e_h11 e_c1 e_d1 e_c2 e_d2 e_s0 e_q1 e_z0 e_s1 e_q2 e_z1 e_s2 e_q3 e_z2
  have o0 : Value.int .u64 0 = .int .u64 (U o) := by rw [e_o, ← zero_U]
  obtain ⟨t1, e_t1⟩ : ∃ z : BitVec 64, z = z1 <<< (32 : Nat) := ⟨_, rfl⟩
  have r34 : IntKind.u64.wrap (U z1 * 4294967296) = U t1 := by rw [shl_32, e_t1]
  obtain ⟨t3, e_t3⟩ : ∃ z : BitVec 64, z = q3 <<< (32 : Nat) := ⟨_, rfl⟩
  have r35 : IntKind.u64.wrap (U q3 * 4294967296) = U t3 := by rw [shl_32, e_t3]
  obtain ⟨pl, e_pl⟩ : ∃ z : BitVec 64, z = a * b := ⟨_, rfl⟩
  obtain ⟨ph, e_ph⟩ : ∃ z : BitVec 64, z = hiV a b := ⟨_, rfl⟩
  obtain ⟨m, e_m⟩ : ∃ z : BitVec 64, z = hiV a b - abV a b := ⟨_, rfl⟩
  obtain ⟨n, e_n⟩ : ∃ z : BitVec 64, z = hiV a b - abV a b - abV b a := ⟨_, rfl⟩
  have r36 : bits .or .u64 (U z0) (U t1) = U pl := by rw [or_U, e_t1, j1, e_pl]
  have r37 : bits .or .u64 (U z2) (U t3) = U ph := by rw [or_U, e_t3, j2, e_ph]
  have r38 : U (a * b) = U pl := by rw [e_pl]
  have r39 : U (hiV a b) = U ph := by rw [e_ph]
  have r40 : U (hiV b a) = U ph := by rw [e_ph, hiV_comm]
  have r41 : U (hiV a b - abV a b) = U m := by rw [e_m]
  have r42 : U (hiV a b - abV a b - abV b a) = U n := by rw [e_n]
  have r43 : U (hiV b a - abV b a - abV a b) = U n := by rw [e_n, hiV_comm b a, sub_swap]
  have HOO := Lib.hid o0
  clear o0 j1 j2 e_o e_x0 e_x1 e_y0 e_y1 e_p00 e_l00 e_h00 e_p01 e_l01 e_h01 e_p10 e_l10 e_h10 e_p11 e_l11 e_h11 e_c1 e_d1 e_c2 e_d2 e_s0 e_q1 e_z0 e_s1 e_q2 e_z1 e_s2 e_q3 e_z2 e_t1 e_t3 e_pl
  go_enter Try.func6, Try.ntmps6
  go_wp2_with (first | (go_at_call 14; (with_reducible refine (lives_any _).mono ?_); rintro e w0 ⟨rfl, hb⟩; have HB : Hid (Below w.heap.size w w0) := Lib.hid hb; clear hb))
  refine wp_loop_rounds 3 ?_
  refine rounds_world (Stand w0 x0 x1 y0 y1 o o o o) (by rw [HOO.out]; exact Stand.start_o w0 x0 x1 y0 y1 o _ _ _) ?_
  
  intro wr hS
  have HS := Lib.hid hS
  clear hS
  obtain ⟨-, hz, fz, q0, q1', q2', q3', q4, q5, q6, q7⟩ := HS.out
  rw [rounds_succ]
  go_wp2_with fail
  refine wp_loop_rounds 3 ?_
  rw [rounds_succ]
  go_wp2_with fail
  go_quiet (fail)
  go_wp2_with fail
  refine rounds_world (Stand w0 x0 x1 y0 y1 l00 h00 o o) (((HS.out.drewN _).set0 _).set1 _) ?_
  clear q0 q1' q2' q3' q4 q5 q6 q7 hz fz HS
  intro wr hS
  have HS := Lib.hid hS
  clear hS
  obtain ⟨-, hz, fz, q0, q1', q2', q3', q4, q5, q6, q7⟩ := HS.out
  rw [rounds_succ]
  go_wp2_with fail
  go_quiet (fail)
  go_wp2_with fail
  refine rounds_world (Stand w0 x0 x1 y0 y1 l00 c1 h01 o) (((HS.out.drewN _).set1 _).set2 _) ?_
  clear q0 q1' q2' q3' q4 q5 q6 q7 hz fz HS
  intro wr hS
  have HS := Lib.hid hS
  clear hS
  obtain ⟨-, hz, fz, q0, q1', q2', q3', q4, q5, q6, q7⟩ := HS.out
  rw [rounds_succ]
  go_wp2_with fail
  rw [rounds_succ]
  go_wp2_with fail
  refine wp_loop_rounds 3 ?_
  rw [rounds_succ]
  go_wp2_with fail
  go_quiet (fail)
  go_wp2_with fail
  refine rounds_world (Stand w0 x0 x1 y0 y1 l00 d1 c2 o) (((HS.out.drewN _).set1 _).set2 _) ?_
  clear q0 q1' q2' q3' q4 q5 q6 q7 hz fz HS
  intro wr hS
  have HS := Lib.hid hS
  clear hS
  obtain ⟨-, hz, fz, q0, q1', q2', q3', q4, q5, q6, q7⟩ := HS.out
  rw [rounds_succ]
  go_wp2_with fail
  go_quiet (fail)
  go_wp2_with fail
  refine rounds_world (Stand w0 x0 x1 y0 y1 l00 d1 d2 h11) (((HS.out.drewN _).set2 _).set3 _) ?_
  clear q0 q1' q2' q3' q4 q5 q6 q7 hz fz HS
  intro wr hS
  have HS := Lib.hid hS
  clear hS
  obtain ⟨-, hz, fz, q0, q1', q2', q3', q4, q5, q6, q7⟩ := HS.out
  rw [rounds_succ]
  go_wp2_with fail
  rw [rounds_succ]
  go_wp2_with fail
  refine wp_loop_rounds 4 ?_
  rw [rounds_succ]
  go_wp2_with fail
  go_region
  go_wp2_with fail
  refine rounds_world (Stand w0 x0 x1 y0 y1 z0 q1 d2 h11) (by first | exact ((HS.out.set1 _).drew.set0 _) | exact (((HS.out.set1 _).set0 _)).drew | exact (((HS.out.drew.set1 _).set0 _))) ?_
  clear q0 q1' q2' q3' q4 q5 q6 q7 hz fz HS
  intro wr hS
  have HS := Lib.hid hS
  clear hS
  obtain ⟨-, hz, fz, q0, q1', q2', q3', q4, q5, q6, q7⟩ := HS.out
  rw [rounds_succ]
  go_wp2_with fail
  go_region
  go_wp2_with fail
  refine rounds_world (Stand w0 x0 x1 y0 y1 z0 z1 q2 h11) (by first | exact ((HS.out.set2 _).drew.set1 _) | exact (((HS.out.set2 _).set1 _)).drew | exact (((HS.out.drew.set2 _).set1 _))) ?_
  clear q0 q1' q2' q3' q4 q5 q6 q7 hz fz HS
  intro wr hS
  have HS := Lib.hid hS
  clear hS
  obtain ⟨-, hz, fz, q0, q1', q2', q3', q4, q5, q6, q7⟩ := HS.out
  rw [rounds_succ]
  go_wp2_with fail
  go_region
  go_wp2_with fail
  refine rounds_world (Stand w0 x0 x1 y0 y1 z0 z1 z2 q3) (by first | exact ((HS.out.set3 _).drew.set2 _) | exact (((HS.out.set3 _).set2 _)).drew | exact (((HS.out.drew.set3 _).set2 _))) ?_
  clear q0 q1' q2' q3' q4 q5 q6 q7 hz fz HS
  intro wr hS
  have HS := Lib.hid hS
  clear hS
  obtain ⟨-, hz, fz, q0, q1', q2', q3', q4, q5, q6, q7⟩ := HS.out
  rw [rounds_succ]
  go_wp2_with fail
  go_quiet (fail)
  clear q0 q1' q2' q3' q4 q5 q6 q7 hz fz
  have ea := wrapS_U a
  have eb := wrapS_U b
  by_cases ha : S a < 0
  · have ca : decide (S a < 0) = true := decide_eq_true ha
    have t1 : IntKind.u64.wrap (U ph - U b) = U m := by rw [sub_U, e_m, e_ph]; unfold abV; rw [if_pos ha]
    have e_n' : n = m - abV b a := by rw [e_n, e_m]
    by_cases hb : S b < 0
    · have cb : decide (S b < 0) = true := decide_eq_true hb
      have t2 : IntKind.u64.wrap (U m - U a) = U n := by rw [sub_U, e_n']; unfold abV; rw [if_pos hb]
      clear e_m e_n e_n' e_ph ha hb
      go_wp2_with (first | (go_at_call 15; (with_reducible refine (do_50 _ _ _).mono ?_); rintro e w' ⟨rfl, hb⟩; have HB : Hid (Below w.heap.size w w') := Lib.hid (by first | exact HB.out.trans (hb.mono HB.out.size) | exact HB.out.trans ((HS.out.1.trans ((drewN_below _ _ _).trans (hb.mono (Nat.le_trans (Nat.le_add_right _ 3) HS.out.2.1)))).mono HB.out.size)); clear hb) | (go_at_call 15; (with_reducible refine (do_51 _ _ _).mono ?_); rintro e w' ⟨rfl, hb⟩; have HB : Hid (Below w.heap.size w w') := Lib.hid (by first | exact HB.out.trans (hb.mono HB.out.size) | exact HB.out.trans ((HS.out.1.trans ((drewN_below _ _ _).trans (hb.mono (Nat.le_trans (Nat.le_add_right _ 3) HS.out.2.1)))).mono HB.out.size)); clear hb) | (go_at_call 15; (with_reducible refine (do_52 _ _ _).mono ?_); rintro e w' ⟨rfl, hb⟩; have HB : Hid (Below w.heap.size w w') := Lib.hid (by first | exact HB.out.trans (hb.mono HB.out.size) | exact HB.out.trans ((HS.out.1.trans ((drewN_below _ _ _).trans (hb.mono (Nat.le_trans (Nat.le_add_right _ 3) HS.out.2.1)))).mono HB.out.size)); clear hb) | (go_at_call 15; (with_reducible refine (do_53 _ _ _).mono ?_); rintro e w' ⟨rfl, hb⟩; have HB : Hid (Below w.heap.size w w') := Lib.hid (by first | exact HB.out.trans (hb.mono HB.out.size) | exact HB.out.trans ((HS.out.1.trans ((drewN_below _ _ _).trans (hb.mono (Nat.le_trans (Nat.le_add_right _ 3) HS.out.2.1)))).mono HB.out.size)); clear hb))
      go_ret
      exact ⟨rfl, HB.out⟩
    · have cb : decide (S b < 0) = false := decide_eq_false hb
      have t2 : U n = U m := by rw [e_n']; unfold abV; rw [if_neg hb]; exact congrArg U (BitVec.sub_zero _)
      clear e_m e_n e_n' e_ph ha hb
      go_wp2_with (first | (go_at_call 15; (with_reducible refine (do_50 _ _ _).mono ?_); rintro e w' ⟨rfl, hb⟩; have HB : Hid (Below w.heap.size w w') := Lib.hid (by first | exact HB.out.trans (hb.mono HB.out.size) | exact HB.out.trans ((HS.out.1.trans ((drewN_below _ _ _).trans (hb.mono (Nat.le_trans (Nat.le_add_right _ 3) HS.out.2.1)))).mono HB.out.size)); clear hb) | (go_at_call 15; (with_reducible refine (do_51 _ _ _).mono ?_); rintro e w' ⟨rfl, hb⟩; have HB : Hid (Below w.heap.size w w') := Lib.hid (by first | exact HB.out.trans (hb.mono HB.out.size) | exact HB.out.trans ((HS.out.1.trans ((drewN_below _ _ _).trans (hb.mono (Nat.le_trans (Nat.le_add_right _ 3) HS.out.2.1)))).mono HB.out.size)); clear hb) | (go_at_call 15; (with_reducible refine (do_52 _ _ _).mono ?_); rintro e w' ⟨rfl, hb⟩; have HB : Hid (Below w.heap.size w w') := Lib.hid (by first | exact HB.out.trans (hb.mono HB.out.size) | exact HB.out.trans ((HS.out.1.trans ((drewN_below _ _ _).trans (hb.mono (Nat.le_trans (Nat.le_add_right _ 3) HS.out.2.1)))).mono HB.out.size)); clear hb) | (go_at_call 15; (with_reducible refine (do_53 _ _ _).mono ?_); rintro e w' ⟨rfl, hb⟩; have HB : Hid (Below w.heap.size w w') := Lib.hid (by first | exact HB.out.trans (hb.mono HB.out.size) | exact HB.out.trans ((HS.out.1.trans ((drewN_below _ _ _).trans (hb.mono (Nat.le_trans (Nat.le_add_right _ 3) HS.out.2.1)))).mono HB.out.size)); clear hb))
      go_ret
      exact ⟨rfl, HB.out⟩
  · have ca : decide (S a < 0) = false := decide_eq_false ha
    have t1 : U m = U ph := by rw [e_m, e_ph]; unfold abV; rw [if_neg ha]; exact congrArg U (BitVec.sub_zero _)
    have e_n' : n = m - abV b a := by rw [e_n, e_m]
    by_cases hb : S b < 0
    · have cb : decide (S b < 0) = true := decide_eq_true hb
      have t2 : IntKind.u64.wrap (U ph - U a) = U n := by rw [← t1, sub_U, e_n']; unfold abV; rw [if_pos hb]
      clear e_m e_n e_n' e_ph ha hb
      go_wp2_with (first | (go_at_call 15; (with_reducible refine (do_50 _ _ _).mono ?_); rintro e w' ⟨rfl, hb⟩; have HB : Hid (Below w.heap.size w w') := Lib.hid (by first | exact HB.out.trans (hb.mono HB.out.size) | exact HB.out.trans ((HS.out.1.trans ((drewN_below _ _ _).trans (hb.mono (Nat.le_trans (Nat.le_add_right _ 3) HS.out.2.1)))).mono HB.out.size)); clear hb) | (go_at_call 15; (with_reducible refine (do_51 _ _ _).mono ?_); rintro e w' ⟨rfl, hb⟩; have HB : Hid (Below w.heap.size w w') := Lib.hid (by first | exact HB.out.trans (hb.mono HB.out.size) | exact HB.out.trans ((HS.out.1.trans ((drewN_below _ _ _).trans (hb.mono (Nat.le_trans (Nat.le_add_right _ 3) HS.out.2.1)))).mono HB.out.size)); clear hb) | (go_at_call 15; (with_reducible refine (do_52 _ _ _).mono ?_); rintro e w' ⟨rfl, hb⟩; have HB : Hid (Below w.heap.size w w') := Lib.hid (by first | exact HB.out.trans (hb.mono HB.out.size) | exact HB.out.trans ((HS.out.1.trans ((drewN_below _ _ _).trans (hb.mono (Nat.le_trans (Nat.le_add_right _ 3) HS.out.2.1)))).mono HB.out.size)); clear hb) | (go_at_call 15; (with_reducible refine (do_53 _ _ _).mono ?_); rintro e w' ⟨rfl, hb⟩; have HB : Hid (Below w.heap.size w w') := Lib.hid (by first | exact HB.out.trans (hb.mono HB.out.size) | exact HB.out.trans ((HS.out.1.trans ((drewN_below _ _ _).trans (hb.mono (Nat.le_trans (Nat.le_add_right _ 3) HS.out.2.1)))).mono HB.out.size)); clear hb))
      go_ret
      exact ⟨rfl, HB.out⟩
    · have cb : decide (S b < 0) = false := decide_eq_false hb
      have t2 : U n = U ph := by rw [e_n', ← t1]; unfold abV; rw [if_neg hb]; exact congrArg U (BitVec.sub_zero _)
      clear e_m e_n e_n' e_ph ha hb
      go_wp2_with (first | (go_at_call 15; (with_reducible refine (do_50 _ _ _).mono ?_); rintro e w' ⟨rfl, hb⟩; have HB : Hid (Below w.heap.size w w') := Lib.hid (by first | exact HB.out.trans (hb.mono HB.out.size) | exact HB.out.trans ((HS.out.1.trans ((drewN_below _ _ _).trans (hb.mono (Nat.le_trans (Nat.le_add_right _ 3) HS.out.2.1)))).mono HB.out.size)); clear hb) | (go_at_call 15; (with_reducible refine (do_51 _ _ _).mono ?_); rintro e w' ⟨rfl, hb⟩; have HB : Hid (Below w.heap.size w w') := Lib.hid (by first | exact HB.out.trans (hb.mono HB.out.size) | exact HB.out.trans ((HS.out.1.trans ((drewN_below _ _ _).trans (hb.mono (Nat.le_trans (Nat.le_add_right _ 3) HS.out.2.1)))).mono HB.out.size)); clear hb) | (go_at_call 15; (with_reducible refine (do_52 _ _ _).mono ?_); rintro e w' ⟨rfl, hb⟩; have HB : Hid (Below w.heap.size w w') := Lib.hid (by first | exact HB.out.trans (hb.mono HB.out.size) | exact HB.out.trans ((HS.out.1.trans ((drewN_below _ _ _).trans (hb.mono (Nat.le_trans (Nat.le_add_right _ 3) HS.out.2.1)))).mono HB.out.size)); clear hb) | (go_at_call 15; (with_reducible refine (do_53 _ _ _).mono ?_); rintro e w' ⟨rfl, hb⟩; have HB : Hid (Below w.heap.size w w') := Lib.hid (by first | exact HB.out.trans (hb.mono HB.out.size) | exact HB.out.trans ((HS.out.1.trans ((drewN_below _ _ _).trans (hb.mono (Nat.le_trans (Nat.le_add_right _ 3) HS.out.2.1)))).mono HB.out.size)); clear hb))
      go_ret
      exact ⟨rfl, HB.out⟩
end Go.Proofs.Ytdapbaakcpjafaa
