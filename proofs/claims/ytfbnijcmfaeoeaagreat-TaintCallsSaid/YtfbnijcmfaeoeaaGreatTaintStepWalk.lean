/-
  Proved here: the package taint's Step answers the taint behind an instruction and on what it hung, or ErrArg; all lists are new, nothing that was there is changed. Condition: at most 10,000 numbers a list.
-/
import Derived.Test.YtfbnijcmfaeoeaaGreatTaintStep
namespace Go.Proofs.YtfbnijcmfaeoeaaGreat
open Go.RowKit
attribute [local go_sem ↓] fold_T fold_I fold_ST fold_SD

theorem Stepping.keep1 {t : Ta} {l : Tl} {i : Ins} {w W : World} (h : Stepping t l i w W) (cs : Array Value) : (LoadT (.pointer (some ⟨w.heap.size, 0, none⟩))).run Tryz.prog (W.setRow (w.heap.size + 2) cs) = .ok t.V (W.setRow (w.heap.size + 2) cs) ∧ (LoadI (.pointer (some ⟨w.heap.size + 1, 0, none⟩))).run Tryz.prog (W.setRow (w.heap.size + 2) cs) = .ok i.V (W.setRow (w.heap.size + 2) cs) :=
  ⟨run_LoadT ((setRow_other _ _ _ _ (by omega)).trans h.both.at0), run_LoadI ((setRow_other _ _ _ _ (by omega)).trans h.both.at1)⟩
theorem Stepping.keep2 {t : Ta} {l : Tl} {i : Ins} {w W : World} (h : Stepping t l i w W) (cs ds : Array Value) : (LoadT (.pointer (some ⟨w.heap.size, 0, none⟩))).run Tryz.prog ((W.setRow (w.heap.size + 2) cs).setRow (w.heap.size + 3) ds) = .ok t.V ((W.setRow (w.heap.size + 2) cs).setRow (w.heap.size + 3) ds) ∧ (LoadI (.pointer (some ⟨w.heap.size + 1, 0, none⟩))).run Tryz.prog ((W.setRow (w.heap.size + 2) cs).setRow (w.heap.size + 3) ds) = .ok i.V ((W.setRow (w.heap.size + 2) cs).setRow (w.heap.size + 3) ds) :=
  ⟨run_LoadT ((setRow_other _ _ _ _ (by omega)).trans ((setRow_other _ _ _ _ (by omega)).trans h.both.at0)), run_LoadI ((setRow_other _ _ _ _ (by omega)).trans ((setRow_other _ _ _ _ (by omega)).trans h.both.at1))⟩
theorem zeroFlat : zeroTa.flat := flat_way (.slice none 0 0) rfl
theorem zeroTN (n : Nat) (w : World) : TReadsN n w zeroTa zeroTl := ⟨fun k hk => by rw [zeroTa_v k hk, zeroTl_x]; exact ReadsN.nil _ _, ReadsN.nil _ _⟩
set_option maxRecDepth 100000 in
set_option maxHeartbeats 4000000 in
theorem step_no1 (t : Ta) (l : Tl) (i : Ins) (event : Int) (w : World) (h : TReads w t l) (hs : l.short) (hok : l.ok = false) :
    Calls Tryz.prog 6 #[t.V, i.V, .int .i64 event] w fun e w' => StepOk w zeroTl [] [] [] 2 e w' := by
  have S0 := Lib.hid (Stepping.start t l i w h)
  have HCK := Lib.hid (fun (w0 : World) (b : Both t l i w w0) => tCheck_b t l false hok w0 b.reads hs)
  clear h hs hok
  go_enter Tryz.func6, Tryz.ntmps6
  go_upto_region 1 with fail
  rw [zero_tC]
  obtain ⟨W, HW⟩ : ∃ W, Hid ((((w.alloc (.cells (tC t) 25)).alloc (.cells (insCells i) 27)).alloc (.cells (tC zeroTa) 25)).alloc (.cells #[.slice none 0 0, .slice none 0 0, .slice none 0 0] 31) = W) := ⟨_, Lib.hid rfl⟩
  rw [HW.out] at S0 ⊢
  have cl := S0.out.both.load
  have ci := S0.out.both.loadI
  have e33 := zero_tC
  go_wp2_with (first
    | (go_at_call 11; (with_reducible refine (HCK.out _ S0.out.both).mono ?_); rintro e w1 ⟨rfl, hb1⟩; have S1 := Lib.hid (S0.out.on hb1); clear hb1 cl ci; have cl := S1.out.both.load; have ci := S1.out.both.loadI)
    | (refine store_ta S1.out.rt zeroTa zeroFlat rfl (.tmp 6) (.tmp 21) rfl rfl (congrArg Value.agg zero_tC) ?_; intro w8 D8 ho8 hb8 hz8)
    | (refine store_d (((ho8 _ (by omega)).trans S1.out.rd)) rfl (.tmp 7) (.tmp 22) rfl _ _ _ rfl rfl rfl rfl rfl ?_; intro w9 D9 ho9 hb9 hz9))
  refine bodyPost_ret (step_end rfl rfl rfl rfl ((ho9 _ (by omega)).trans D8) D9) rfl ?_
  exact ⟨zeroTa, _, _, _, rfl, zeroTN _ _, ⟨ReadsN.nil _ _, ReadsN.nil _ _, ReadsN.nil _ _⟩, S1.out.both.below.trans ((hb8.mono (by omega)).trans (hb9.mono (by omega)))⟩
set_option maxRecDepth 100000 in
set_option maxHeartbeats 4000000 in
theorem step_no2 (t : Ta) (l : Tl) (i : Ins) (event : Int) (w : World) (h : TReads w t l) (hs : l.short) (hok : l.ok = true) (hi : i.ok = false) :
    Calls Tryz.prog 6 #[t.V, i.V, .int .i64 event] w fun e w' => StepOk w zeroTl [] [] [] 2 e w' := by
  have S0 := Lib.hid (Stepping.start t l i w h)
  have HCK := Lib.hid (fun (w0 : World) (b : Both t l i w w0) => tCheck_b t l true hok w0 b.reads hs)
  have HIC := Lib.hid (fun (w0 : World) => Check_i i false (Lib.hid hi) w0)
  clear h hs hok hi
  go_enter Tryz.func6, Tryz.ntmps6
  go_upto_region 1 with fail
  rw [zero_tC]
  obtain ⟨W, HW⟩ : ∃ W, Hid ((((w.alloc (.cells (tC t) 25)).alloc (.cells (insCells i) 27)).alloc (.cells (tC zeroTa) 25)).alloc (.cells #[.slice none 0 0, .slice none 0 0, .slice none 0 0] 31) = W) := ⟨_, Lib.hid rfl⟩
  rw [HW.out] at S0 ⊢
  have cl := S0.out.both.load
  have ci := S0.out.both.loadI
  have e33 := zero_tC
  go_wp2_with (first
    | (go_at_call 11; (with_reducible refine (HCK.out _ S0.out.both).mono ?_); rintro e w1 ⟨rfl, hb1⟩; have S1 := Lib.hid (S0.out.on hb1); clear hb1 cl ci; have cl := S1.out.both.load; have ci := S1.out.both.loadI)
    | (go_at_call 21; (with_reducible refine (HIC.out _).mono ?_); rintro e w2 ⟨rfl, hb2⟩; have S2 := Lib.hid (S1.out.on hb2); clear hb2 cl ci; have cl := S2.out.both.load; have ci := S2.out.both.loadI)
    | (refine store_ta S2.out.rt zeroTa zeroFlat rfl (.tmp 6) (.tmp 21) rfl rfl (congrArg Value.agg zero_tC) ?_; intro w8 D8 ho8 hb8 hz8)
    | (refine store_d (((ho8 _ (by omega)).trans S2.out.rd)) rfl (.tmp 7) (.tmp 22) rfl _ _ _ rfl rfl rfl rfl rfl ?_; intro w9 D9 ho9 hb9 hz9))
  refine bodyPost_ret (step_end rfl rfl rfl rfl ((ho9 _ (by omega)).trans D8) D9) rfl ?_
  exact ⟨zeroTa, _, _, _, rfl, zeroTN _ _, ⟨ReadsN.nil _ _, ReadsN.nil _ _, ReadsN.nil _ _⟩, S2.out.both.below.trans ((hb8.mono (by omega)).trans (hb9.mono (by omega)))⟩
set_option maxRecDepth 100000 in
set_option maxHeartbeats 4000000 in
theorem step_no3 (t : Ta) (l : Tl) (i : Ins) (event : Int) (w : World) (h : TReads w t l) (hs : l.short) (hok : l.ok = true) (hi : i.ok = true) (he : event < -1) :
    Calls Tryz.prog 6 #[t.V, i.V, .int .i64 event] w fun e w' => StepOk w zeroTl [] [] [] 2 e w' := by
  have S0 := Lib.hid (Stepping.start t l i w h)
  have HCK := Lib.hid (fun (w0 : World) (b : Both t l i w w0) => tCheck_b t l true hok w0 b.reads hs)
  have HIC := Lib.hid (fun (w0 : World) => Check_i i true (Lib.hid hi) w0)
  clear h hs hok hi
  go_enter Tryz.func6, Tryz.ntmps6
  go_upto_region 1 with fail
  rw [zero_tC]
  obtain ⟨W, HW⟩ : ∃ W, Hid ((((w.alloc (.cells (tC t) 25)).alloc (.cells (insCells i) 27)).alloc (.cells (tC zeroTa) 25)).alloc (.cells #[.slice none 0 0, .slice none 0 0, .slice none 0 0] 31) = W) := ⟨_, Lib.hid rfl⟩
  rw [HW.out] at S0 ⊢
  have cl := S0.out.both.load
  have ci := S0.out.both.loadI
  have e33 := zero_tC
  go_wp2_with (first
    | (go_at_call 11; (with_reducible refine (HCK.out _ S0.out.both).mono ?_); rintro e w1 ⟨rfl, hb1⟩; have S1 := Lib.hid (S0.out.on hb1); clear hb1 cl ci; have cl := S1.out.both.load; have ci := S1.out.both.loadI)
    | (go_at_call 21; (with_reducible refine (HIC.out _).mono ?_); rintro e w2 ⟨rfl, hb2⟩; have S2 := Lib.hid (S1.out.on hb2); clear hb2 cl ci; have cl := S2.out.both.load; have ci := S2.out.both.loadI)
    | (refine store_ta S2.out.rt zeroTa zeroFlat rfl (.tmp 6) (.tmp 21) rfl rfl (congrArg Value.agg zero_tC) ?_; intro w8 D8 ho8 hb8 hz8)
    | (refine store_d (((ho8 _ (by omega)).trans S2.out.rd)) rfl (.tmp 7) (.tmp 22) rfl _ _ _ rfl rfl rfl rfl rfl ?_; intro w9 D9 ho9 hb9 hz9))
  refine bodyPost_ret (step_end rfl rfl rfl rfl ((ho9 _ (by omega)).trans D8) D9) rfl ?_
  exact ⟨zeroTa, _, _, _, rfl, zeroTN _ _, ⟨ReadsN.nil _ _, ReadsN.nil _ _, ReadsN.nil _ _⟩, S2.out.both.below.trans ((hb8.mono (by omega)).trans (hb9.mono (by omega)))⟩
theorem depsMono {n m : Nat} {w : World} {a d y : Value} {al dl yl : List Int} (h : DepsN n w a d y al dl yl) (hm : m ≤ n) : DepsN m w a d y al dl yl := ⟨h.1.mono hm, h.2.1.mono hm, h.2.2.mono hm⟩
theorem TReadsN.on {n : Nat} {w w' : World} {t : Ta} {l : Tl} (h : TReadsN n w t l) (hb : Below w.heap.size w w') : TReadsN n w' t l := ⟨fun k hk => (h.1 k hk).on hb, h.2.on hb⟩
set_option maxRecDepth 100000 in
set_option maxHeartbeats 4000000 in
theorem step_yes (t : Ta) (l : Tl) (i : Ins) (event : Int) (w : World) (h : TReads w t l) (hs : l.short) (hok : l.ok = true) (hi : i.ok = true) (he : ¬ event < -1) :
    Calls Tryz.prog 6 #[t.V, i.V, .int .i64 event] w fun e w' => StepOk w (behindL l i event) (addrL l i) (dataL l i) l.way 0 e w' := by
  have S0 := Lib.hid (Stepping.start t l i w h)
  have HCK := Lib.hid (fun (w0 : World) (b : Both t l i w w0) => tCheck_b t l true hok w0 b.reads hs)
  have HIC := Lib.hid (fun (w0 : World) => Check_i i true (Lib.hid hi) w0)
  have HBE := Lib.hid (fun (w0 : World) (b : Both t l i w w0) => behind_any t l i event w0 b.reads hs hi)
  have hm := may_of i hi
  have h1 : 0 ≤ i.rs1 ∧ i.rs1 < 32 := by have := hm.rs1; omega
  have h2 : 0 ≤ i.rs2 ∧ i.rs2 < 32 := by have := hm.rs2; omega
  clear hm
  have HHU := Lib.hid (fun (w0 : World) (b : Both t l i w w0) => hung_any t l i w0 b.reads hs h1 h2)
  clear h hs hok hi h1 h2
  go_enter Tryz.func6, Tryz.ntmps6
  go_upto_region 1 with fail
  rw [zero_tC]
  obtain ⟨W, HW⟩ : ∃ W, Hid ((((w.alloc (.cells (tC t) 25)).alloc (.cells (insCells i) 27)).alloc (.cells (tC zeroTa) 25)).alloc (.cells #[.slice none 0 0, .slice none 0 0, .slice none 0 0] 31) = W) := ⟨_, Lib.hid rfl⟩
  rw [HW.out] at S0 ⊢
  have cl := S0.out.both.load
  have ci := S0.out.both.loadI
  go_wp2_with (first
    | (go_at_call 11; (with_reducible refine (HCK.out _ S0.out.both).mono ?_); rintro e w1 ⟨rfl, hb1⟩; have S1 := Lib.hid (S0.out.on hb1); clear hb1 cl ci; have cl := S1.out.both.load; have ci := S1.out.both.loadI)
    | (go_at_call 21; (with_reducible refine (HIC.out _).mono ?_); rintro e w2 ⟨rfl, hb2⟩; have S2 := Lib.hid (S1.out.on hb2); clear hb2 cl ci; have cl := S2.out.both.load; have ci := S2.out.both.loadI))
  go_region_held3 (fun w' => (LoadT (.pointer (some ⟨w.heap.size, 0, none⟩))).run Tryz.prog w' = .ok t.V w' ∧ (LoadI (.pointer (some ⟨w.heap.size + 1, 0, none⟩))).run Tryz.prog w' = .ok i.V w')
    (first | exact ⟨Both.load (Both.drew S2.out.both), Both.loadI (Both.drew S2.out.both)⟩ | exact S4.out.keep2 _ _ | exact S4.out.keep1 _ | exact ⟨S4.out.both.load, S4.out.both.loadI⟩ | exact ⟨S3.out.both.load, S3.out.both.loadI⟩)
    ((first
      | (go_at_call 22; (with_reducible refine (HBE.out _ (Both.drew S2.out.both)).mono ?_); rintro e w3 ⟨t3, rfl, ht3, hb3⟩; have T3 := Lib.hid (ht3.mono S2.out.size); have S3 := Lib.hid (S2.out.drew.on hb3); clear ht3 hb3)
      | (go_at_call 23; (with_reducible refine (HHU.out _ S3.out.both).mono ?_); rintro e w4 ⟨va, vd, vy, rfl, hd4, hb4⟩; have D4 := Lib.hid (depsMono hd4 S3.out.size); have T4 := Lib.hid (T3.out.on hb4); have S4 := Lib.hid (S3.out.on hb4); clear hd4 hb4; have hrun := stepping_runs S4.out T4.out D4.out; obtain ⟨run1, run2⟩ := hrun)))
  have hst := stepped (err := 0) S4.out T4.out D4.out
  obtain ⟨k1, k2, k3⟩ := hst
  have K1 := Lib.hid k1
  have K2 := Lib.hid k2
  have K3 := Lib.hid k3
  clear k1 k2 k3
  go_wp2
  refine bodyPost_ret (step_end rfl rfl rfl rfl K2.out K3.out) rfl ?_
  exact K1.out
def stepOkB (l : Tl) (i : Ins) (event : Int) : Bool := l.ok && (i.ok && decide (-1 ≤ event))
/-- of any taint, instruction, event -/
theorem step_any (t : Ta) (l : Tl) (i : Ins) (event : Int) (w : World) (h : TReads w t l) (hs : l.short) :
    Calls Tryz.prog 6 #[t.V, i.V, .int .i64 event] w fun e w' =>
      if stepOkB l i event then StepOk w (behindL l i event) (addrL l i) (dataL l i) l.way 0 e w' else StepOk w zeroTl [] [] [] 2 e w' := by
  unfold stepOkB
  cases hok : l.ok with
  | false => exact step_no1 t l i event w h hs hok
  | true =>
    cases hi : i.ok with
    | false => exact step_no2 t l i event w h hs hok hi
    | true =>
      by_cases he : event < -1
      · have e : decide (-1 ≤ event) = false := by simpa using he
        rw [e]
        exact step_no3 t l i event w h hs hok hi he
      · have e : decide (-1 ≤ event) = true := by simpa using he
        rw [e]
        exact step_yes t l i event w h hs hok hi he
end Go.Proofs.YtfbnijcmfaeoeaaGreat
