/-
  Proved here: the document's own Step (layer 6) answers what the program's words say. Condition: at most 10,000 numbers a list; a number of 64 bits in the instruction.
-/
import Derived.Test.YtfbnijcmfaeoeaaGreatRef06Base
import Derived.Deep.RegionHeld3
import Derived.Deep.CutBlock
import Derived.Deep.DeepCutAuto
namespace Go.Proofs.YtfbnijcmfaeoeaaGreat
set_option linter.unusedVariables false
open Go.RowKit
def LoadD (x : Value) : Sem Value := Instr.loadAt 31 x
theorem fold_LD (x : Value) : Instr.loadAt 31 x = LoadD x := rfl
theorem run_LoadD {a d y : Value} {n : Nat} {w : World} (H : DAt a d y n w) : (LoadD (.pointer (some ⟨n, 0, none⟩))).run Tryz.prog w = .ok (.agg #[a, d, y]) w := by
  unfold LoadD Instr.loadAt Instr.sureAddr
  simp only [Sem.run_bind, Sem.run_pure, Result.andThen_ok, run_loadVar_row w n _ 31 #[a, d, y] (0, 0) _ H Tryz.underlying31 rfl (by as_aux_lemma => kernel_rfl)]
attribute [local go_sem ↓] fold_T fold_I fold_ST fold_SD fold_LD

theorem RowI.on {w w' : World} {a : Option Addr} {zs : List Int} (h : RowI w a zs) (hb : Below w.heap.size w w') : RowI w' a zs := fun j hj => by
  obtain ⟨b, off, e, h1, h2⟩ := h j hj
  exact ⟨b, off, e, Nat.lt_of_lt_of_le h1 hb.size, (hb.cell (p := ⟨b, off + j, none⟩) h1).trans h2⟩
theorem R6.room {i : Ins} {l : Tl} {al dl yl : List Int} {w W : World} {g : Nat} {t : Ta} {a d y : Value} (_ : R6 i l al dl yl w g t a d y W) : (W.alloc E0).ownsRow W.heap.size 3 1 (.slice (some ⟨W.heap.size, 0, none⟩) 0 0) 0 [] := made0 W
theorem R6.roomB {i : Ins} {l : Tl} {al dl yl : List Int} {w W : World} {g : Nat} {t : Ta} {a d y : Value} (_ : R6 i l al dl yl w g t a d y W) : Below W.heap.size W (W.alloc E0) := box_below W E0
theorem R6.roomL {i : Ins} {l : Tl} {al dl yl : List Int} {w W : World} {g : Nat} {t : Ta} {a d y : Value} (h : R6 i l al dl yl w g t a d y W) : w.heap.size + 4 ≤ W.heap.size := h.b.lt
theorem reads_oneN {n : Nat} {w : World} (a : Int) (hn : n ≤ w.heap.size) : ReadsN n (w.alloc (.cells #[.int .i64 a] 3)) (.slice (some ⟨w.heap.size, 0, none⟩) 1 1) [a] :=
  ⟨reads_one w a, fun k hk => by simp [Value.ownBlock] at hk; omega⟩
theorem R6.drew {i : Ins} {l : Tl} {al dl yl : List Int} {w W : World} {g : Nat} {t : Ta} {a d y : Value} (h : R6 i l al dl yl w g t a d y W) : R6 i l al dl yl w g t a d y W.drew := h.on (Below.refl _ _).drew
theorem R6.runs {i : Ins} {l : Tl} {al dl yl : List Int} {w W : World} {g : Nat} {t : Ta} {a d y : Value} (h : R6 i l al dl yl w g t a d y W) :
    (StoreT (.pointer (some ⟨w.heap.size + 2, 0, none⟩)) t.V).run Tryz.prog W = .ok () (W.setRow (w.heap.size + 2) (tC t)) ∧
    (StoreD (.pointer (some ⟨w.heap.size + 3, 0, none⟩)) (.agg #[a, d, y])).run Tryz.prog (W.setRow (w.heap.size + 2) (tC t)) = .ok () ((W.setRow (w.heap.size + 2) (tC t)).setRow (w.heap.size + 3) #[a, d, y]) :=
  ⟨run_StoreT h.b.rt h.b.rs.reads.flat, run_StoreD ((setRow_other _ _ _ _ (by omega)).trans h.b.rd) h.ds.1.one h.ds.2.1.one h.ds.2.2.one⟩
theorem R6.keep0 {i : Ins} {l : Tl} {al dl yl : List Int} {w W : World} {g : Nat} {t : Ta} {a d y : Value} (h : R6 i l al dl yl w g t a d y W) : (LoadT (.pointer (some ⟨w.heap.size, 0, none⟩))).run Tryz.prog W = .ok t.V W ∧ (LoadD (.pointer (some ⟨g, 0, none⟩))).run Tryz.prog W = .ok (.agg #[a, d, y]) W := ⟨run_LoadT h.b.bx, run_LoadD h.bd⟩
theorem R6.keep1 {i : Ins} {l : Tl} {al dl yl : List Int} {w W : World} {g : Nat} {t : Ta} {a d y : Value} (h : R6 i l al dl yl w g t a d y W) (cs : Array Value) : (LoadT (.pointer (some ⟨w.heap.size, 0, none⟩))).run Tryz.prog (W.setRow (w.heap.size + 2) cs) = .ok t.V (W.setRow (w.heap.size + 2) cs) ∧ (LoadD (.pointer (some ⟨g, 0, none⟩))).run Tryz.prog (W.setRow (w.heap.size + 2) cs) = .ok (.agg #[a, d, y]) (W.setRow (w.heap.size + 2) cs) :=
  ⟨run_LoadT ((setRow_other _ _ _ _ (by omega)).trans h.b.bx), run_LoadD ((setRow_other _ _ _ _ (by have := h.low; omega)).trans h.bd)⟩
theorem R6.keep2 {i : Ins} {l : Tl} {al dl yl : List Int} {w W : World} {g : Nat} {t : Ta} {a d y : Value} (h : R6 i l al dl yl w g t a d y W) (cs ds : Array Value) : (LoadT (.pointer (some ⟨w.heap.size, 0, none⟩))).run Tryz.prog ((W.setRow (w.heap.size + 2) cs).setRow (w.heap.size + 3) ds) = .ok t.V ((W.setRow (w.heap.size + 2) cs).setRow (w.heap.size + 3) ds) ∧ (LoadD (.pointer (some ⟨g, 0, none⟩))).run Tryz.prog ((W.setRow (w.heap.size + 2) cs).setRow (w.heap.size + 3) ds) = .ok (.agg #[a, d, y]) ((W.setRow (w.heap.size + 2) cs).setRow (w.heap.size + 3) ds) :=
  ⟨run_LoadT ((setRow_other _ _ _ _ (by omega)).trans ((setRow_other _ _ _ _ (by omega)).trans h.b.bx)), run_LoadD ((setRow_other _ _ _ _ (by have := h.low; omega)).trans ((setRow_other _ _ _ _ (by have := h.low; omega)).trans h.bd))⟩
theorem R6.done {i : Ins} {l : Tl} {al dl yl : List Int} {w W : World} {g : Nat} {t : Ta} {a d y : Value} (h : R6 i l al dl yl w g t a d y W) :
    StepOk w l al dl yl 0 (.returned (.tuple #[t.V, .agg #[a, d, y], .int .i64 0])) ((W.setRow (w.heap.size + 2) (tC t)).setRow (w.heap.size + 3) #[a, d, y]) ∧
    TAt 25 t (w.heap.size + 2) ((W.setRow (w.heap.size + 2) (tC t)).setRow (w.heap.size + 3) #[a, d, y]) ∧ DAt a d y (w.heap.size + 3) ((W.setRow (w.heap.size + 2) (tC t)).setRow (w.heap.size + 3) #[a, d, y]) := by
  refine ⟨⟨t, a, d, y, rfl, ⟨fun k hk => step_reads (h.b.rs.1 k hk), step_reads h.b.rs.2⟩, ⟨step_reads h.ds.1, step_reads h.ds.2.1, step_reads h.ds.2.2⟩, ?_⟩, ?_, ?_⟩
  · exact h.b.below.trans ((below_setRow.mono (by omega)).trans (below_setRow.mono (by omega)))
  · exact (setRow_other _ _ _ _ (by omega)).trans (TAt.setRow h.b.rt)
  · exact setRow_heap _ _ _ _ _ _ ((setRow_other _ _ _ _ (by omega)).trans h.b.rd)
set_option maxRecDepth 100000 in
set_option maxHeartbeats 16000000 in
theorem rStep_yes (t : Ta) (l : Tl) (i : Ins) (event : Int) (w : World) (h : TReads w t l) (hs : l.short) (him : -9223372036854775808 ≤ i.imm ∧ i.imm ≤ 9223372036854775807) (hok : l.ok = true) (hi : i.ok = true) (he : -1 ≤ event) :
    Calls Tryz.prog 8 #[t.V, i.V, .int .i64 event] w fun e w' => StepOk w (behindL l i event) (addrL l i) (dataL l i) l.way 0 e w' := by
  have S0 := Lib.hid (Stepping.start t l i w h)
  have HCK := Lib.hid (fun (w0 : World) (b : Both t l i w w0) => rTCheck_b t l true hok w0 b.reads hs)
  have HIC := Lib.hid (fun (w0 : World) => rCheck_ok i (Lib.hid hi) (Lib.hid him) w0)
  have KCO := Lib.hid (fun (w0 : World) (b : Both t l i w w0) => rCopy_any t l w0 b.reads hs)
  have hm := may_of i hi
  obtain ⟨n1, hn1⟩ : ∃ n : Nat, i.rs1 = (n : Int) := ⟨i.rs1.toNat, by have := hm.rs1; omega⟩
  obtain ⟨n2, hn2⟩ : ∃ n : Nat, i.rs2 = (n : Int) := ⟨i.rs2.toNat, by have := hm.rs2; omega⟩
  obtain ⟨dm, hdm⟩ : ∃ n : Nat, i.rd = (n : Int) := ⟨i.rd.toNat, by have := hm.rd; omega⟩
  have h1 : n1 < 32 := by have := hm.rs1; omega
  have h2 : n2 < 32 := by have := hm.rs2; omega
  have h3 : dm < 32 := by have := hm.rd; omega
  have hwi : writesI i = (dm : Int) := by unfold writesI; rw [hi, if_pos rfl, hdm]
  have hAL0 := addr_doc l i
  have hDL0 := data_doc l i
  have hXL0 := written_doc l i event hi he
  have hsz0 := size_doc i hi
  have hW6 := way_doc l i hok hi
  have hW0 := way_not l i
  have hBL0 : behindL l i event = (if dm = 0 then l.atWay (wayL l i) else (l.atWay (wayL l i)).put dm (writtenL l i event)) := by
    unfold behindL
    rw [hdm]
    by_cases h0 : dm = 0
    · rw [if_pos (by omega), if_pos h0]
    · rw [if_neg (by omega), if_neg h0]; rfl
  obtain ⟨ld, hld⟩ : ∃ b, loadsB i.op = b := ⟨_, rfl⟩
  obtain ⟨st, hst⟩ : ∃ b, storesB i.op = b := ⟨_, rfl⟩
  obtain ⟨sz, hsz⟩ : ∃ z, sizeOf' i.op = z := ⟨_, rfl⟩
  obtain ⟨fo, hfo⟩ : ∃ z, formOf i.op = z := ⟨_, rfl⟩
  obtain ⟨rl, hrl⟩ : ∃ z, readsL i = z := ⟨_, rfl⟩
  have KM : Hid (∀ w0, Calls Tryz.prog 26 #[.int .i64 i.op] w0 fun e w' => e = .returned (.tuple #[.bool ld, .bool st, .int .i64 sz]) ∧ Below w0.heap.size w0 w') := Lib.hid (fun w0 => by
    have := rMem_any i.op w0
    rw [hld, hst, hsz] at this; exact this)
  have KF : Hid (∀ w0, Calls Tryz.prog 28 #[.int .i64 i.op] w0 fun e w' => e = .returned (.int .i64 fo) ∧ w0 = w') := Lib.hid (fun w0 => by
    have := rForm_any i.op w0
    rw [hfo] at this; exact this)
  have KW : Hid (∀ w0, Calls Tryz.prog 29 #[i.V] w0 fun e w' => e = .returned (.int .i64 (dm : Int)) ∧ Below w0.heap.size w0 w') := Lib.hid (fun w0 => by rw [← hwi]; exact rWrites_any i (Lib.hid him) w0)
  have KR : Hid (∀ W, Calls Tryz.prog 27 #[i.V] W fun e w' => Merged W rl e w') := Lib.hid (fun W => by
    have := rReads_any i (Lib.hid him) W
    unfold readsT at this
    rw [hi, if_pos rfl, hrl] at this; exact this)
  have hin := readsL_in i hi
  have hrs := readsL_len i
  rw [hrl] at hin hrs
  have hhl : ∀ k, k ≤ rl.length → (hangL l (rl.take k)).length ≤ 40000 := fun k hk => by have := hangL_len l hs rl hin k hk; omega
  have KJ : Hid (∀ (k rn : Nat) (W : World) (va vb : Value), k < rl.length → Hid (atI rl k = (rn : Int)) → ReadsI W va (hangL l (rl.take k)) → ReadsI W vb (l.x rn) → Calls Tryz.prog 19 #[va, vb] W fun e w' => Merged W (hangL l (rl.take (k + 1))) e w') := Lib.hid (fun k rn W va vb hk hr ha hb => by
    have hrn := hin k hk
    have e1 := hangL_step l rl k hk
    rw [hr.out, Int.toNat_natCast] at e1
    rw [e1, ← join_is _ _ (rises_hang l (ok_x hok) _) (ok_x hok _)]
    rw [hr.out] at hrn
    exact rJoin_any va vb _ _ W ha hb (by have := hhl k (by omega); have := hs.x rn (by omega); omega))
  have HIN : Hid (∀ k, k < rl.length → ∃ rn : Nat, Hid (atI rl k = (rn : Int)) ∧ rn < 32) := Lib.hid (fun k hk => ⟨(atI rl k).toNat, Lib.hid (by have := hin k hk; omega), by have := hin k hk; omega⟩)
  obtain ⟨AL, hAL⟩ : ∃ z, addrL l i = z := ⟨_, rfl⟩
  obtain ⟨DL, hDL⟩ : ∃ z, dataL l i = z := ⟨_, rfl⟩
  obtain ⟨WL, hWL⟩ : ∃ z, wayL l i = z := ⟨_, rfl⟩
  obtain ⟨XL, hXL⟩ : ∃ z, writtenL l i event = z := ⟨_, rfl⟩
  obtain ⟨BL, hBL⟩ : ∃ z, behindL l i event = z := ⟨_, rfl⟩
  obtain ⟨HA, hHA⟩ : ∃ z, hangL l rl = z := ⟨_, rfl⟩
  have KJW : Hid (∀ (W : World) (va vb : Value), ReadsI W va l.way → ReadsI W vb HA → Calls Tryz.prog 19 #[va, vb] W fun e w' => Merged W (joinL l.way HA) e w') := Lib.hid (fun W va vb ha hb => by
    have h5 := hhl rl.length (Nat.le_refl _)
    rw [List.take_length, hHA] at h5
    exact rJoin_any va vb _ _ W ha hb (by have := hs.w; omega))
  rw [hld, hst, hAL, hn1, Int.toNat_natCast] at hAL0
  rw [hst, hDL, hn2, Int.toNat_natCast] at hDL0
  rw [hld, hst, hfo, hXL, hrl, hHA] at hXL0
  rw [hld, hst, hsz] at hsz0
  rw [hfo, hrl, hWL, hHA] at hW6
  rw [hfo, hWL] at hW0
  rw [hBL, hWL, hXL] at hBL0
  rw [hBL, hAL, hDL]
  have EAL := Lib.hid hAL0
  have EDL := Lib.hid hDL0
  have EXL := Lib.hid hXL0
  have ESZ := Lib.hid hsz0
  have EW6 := Lib.hid hW6
  have EW0 := Lib.hid hW0
  have EBL := Lib.hid hBL0
  have EHA := Lib.hid hHA
  have HN1 := Lib.hid hn1
  have HN2 := Lib.hid hn2
  have KS := Lib.hid hs
  have HE := Lib.hid he
  have d0 : decide (event < -1) = false := by simp; omega
  clear h hs him hok hi he hm hn1 hn2 hdm hwi hAL0 hDL0 hXL0 hsz0 hW6 hW0 hBL0 hld hst hsz hfo hrl hin hhl hAL hDL hWL hXL hBL hHA
  go_enter Tryz.func8, Tryz.ntmps8
  go_upto_region 1 with fail
  rw [zero_tC]
  obtain ⟨W, HW⟩ : ∃ W, Hid ((((w.alloc (.cells (tC t) 25)).alloc (.cells (insCells i) 27)).alloc (.cells (tC zeroTa) 25)).alloc (.cells #[.slice none 0 0, .slice none 0 0, .slice none 0 0] 31) = W) := ⟨_, Lib.hid rfl⟩
  rw [HW.out] at S0 ⊢
  clear HW
  have cl := S0.out.both.load
  have ci := S0.out.both.loadI
  go_upto_region 3 with (first
    | (go_at_call 12; (with_reducible refine (HCK.out _ S0.out.both).mono ?_); rintro e w1 ⟨rfl, hb1⟩; have S1 := Lib.hid (S0.out.on hb1); clear hb1 cl ci; have cl := S1.out.both.load; have ci := S1.out.both.loadI)
    | (go_at_call 24; (with_reducible refine (HIC.out _).mono ?_); rintro e w2 ⟨rfl, hb2⟩; have S2 := Lib.hid (S1.out.on hb2); clear hb2 cl ci; have cl := S2.out.both.load; have ci := S2.out.both.loadI))
  clear HCK HIC S0 S1
  go_upto_region 4 with (first
    | (go_at_call 25; (with_reducible refine (KCO.out _ S2.out.both).mono ?_); rintro e w3 ⟨t3, rfl, ht, hb⟩; have T3 := Lib.hid ht; have S3 := Lib.hid (S2.out.on hb); have B3 := Lib.hid hb; clear hb ht cl ci)
    | (refine store_ta S3.out.both.at0 t3 T3.out.reads.flat rfl (.tmp 3) (.tmp 33) rfl rfl rfl ?_; intro w4 D4 ho4 hb4 hz4; have P4 := Lib.hid (B4.start S2.out T3.out B3.out D4 ho4 hb4 hz4); clear D4 ho4 hb4 hz4))
  clear KCO S2 S3 T3 B3
  obtain ⟨hz, c0, c1, c2, c3, e4, e5, e6, e7, e8⟩ := InsAt.facts P4.out.bi
  go_upto_region 5 with (go_at_call 26; (with_reducible refine (KM.out _).mono ?_); rintro e w5 ⟨rfl, hb⟩; have P5 := Lib.hid (P4.out.on hb); clear hb hz c0 c1 c2 c3 e4 e5 e6 e7 e8)
  clear KM P4 d0
  have cw := P5.out.bx.cw
  have zb := P5.out.bx.lt
  have HR := Lib.hid (P5.out.rs.2.1.alloc E0)
  have HM := Lib.hid (made0 w5)
  have HB := Lib.hid (box_below w5 E0)
  have hnw := KS.out.w
  go_upto_region 5 with fail
  go_cut [12] (fun u W => ∃ g y, u = .pointer (some ⟨g, 0, none⟩) ∧ Hid (R6 i l [] [] l.way w g t3 (.slice none 0 0) (.slice none 0 0) y W))
  case first =>
    go_wp2_with (first
      | (refine append_reads rfl (.tmp 41) (.tmp 43) rfl _ _ [] (l.way) rfl HM.out _ rfl HR.out (by simp; omega) HB.out.size ?_; intro v6 x6 hw hg; have H6 := Lib.hid hw; have HB6 := Lib.hid (HB.out.grown hg HB.out.size (fun k hk => (HM.out.lt k hk).1)); clear hw hg; obtain ⟨a6, e6', rfl⟩ := (readsN_of_own H6.out).1.len; have P6 := Lib.hid (P5.out.on HB6.out); clear cw)
      | (refine store_d (DAt.new _ _ _ x6) rfl (.tmp 12) (.tmp 45) rfl _ _ _ rfl rfl rfl rfl rfl ?_; intro w7 D7 ho7 hb7 hz7; have Q7 := Lib.hid D7; have C7 := Lib.hid hb7; clear D7 ho7 hb7 hz7))
    go_meet
    have A6 : Hid (ReadsN w5.heap.size x6 (.slice a6 l.way.length e6') l.way) := Lib.hid (by have := readsN_of_own H6.out; simpa only [List.nil_append] using this)
    exact ⟨_, _, rfl, Lib.hid (R6.start P6.out A6.out P5.out.lt Q7.out C7.out)⟩
  case rest =>
  obtain ⟨g, y, rfl, G7⟩ := hcut
  clear HR HM HB hnw zb P5 cw
  apply_assumption
  refine wp_seq_k fun K6 hK6 => ?_
  go_cut [12] (fun u W => ∃ a, u = .pointer (some ⟨g, 0, none⟩) ∧ Hid (R6 i l AL [] l.way w g t3 a (.slice none 0 0) y W))
  case first =>
    obtain ⟨mb, hmb⟩ : ∃ b, (ld || st) = b := ⟨_, rfl⟩
    rw [hmb] at ESZ EAL
    clear hmb
    cases mb
    · have d := ESZ.out
      have EA : Hid ([] = AL) := Lib.hid (by rw [EAL.out]; rfl)
      go_wp2
      go_meet
      obtain rfl := EA.out
      exact ⟨_, rfl, G7⟩
    · have d := ESZ.out
      have EA : Hid (l.x n1 = AL) := Lib.hid (by rw [EAL.out]; rfl)
      obtain ⟨hz, c0, c1, c2, c3, e4, e5, e6, e7, e8⟩ := InsAt.facts G7.out.b.bi
      rw [HN1.out] at c2
      have ix := fun V => index_xa w.heap.size n1 h1 V
      have cx := G7.out.b.bx.cx n1 h1
      have zb := G7.out.b.bx.lt
      have HR := Lib.hid ((G7.out.b.rs.1 n1 h1).1.alloc E0)
      have HM := Lib.hid G7.out.room
      have HB := Lib.hid G7.out.roomB
      have ZL := G7.out.roomL
      have hnw := KS.out.x n1 h1
      go_wp2_with (refine append_reads rfl (.tmp 48) (.tmp 53) rfl _ _ [] (l.x n1) rfl HM.out _ rfl HR.out (by simp; omega) HB.out.size ?_; intro v8 x8 hw hg; have H8 := Lib.hid hw; have HB8 := Lib.hid (HB.out.grown hg HB.out.size (fun k hk => (HM.out.lt k hk).1)); clear hw hg; obtain ⟨a8, e8', rfl⟩ := (readsN_of_own H8.out).1.len; have G8 := Lib.hid (G7.out.on HB8.out); clear cx zb hz c0 c1 c2 c3 e4 e5 e6 e7 e8; obtain ⟨q1, q2, q3, q4, q5, q6, q7⟩ := G8.out.bd.facts)
      go_meet
      have A8 := readsN_of_own H8.out
      simp only [List.nil_append] at A8
      obtain rfl := EA.out
      exact ⟨_, rfl, Lib.hid (G8.out.setA (A8.mono ZL))⟩
  case rest =>
    obtain ⟨a, rfl, G8⟩ := hcut
    clear G7 ESZ EAL
    refine hK6 _ _ ?_
    refine wp_seq_k fun K8 hK8 => ?_
    go_cut [12] (fun u W => ∃ d, u = .pointer (some ⟨g, 0, none⟩) ∧ Hid (R6 i l AL DL l.way w g t3 a d y W))
    case first =>
      cases st
      · have EA : Hid ([] = DL) := Lib.hid (by rw [EDL.out]; rfl)
        go_wp2
        go_meet
        obtain rfl := EA.out
        exact ⟨_, rfl, G8⟩
      · have EA : Hid (l.x n2 = DL) := Lib.hid (by rw [EDL.out]; rfl)
        obtain ⟨hz, c0, c1, c2, c3, e4, e5, e6, e7, e8⟩ := InsAt.facts G8.out.b.bi
        rw [HN2.out] at c3
        have ix := fun V => index_xa w.heap.size n2 h2 V
        have cx := G8.out.b.bx.cx n2 h2
        have zb := G8.out.b.bx.lt
        have HR := Lib.hid ((G8.out.b.rs.1 n2 h2).1.alloc E0)
        have HM := Lib.hid G8.out.room
        have HB := Lib.hid G8.out.roomB
        have ZL := G8.out.roomL
        have hnw := KS.out.x n2 h2
        go_wp2_with (refine append_reads rfl (.tmp 57) (.tmp 62) rfl _ _ [] (l.x n2) rfl HM.out _ rfl HR.out (by simp; omega) HB.out.size ?_; intro v9 x9 hw hg; have H9 := Lib.hid hw; have HB9 := Lib.hid (HB.out.grown hg HB.out.size (fun k hk => (HM.out.lt k hk).1)); clear hw hg; obtain ⟨a9, e9', rfl⟩ := (readsN_of_own H9.out).1.len; have G9 := Lib.hid (G8.out.on HB9.out); clear cx zb hz c0 c1 c2 c3 e4 e5 e6 e7 e8; obtain ⟨q1, q2, q3, q4, q5, q6, q7⟩ := G9.out.bd.facts)
        go_meet
        have A8 := readsN_of_own H9.out
        simp only [List.nil_append] at A8
        obtain rfl := EA.out
        exact ⟨_, rfl, Lib.hid (G9.out.setD (A8.mono ZL))⟩
    case rest =>
      obtain ⟨d, rfl, G9⟩ := hcut
      clear G8 EDL
      refine hK8 _ _ ?_
      have ci := run_LoadI G9.out.b.bi
      go_upto_region 12 with (go_at_call 27; (with_reducible refine (KR.out _).mono ?_); rintro e w10 ⟨vr, rfl, hv, hb⟩; have G10 := Lib.hid (G9.out.on hb); have J10 := Lib.hid hv.1; clear hb hv ci)
      obtain ⟨ar, cr, rfl, hrow⟩ := J10.out.row
      have RJ := Lib.hid hrow
      clear hrow J10 KR G9
      go_wp2
      go_loopw [13, 15] (fun va vk V => ∃ k : Nat, k ≤ rl.length ∧ vk = .int .i64 k ∧ Hid (ReadsN (w.heap.size + 4) V va (hangL l (rl.take k))) ∧ Hid (R6 i l AL DL l.way w g t3 a d y V) ∧ Hid (RowI V ar rl)) (fun _ vk _ => rl.length - (intOf vk).toNat)
      case atStart => exact ⟨0, Nat.zero_le _, rfl, Lib.hid (ReadsN.nil _ _), G10, RJ⟩
      case round =>
        obtain ⟨k, hk, rfl, A0, G11, RK⟩ := hrel
        clear G10 RJ
        by_cases hlt : k < rl.length
        · obtain ⟨b, off, rfl, l1, x1⟩ := RK.out k hlt
          obtain ⟨rn, HRN, hr32⟩ := HIN.out k hlt
          rw [HRN.out] at x1
          have ix := fun V => index_xa w.heap.size rn hr32 V
          have cx := G11.out.b.bx.cx rn hr32
          have zb := G11.out.b.bx.lt
          have ZL := G11.out.roomL
          have RA := Lib.hid A0.out.1
          have RX := Lib.hid (G11.out.b.rs.1 rn hr32).1
          go_wp2_with (go_at_call 19; (with_reducible refine (KJ.out k rn _ _ _ hlt HRN RA.out RX.out).mono ?_); rintro e w12 ⟨v12, rfl, hv, hb⟩; have A12 := Lib.hid (hv.mono ZL); have G12 := Lib.hid (G11.out.on hb); have R12 := Lib.hid (RK.out.on hb); clear hv hb)
          go_roundw
          case rel => exact ⟨k + 1, by omega, by go_num, A12, G12, R12⟩
          case measure => simp [intOf]; omega
        · obtain rfl : k = rl.length := by omega
          have A1 : Hid (ReadsN (w.heap.size + 4) _ _ HA) := Lib.hid (by have := A0.out; rw [List.take_length, EHA.out] at this; exact this)
          clear A0 hk RK KJ HIN EHA
          obtain ⟨hz, c0, c1, c2, c3, e4, e5, e6, e7, e8⟩ := InsAt.facts G11.out.b.bi
          go_upto_region 16 with fail
          go_cut [16] (fun u W => u = .int .i64 fo ∧ Hid (ReadsN (w.heap.size + 4) W u13 HA) ∧ Hid (R6 i l AL DL l.way w g t3 a d y W))
          case first =>
            go_wp2_with (go_at_call 28; (with_reducible refine (KF.out _).mono ?_); rintro e w13 ⟨rfl, rfl⟩)
            go_meet
            exact ⟨rfl, A1, G11⟩
          case rest =>
          obtain ⟨rfl, A1, G11⟩ := hcut
          clear KF hlt hz c0 c1 c2 c3 e4 e5 e6 e7 e8
          apply_assumption
          refine wp_seq_k fun K17 hK17 => ?_
          go_cut [13] (fun u W => ∃ t4, Hid (ReadsN (w.heap.size + 4) W u HA) ∧ Hid (R6 i (l.atWay WL) AL DL l.way w g t4 a d y W))
          case first =>
            obtain ⟨hz, c0, c1, c2, c3, e4, e5, e6, e7, e8⟩ := InsAt.facts G11.out.b.bi
            have cw := G11.out.b.bx.cw
            have zb := G11.out.b.bx.lt
            have ZL := G11.out.roomL
            have RA := Lib.hid A1.out.1
            have RX := Lib.hid G11.out.b.rs.2.1
            by_cases h6 : fo = 6
            · have f6 : (fo == 6) = true := by simp [h6]
              have EW : Hid (joinL l.way HA = WL) := Lib.hid (EW6.out (.inl h6))
              clear h6
              go_wp2_with (go_at_call 19; (with_reducible refine (KJW.out _ _ _ RX.out RA.out).mono ?_); rintro e w14 ⟨v14, rfl, hv, hb⟩; rw [EW.out] at hv; have A14 := Lib.hid (hv.mono ZL); have G14 := Lib.hid (G11.out.on hb); have A15 := Lib.hid (A1.out.on hb); clear hv hb cw zb hz c0 c1 c2 c3 e4 e5 e6 e7 e8; obtain ⟨ax, cx, rfl⟩ := A14.out.1.len; have cw := G14.out.b.bx.cw; have cf := G14.out.b.bx.frozen 32; have zb := G14.out.b.bx.lt)
              go_meet
              exact ⟨_, Lib.hid (A15.out.set _ (by omega)), Lib.hid (G14.out.setW A14.out)⟩
            · have f6 : (fo == 6) = false := by simpa using h6
              by_cases h4 : i.op = 4
              · have f4 : (i.op == 4) = true := by simp [h4]
                have EW : Hid (joinL l.way HA = WL) := Lib.hid (EW6.out (.inr h4))
                clear h6 h4
                go_wp2_with (go_at_call 19; (with_reducible refine (KJW.out _ _ _ RX.out RA.out).mono ?_); rintro e w14 ⟨v14, rfl, hv, hb⟩; rw [EW.out] at hv; have A14 := Lib.hid (hv.mono ZL); have G14 := Lib.hid (G11.out.on hb); have A15 := Lib.hid (A1.out.on hb); clear hv hb cw zb hz c0 c1 c2 c3 e4 e5 e6 e7 e8; obtain ⟨ax, cx, rfl⟩ := A14.out.1.len; have cw := G14.out.b.bx.cw; have cf := G14.out.b.bx.frozen 32; have zb := G14.out.b.bx.lt)
                go_meet
                exact ⟨_, Lib.hid (A15.out.set _ (by omega)), Lib.hid (G14.out.setW A14.out)⟩
              · have f4 : (i.op == 4) = false := by simpa using h4
                have EW : Hid (WL = l.way) := Lib.hid (EW0.out (fun e => e.elim h6 h4))
                clear h6 h4
                go_wp2
                go_meet
                obtain rfl := EW.out.symm
                exact ⟨_, A1, G11⟩
          case rest =>
            obtain ⟨t4, A2, G12⟩ := hcut
            clear A1 G11 EW6 EW0 KJW
            refine hK17 _ _ ?_
            refine wp_seq_k fun K19 hK19 => ?_
            go_cut [13] (fun u W => Hid (ReadsN (w.heap.size + 4) W u (if (fo == 1 || (fo == 2 || i.op == 4)) = true then [] else HA)) ∧ Hid (R6 i (l.atWay WL) AL DL l.way w g t4 a d y W))
            case first =>
              obtain ⟨hz, c0, c1, c2, c3, e4, e5, e6, e7, e8⟩ := InsAt.facts G12.out.b.bi
              by_cases f1 : fo = 1
              · have f1' : (fo == 1) = true := by simp [f1]
                clear f1
                go_wp2
                go_meet
                exact ⟨Lib.hid (by rw [f1']; exact ReadsN.nil _ _), G12⟩
              · have f1' : (fo == 1) = false := by simpa using f1
                clear f1
                by_cases f2 : fo = 2
                · have f2' : (fo == 2) = true := by simp [f2]
                  clear f2
                  go_wp2
                  go_meet
                  exact ⟨Lib.hid (by rw [f1', f2']; exact ReadsN.nil _ _), G12⟩
                · have f2' : (fo == 2) = false := by simpa using f2
                  clear f2
                  by_cases f4 : i.op = 4
                  · have f4' : (i.op == 4) = true := by simp [f4]
                    clear f4
                    go_wp2
                    go_meet
                    exact ⟨Lib.hid (by rw [f1', f2', f4']; exact ReadsN.nil _ _), G12⟩
                  · have f4' : (i.op == 4) = false := by simpa using f4
                    clear f4
                    go_wp2
                    go_meet
                    exact ⟨Lib.hid (by rw [f1', f2', f4']; exact A2.out), G12⟩
            case rest =>
              obtain ⟨A3, G13⟩ := hcut
              clear A2 G12
              obtain ⟨bl, hbl⟩ : ∃ z, Hid ((if (fo == 1 || (fo == 2 || i.op == 4)) = true then ([] : List Int) else HA) = z) := ⟨_, Lib.hid rfl⟩
              rw [hbl.out] at A3 EXL
              clear hbl
              refine hK19 _ _ ?_
              refine wp_seq_k fun K21 hK21 => ?_
              go_cut [13] (fun u W => Hid (ReadsN (w.heap.size + 4) W u XL) ∧ Hid (R6 i (l.atWay WL) AL DL l.way w g t4 a d y W))
              case first =>
                have ZL := G13.out.roomL
                by_cases hev : 0 ≤ event
                · have dv : decide (0 ≤ event) = true := by simp [hev]
                  rw [if_pos hev] at EXL
                  clear hev
                  cases ld
                  · cases st
                    · have EX : Hid (XL = bl) := Lib.hid EXL.out
                      go_wp2
                      go_meet
                      obtain rfl := EX.out
                      exact ⟨A3, G13⟩
                    · have EX : Hid (XL = [event]) := Lib.hid EXL.out
                      go_wp2
                      go_meet
                      obtain rfl := EX.out
                      exact ⟨Lib.hid (reads_oneN event ZL), Lib.hid (G13.out.on (box_below _ _))⟩
                  · have EX : Hid (XL = [event]) := Lib.hid (by cases st <;> exact EXL.out)
                    go_wp2
                    go_meet
                    obtain rfl := EX.out
                    exact ⟨Lib.hid (reads_oneN event ZL), Lib.hid (G13.out.on (box_below _ _))⟩
                · have dv : decide (0 ≤ event) = false := by simpa using hev
                  rw [if_neg hev] at EXL
                  clear hev
                  cases ld
                  · cases st
                    · have EX : Hid (XL = bl) := Lib.hid EXL.out
                      go_wp2
                      go_meet
                      obtain rfl := EX.out
                      exact ⟨A3, G13⟩
                    · have EX : Hid (XL = []) := Lib.hid EXL.out
                      go_wp2
                      go_meet
                      obtain rfl := EX.out
                      exact ⟨Lib.hid (ReadsN.nil _ _), G13⟩
                  · have EX : Hid (XL = []) := Lib.hid (by cases st <;> exact EXL.out)
                    go_wp2
                    go_meet
                    obtain rfl := EX.out
                    exact ⟨Lib.hid (ReadsN.nil _ _), G13⟩
              case rest =>
                obtain ⟨A4, G14⟩ := hcut
                clear A3 G13 EXL HE
                refine hK21 _ _ ?_
                have ci := run_LoadI G14.out.b.bi
                go_upto_region 25 with fail
                go_cut [17] (fun u W => u = .int .i64 (dm : Int) ∧ Hid (ReadsN (w.heap.size + 4) W u13 XL) ∧ Hid (R6 i (l.atWay WL) AL DL l.way w g t4 a d y W))
                case first =>
                  go_wp2_with (go_at_call 29; (with_reducible refine (KW.out _).mono ?_); rintro e w15 ⟨rfl, hb⟩; have G15 := Lib.hid (G14.out.on hb); have A5 := Lib.hid (A4.out.on hb); clear hb ci)
                  go_meet
                  exact ⟨rfl, A5, G15⟩
                case rest =>
                obtain ⟨rfl, A5, G15⟩ := hcut
                clear KW A4 G14 ci
                apply_assumption
                refine wp_seq_k fun K26 hK26 => ?_
                go_cut [17] (fun u W => ∃ t5, Hid (R6 i BL AL DL l.way w g t5 a d y W))
                case first =>
                  by_cases hd : dm = 0
                  · have dd : decide ((0 : Int) < (dm : Int)) = false := by simp; omega
                    have dd2 : decide (0 < dm) = false := by simp; omega
                    have EB : Hid (BL = l.atWay WL) := Lib.hid (by rw [EBL.out, if_pos hd])
                    clear hd
                    go_wp2
                    go_meet
                    obtain rfl := EB.out
                    exact ⟨_, G15⟩
                  · have dd : decide ((0 : Int) < (dm : Int)) = true := by simp; omega
                    have dd2 : decide (0 < dm) = true := by simp; omega
                    have EB : Hid (BL = (l.atWay WL).put dm XL) := Lib.hid (by rw [EBL.out, if_neg hd])
                    clear hd
                    obtain ⟨ax, cx, rfl⟩ := A5.out.1.len
                    have ix := fun V => index_xa w.heap.size dm h3 V
                    have cc := G15.out.b.bx.cx dm h3
                    have cf := G15.out.b.bx.frozen dm
                    have zb := G15.out.b.bx.lt
                    go_wp2
                    go_meet
                    obtain rfl := EB.out
                    exact ⟨_, Lib.hid (G15.out.setX dm h3 A5.out)⟩
                case rest =>
                  obtain ⟨t5, G16⟩ := hcut
                  clear A5 G15 EBL
                  refine hK26 _ _ ?_
                  go_upto_region 28 with fail
                  obtain ⟨run1, run2⟩ := G16.out.drew.runs
                  go_region_held3 (fun w' => (LoadT (.pointer (some ⟨w.heap.size, 0, none⟩))).run Tryz.prog w' = .ok t5.V w' ∧ (LoadD (.pointer (some ⟨g, 0, none⟩))).run Tryz.prog w' = .ok (.agg #[a, d, y]) w')
                    (first | exact G16.out.drew.keep0 | exact G16.out.drew.keep2 _ _ | exact G16.out.drew.keep1 _)
                    (fail)
                  obtain ⟨k1, k2, k3⟩ := G16.out.drew.done
                  have K1 := Lib.hid k1
                  have K2 := Lib.hid k2
                  have K3 := Lib.hid k3
                  clear k1 k2 k3
                  go_wp2
                  refine bodyPost_ret (step_end rfl rfl rfl rfl K2.out K3.out) rfl ?_
                  exact K1.out
def stepRow (l : Tl) (i : Ins) (event : Int) (w : World) (e : Ending) (w' : World) : Prop := if stepOkB l i event then StepOk w (behindL l i event) (addrL l i) (dataL l i) l.way 0 e w' else StepOk w zeroTl [] [] [] 2 e w'
/-- of any taint, instruction, event -/
theorem rStep_any (t : Ta) (l : Tl) (i : Ins) (event : Int) (w : World) (h : TReads w t l) (hs : l.short) (him : -9223372036854775808 ≤ i.imm ∧ i.imm ≤ 9223372036854775807) :
    Calls Tryz.prog 8 #[t.V, i.V, .int .i64 event] w fun e w' => stepRow l i event w e w' := by
  unfold stepRow stepOkB
  cases hok : l.ok with
  | false => exact rStep_no1 t l i event w h hs hok
  | true =>
    cases hi : i.ok with
    | false => exact rStep_no2 t l i event w h hs him hok hi
    | true =>
      by_cases he : event < -1
      · have e : decide (-1 ≤ event) = false := by simpa using he
        rw [e]; exact rStep_no3 t l i event w h hs him hok hi he
      · have e : decide (-1 ≤ event) = true := by simp; omega
        rw [e]; exact rStep_yes t l i event w h hs him hok hi (by omega)
end Go.Proofs.YtfbnijcmfaeoeaaGreat
