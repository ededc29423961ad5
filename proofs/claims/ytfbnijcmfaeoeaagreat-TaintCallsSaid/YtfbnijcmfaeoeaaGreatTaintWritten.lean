/-
  Proved here: the package taint's written: on what the register that an instruction writes hangs then; nothing that was there is changed. Condition: the instruction may be; at most 10,000 numbers a list.
-/
import Derived.Test.YtfbnijcmfaeoeaaGreatTaintWay
namespace Go.Proofs.YtfbnijcmfaeoeaaGreat
open Go.RowKit
attribute [local go_sem ↓] fold_T fold_I

theorem regsL_mem (a b x : Int) (h : x ∈ regsL a b) : x = a ∨ x = b := by
  rw [regsL_is] at h
  have h' := (List.mem_filter.1 h).1
  split at h'
  · split at h'
    · simp at h'; exact .inl h'
    · simpa using h'
  · simp at h'; exact h'.symm
theorem regsL_len (a b : Int) : (regsL a b).length ≤ 2 := by
  rw [regsL_is]
  refine Nat.le_trans (List.length_filter_le _ _) ?_
  split
  · split <;> simp
  · simp
theorem readsL_in (i : Ins) (hb : i.ok = true) : ∀ k, k < (readsL i).length → 0 ≤ atI (readsL i) k ∧ atI (readsL i) k < 32 := by
  intro k hk
  have hm := may_of i hb
  have h1 := hm.rs1
  have h2 := hm.rs2
  have hx : atI (readsL i) k ∈ readsL i := by
    unfold atI
    rw [List.getD_eq_getElem?_getD, List.getElem?_eq_getElem hk]
    exact List.getElem_mem hk
  generalize atI (readsL i) k = x at hx
  unfold readsL at hx
  split at hx
  · rcases regsL_mem _ _ _ hx with rfl | rfl <;> omega
  · rcases regsL_mem _ _ _ hx with rfl | rfl <;> omega
theorem readsL_len (i : Ins) : (readsL i).length ≤ 4 := by
  unfold readsL
  split
  · have := regsL_len 10 17; omega
  · have := regsL_len i.rs1 i.rs2; omega
theorem Memory_b (op : Int) (b1 b2 : Bool) (h1 : loadsB op = b1) (h2 : storesB op = b2) (w : World) : Calls Tryz.prog 45 #[.int .i64 op] w fun e w' => e = .returned (.tuple #[.bool b1, .bool b2, .int .i64 (sizeOf' op)]) ∧ Below w.heap.size w w' := by
  rw [← h1, ← h2]; exact Memory_any op w
/-- ops whose register hangs on nothing -/
def bareB (op : Int) : Bool := op == 3 || (op == 4 || (op == 1 || op == 2))
def writtenL (l : Tl) (i : Ins) (event : Int) : List Int := if bareB i.op then [] else if loadsB i.op || storesB i.op then madeL event else hangL l (readsL i)
set_option maxRecDepth 100000 in
set_option maxHeartbeats 4000000 in
theorem written_bare (t : Ta) (l : Tl) (i : Ins) (event : Int) (w : World) (h : TReads w t l) (op : Int) (ho : i.op = op) (hop : op = 3 ∨ op = 4 ∨ op = 1 ∨ op = 2) :
    Calls Tryz.prog 44 #[t.V, i.V, .int .i64 event] w fun e w' => Merged w [] e w' := by
  have B0 := Lib.hid (Both.start t l i w h)
  clear h
  go_enter Tryz.func44, Tryz.ntmps44
  go_upto_region 1 with fail
  obtain ⟨W, HW⟩ : ∃ W, Hid ((w.alloc (.cells (tC t) 25)).alloc (.cells (insCells i) 27) = W) := ⟨_, Lib.hid rfl⟩
  rw [HW.out] at B0 ⊢
  obtain ⟨hz, c0, c1, c2, c3, c4, c5, c6, c7, c8⟩ := B0.out.at1.facts
  rw [ho] at c0
  clear ho
  rcases hop with rfl | rfl | rfl | rfl
  all_goals
    go_wp2
    go_ret
    exact ⟨_, rfl, ReadsN.nil _ _, B0.out.below⟩
set_option maxRecDepth 100000 in
set_option maxHeartbeats 4000000 in
theorem written_made (t : Ta) (l : Tl) (i : Ins) (event : Int) (w : World) (h : TReads w t l) (h3 : (i.op == 3) = false) (h4 : (i.op == 4) = false) (h1 : (i.op == 1) = false) (h2 : (i.op == 2) = false) (b1 b2 : Bool) (hl : loadsB i.op = b1) (hs : storesB i.op = b2) (hb : (b1 || b2) = true) :
    Calls Tryz.prog 44 #[t.V, i.V, .int .i64 event] w fun e w' => Merged w (madeL event) e w' := by
  have B0 := Lib.hid (Both.start t l i w h)
  have HME := Lib.hid (Memory_b i.op b1 b2 hl hs)
  have HMD := Lib.hid (made_any event)
  clear h hl hs
  go_enter Tryz.func44, Tryz.ntmps44
  go_upto_region 1 with fail
  obtain ⟨W, HW⟩ : ∃ W, Hid ((w.alloc (.cells (tC t) 25)).alloc (.cells (insCells i) 27) = W) := ⟨_, Lib.hid rfl⟩
  rw [HW.out] at B0 ⊢
  obtain ⟨hz, c0, c1, c2, c3, c4, c5, c6, c7, c8⟩ := B0.out.at1.facts
  cases b1 <;> cases b2 <;> first
    | exact absurd hb (by decide)
    | (clear hb
       go_wp2_with (first
         | (go_at_call 45; (with_reducible refine (HME.out _).mono ?_); rintro e w1 ⟨rfl, hb1⟩; have B1 := Lib.hid (B0.out.on hb1); clear hb1)
         | (go_at_call 58; (with_reducible refine (HMD.out _).mono ?_); rintro e w2 ⟨v2, rfl, hw2, hb2⟩; have R2 := Lib.hid hw2; have B2 := Lib.hid (B1.out.on hb2); clear hw2 hb2))
       go_ret
       exact ⟨_, rfl, R2.out.mono B1.out.below.size, B2.out.below⟩)
set_option maxRecDepth 100000 in
set_option maxHeartbeats 4000000 in
theorem written_reads (t : Ta) (l : Tl) (i : Ins) (event : Int) (w : World) (h : TReads w t l) (hs : l.short) (hok : i.ok = true) (h3 : (i.op == 3) = false) (h4 : (i.op == 4) = false) (h1 : (i.op == 1) = false) (h2 : (i.op == 2) = false) (hl : loadsB i.op = false) (hst : storesB i.op = false) :
    Calls Tryz.prog 44 #[t.V, i.V, .int .i64 event] w fun e w' => Merged w (hangL l (readsL i)) e w' := by
  have B0 := Lib.hid (Both.start t l i w h)
  have HME := Lib.hid (Memory_b i.op false false hl hst)
  have HRE := Lib.hid (fun w0 => Reads_ok i (Lib.hid hok) w0)
  have HRD := Lib.hid (fun (vr : Value) (w0 : World) (b : Both t l i w w0) (hr : ReadsC w0 vr (readsL i)) => read_any t l vr (readsL i) w0 b.reads hs hr (readsL_in i hok) (readsL_len i))
  clear h hl hs hok hst
  go_enter Tryz.func44, Tryz.ntmps44
  go_upto_region 1 with fail
  obtain ⟨W, HW⟩ : ∃ W, Hid ((w.alloc (.cells (tC t) 25)).alloc (.cells (insCells i) 27) = W) := ⟨_, Lib.hid rfl⟩
  rw [HW.out] at B0 ⊢
  obtain ⟨hz, c0, c1, c2, c3, c4, c5, c6, c7, c8⟩ := B0.out.at1.facts
  go_wp2_with (go_at_call 45; (with_reducible refine (HME.out _).mono ?_); rintro e w1 ⟨rfl, hb1⟩; have B1 := Lib.hid (B0.out.on hb1); clear hb1)
  clear hz c0 c1 c2 c3 c4 c5 c6 c7 c8
  have cl := B1.out.load
  have ci := B1.out.loadI
  go_region_held3 (fun w' => (LoadT (.pointer (some ⟨w.heap.size, 0, none⟩))).run Tryz.prog w' = .ok t.V w' ∧ (LoadI (.pointer (some ⟨w.heap.size + 1, 0, none⟩))).run Tryz.prog w' = .ok i.V w')
    (first | exact ⟨Both.load (Both.drew B1.out), Both.loadI (Both.drew B1.out)⟩ | exact ⟨B3.out.load, B3.out.loadI⟩ | exact ⟨B2.out.load, B2.out.loadI⟩)
    ((first
      | (go_at_call 59; (with_reducible refine (HRE.out _).mono ?_); rintro e w2 ⟨g, c, rfl, hr2, hb2⟩; have R2 := Lib.hid (readsC_row (c := c) hr2); have B2 := Lib.hid ((Both.drew B1.out).on hb2); clear hr2 hb2)
      | (go_at_call 46; (with_reducible refine (HRD.out _ _ B2.out R2.out).mono ?_); rintro e w3 ⟨v3, rfl, hw3, hb3⟩; have R3 := Lib.hid hw3; have B3 := Lib.hid (B2.out.on hb3); clear hw3 hb3)))
  go_wp2
  go_ret
  exact ⟨_, rfl, R3.out.mono B2.out.below.size, B3.out.below⟩
theorem written_any (t : Ta) (l : Tl) (i : Ins) (event : Int) (w : World) (h : TReads w t l) (hs : l.short) (hok : i.ok = true) :
    Calls Tryz.prog 44 #[t.V, i.V, .int .i64 event] w fun e w' => Merged w (writtenL l i event) e w' := by
  unfold writtenL bareB
  cases h3 : i.op == 3 with
  | true => exact written_bare t l i event w h 3 (by simpa using h3) (by simp)
  | false =>
    cases h4 : i.op == 4 with
    | true => exact written_bare t l i event w h 4 (by simpa using h4) (by simp)
    | false =>
      cases h1 : i.op == 1 with
      | true => exact written_bare t l i event w h 1 (by simpa using h1) (by simp)
      | false =>
        cases h2 : i.op == 2 with
        | true => exact written_bare t l i event w h 2 (by simpa using h2) (by simp)
        | false =>
          cases hl : loadsB i.op <;> cases hst : storesB i.op
          · exact written_reads t l i event w h hs hok h3 h4 h1 h2 hl hst
          · exact written_made t l i event w h h3 h4 h1 h2 _ _ hl hst rfl
          · exact written_made t l i event w h h3 h4 h1 h2 _ _ hl hst rfl
          · exact written_made t l i event w h h3 h4 h1 h2 _ _ hl hst rfl
end Go.Proofs.YtfbnijcmfaeoeaaGreat
