/-
  Proved here: what an instruction does not read does not matter to what hangs on what behind it. No Go. No condition.
  Proved here: a taint behind an instruction may be, and its way has all of the way ahead. No Go. No condition.
  Proved here: the law TaintLocal answers true of taints and lists that it does not look at, and of steps that are refused; nothing that was there is changed. No condition.
  Plain facts on taints that are gone through: how long what a step makes is. No condition; no Go text is named.
  Proved here: what stands behind a step whose taint and deps lie in boxes of the law's own, in whatever order they were made. No condition.
-/
import Derived.Test.YtfbnijcmfaeoeaaGreatTaintStepWalk
import Derived.Test.YtfbnijcmfaeoeaaGreatTaintLight
import Derived.Test.YtfbnijcmfaeoeaaGreatTaintOwn
import Derived.Test.YtfbnijcmfaeoeaaGreatTaintLives
import Derived.Test.YtfbnijcmfaeoeaaGreatTaintRefReads
namespace Go.Proofs.YtfbnijcmfaeoeaaGreat
section
theorem hang_put (l : Tl) (r : Nat) (hr : r < 32) (o : List Int) (rs : List Int) (h : ∀ q ∈ rs, q.toNat ≠ r) : hangL (l.put r o) rs = hangL l rs := by
  unfold hangL
  have key : ∀ (rs acc : List Int), (∀ q ∈ rs, q.toNat ≠ r) → rs.foldl (fun all q => mergeL all ((l.put r o).x q.toNat)) acc = rs.foldl (fun all q => mergeL all (l.x q.toNat)) acc := by
    intro rs
    induction rs with
    | nil => intro acc _; rfl
    | cons q rs ih =>
      intro acc hq
      rw [List.foldl_cons, List.foldl_cons, Tl.put_x l r o hr q.toNat, if_neg (hq q (by simp))]
      exact ih _ (fun x hx => hq x (by simp [hx]))
  exact key rs [] h
theorem regs_has (a b x : Int) (hx : x = a ∨ x = b) (h0 : x ≠ 0) : x ∈ regsL a b := by
  rw [regsL_is, List.mem_filter]
  refine ⟨?_, by simpa using h0⟩
  split
  · split
    · rename_i h; rcases hx with rfl | rfl
      · simp
      · simp [h]
    · rcases hx with rfl | rfl <;> simp
  · rcases hx with rfl | rfl <;> simp
/-- a register that it does not read is none that it names -/
theorem reads_far (i : Ins) (r : Nat) (hr : 1 ≤ r) (ho : i.op ≠ 64) (h : ∀ q ∈ readsL i, q.toNat ≠ r) : i.rs1.toNat ≠ r ∧ i.rs2.toNat ≠ r := by
  have hR : readsL i = regsL i.rs1 i.rs2 := by unfold readsL; rw [if_neg ho]
  rw [hR] at h
  refine ⟨fun e => ?_, fun e => ?_⟩
  · exact h i.rs1 (regs_has _ _ _ (.inl rfl) (by omega)) e
  · exact h i.rs2 (regs_has _ _ _ (.inr rfl) (by omega)) e
theorem addr_put (l : Tl) (i : Ins) (r : Nat) (hr : r < 32) (o : List Int) (h : (loadsB i.op || storesB i.op) = true → i.rs1.toNat ≠ r) : addrL (l.put r o) i = addrL l i := by
  unfold addrL
  split
  · rename_i hc
    exact hang_put l r hr o [i.rs1] (fun q hq => by simp at hq; rw [hq]; exact h hc)
  · rfl
theorem data_put (l : Tl) (i : Ins) (r : Nat) (hr : r < 32) (o : List Int) (h : storesB i.op = true → i.rs2.toNat ≠ r) : dataL (l.put r o) i = dataL l i := by
  unfold dataL
  split
  · rename_i hc
    exact hang_put l r hr o [i.rs2] (fun q hq => by simp at hq; rw [hq]; exact h hc)
  · rfl
theorem written_put (l : Tl) (i : Ins) (event : Int) (r : Nat) (hr : r < 32) (o : List Int) (h : ∀ q ∈ readsL i, q.toNat ≠ r) : writtenL (l.put r o) i event = writtenL l i event := by
  unfold writtenL
  split
  · rfl
  · split
    · rfl
    · exact hang_put l r hr o _ h
theorem way_put (l : Tl) (i : Ins) (r : Nat) (hr : r < 32) (o : List Int) (h6 : formOf i.op = 6 → i.rs1.toNat ≠ r ∧ i.rs2.toNat ≠ r) (h4 : i.op = 4 → i.rs1.toNat ≠ r) : wayL (l.put r o) i = wayL l i := by
  unfold wayL
  have hw : (l.put r o).way = l.way := rfl
  split
  · rename_i hc
    rw [hw, hang_put l r hr o [i.rs1, i.rs2] (fun q hq => by
      simp at hq
      rcases hq with rfl | rfl
      · exact (h6 hc).1
      · exact (h6 hc).2)]
  · split
    · rename_i hc
      rw [hw, hang_put l r hr o [i.rs1] (fun q hq => by simp at hq; rw [hq]; exact h4 hc)]
    · rfl
theorem put_way (l : Tl) (r : Nat) (o : List Int) : (l.put r o).way = l.way := rfl
theorem put_ok (l : Tl) (r : Nat) (hr : 1 ≤ r ∧ r < 32) (o : List Int) (h : l.ok = true) (ho : rises o = true) : (l.put r o).ok = true := by
  unfold Tl.ok at h ⊢
  simp only [Bool.and_eq_true, List.all_eq_true, List.mem_range, decide_eq_true_eq] at h ⊢
  refine ⟨fun k hk => ?_, h.2.1, ?_⟩
  · rw [Tl.put_x l r o hr.2 k]
    split
    · exact ho
    · exact h.1 k hk
  · rw [Tl.put_x l r o hr.2 0, if_neg (by omega)]
    exact h.2.2
/-- what a step tells of a taint whose register r hangs on something else -/
theorem step_local (l : Tl) (i : Ins) (event : Int) (r : Nat) (hr : 1 ≤ r ∧ r < 32) (o : List Int) (hrd : 0 ≤ i.rd ∧ i.rd < 32) (h : ∀ q ∈ readsL i, q.toNat ≠ r) :
    addrL (l.put r o) i = addrL l i ∧ dataL (l.put r o) i = dataL l i ∧ (behindL (l.put r o) i event).way = (behindL l i event).way ∧
    (i.rd ≠ 0 → (behindL (l.put r o) i event).x i.rd.toNat = (behindL l i event).x i.rd.toNat) ∧ ((r : Int) ≠ i.rd → (behindL (l.put r o) i event).x r = o) := by
  have n64 : ∀ b : Bool, b = true → (i.op = 64 → b = false) → i.op ≠ 64 := fun b hb h64 e => by rw [h64 e] at hb; cases hb
  have far : i.op ≠ 64 → i.rs1.toNat ≠ r ∧ i.rs2.toNat ≠ r := fun ho => reads_far i r hr.1 ho h
  have e1 : addrL (l.put r o) i = addrL l i := addr_put l i r hr.2 o (fun hc => (far (n64 _ hc (fun e => by rw [e]; decide))).1)
  have e2 : dataL (l.put r o) i = dataL l i := data_put l i r hr.2 o (fun hc => (far (n64 _ hc (fun e => by rw [e]; decide))).2)
  have e3 : wayL (l.put r o) i = wayL l i := way_put l i r hr.2 o (fun hc => far (fun e => by rw [e] at hc; revert hc; decide)) (fun hc => (far (by rw [hc]; decide)).1)
  have e4 : writtenL (l.put r o) i event = writtenL l i event := written_put l i event r hr.2 o h
  refine ⟨e1, e2, e3, fun h0 => ?_, fun hne => ?_⟩
  · unfold behindL
    rw [if_neg h0, if_neg h0, e4]
    show ((l.put r o).put i.rd.toNat _).x _ = (l.put i.rd.toNat _).x _
    rw [Tl.put_x _ i.rd.toNat _ (by omega) i.rd.toNat, if_pos rfl, Tl.put_x _ i.rd.toNat _ (by omega) i.rd.toNat, if_pos rfl]
  · unfold behindL
    split
    · show (l.put r o).x r = o
      rw [Tl.put_x l r o hr.2 r, if_pos rfl]
    · show ((l.put r o).put i.rd.toNat _).x r = o
      rw [Tl.put_x _ _ _ (by omega), if_neg (by omega), Tl.put_x l r o hr.2 r, if_pos rfl]
/-- what is not written stays -/
theorem step_stays (l : Tl) (i : Ins) (event : Int) (hrd : 0 ≤ i.rd ∧ i.rd < 32) (k : Nat) (hne : (k : Int) ≠ i.rd) : (behindL l i event).x k = l.x k := by
  unfold behindL
  split
  · rfl
  · show (l.put i.rd.toNat _).x k = l.x k
    rw [Tl.put_x _ _ _ (by omega), if_neg (by omega)]
end
section
theorem rises_hang (l : Tl) (hx : ∀ k, rises (l.x k) = true) (rs : List Int) : rises (hangL l rs) = true := by
  unfold hangL
  have key : ∀ (rs acc : List Int), rises acc = true → rises (rs.foldl (fun all q => mergeL all (l.x q.toNat)) acc) = true := by
    intro rs
    induction rs with
    | nil => intro acc h; exact h
    | cons q rs ih => intro acc h; exact ih _ (rises_mergeL _ _ h (hx _))
  exact key rs [] rfl
theorem ok_x {l : Tl} (h : l.ok = true) (k : Nat) : rises (l.x k) = true := by
  rcases Nat.lt_or_ge k 32 with hk | hk
  · unfold Tl.ok at h
    simp only [Bool.and_eq_true, List.all_eq_true, List.mem_range] at h
    exact h.1 k hk
  · unfold Tl.x
    rw [List.getD_eq_getElem?_getD, List.getElem?_eq_none (by rw [l.len]; omega)]
    rfl
theorem ok_way {l : Tl} (h : l.ok = true) : rises l.way = true := by
  unfold Tl.ok at h
  simp only [Bool.and_eq_true] at h
  exact h.2.1
theorem rises_way (l : Tl) (i : Ins) (h : l.ok = true) : rises (wayL l i) = true := by
  unfold wayL
  split
  · exact rises_mergeL _ _ (ok_way h) (rises_hang l (ok_x h) _)
  · split
    · exact rises_mergeL _ _ (ok_way h) (rises_hang l (ok_x h) _)
    · exact ok_way h
theorem rises_made (event : Int) (he : -1 ≤ event) : rises (madeL event) = true := by
  unfold madeL
  split
  · rfl
  · simp [rises, risesFrom]; omega
theorem rises_written (l : Tl) (i : Ins) (event : Int) (he : -1 ≤ event) (h : l.ok = true) : rises (writtenL l i event) = true := by
  unfold writtenL
  split
  · rfl
  · split
    · exact rises_made event he
    · exact rises_hang l (ok_x h) _
theorem behind_ok (l : Tl) (i : Ins) (event : Int) (he : -1 ≤ event) (hrd : 0 ≤ i.rd ∧ i.rd < 32) (h : l.ok = true) : (behindL l i event).ok = true := by
  have hw := rises_way l i h
  unfold behindL
  split
  · unfold Tl.ok at h ⊢
    simp only [Bool.and_eq_true, List.all_eq_true, List.mem_range, decide_eq_true_eq] at h ⊢
    exact ⟨h.1, hw, h.2.2⟩
  · have hp := put_ok l i.rd.toNat (by omega) (writtenL l i event) h (rises_written l i event he h)
    unfold Tl.ok at hp ⊢
    simp only [Bool.and_eq_true, List.all_eq_true, List.mem_range, decide_eq_true_eq] at hp ⊢
    exact ⟨hp.1, hw, hp.2.2⟩
theorem way_has (l : Tl) (i : Ins) (z : Int) (h : z ∈ l.way) : z ∈ wayL l i := by
  unfold wayL
  split
  · rw [mem_mergeL]; exact .inl h
  · split
    · rw [mem_mergeL]; exact .inl h
    · exact h
/-- the way only grows -/
theorem way_join (l : Tl) (i : Ins) (h : l.ok = true) : joinL (wayL l i) l.way = wayL l i := by
  have h1 := rises_way l i h
  have h2 := ok_way h
  unfold joinL
  rw [h1, h2]
  show mergeL (wayL l i) l.way = wayL l i
  refine rises_eq _ _ (rises_mergeL _ _ h1 h2) h1 fun z => ?_
  rw [mem_mergeL]
  exact ⟨fun h => h.elim id (way_has l i z), .inl⟩
end
section
open Go.RowKit
attribute [local go_sem ↓] fold_T fold_I

theorem light_is (t : Ta) (l : Tl) (b : Bool) (hb : lightB l = b) (w w0 : World) (h : TReads w t l) : Calls Tryz.prog 5 #[t.V] w0 fun e w' => SameOk w0 b e w' := by
  have := light_any t l w0 (fun k hk => (h.x k hk).len) h.w.len
  rw [hb] at this
  exact this
theorem step_err (t : Ta) (l : Tl) (i : Ins) (event : Int) (w : World) (h : TReads w t l) (hs : l.short) (hk : Hid (stepOkB l i event = false)) :
    Calls Tryz.prog 6 #[t.V, i.V, .int .i64 event] w fun e w' => StepOk w zeroTl [] [] [] 2 e w' := by
  have := step_any t l i event w h hs
  rw [hk.out] at this
  exact this
theorem step_good (t : Ta) (l : Tl) (i : Ins) (event : Int) (w : World) (h : TReads w t l) (hs : l.short) (hk : Hid (stepOkB l i event = true)) :
    Calls Tryz.prog 6 #[t.V, i.V, .int .i64 event] w fun e w' => StepOk w (behindL l i event) (addrL l i) (dataL l i) l.way 0 e w' := by
  have := step_any t l i event w h hs
  rw [hk.out] at this
  exact this
theorem light_small {l : Tl} (h : lightB l = true) : (∀ k, k < 32 → (l.x k).length ≤ 60) ∧ l.way.length ≤ 60 := by
  unfold lightB at h
  simp only [Bool.and_eq_true, List.all_eq_true, List.mem_range, decide_eq_true_eq] at h
  exact h
theorem light_short {l : Tl} (h : lightB l = true) : l.short := ⟨fun k hk => Nat.le_trans ((light_small h).1 k hk) (by omega), Nat.le_trans (light_small h).2 (by omega)⟩
end
section
theorem light_x {l : Tl} (h : lightB l = true) (k : Nat) : (l.x k).length ≤ 60 := by
  by_cases hk : k < 32
  · exact (light_small h).1 k hk
  · unfold Tl.x
    rw [List.getD_eq_getElem?_getD, List.getElem?_eq_none (by have := l.len; omega)]
    simp
theorem hang_sum (l : Tl) (h : lightB l = true) : ∀ (rs : List Int) (acc : List Int), (rs.foldl (fun all r => mergeL all (l.x r.toNat)) acc).length ≤ acc.length + 60 * rs.length
  | [], acc => by simp
  | r :: rs, acc => by
    rw [List.foldl_cons]
    have h1 := hang_sum l h rs (mergeL acc (l.x r.toNat))
    have h2 := mergeL_length acc (l.x r.toNat)
    have h3 := light_x h r.toNat
    rw [List.length_cons]
    omega
theorem hang_small (l : Tl) (h : lightB l = true) (rs : List Int) : (hangL l rs).length ≤ 60 * rs.length := by
  have := hang_sum l h rs []
  simpa [hangL] using this
theorem way_small (l : Tl) (i : Ins) (h : lightB l = true) : (wayL l i).length ≤ 180 := by
  have hw := (light_small h).2
  unfold wayL
  split
  · have := mergeL_length l.way (hangL l [i.rs1, i.rs2])
    have := hang_small l h [i.rs1, i.rs2]
    simp only [List.length_cons, List.length_nil] at this
    omega
  · split
    · have := mergeL_length l.way (hangL l [i.rs1])
      have := hang_small l h [i.rs1]
      simp only [List.length_cons, List.length_nil] at this
      omega
    · omega
theorem reads_small (i : Ins) : (readsL i).length ≤ 2 := by
  unfold readsL
  split <;> exact regsL_len _ _
theorem written_small (l : Tl) (i : Ins) (event : Int) (h : lightB l = true) : (writtenL l i event).length ≤ 120 := by
  unfold writtenL
  split
  · simp
  · split
    · unfold madeL; split <;> simp
    · have := hang_small l h (readsL i)
      have := reads_small i
      omega
theorem behind_small (l : Tl) (i : Ins) (event : Int) (hrd : 0 ≤ i.rd ∧ i.rd < 32) (h : lightB l = true) : (∀ k, ((behindL l i event).x k).length ≤ 120) ∧ (behindL l i event).way.length ≤ 180 := by
  refine ⟨fun k => ?_, way_small l i h⟩
  unfold behindL
  split
  · exact Nat.le_trans (light_x h k) (by omega)
  · show ((l.put i.rd.toNat _).x k).length ≤ 120
    rw [Tl.put_x _ _ _ (by omega)]
    split
    · exact written_small l i event h
    · exact Nat.le_trans (light_x h k) (by omega)
theorem behind_short (l : Tl) (i : Ins) (event : Int) (hrd : 0 ≤ i.rd ∧ i.rd < 32) (h : lightB l = true) : (behindL l i event).short :=
  ⟨fun k _ => Nat.le_trans ((behind_small l i event hrd h).1 k) (by omega), Nat.le_trans (behind_small l i event hrd h).2 (by omega)⟩
theorem deps_small (l : Tl) (i : Ins) (h : lightB l = true) : (addrL l i).length ≤ 60 ∧ (dataL l i).length ≤ 60 := by
  have h1 := hang_small l h [i.rs1]
  have h2 := hang_small l h [i.rs2]
  simp only [List.length_cons, List.length_nil] at h1 h2
  unfold addrL dataL
  constructor <;> split <;> first | omega | simp
/-- what may be of an instruction that a step takes -/
theorem step_may {l : Tl} {i : Ins} {event : Int} (h : stepOkB l i event = true) : l.ok = true ∧ i.ok = true ∧ -1 ≤ event := by
  unfold stepOkB at h
  simpa [Bool.and_eq_true] using h
end
section
set_option linter.unusedVariables false
open Go.RowKit

abbrev ZT : Obj := .cells #[.slice none 0 0, .slice none 0 0, .slice none 0 0, .slice none 0 0, .slice none 0 0, .slice none 0 0, .slice none 0 0, .slice none 0 0, .slice none 0 0, .slice none 0 0, .slice none 0 0, .slice none 0 0, .slice none 0 0, .slice none 0 0, .slice none 0 0, .slice none 0 0, .slice none 0 0, .slice none 0 0, .slice none 0 0, .slice none 0 0, .slice none 0 0, .slice none 0 0, .slice none 0 0, .slice none 0 0, .slice none 0 0, .slice none 0 0, .slice none 0 0, .slice none 0 0, .slice none 0 0, .slice none 0 0, .slice none 0 0, .slice none 0 0, .slice none 0 0] 25
abbrev ZD : Obj := .cells #[.slice none 0 0, .slice none 0 0, .slice none 0 0] 31
theorem TAt.z (W : World) (p : Nat) (hp : p = W.heap.size) : TAt 25 zeroTa p (W.alloc ZT) := by subst hp; exact zero_at W
theorem TAt.dr {T : TypeId} {t : Ta} {n : Nat} {W : World} (h : TAt T t n W) : TAt T t n W.drew := h
theorem TAt.row {T : TypeId} {t : Ta} {n g : Nat} {cs : Array Value} {W : World} (h : TAt T t n W) (hn : n ≠ g) : TAt T t n (W.setRow g cs) := (setRow_other W g n cs hn).trans h
theorem TAt.rowIn {T : TypeId} {t0 t : Ta} {n : Nat} {W : World} (h : TAt T t0 n W) : TAt T t n (W.setRow n (tC t)) := setRow_heap W n _ _ _ _ h
theorem DAt.z (W : World) (p : Nat) (hp : p = W.heap.size) : DAt (.slice none 0 0) (.slice none 0 0) (.slice none 0 0) p (W.alloc ZD) := by subst hp; exact DAt.new _ _ _ W
theorem DAt.dr {a d y : Value} {n : Nat} {W : World} (h : DAt a d y n W) : DAt a d y n W.drew := h
theorem DAt.row {a d y : Value} {n g : Nat} {cs : Array Value} {W : World} (h : DAt a d y n W) (hn : n ≠ g) : DAt a d y n (W.setRow g cs) := (setRow_other W g n cs hn).trans h
theorem DAt.rowIn {a0 d0 y0 a d y : Value} {n : Nat} {W : World} (h : DAt a0 d0 y0 n W) : DAt a d y n (W.setRow n #[a, d, y]) := setRow_heap W n _ _ _ _ h
theorem Both.alloc' {t : Ta} {l : Tl} {i : Ins} {w W : World} (h : Both t l i w W) (o : Obj) : Both t l i w (W.alloc o) := h.on (box_below W o)
theorem Both.row {t : Ta} {l : Tl} {i : Ins} {w W : World} {g : Nat} {cs : Array Value} (h : Both t l i w W) (hg : w.heap.size + 1 < g) : Both t l i w (W.setRow g cs) :=
  ⟨h.at0.row (by omega), (setRow_other W g _ cs (by omega)).trans h.at1, h.here, ⟨h.below.os, h.below.tape, h.below.output, by rw [setRow_size]; exact h.below.size, fun j hj => (setRow_other W g j cs (by omega)).trans (h.below.block j hj)⟩⟩
theorem Both.two {t : Ta} {l : Tl} {i : Ins} {w w' : World} (h : Both t l i w w') : (LoadT (.pointer (some ⟨w.heap.size, 0, none⟩))).run Tryz.prog w' = .ok t.V w' ∧ (LoadI (.pointer (some ⟨w.heap.size + 1, 0, none⟩))).run Tryz.prog w' = .ok i.V w' := ⟨h.load, h.loadI⟩
theorem Both.lt {t : Ta} {l : Tl} {i : Ins} {w W : World} (h : Both t l i w W) : w.heap.size + 1 < W.heap.size := (Array.getElem?_eq_some_iff.1 h.at1).1
/-- a new list is read still, where its own blocks are as they were -/
theorem reads_kept5 {n : Nat} {w4 W : World} {v : Value} {zs : List Int} (h : ReadsN n w4 v zs) (hz : w4.heap.size ≤ W.heap.size) (hk : ∀ j, n ≤ j → j < w4.heap.size → W.heap[j]? = w4.heap[j]?) : ReadsI W v zs := by
  rcases h.1 with h0 | ⟨b, off, c, e, h2, h3, h4, h5⟩
  · exact .inl h0
  · subst e
    have hbn := h.2 b rfl
    refine .inr ⟨b, off, c, rfl, h2, h3, by omega, fun j hj => ?_⟩
    rw [← h5 j hj]
    exact World.cell?_of_block (hk b hbn h4)
/-- behind the step: the argument, the instruction, the step's taint in box p, its deps in box q -/
structure L5 (t : Ta) (l : Tl) (i : Ins) (l2 : Tl) (al dl yl : List Int) (p q : Nat) (tx : Ta) (ta td ty : Value) (w W : World) : Prop where
  both : Both t l i w W
  x : TAt 25 tx p W
  d : DAt ta td ty q W
  rx : TReads W tx l2
  ra : ReadsI W ta al
  rd : ReadsI W td dl
  ry : ReadsI W ty yl
  low : w.heap.size + 1 < p ∧ w.heap.size + 1 < q
theorem L5.on {t : Ta} {l : Tl} {i : Ins} {l2 : Tl} {al dl yl : List Int} {p q : Nat} {tx : Ta} {ta td ty : Value} {w W W2 : World} (h : L5 t l i l2 al dl yl p q tx ta td ty w W) (hb : Below W.heap.size W W2) : L5 t l i l2 al dl yl p q tx ta td ty w W2 :=
  ⟨h.both.on hb, h.x.below hb h.x.lt, h.d.below hb h.d.lt, h.rx.below hb, h.ra.below hb, h.rd.below hb, h.ry.below hb, h.low⟩
theorem L5.of {t : Ta} {l : Tl} {i : Ins} {l2 : Tl} {al dl yl : List Int} {p q n : Nat} {tx : Ta} {ta td ty : Value} {w w4 W : World} (hB : Both t l i w W) (hx : TAt 25 tx p W) (hd : DAt ta td ty q W) (hT : TReadsN n w4 tx l2) (hD : DepsN n w4 ta td ty al dl yl)
    (hz : w4.heap.size ≤ W.heap.size) (hk : ∀ j, n ≤ j → j < w4.heap.size → W.heap[j]? = w4.heap[j]?) (hp : w.heap.size + 1 < p) (hq : w.heap.size + 1 < q) : L5 t l i l2 al dl yl p q tx ta td ty w W :=
  ⟨hB, hx, hd, ⟨fun k hk2 => reads_kept5 (hT.1 k hk2) hz hk, reads_kept5 hT.2 hz hk⟩, reads_kept5 hD.1 hz hk, reads_kept5 hD.2.1 hz hk, reads_kept5 hD.2.2 hz hk, hp, hq⟩
end
end Go.Proofs.YtfbnijcmfaeoeaaGreat
