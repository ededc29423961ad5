/-
  Proved here: event's ahead tells whether lists rise and have nothing but places ahead of one; its Check whether an event may be; nothing that was there is changed. Condition: lists of at most 100,000 numbers.
-/
import Derived.Test.YtokhnjcbcpmmjaaEvNumbers
import Derived.Deep.CutBlock
namespace Go.Proofs.Ytokhnjcbcpmmjaa
set_option linter.unusedVariables false
set_option linter.unusedSimpArgs false
open Go.RowKit
attribute [local go_sem ↓] fold_E fold_SE

def aheadB (p : Int) (l : List Int) : Bool := rises l && (decide (l.length = 0) || decide (atI l (l.length - 1) < p))
def aheadAll (p : Int) (ls : Nat → List Int) : Bool := (List.range 3).all fun k => aheadB p (ls k)
set_option maxRecDepth 100000 in
set_option maxHeartbeats 4000000 in
theorem ahead_one (p : Int) (vs : Nat → Value) (ls : Nat → List Int) (g : Nat) (w : World) (hc : ∀ k, k < 3 → w.cell? ⟨g, k, none⟩ = some (vs k)) (hr : ∀ k, k < 3 → ReadsI w (vs k) (ls k)) (hl : ∀ k, k < 3 → (ls k).length ≤ 100000) :
    Calls Try.prog 64 #[.int .i64 p, .slice (some ⟨g, 0, none⟩) 3 3] w fun e w' => e = .returned (.bool (aheadAll p ls)) ∧ w = w' := by
  have HC := Lib.hid hc
  have HR := Lib.hid hr
  have HL := Lib.hid hl
  clear hc hr hl
  go_enter Try.func64, Try.ntmps64
  go_wp2
  go_loop [9] (fun i => ∃ k : Nat, k ≤ 3 ∧ i = .int .i64 k ∧ Hid (∀ j, j < k → aheadB p (ls j) = true)) (fun i => 3 - (intOf i).toNat)
  case atStart => exact ⟨0, Nat.zero_le _, rfl, Lib.hid (fun j hj => absurd hj (by omega))⟩
  case round =>
    obtain ⟨k, hk, rfl, hT⟩ := hrel
    by_cases hlt : k < 3
    · have hcell := HC.out k hlt
      have hno : Hid (aheadB p (ls k) = false → aheadAll p ls = false) := Lib.hid (fun h => by
        unfold aheadAll; rw [List.all_eq_false]; exact ⟨k, List.mem_range.2 hlt, by rw [h]; decide⟩)
      have hyes : Hid (aheadB p (ls k) = true → ∀ j, j < k + 1 → aheadB p (ls j) = true) := Lib.hid (fun h j hj => (Nat.lt_succ_iff_lt_or_eq.1 hj).elim (hT.out j) (fun e => e ▸ h))
      have hlk := HL.out k hlt
      rcases HR.out k hlt with ⟨⟨a, c, e1, _⟩, e2⟩ | ⟨b, off, c, e1, h1, h2, h3, h4⟩
      · rw [e1] at hcell
        rw [e2] at hno hyes
        clear e1 e2
        go_wp2_with (go_at_call 68; (with_reducible refine (rising_nil a c _).mono ?_); rintro e w1 ⟨rfl, rfl⟩)
        go_round
        case rel => exact ⟨k + 1, by omega, by go_num, Lib.hid (hyes.out rfl)⟩
        case measure => simp [intOf]; omega
      · obtain ⟨l, e3⟩ : ∃ l, Hid (ls k = l) := ⟨_, Lib.hid rfl⟩
        rw [e3.out] at hno hyes hlk e1 h1 h4
        rw [e1] at hcell
        have HRI := Lib.hid (rising_some l b off c w hlk h4)
        obtain ⟨r, hr⟩ : ∃ r, Hid (rises l = r) := ⟨_, Lib.hid rfl⟩
        rw [hr.out] at HRI
        cases r with
        | false =>
          have hn := Lib.hid (hno.out (by unfold aheadB; rw [hr.out]; rfl))
          clear h4 e1
          go_wp2_with (go_at_call 68; (with_reducible refine (HRI.out).mono ?_); rintro e w1 ⟨rfl, rfl⟩)
          go_ret
          exact ⟨by rw [hn.out]; rfl, rfl⟩
        | true =>
          rcases Nat.eq_zero_or_pos l.length with h0 | h0
          · have hy := Lib.hid (hyes.out (by unfold aheadB; rw [hr.out, decide_eq_true h0]; rfl))
            rw [h0] at hcell HRI
            clear h4 e1 h1
            go_wp2_with (go_at_call 68; (with_reducible refine (HRI.out).mono ?_); rintro e w1 ⟨rfl, rfl⟩)
            go_round
            case rel => exact ⟨k + 1, by omega, by go_num, hy⟩
            case measure => simp [intOf]; omega
          · obtain ⟨m, hm⟩ : ∃ m, l.length = m + 1 := ⟨l.length - 1, by omega⟩
            have hlast := h4 m (by omega)
            rw [hm] at hcell HRI hlk
            have hd : Hid (aheadB p l = decide (atI l m < p)) := Lib.hid (by unfold aheadB; rw [hr.out, decide_eq_false (show ¬ l.length = 0 by omega), hm]; rfl)
            clear h4 e1 h1 h0
            have hM := Lib.hid hm
            clear hm
            by_cases hp : atI l m < p
            · have hy := Lib.hid (hyes.out (by rw [hd.out]; simpa using hp))
              have hp' : decide (p ≤ atI l m) = false := by simpa using hp
              go_wp2_with (go_at_call 68; (with_reducible refine (HRI.out).mono ?_); rintro e w1 ⟨rfl, rfl⟩)
              go_round
              case rel => exact ⟨k + 1, by omega, by go_num, hy⟩
              case measure => simp [intOf]; omega
            · have hn := Lib.hid (hno.out (by rw [hd.out]; simpa using hp))
              have hp' : decide (p ≤ atI l m) = true := by simp; omega
              go_wp2_with (go_at_call 68; (with_reducible refine (HRI.out).mono ?_); rintro e w1 ⟨rfl, rfl⟩)
              go_ret
              exact ⟨by rw [hn.out]; rfl, rfl⟩
    · have hall : Hid (aheadAll p ls = true) := Lib.hid (by
        unfold aheadAll; rw [List.all_eq_true]; exact fun j hj => hT.out j (by have := List.mem_range.1 hj; omega))
      go_wp2
      go_ret
      exact ⟨by rw [hall.out]; rfl, rfl⟩

/-- an event's lists -/
structure El where
  a : List Int
  d : List Int
  y : List Int
def El.n (l : El) : Prop := l.a.length ≤ 100000 ∧ l.d.length ≤ 100000 ∧ l.y.length ≤ 100000
def EReads (w : World) (e : Ev) (l : El) : Prop := ReadsI w e.a l.a ∧ ReadsI w e.d l.d ∧ ReadsI w e.y l.y
theorem EReads.below {w w' : World} {e : Ev} {l : El} (h : EReads w e l) (hb : Below w.heap.size w w') : EReads w' e l := ⟨h.1.below hb, h.2.1.below hb, h.2.2.below hb⟩
/-- the document's Check, in the program's order -/
def chkE (e : Ev) (l : El) : Bool :=
  hasB (fieldsOf e.kind) 4 && (holdB (fieldsOf e.kind) (numsL e l.a.length l.d.length l.y.length) && (withinB e.hart 8 && (decide (0 ≤ e.pos) && (decide (e.addr % 8 = 0) && (withinB e.pred 16 && (withinB e.succ 16 &&
    ((!hasB (fieldsOf e.kind) 1024 || withinB e.pair e.pos) && aheadAll e.pos (fun k => if k = 0 then l.a else if k = 1 then l.d else l.y))))))))
def errI (b : Bool) : Int := if b then 0 else 2
def ErrIs (w : World) (b : Bool) (e : Ending) (w' : World) : Prop := e = .returned (.int .i64 (errI b)) ∧ Below w.heap.size w w'
theorem EReads.flat {w : World} {e : Ev} {l : El} (h : EReads w e l) : e.flat := by
  obtain ⟨a1, c1, e1⟩ := h.1.len
  obtain ⟨a2, c2, e2⟩ := h.2.1.len
  obtain ⟨a3, c3, e3⟩ := h.2.2.len
  exact ⟨by rw [e1]; rfl, by rw [e2]; rfl, by rw [e3]; rfl⟩
theorem three_cells (w : World) (a d y : Value) : ∀ k, k < 3 → (w.alloc (.cells #[a, d, y] 24)).cell? ⟨w.heap.size, k, none⟩ = some (if k = 0 then a else if k = 1 then d else y) := by
  intro k hk
  have h : (w.alloc (.cells #[a, d, y] 24)).heap[w.heap.size]? = some (.cells #[a, d, y] 24 (0, 0)) := Array.getElem?_push_size
  rw [cell_of_row _ _ _ _ _ _ h]
  match k, hk with
  | 0, _ => rfl
  | 1, _ => rfl
  | 2, _ => rfl
theorem three_reads {w : World} {a d y : Value} {l : El} (h : ReadsI w a l.a ∧ ReadsI w d l.d ∧ ReadsI w y l.y) (o : Obj) : ∀ k, k < 3 → ReadsI (w.alloc o) (if k = 0 then a else if k = 1 then d else y) (if k = 0 then l.a else if k = 1 then l.d else l.y) := by
  intro k hk
  match k, hk with
  | 0, _ => exact h.1.alloc o
  | 1, _ => exact h.2.1.alloc o
  | 2, _ => exact h.2.2.alloc o
theorem three_lens {l : El} (h : l.n) : ∀ k, k < 3 → (if k = 0 then l.a else if k = 1 then l.d else l.y).length ≤ 100000 := by
  intro k hk
  match k, hk with
  | 0, _ => exact h.1
  | 1, _ => exact h.2.1
  | 2, _ => exact h.2.2
set_option maxRecDepth 100000 in
set_option maxHeartbeats 8000000 in
theorem check_any (e : Ev) (l : El) (w : World) (h : EReads w e l) (hn : l.n) (hu : 0 ≤ e.addr) :
    Calls Try.prog 53 #[e.V] w fun e' w' => ErrIs w (chkE e l) e' w' := by
  obtain ⟨a1, c1, e1⟩ := h.1.len
  obtain ⟨a2, c2, e2⟩ := h.2.1.len
  obtain ⟨a3, c3, e3⟩ := h.2.2.len
  obtain ⟨F, hF⟩ : ∃ F, Hid (fieldsOf e.kind = F) := ⟨_, Lib.hid rfl⟩
  have hFlt : F < 65536 := by rw [← hF.out]; exact fieldsOf_lt _
  have HH := Lib.hid (hold_any F hFlt e a1 a2 a3 _ _ _ c1 c2 c3 e1 e2 e3)
  have HE := Lib.hid (EvAt.new e w)
  have HB := Lib.hid (box_below w (.cells #[.int .i64 e.hart, .int .i64 e.pos, .int .i64 e.kind, .int .u64 e.addr, .int .u64 e.load, .int .u64 e.store, .bool e.aq, .bool e.rl, .int .i64 e.pred, .int .i64 e.succ, .int .i64 e.pair, e.a, e.d, e.y] 42))
  have HR := Lib.hid h
  have HK := Lib.hid (look_any e.kind)
  unfold FieldsAre at HK
  rw [hF.out] at HK
  obtain ⟨b1, g1⟩ : ∃ b, Hid (hasB F 4 = b) := ⟨_, Lib.hid rfl⟩
  obtain ⟨b2, g2⟩ : ∃ b, Hid (holdB F (numsL e l.a.length l.d.length l.y.length) = b) := ⟨_, Lib.hid rfl⟩
  obtain ⟨b3, g3⟩ : ∃ b, Hid (withinB e.hart 8 = b) := ⟨_, Lib.hid rfl⟩
  obtain ⟨b6, g6⟩ : ∃ b, Hid (withinB e.pred 16 = b) := ⟨_, Lib.hid rfl⟩
  obtain ⟨b7, g7⟩ : ∃ b, Hid (withinB e.succ 16 = b) := ⟨_, Lib.hid rfl⟩
  obtain ⟨b8, g8⟩ : ∃ b, Hid (hasB F 1024 = b) := ⟨_, Lib.hid rfl⟩
  obtain ⟨b9, g9⟩ : ∃ b, Hid (withinB e.pair e.pos = b) := ⟨_, Lib.hid rfl⟩
  obtain ⟨b10, g10⟩ : ∃ b, Hid (aheadAll e.pos (fun k => if k = 0 then l.a else if k = 1 then l.d else l.y) = b) := ⟨_, Lib.hid rfl⟩
  have hX : Hid (chkE e l = (b1 && (b2 && (b3 && (decide (0 ≤ e.pos) && (decide (e.addr % 8 = 0) && (b6 && (b7 && ((!b8 || b9) && b10))))))))) := Lib.hid (by unfold chkE; rw [hF.out, g1.out, g2.out, g3.out, g6.out, g7.out, g8.out, g9.out, g10.out])
  have H1 : Hid (∀ w, Calls Try.prog 40 #[.int .u16 (F : Int), .int .u16 4] w fun e w' => e = .returned (.bool (hasB F 4)) ∧ w = w') := Lib.hid (fun w => has_any F 4 hFlt (by omega) w)
  have H8 : Hid (∀ w, Calls Try.prog 40 #[.int .u16 (F : Int), .int .u16 1024] w fun e w' => e = .returned (.bool (hasB F 1024)) ∧ w = w') := Lib.hid (fun w => has_any F 1024 hFlt (by omega) w)
  have H3 := Lib.hid (within_any e.hart 8)
  have H6 := Lib.hid (within_any e.pred 16)
  have H7 := Lib.hid (within_any e.succ 16)
  have H9 := Lib.hid (within_any e.pair e.pos)
  rw [g1.out] at H1
  rw [g2.out] at HH
  rw [g3.out] at H3
  rw [g6.out] at H6
  rw [g7.out] at H7
  rw [g8.out] at H8
  rw [g9.out] at H9
  rw [hX.out]
  clear h hF g1 g2 g3 g6 g7 g8 g9 hX
  have E1 := Lib.hid e1
  have E2 := Lib.hid e2
  have E3 := Lib.hid e3
  clear e1 e2 e3
  go_enter Try.func53, Try.ntmps53
  go_upto_region 1 with fail
  obtain ⟨W, hW⟩ : ∃ W, Hid (w.alloc (.cells #[.int .i64 e.hart, .int .i64 e.pos, .int .i64 e.kind, .int .u64 e.addr, .int .u64 e.load, .int .u64 e.store, .bool e.aq, .bool e.rl, .int .i64 e.pred, .int .i64 e.succ, .int .i64 e.pair, e.a, e.d, e.y] 42) = W) := ⟨_, Lib.hid rfl⟩
  rw [hW.out] at HE HB ⊢
  obtain ⟨hlt, f0, f1, f2, f3, f4, f5, f6, f7, f8, f9, f10, f11, f12, f13⟩ := HE.out.facts
  go_upto_block 0 with (go_at_call 39; (with_reducible refine (HK.out _).mono ?_); rintro e' w1 ⟨rfl, hb⟩; have HE1 := Lib.hid (HE.out.on hb); have HB1 := Lib.hid (HB.out.trans (hb.mono HB.out.size)); clear hb)
  clear hlt f0 f1 f2 f3 f4 f5 f6 f7 f8 f9 f10 f11 f12 f13 HE HB hW
  obtain ⟨hlt, f0, f1, f2, f3, f4, f5, f6, f7, f8, f9, f10, f11, f12, f13⟩ := HE1.out.facts
  have cl := run_LoadE HE1.out
  cases b1 with
  | false =>
    go_wp2_with (first | (go_at_call 40; (with_reducible refine (H1.out _).mono ?_); rintro e' w2 ⟨rfl, rfl⟩))
    go_ret
    exact ⟨rfl, HB1.out⟩
  | true =>
    cases b2 with
    | false =>
      go_wp2_with (first | (go_at_call 40; (with_reducible refine (H1.out _).mono ?_); rintro e' w2 ⟨rfl, rfl⟩) | (go_at_call 63; (with_reducible refine (HH.out _).mono ?_); rintro e' w2 ⟨rfl, hb⟩; have HE2 := Lib.hid (HE1.out.on hb); have HB2 := Lib.hid (HB1.out.trans (hb.mono HB1.out.size)); have HR2 := Lib.hid (show ReadsI w2 (.slice a1 l.a.length c1) l.a ∧ ReadsI w2 (.slice a2 l.d.length c2) l.d ∧ ReadsI w2 (.slice a3 l.y.length c3) l.y from (by have := HR.out.below HB2.out; unfold EReads at this; rw [E1.out, E2.out, E3.out] at this; exact this)); clear hb cl hlt f0 f1 f2 f3 f4 f5 f6 f7 f8 f9 f10 f11 f12 f13; obtain ⟨hlt, f0, f1, f2, f3, f4, f5, f6, f7, f8, f9, f10, f11, f12, f13⟩ := HE2.out.facts; rw [E1.out] at f11; rw [E2.out] at f12; rw [E3.out] at f13))
      go_ret
      exact ⟨rfl, HB2.out⟩
    | true =>
      cases b3 with
      | false =>
        go_wp2_with (first | (go_at_call 40; (with_reducible refine (H1.out _).mono ?_); rintro e' w2 ⟨rfl, rfl⟩) | (go_at_call 63; (with_reducible refine (HH.out _).mono ?_); rintro e' w2 ⟨rfl, hb⟩; have HE2 := Lib.hid (HE1.out.on hb); have HB2 := Lib.hid (HB1.out.trans (hb.mono HB1.out.size)); have HR2 := Lib.hid (show ReadsI w2 (.slice a1 l.a.length c1) l.a ∧ ReadsI w2 (.slice a2 l.d.length c2) l.d ∧ ReadsI w2 (.slice a3 l.y.length c3) l.y from (by have := HR.out.below HB2.out; unfold EReads at this; rw [E1.out, E2.out, E3.out] at this; exact this)); clear hb cl hlt f0 f1 f2 f3 f4 f5 f6 f7 f8 f9 f10 f11 f12 f13; obtain ⟨hlt, f0, f1, f2, f3, f4, f5, f6, f7, f8, f9, f10, f11, f12, f13⟩ := HE2.out.facts; rw [E1.out] at f11; rw [E2.out] at f12; rw [E3.out] at f13) | (go_at_call 57; (with_reducible refine (H3.out _).mono ?_); rintro e' w3 ⟨rfl, rfl⟩))
        go_ret
        exact ⟨rfl, HB2.out⟩
      | true =>
        by_cases h4 : 0 ≤ e.pos
        rotate_left
        · have hp := Lib.hid (decide_eq_false h4)
          have h4' : e.pos < 0 := by omega
          go_wp2_with (first | (go_at_call 40; (with_reducible refine (H1.out _).mono ?_); rintro e' w2 ⟨rfl, rfl⟩) | (go_at_call 63; (with_reducible refine (HH.out _).mono ?_); rintro e' w2 ⟨rfl, hb⟩; have HE2 := Lib.hid (HE1.out.on hb); have HB2 := Lib.hid (HB1.out.trans (hb.mono HB1.out.size)); have HR2 := Lib.hid (show ReadsI w2 (.slice a1 l.a.length c1) l.a ∧ ReadsI w2 (.slice a2 l.d.length c2) l.d ∧ ReadsI w2 (.slice a3 l.y.length c3) l.y from (by have := HR.out.below HB2.out; unfold EReads at this; rw [E1.out, E2.out, E3.out] at this; exact this)); clear hb cl hlt f0 f1 f2 f3 f4 f5 f6 f7 f8 f9 f10 f11 f12 f13; obtain ⟨hlt, f0, f1, f2, f3, f4, f5, f6, f7, f8, f9, f10, f11, f12, f13⟩ := HE2.out.facts; rw [E1.out] at f11; rw [E2.out] at f12; rw [E3.out] at f13) | (go_at_call 57; (with_reducible refine (H3.out _).mono ?_); rintro e' w3 ⟨rfl, rfl⟩))
          go_ret
          exact ⟨by rw [hp.out]; rfl, HB2.out⟩
        have hp := Lib.hid (decide_eq_true h4)
        by_cases h5 : e.addr % 8 = 0
        rotate_left
        · have ha := Lib.hid (decide_eq_false h5)
          have h5' : (e.addr % 8 != 0) = true := by simpa using h5
          go_wp2_with (first | (go_at_call 40; (with_reducible refine (H1.out _).mono ?_); rintro e' w2 ⟨rfl, rfl⟩) | (go_at_call 63; (with_reducible refine (HH.out _).mono ?_); rintro e' w2 ⟨rfl, hb⟩; have HE2 := Lib.hid (HE1.out.on hb); have HB2 := Lib.hid (HB1.out.trans (hb.mono HB1.out.size)); have HR2 := Lib.hid (show ReadsI w2 (.slice a1 l.a.length c1) l.a ∧ ReadsI w2 (.slice a2 l.d.length c2) l.d ∧ ReadsI w2 (.slice a3 l.y.length c3) l.y from (by have := HR.out.below HB2.out; unfold EReads at this; rw [E1.out, E2.out, E3.out] at this; exact this)); clear hb cl hlt f0 f1 f2 f3 f4 f5 f6 f7 f8 f9 f10 f11 f12 f13; obtain ⟨hlt, f0, f1, f2, f3, f4, f5, f6, f7, f8, f9, f10, f11, f12, f13⟩ := HE2.out.facts; rw [E1.out] at f11; rw [E2.out] at f12; rw [E3.out] at f13) | (go_at_call 57; (with_reducible refine (H3.out _).mono ?_); rintro e' w3 ⟨rfl, rfl⟩))
          go_ret
          exact ⟨by rw [hp.out, ha.out]; rfl, HB2.out⟩
        have ha := Lib.hid (decide_eq_true h5)
        have h5' : (e.addr % 8 != 0) = false := by simpa using h5
        clear h5
        cases b6 with
        | false =>
          go_wp2_with (first | (go_at_call 40; (with_reducible refine (H1.out _).mono ?_); rintro e' w2 ⟨rfl, rfl⟩) | (go_at_call 63; (with_reducible refine (HH.out _).mono ?_); rintro e' w2 ⟨rfl, hb⟩; have HE2 := Lib.hid (HE1.out.on hb); have HB2 := Lib.hid (HB1.out.trans (hb.mono HB1.out.size)); have HR2 := Lib.hid (show ReadsI w2 (.slice a1 l.a.length c1) l.a ∧ ReadsI w2 (.slice a2 l.d.length c2) l.d ∧ ReadsI w2 (.slice a3 l.y.length c3) l.y from (by have := HR.out.below HB2.out; unfold EReads at this; rw [E1.out, E2.out, E3.out] at this; exact this)); clear hb cl hlt f0 f1 f2 f3 f4 f5 f6 f7 f8 f9 f10 f11 f12 f13; obtain ⟨hlt, f0, f1, f2, f3, f4, f5, f6, f7, f8, f9, f10, f11, f12, f13⟩ := HE2.out.facts; rw [E1.out] at f11; rw [E2.out] at f12; rw [E3.out] at f13) | (go_at_call 57; (with_reducible refine (H3.out _).mono ?_); rintro e' w3 ⟨rfl, rfl⟩) | (go_at_call 57; (with_reducible refine (H6.out _).mono ?_); rintro e' w3 ⟨rfl, rfl⟩))
          go_ret
          exact ⟨by rw [hp.out, ha.out]; rfl, HB2.out⟩
        | true =>
          cases b7 with
          | false =>
            go_wp2_with (first | (go_at_call 40; (with_reducible refine (H1.out _).mono ?_); rintro e' w2 ⟨rfl, rfl⟩) | (go_at_call 63; (with_reducible refine (HH.out _).mono ?_); rintro e' w2 ⟨rfl, hb⟩; have HE2 := Lib.hid (HE1.out.on hb); have HB2 := Lib.hid (HB1.out.trans (hb.mono HB1.out.size)); have HR2 := Lib.hid (show ReadsI w2 (.slice a1 l.a.length c1) l.a ∧ ReadsI w2 (.slice a2 l.d.length c2) l.d ∧ ReadsI w2 (.slice a3 l.y.length c3) l.y from (by have := HR.out.below HB2.out; unfold EReads at this; rw [E1.out, E2.out, E3.out] at this; exact this)); clear hb cl hlt f0 f1 f2 f3 f4 f5 f6 f7 f8 f9 f10 f11 f12 f13; obtain ⟨hlt, f0, f1, f2, f3, f4, f5, f6, f7, f8, f9, f10, f11, f12, f13⟩ := HE2.out.facts; rw [E1.out] at f11; rw [E2.out] at f12; rw [E3.out] at f13) | (go_at_call 57; (with_reducible refine (H3.out _).mono ?_); rintro e' w3 ⟨rfl, rfl⟩) | (go_at_call 57; (first | (with_reducible refine (H6.out _).mono ?_) | (with_reducible refine (H7.out _).mono ?_) | (with_reducible refine (H9.out _).mono ?_)); rintro e' w3 ⟨rfl, rfl⟩))
            go_ret
            exact ⟨by rw [hp.out, ha.out]; rfl, HB2.out⟩
          | true =>
            cases b8 with
            | false =>
              cases b10
              all_goals
                go_wp2_with (first | (go_at_call 40; (with_reducible refine (H1.out _).mono ?_); rintro e' w2 ⟨rfl, rfl⟩) | (go_at_call 63; (with_reducible refine (HH.out _).mono ?_); rintro e' w2 ⟨rfl, hb⟩; have HE2 := Lib.hid (HE1.out.on hb); have HB2 := Lib.hid (HB1.out.trans (hb.mono HB1.out.size)); have HR2 := Lib.hid (show ReadsI w2 (.slice a1 l.a.length c1) l.a ∧ ReadsI w2 (.slice a2 l.d.length c2) l.d ∧ ReadsI w2 (.slice a3 l.y.length c3) l.y from (by have := HR.out.below HB2.out; unfold EReads at this; rw [E1.out, E2.out, E3.out] at this; exact this)); clear hb cl hlt f0 f1 f2 f3 f4 f5 f6 f7 f8 f9 f10 f11 f12 f13; obtain ⟨hlt, f0, f1, f2, f3, f4, f5, f6, f7, f8, f9, f10, f11, f12, f13⟩ := HE2.out.facts; rw [E1.out] at f11; rw [E2.out] at f12; rw [E3.out] at f13) | (go_at_call 57; (with_reducible refine (H3.out _).mono ?_); rintro e' w3 ⟨rfl, rfl⟩) | (go_at_call 57; (first | (with_reducible refine (H6.out _).mono ?_) | (with_reducible refine (H7.out _).mono ?_) | (with_reducible refine (H9.out _).mono ?_)); rintro e' w3 ⟨rfl, rfl⟩) | (go_at_call 40; (with_reducible refine (H8.out _).mono ?_); rintro e' w3 ⟨rfl, rfl⟩) | (go_at_call 64; (with_reducible refine (ahead_one e.pos (fun k => if k = 0 then .slice a1 l.a.length c1 else if k = 1 then .slice a2 l.d.length c2 else .slice a3 l.y.length c3) (fun k => if k = 0 then l.a else if k = 1 then l.d else l.y) w2.heap.size _ (three_cells w2 _ _ _) (three_reads HR2.out _) (three_lens hn)).mono ?_); rw [g10.out]; rintro e' w4 ⟨rfl, rfl⟩))
                go_ret
                exact ⟨by rw [hp.out, ha.out]; rfl, HB2.out.alloc HB2.out.size _⟩
            | true =>
              cases b9 with
              | false =>
                go_wp2_with (first | (go_at_call 40; (with_reducible refine (H1.out _).mono ?_); rintro e' w2 ⟨rfl, rfl⟩) | (go_at_call 63; (with_reducible refine (HH.out _).mono ?_); rintro e' w2 ⟨rfl, hb⟩; have HE2 := Lib.hid (HE1.out.on hb); have HB2 := Lib.hid (HB1.out.trans (hb.mono HB1.out.size)); have HR2 := Lib.hid (show ReadsI w2 (.slice a1 l.a.length c1) l.a ∧ ReadsI w2 (.slice a2 l.d.length c2) l.d ∧ ReadsI w2 (.slice a3 l.y.length c3) l.y from (by have := HR.out.below HB2.out; unfold EReads at this; rw [E1.out, E2.out, E3.out] at this; exact this)); clear hb cl hlt f0 f1 f2 f3 f4 f5 f6 f7 f8 f9 f10 f11 f12 f13; obtain ⟨hlt, f0, f1, f2, f3, f4, f5, f6, f7, f8, f9, f10, f11, f12, f13⟩ := HE2.out.facts; rw [E1.out] at f11; rw [E2.out] at f12; rw [E3.out] at f13) | (go_at_call 57; (with_reducible refine (H3.out _).mono ?_); rintro e' w3 ⟨rfl, rfl⟩) | (go_at_call 57; (first | (with_reducible refine (H6.out _).mono ?_) | (with_reducible refine (H7.out _).mono ?_) | (with_reducible refine (H9.out _).mono ?_)); rintro e' w3 ⟨rfl, rfl⟩) | (go_at_call 40; (with_reducible refine (H8.out _).mono ?_); rintro e' w3 ⟨rfl, rfl⟩))
                go_ret
                exact ⟨by rw [hp.out, ha.out]; rfl, HB2.out⟩
              | true =>
                cases b10
                all_goals
                  go_wp2_with (first | (go_at_call 40; (with_reducible refine (H1.out _).mono ?_); rintro e' w2 ⟨rfl, rfl⟩) | (go_at_call 63; (with_reducible refine (HH.out _).mono ?_); rintro e' w2 ⟨rfl, hb⟩; have HE2 := Lib.hid (HE1.out.on hb); have HB2 := Lib.hid (HB1.out.trans (hb.mono HB1.out.size)); have HR2 := Lib.hid (show ReadsI w2 (.slice a1 l.a.length c1) l.a ∧ ReadsI w2 (.slice a2 l.d.length c2) l.d ∧ ReadsI w2 (.slice a3 l.y.length c3) l.y from (by have := HR.out.below HB2.out; unfold EReads at this; rw [E1.out, E2.out, E3.out] at this; exact this)); clear hb cl hlt f0 f1 f2 f3 f4 f5 f6 f7 f8 f9 f10 f11 f12 f13; obtain ⟨hlt, f0, f1, f2, f3, f4, f5, f6, f7, f8, f9, f10, f11, f12, f13⟩ := HE2.out.facts; rw [E1.out] at f11; rw [E2.out] at f12; rw [E3.out] at f13) | (go_at_call 57; (with_reducible refine (H3.out _).mono ?_); rintro e' w3 ⟨rfl, rfl⟩) | (go_at_call 57; (first | (with_reducible refine (H6.out _).mono ?_) | (with_reducible refine (H7.out _).mono ?_) | (with_reducible refine (H9.out _).mono ?_)); rintro e' w3 ⟨rfl, rfl⟩) | (go_at_call 40; (with_reducible refine (H8.out _).mono ?_); rintro e' w3 ⟨rfl, rfl⟩) | (go_at_call 64; (with_reducible refine (ahead_one e.pos (fun k => if k = 0 then .slice a1 l.a.length c1 else if k = 1 then .slice a2 l.d.length c2 else .slice a3 l.y.length c3) (fun k => if k = 0 then l.a else if k = 1 then l.d else l.y) w2.heap.size _ (three_cells w2 _ _ _) (three_reads HR2.out _) (three_lens hn)).mono ?_); rw [g10.out]; rintro e' w4 ⟨rfl, rfl⟩))
                  go_ret
                  exact ⟨by rw [hp.out, ha.out]; rfl, HB2.out.alloc HB2.out.size _⟩
end Go.Proofs.Ytokhnjcbcpmmjaa
