/-
  Words: the boxes of the law EventMakes; what an event has to have that is made of an ask. No condition. (With it: Proved here: the law's lives answers true; nothing that was there is changed. Condition: the tables of strconv and math/bits as the library lays them.) (With it: Proved here: event's Of answers the event that an ask makes, or ErrArg; nothing that was there is changed. Condition: numbers of 64 bits; lists of at most 100,000 numbers.)
  (With it: Proved here: event's made answers what an event has of its ask and of what was found, or ErrArg; nothing that was there is changed. Condition: numbers of 64 bits. (With it: Proved here: event's Reads, Writes, Memory, digits and names; nothing that was there is changed. Condition: math/bits' table as the library lays it.))
  (With it: Proved here: the kit's OwnDeps and Deps, event's kept: deps in new lists, compared; nothing that was there is changed. Condition: lists of at most 100,000 numbers. (With it: Proved here: appending what a slice reads as; the kit's Own, Same, OwnDeps, Deps, LightDeps and Pick; slices.Equal; nothing that was there is changed. Condition: lists of at most 100,000 numbers.))
  (With it: Proved here: the kit's LightDeps, the document's Rising, the law's below, the kit's Deps; nothing that was there is changed. Condition: lists of at most 100,000 numbers. (With it: Proved here: the kit's Own and OwnDeps once more, telling also that the new lists lie in rows of ints. Condition: lists of at most 100,000 numbers.))
-/
import Derived.Test.YtokhnjcbcpmmjaaGreatEvAhead
import Derived.RegionTactic
import Derived.ChangeAlike
import Derived.Test.YtokhnjcbcpmmjaaGreatShelf
import Derived.Laws.AppendOwn
import Derived.Laws.AppendOwnNone
import Derived.Deep.QuietTactic
import Derived.BigQuiet
import Derived.Deep.RegionHeld3
import Derived.Deep.DeepCutAuto
import Derived.Deep.CutBlock
namespace Go.Proofs.YtokhnjcbcpmmjaaGreat
set_option linter.unusedVariables false
set_option linter.unusedSimpArgs false
open Go.RowKit
attribute [local go_sem ↓] fold_E fold_SE

def AskIs (w : World) (b : Bool) (e : Ending) (w' : World) : Prop := e = .returned (.bool b) ∧ Below w.heap.size w w'
theorem Reads_any (e : Ev) (w : World) : Calls Tryz.prog 94 #[e.V] w fun e' w' => AskIs w (hasB (fieldsOf e.kind) 16) e' w' := by
  obtain ⟨F, hF⟩ : ∃ F, Hid (fieldsOf e.kind = F) := ⟨_, Lib.hid rfl⟩
  have hFlt : F < 65536 := by rw [← hF.out]; exact fieldsOf_lt _
  have HK := Lib.hid (look_any e.kind)
  unfold FieldsAre at HK
  rw [hF.out] at HK
  have H1 : Hid (∀ w, Calls Tryz.prog 80 #[.int .u16 (F : Int), .int .u16 16] w fun e w' => e = .returned (.bool (hasB F 16)) ∧ w = w') := Lib.hid (fun w => has_any F 16 hFlt (by omega) w)
  have HE := Lib.hid (EvAt.new e w)
  have HB := Lib.hid (box_below w (.cells #[.int .i64 e.hart, .int .i64 e.pos, .int .i64 e.kind, .int .u64 e.addr, .int .u64 e.load, .int .u64 e.store, .bool e.aq, .bool e.rl, .int .i64 e.pred, .int .i64 e.succ, .int .i64 e.pair, e.a, e.d, e.y] 60))
  rw [hF.out]
  obtain ⟨b, hb⟩ : ∃ b, Hid (hasB F 16 = b) := ⟨_, Lib.hid rfl⟩
  rw [hb.out] at H1 ⊢
  clear hF hb
  go_enter Tryz.func94, Tryz.ntmps94
  go_upto_region 1 with fail
  obtain ⟨W, hW⟩ : ∃ W, Hid (w.alloc (.cells #[.int .i64 e.hart, .int .i64 e.pos, .int .i64 e.kind, .int .u64 e.addr, .int .u64 e.load, .int .u64 e.store, .bool e.aq, .bool e.rl, .int .i64 e.pred, .int .i64 e.succ, .int .i64 e.pair, e.a, e.d, e.y] 60) = W) := ⟨_, Lib.hid rfl⟩
  rw [hW.out] at HE HB ⊢
  obtain ⟨hlt, f0, f1, f2, f3, f4, f5, f6, f7, f8, f9, f10, f11, f12, f13⟩ := HE.out.facts
  go_wp2_with (first
    | (go_at_call 79; (with_reducible refine (HK.out _).mono ?_); rintro e' w1 ⟨rfl, hb⟩; have HB1 := Lib.hid (HB.out.trans (hb.mono HB.out.size)); clear hb)
    | (go_at_call 80; (with_reducible refine (H1.out _).mono ?_); rintro e' w2 ⟨rfl, rfl⟩))
  go_ret
  exact ⟨rfl, HB1.out⟩
theorem Writes_any (e : Ev) (w : World) : Calls Tryz.prog 65 #[e.V] w fun e' w' => AskIs w (hasB (fieldsOf e.kind) 32) e' w' := by
  obtain ⟨F, hF⟩ : ∃ F, Hid (fieldsOf e.kind = F) := ⟨_, Lib.hid rfl⟩
  have hFlt : F < 65536 := by rw [← hF.out]; exact fieldsOf_lt _
  have HK := Lib.hid (look_any e.kind)
  unfold FieldsAre at HK
  rw [hF.out] at HK
  have H1 : Hid (∀ w, Calls Tryz.prog 80 #[.int .u16 (F : Int), .int .u16 32] w fun e w' => e = .returned (.bool (hasB F 32)) ∧ w = w') := Lib.hid (fun w => has_any F 32 hFlt (by omega) w)
  have HE := Lib.hid (EvAt.new e w)
  have HB := Lib.hid (box_below w (.cells #[.int .i64 e.hart, .int .i64 e.pos, .int .i64 e.kind, .int .u64 e.addr, .int .u64 e.load, .int .u64 e.store, .bool e.aq, .bool e.rl, .int .i64 e.pred, .int .i64 e.succ, .int .i64 e.pair, e.a, e.d, e.y] 60))
  rw [hF.out]
  obtain ⟨b, hb⟩ : ∃ b, Hid (hasB F 32 = b) := ⟨_, Lib.hid rfl⟩
  rw [hb.out] at H1 ⊢
  clear hF hb
  go_enter Tryz.func65, Tryz.ntmps65
  go_upto_region 1 with fail
  obtain ⟨W, hW⟩ : ∃ W, Hid (w.alloc (.cells #[.int .i64 e.hart, .int .i64 e.pos, .int .i64 e.kind, .int .u64 e.addr, .int .u64 e.load, .int .u64 e.store, .bool e.aq, .bool e.rl, .int .i64 e.pred, .int .i64 e.succ, .int .i64 e.pair, e.a, e.d, e.y] 60) = W) := ⟨_, Lib.hid rfl⟩
  rw [hW.out] at HE HB ⊢
  obtain ⟨hlt, f0, f1, f2, f3, f4, f5, f6, f7, f8, f9, f10, f11, f12, f13⟩ := HE.out.facts
  go_wp2_with (first
    | (go_at_call 79; (with_reducible refine (HK.out _).mono ?_); rintro e' w1 ⟨rfl, hb⟩; have HB1 := Lib.hid (HB.out.trans (hb.mono HB.out.size)); clear hb)
    | (go_at_call 80; (with_reducible refine (H1.out _).mono ?_); rintro e' w2 ⟨rfl, rfl⟩))
  go_ret
  exact ⟨rfl, HB1.out⟩
theorem Memory_any (e : Ev) (w : World) : Calls Tryz.prog 74 #[e.V] w fun e' w' => AskIs w (hasB (fieldsOf e.kind) 8) e' w' := by
  obtain ⟨F, hF⟩ : ∃ F, Hid (fieldsOf e.kind = F) := ⟨_, Lib.hid rfl⟩
  have hFlt : F < 65536 := by rw [← hF.out]; exact fieldsOf_lt _
  have HK := Lib.hid (look_any e.kind)
  unfold FieldsAre at HK
  rw [hF.out] at HK
  have H1 : Hid (∀ w, Calls Tryz.prog 80 #[.int .u16 (F : Int), .int .u16 8] w fun e w' => e = .returned (.bool (hasB F 8)) ∧ w = w') := Lib.hid (fun w => has_any F 8 hFlt (by omega) w)
  have HE := Lib.hid (EvAt.new e w)
  have HB := Lib.hid (box_below w (.cells #[.int .i64 e.hart, .int .i64 e.pos, .int .i64 e.kind, .int .u64 e.addr, .int .u64 e.load, .int .u64 e.store, .bool e.aq, .bool e.rl, .int .i64 e.pred, .int .i64 e.succ, .int .i64 e.pair, e.a, e.d, e.y] 60))
  rw [hF.out]
  obtain ⟨b, hb⟩ : ∃ b, Hid (hasB F 8 = b) := ⟨_, Lib.hid rfl⟩
  rw [hb.out] at H1 ⊢
  clear hF hb
  go_enter Tryz.func74, Tryz.ntmps74
  go_upto_region 1 with fail
  obtain ⟨W, hW⟩ : ∃ W, Hid (w.alloc (.cells #[.int .i64 e.hart, .int .i64 e.pos, .int .i64 e.kind, .int .u64 e.addr, .int .u64 e.load, .int .u64 e.store, .bool e.aq, .bool e.rl, .int .i64 e.pred, .int .i64 e.succ, .int .i64 e.pair, e.a, e.d, e.y] 60) = W) := ⟨_, Lib.hid rfl⟩
  rw [hW.out] at HE HB ⊢
  obtain ⟨hlt, f0, f1, f2, f3, f4, f5, f6, f7, f8, f9, f10, f11, f12, f13⟩ := HE.out.facts
  go_wp2_with (first
    | (go_at_call 79; (with_reducible refine (HK.out _).mono ?_); rintro e' w1 ⟨rfl, hb⟩; have HB1 := Lib.hid (HB.out.trans (hb.mono HB.out.size)); clear hb)
    | (go_at_call 80; (with_reducible refine (H1.out _).mono ?_); rintro e' w2 ⟨rfl, rfl⟩))
  go_ret
  exact ⟨rfl, HB1.out⟩
end Go.Proofs.YtokhnjcbcpmmjaaGreat
namespace Go.Proofs.YtokhnjcbcpmmjaaGreat
set_option linter.unusedVariables false
set_option linter.unusedSimpArgs false
open Go.RowKit
attribute [local go_sem ↓] fold_E fold_SE

theorem store_ev {ops : Array Oper} {rest : List Oper} {o : Oper} {a : Act} {w : World} {Q : Exit → Act → World → Prop} {e0 : Ev} {n : Nat} (H : EvAt e0 n w) (e : Ev) (hf : e.flat) (hgd : o.guard = none) (x y : Operand) (ho : o.op = .store 60 x y)
    (hx : a.eval x = .pointer (some ⟨n, 0, none⟩)) (hy : a.eval y = e.V)
    (k : ∀ w1, EvAt e n w1 → (∀ j, j ≠ n → w1.heap[j]? = w.heap[j]?) → Below n w w1 → w1.heap.size = w.heap.size → wpList Tryz.prog ops Q rest (a.put o.dst undef) w1) : wpList Tryz.prog ops Q (o :: rest) a w := by
  refine wpList_store_row hgd _ x y ho n #[.int .i64 e.hart, .int .i64 e.pos, .int .i64 e.kind, .int .u64 e.addr, .int .u64 e.load, .int .u64 e.store, .bool e.aq, .bool e.rl, .int .i64 e.pred, .int .i64 e.succ, .int .i64 e.pair, e.a, e.d, e.y] hx hy _ _ H (by as_aux_lemma => kernel_rfl) rfl (by simp [hf.1, hf.2.1, hf.2.2, one_int, one_bool]) (k _ ?_ ?_ ?_ (by simp))
  · exact setRow_heap w n _ _ _ _ H
  · exact fun j hj => setRow_other w n j _ hj
  · exact (Below.refl _ _).trans ⟨rfl, rfl, rfl, by simp, fun j hj => setRow_other _ _ _ _ (by omega)⟩
/-- an ask -/
structure Aq where
  kind : Int
  addr : Int
  val : Int
  op : Int
  aq : Bool
  rl : Bool
  pred : Int
  succ : Int
@[reducible] def Aq.V (q : Aq) : Value := .agg #[.int .i64 q.kind, .int .u64 q.addr, .int .u64 q.val, .int .i64 q.op, .bool q.aq, .bool q.rl, .int .i64 q.pred, .int .i64 q.succ]
def Aq.ok (q : Aq) : Prop := 0 ≤ q.addr ∧ q.addr < 18446744073709551616 ∧ 0 ≤ q.val ∧ q.val < 18446744073709551616
def zeroEv : Ev := ⟨0, 0, 0, 0, 0, 0, false, false, 0, 0, 0, .slice none 0 0, .slice none 0 0, .slice none 0 0⟩
theorem EvAt.new_at (e : Ev) (w : World) (g : Nat) (hg : w.heap.size = g) : EvAt e g (w.alloc (.cells #[.int .i64 e.hart, .int .i64 e.pos, .int .i64 e.kind, .int .u64 e.addr, .int .u64 e.load, .int .u64 e.store, .bool e.aq, .bool e.rl, .int .i64 e.pred, .int .i64 e.succ, .int .i64 e.pair, e.a, e.d, e.y] 60)) := by subst hg; exact EvAt.new e w
theorem Memory_b (e : Ev) (b : Bool) (h : hasB (fieldsOf e.kind) 8 = b) (w : World) : Calls Tryz.prog 74 #[e.V] w fun e' w' => AskIs w b e' w' := by rw [← h]; exact Memory_any e w
theorem Reads_b (e : Ev) (b : Bool) (h : hasB (fieldsOf e.kind) 16 = b) (w : World) : Calls Tryz.prog 94 #[e.V] w fun e' w' => AskIs w b e' w' := by rw [← h]; exact Reads_any e w
theorem Writes_b (e : Ev) (b : Bool) (h : hasB (fieldsOf e.kind) 32 = b) (w : World) : Calls Tryz.prog 65 #[e.V] w fun e' w' => AskIs w b e' w' := by rw [← h]; exact Writes_any e w
theorem EvAt.setc {e : Ev} {g : Nat} {W : World} (h : EvAt e g W) (k : Nat) (v : Value) : (W.setCell ⟨g, k, none⟩ v).heap[g]? = some (.cells ((#[.int .i64 e.hart, .int .i64 e.pos, .int .i64 e.kind, .int .u64 e.addr, .int .u64 e.load, .int .u64 e.store, .bool e.aq, .bool e.rl, .int .i64 e.pred, .int .i64 e.succ, .int .i64 e.pair, e.a, e.d, e.y] : Array Value).setIfInBounds k v) 60 (0, 0)) := set_at _ _ _ _ _ _ _ h
end Go.Proofs.YtokhnjcbcpmmjaaGreat
namespace Go.Proofs.YtokhnjcbcpmmjaaGreat
set_option linter.unusedVariables false
set_option linter.unusedSimpArgs false
open Go.RowKit
attribute [local go_sem ↓] fold_E fold_SE

/-- append of what a slice reads as, to a row of the call's own -/
theorem append_reads {ops : Array Oper} {rest : List Oper} {o : Oper} {a : Act} {w : World} {Q : Exit → Act → World → Prop} (hgd : o.guard = none) (s x : Operand)
    (ho : o.op = .call { callee := .builtin .append, args := #[s, x], argTypes := #[24, 24] }) (base : Nat) (v : Value) (xs zs : List Int) (hs : a.eval s = v) (hown : w.ownsRow base 3 1 v xs.length (xs.map (Value.int .i64)))
    (vx : Value) (hx : a.eval x = vx) (hr : ReadsI w vx zs) (hlen : xs.length + zs.length ≤ 1000000) (hbase : base ≤ w.heap.size)
    (h : ∀ v' w', w'.ownsRow base 3 1 v' (xs ++ zs).length ((xs ++ zs).map (Value.int .i64)) → w.grownBy w' v.ownBlock → wpList Tryz.prog ops Q rest (a.put o.dst v') w') : wpList Tryz.prog ops Q (o :: rest) a w := by
  obtain ⟨i0, hi, hz0, hz1, hz2⟩ := info_parts infoInt
  rcases hr with ⟨⟨ad, c, rfl, hc0⟩, rfl⟩ | ⟨b, off, c, rfl, h1, h2, h3, h4⟩
  · cases ad with
    | none =>
      obtain rfl := hc0 rfl
      refine wpList_append_own_none hgd s x _ ho base 3 i0 1 Tryz.underlying24 hi v _ _ hs hown hx ?_
      exact h v w (by simpa using hown) (World.grownBy.refl _ _)
    | some ad =>
      refine wpList_append_own w hgd s x _ ho base 3 i0 (.int .i64 0) 1 8 Tryz.underlying24 hi hz0 hz1 hz2 rfl (by decide) v _ _ hs hown ad 0 c [] hx (by simp) ?_ ?_ (by unfold maxLen; simp at hlen; omega) (by simp at hlen; omega) hbase ?_
      · intro j u hu; simp at hu
      · intro u hu; simp at hu
      · intro v' w' h5 h6 _
        exact h v' w' (by simpa using h5) h6
  · refine wpList_append_own w hgd s x _ ho base 3 i0 (.int .i64 0) 1 8 Tryz.underlying24 hi hz0 hz1 hz2 rfl (by decide) v _ _ hs hown ⟨b, off, none⟩ zs.length c (zs.map (Value.int .i64)) hx (by simp) ?_ ?_ (by unfold maxLen; omega) (by omega) hbase ?_
    · intro j u hu
      have hj : j < zs.length := by
        have := (List.getElem?_eq_some_iff.1 hu).1
        simpa using this
      have ha : (⟨b, off, none⟩ : Addr).add j = ⟨b, off + j, none⟩ := by unfold Addr.add; split <;> simp_all
      rw [ha, h4 j hj]
      rw [← hu]
      simp [atI, hj]
    · exact ints_oneCell .i64 zs
    · intro v' w' h5 h6 _
      exact h v' w' (by simpa using h5) h6
theorem take_more (a b : List Int) (k : Nat) (ha : k < a.length) (hb : k < b.length) (h : a.take k = b.take k) : (a.take (k + 1) = b.take (k + 1)) ↔ atI a k = atI b k := by
  rw [List.take_succ_eq_append_getElem ha, List.take_succ_eq_append_getElem hb, h]
  unfold atI
  rw [List.getD_eq_getElem?_getD, List.getD_eq_getElem?_getD, List.getElem?_eq_getElem ha, List.getElem?_eq_getElem hb]
  simp only [List.append_cancel_left_eq, List.cons.injEq, and_true, Option.getD_some]
theorem take_ne (a b : List Int) (k : Nat) (h : a.take k ≠ b.take k) : a ≠ b := fun e => h (by rw [e])
def SameOk (w : World) (b : Bool) (e : Ending) (w' : World) : Prop := e = .returned (.bool b) ∧ Below w.heap.size w w'
theorem SameOk.mk {w w' : World} {b c : Bool} (h : b = c) (hb : Below w.heap.size w w') : SameOk w c (.returned (.bool b)) w' := ⟨by rw [h], hb⟩
theorem below_drewW {B : Nat} {a w : World} (h : Below B a w) (n : Nat) : Below B a (w.drewN n) := ⟨h.os, h.tape, h.output, h.size, h.block⟩
set_option maxRecDepth 100000 in
set_option maxHeartbeats 2000000 in
theorem same_lens (a1 a2 : Option Addr) (n m c d : Nat) (hnm : n ≠ m) (w : World) : Calls Tryz.prog 14 #[.slice a1 n c, .slice a2 m d] w fun e w' => SameOk w false e w' := by
  have h1 : (((n : Nat) : Int) != ((m : Nat) : Int)) = true := by simp; omega
  go_enter Tryz.func14, Tryz.ntmps14
  go_wp2
  go_ret
  exact ⟨rfl, Below.refl _ _⟩
set_option maxRecDepth 100000 in
set_option maxHeartbeats 2000000 in
theorem same_none (a1 a2 : Option Addr) (c d : Nat) (w : World) : Calls Tryz.prog 14 #[.slice a1 0 c, .slice a2 0 d] w fun e w' => SameOk w true e w' := by
  go_enter Tryz.func14, Tryz.ntmps14
  go_wp2
  refine wp_loop_rounds 1 ?_
  rw [rounds_succ]
  go_wp2
  go_ret
  exact ⟨rfl, Below.refl _ _⟩
set_option maxRecDepth 100000 in
set_option maxHeartbeats 2000000 in
theorem same_some (a b : List Int) (n b1 o1 c1 b2 o2 c2 : Nat) (w : World) (ha : a.length = n) (hb : b.length = n) (hn : n ≤ 100000) (hl1 : b1 < w.heap.size) (hl2 : b2 < w.heap.size) (h1 : ∀ j, j < n → w.cell? ⟨b1, o1 + j, none⟩ = some (.int .i64 (atI a j))) (h2 : ∀ j, j < n → w.cell? ⟨b2, o2 + j, none⟩ = some (.int .i64 (atI b j))) :
    Calls Tryz.prog 14 #[.slice (some ⟨b1, o1, none⟩) n c1, .slice (some ⟨b2, o2, none⟩) n c2] w fun e w' => SameOk w (decide (a = b)) e w' := by
  have H1 := Lib.hid h1
  have H2 := Lib.hid h2
  have HA := Lib.hid ha
  have HB := Lib.hid hb
  clear h1 h2 ha hb
  go_enter Tryz.func14, Tryz.ntmps14
  go_wp2
  go_loopw [5] (fun i wr => ∃ k : Nat, k ≤ n ∧ i = .int .i64 k ∧ Hid (a.take k = b.take k) ∧ Below w.heap.size w wr) (fun i _ => n - (intOf i).toNat)
  case atStart => exact ⟨0, Nat.zero_le _, rfl, Lib.hid (by simp), Below.refl _ _⟩
  case round =>
    obtain ⟨k, hk, rfl, HT, hbel⟩ := hrel
    have HL := Lib.hid hbel
    clear hbel
    by_cases hlt : k < n
    · have hc1 := (HL.out.cell (p := ⟨b1, o1 + k, none⟩) hl1).trans (H1.out k hlt)
      have hc2 := (HL.out.cell (p := ⟨b2, o2 + k, none⟩) hl2).trans (H2.out k hlt)
      have HM := Lib.hid (take_more a b k (by rw [HA.out]; exact hlt) (by rw [HB.out]; exact hlt) HT.out)
      by_cases he : atI a k = atI b k
      · have h0 : (atI a k != atI b k) = false := by simpa using he
        have HE := Lib.hid he
        clear he
        go_upto_region 6 with fail
        go_quiet (fail)
        have HL2 := Lib.hid (below_drewW HL.out nq)
        go_wp2
        go_roundw
        case rel => exact ⟨k + 1, by omega, by go_num, Lib.hid (HM.out.2 HE.out), HL2.out⟩
        case measure => simp [intOf]; omega
      · have h0 : (atI a k != atI b k) = true := by simpa using he
        have HE := Lib.hid he
        clear he
        go_upto_region 6 with fail
        go_quiet (fail)
        have HL2 := Lib.hid (below_drewW HL.out nq)
        go_wp2
        go_ret
        refine SameOk.mk ?_ HL2.out
        exact (decide_eq_false (take_ne a b (k + 1) (fun h => HE.out (HM.out.1 h)))).symm
    · have HK : Hid (k = n) := Lib.hid (by omega)
      go_wp2
      go_ret
      refine SameOk.mk ?_ HL.out
      have := HT.out
      rw [List.take_of_length_le (by rw [HA.out]; omega), List.take_of_length_le (by rw [HB.out]; omega)] at this
      exact (decide_eq_true this).symm
theorem same_any (va vb : Value) (a b : List Int) (w : World) (ha : ReadsI w va a) (hb : ReadsI w vb b) (hn : a.length ≤ 100000) : Calls Tryz.prog 14 #[va, vb] w fun e w' => SameOk w (decide (a = b)) e w' := by
  by_cases hl : a.length = b.length
  · rcases ha with ⟨⟨a1, c1, rfl, _⟩, rfl⟩ | ⟨b1, o1, c1, rfl, _, _, g1, g2⟩
    · obtain ⟨a2, d, rfl⟩ := hb.len
      have hb0 : b = [] := List.length_eq_zero_iff.1 (by rw [← hl]; rfl)
      subst hb0
      exact same_none a1 a2 c1 d w
    · rcases hb with ⟨⟨a2, c2, rfl, _⟩, rfl⟩ | ⟨b2, o2, c2, rfl, _, _, g3, g4⟩
      · have ha0 : a = [] := List.length_eq_zero_iff.1 (by rw [hl]; rfl)
        subst ha0
        exact same_none _ a2 c1 c2 w
      · rw [← hl]
        exact same_some a b a.length b1 o1 c1 b2 o2 c2 w rfl hl.symm hn g1 g3 g2 (by rw [hl]; exact g4)
  · obtain ⟨a1, c1, rfl⟩ := ha.len
    obtain ⟨a2, c2, rfl⟩ := hb.len
    have e : decide (a = b) = false := decide_eq_false (fun h => hl (by rw [h]))
    rw [e]
    exact same_lens a1 a2 _ _ c1 c2 hl w
/-- a bool, and draws alone -/
def SameQ (w : World) (b : Bool) (e : Ending) (w' : World) : Prop := e = .returned (.bool b) ∧ ∃ m, w' = w.drewN m
theorem SameQ.mk {w w' : World} {b c : Bool} (h : b = c) (hb : ∃ m, w' = w.drewN m) : SameQ w c (.returned (.bool b)) w' := ⟨by rw [h], hb⟩
theorem drewN_none (w : World) : ∃ m, w = w.drewN m := ⟨0, by cases w; rfl⟩
theorem equal_any (va vb : Value) (a b : List Int) (w : World) (ha : ReadsI w va a) (hb : ReadsI w vb b) (hn : a.length ≤ 100000) : Calls Tryz.prog 50 #[va, vb] w fun e w' => SameQ w (decide (a = b)) e w' := by
  by_cases hl : a.length = b.length
  · by_cases h0 : a.length = 0
    · obtain ⟨a1, c1, rfl⟩ := ha.len
      obtain ⟨a2, c2, rfl⟩ := hb.len
      have ea : a = [] := List.length_eq_zero_iff.1 h0
      have eb : b = [] := List.length_eq_zero_iff.1 (by omega)
      subst ea eb
      refine (Tryz.slices_Equal_int_empty a1 a2 c1 0 c2 w (by omega)).mono ?_
      rintro e w' ⟨rfl, rfl⟩
      exact ⟨rfl, drewN_none _⟩
    · rcases ha with ⟨⟨a1, c1, rfl, _⟩, rfl⟩ | ⟨b1, o1, c1, rfl, _, _, g1, g2⟩
      · exact absurd rfl h0
      · rcases hb with ⟨⟨a2, c2, rfl, _⟩, rfl⟩ | ⟨b2, o2, c2, rfl, _, _, g3, g4⟩
        · exact absurd hl h0
        · refine (Tryz.slices_Equal_int b1 o1 a.length c1 b2 o2 b.length c2 a b w (Nat.le_refl _) (Nat.le_refl _) (by omega) (by omega) g2 g4).mono ?_
          rintro e w' ⟨rfl, q, rfl⟩
          refine SameQ.mk ?_ ⟨q, rfl⟩
          rw [List.take_length, List.take_length, Bool.eq_iff_iff]
          simp
  · obtain ⟨a1, c1, rfl⟩ := ha.len
    obtain ⟨a2, c2, rfl⟩ := hb.len
    refine (Tryz.slices_Equal_int_lens a1 a2 a.length c1 b.length c2 w hl).mono ?_
    rintro e w' ⟨rfl, rfl⟩
    exact SameQ.mk (decide_eq_false (fun h => hl (by rw [h]))).symm (drewN_none _)
end Go.Proofs.YtokhnjcbcpmmjaaGreat
namespace Go.Proofs.YtokhnjcbcpmmjaaGreat
set_option linter.unusedVariables false
set_option linter.unusedSimpArgs false
open Go.RowKit
attribute [local go_sem ↓] fold_E fold_SE

/-- three lists in a box -/
def DAt (a d y : Value) (n : Nat) (w : World) : Prop := w.heap[n]? = some (.cells #[a, d, y] 58 (0, 0))
theorem DAt.lt {a d y : Value} {n : Nat} {w : World} (h : DAt a d y n w) : n < w.heap.size := (Array.getElem?_eq_some_iff.1 h).1
theorem DAt.facts {a d y : Value} {n : Nat} {w : World} (h : DAt a d y n w) : n < w.heap.size ∧ w.cell? ⟨n, 0, none⟩ = some a ∧ w.cell? ⟨n, 1, none⟩ = some d ∧ w.cell? ⟨n, 2, none⟩ = some y ∧ w.frozen? ⟨n, 0, none⟩ = false ∧ w.frozen? ⟨n, 1, none⟩ = false ∧ w.frozen? ⟨n, 2, none⟩ = false :=
  ⟨h.lt, by rw [cell_of_row w n 0 _ _ _ h]; rfl, by rw [cell_of_row w n 1 _ _ _ h]; rfl, by rw [cell_of_row w n 2 _ _ _ h]; rfl, frozen_of_row w n 0 _ _ h, frozen_of_row w n 1 _ _ h, frozen_of_row w n 2 _ _ h⟩
theorem DAt.below {a d y : Value} {n B : Nat} {w w' : World} (h : DAt a d y n w) (hb : Below B w w') (hn : n < B) : DAt a d y n w' := (hb.block n hn).trans h
theorem DAt.alloc {a d y : Value} {n : Nat} {w : World} (h : DAt a d y n w) (o : Obj) : DAt a d y n (w.alloc o) := (Below.heap_alloc w o n h.lt).trans h
theorem DAt.far {a d y : Value} {n g k : Nat} {w : World} (h : DAt a d y n w) (v : Value) (hn : n ≠ g) : DAt a d y n (w.setCell ⟨g, k, none⟩ v) := (Below.heap_setCell w _ v n hn).trans h
theorem DAt.set1 {a d y : Value} {n : Nat} {w : World} (h : DAt a d y n w) (v : Value) : DAt a v y n (w.setCell ⟨n, 1, none⟩ v) := set_at _ _ _ _ _ _ _ h
theorem DAt.new (a d y : Value) (w : World) : DAt a d y w.heap.size (w.alloc (.cells #[a, d, y] 58)) := Array.getElem?_push_size
theorem DAt.on {a d y : Value} {n : Nat} {w w' : World} (h : DAt a d y n w) (hb : Below w.heap.size w w') : DAt a d y n w' := h.below hb h.lt
theorem ReadsI.one {w : World} {v : Value} {zs : List Int} (h : ReadsI w v zs) : v.oneCell' = true := by
  obtain ⟨a, c, rfl⟩ := h.len
  rfl
theorem ReadsN.one {n : Nat} {w : World} {v : Value} {zs : List Int} (h : ReadsN n w v zs) : v.oneCell' = true := h.1.one
def DepsN (n : Nat) (w : World) (a d y : Value) (al dl yl : List Int) : Prop := ReadsN n w a al ∧ ReadsN n w d dl ∧ ReadsN n w y yl
def DepsOk (w : World) (al dl yl : List Int) (e : Ending) (w' : World) : Prop := ∃ a d y, e = .returned (.agg #[a, d, y]) ∧ DepsN w.heap.size w' a d y al dl yl ∧ Below w.heap.size w w'
def StoreD (x y : Value) : Sem Unit := Instr.storeAt 58 x y
theorem fold_SD (x y : Value) : Instr.storeAt 58 x y = StoreD x y := rfl
attribute [local go_sem ↓] fold_SD
theorem run_StoreD {x0 x1 x2 y0 y1 y2 : Value} {n : Nat} {w : World} (H : DAt x0 x1 x2 n w) (h0 : y0.oneCell' = true) (h1 : y1.oneCell' = true) (h2 : y2.oneCell' = true) : (StoreD (.pointer (some ⟨n, 0, none⟩)) (.agg #[y0, y1, y2])).run Tryz.prog w = .ok () (w.setRow n #[y0, y1, y2]) := by
  unfold StoreD Instr.storeAt Instr.sureAddr
  simp only [Sem.run_bind, Sem.run_pure, Result.andThen_ok]
  exact run_storeVar_row w n _ _ _ _ H (by as_aux_lemma => kernel_rfl) rfl (by simp [h0, h1, h2])
theorem below_setRow {w : World} {n : Nat} {cs : Array Value} : Below n w (w.setRow n cs) := ⟨rfl, rfl, rfl, by simp, fun j hj => setRow_other _ _ _ _ (by omega)⟩
theorem deps_end {fn : Func} {tmps : Array Value} {p : Tmp} {a d y : Value} {n : Nat} {w : World} (h : fn.results = #[.cell p 58]) (hp : tmps.getD p undef = .pointer (some ⟨n, 0, none⟩)) (H : DAt a d y n w) :
    (results fn tmps).run Tryz.prog w = .ok (.agg #[a, d, y]) w :=
  results_cell_row h tmps w n _ _ (0, 0) _ hp H Tryz.underlying58 rfl (by as_aux_lemma => kernel_rfl)
/-- the boxes of a call that makes deps of deps: the deps in box n, the result in box n + 1 -/
structure Ow (a d y : Value) (al dl yl : List Int) (n : Nat) (w W : World) : Prop where
  box : DAt a d y n W
  res : DAt (.slice none 0 0) (.slice none 0 0) (.slice none 0 0) (n + 1) W
  below : Below w.heap.size w W
  here : ReadsI w a al ∧ ReadsI w d dl ∧ ReadsI w y yl
  low : w.heap.size ≤ n
theorem Ow.on {a d y : Value} {al dl yl : List Int} {n : Nat} {w W W2 : World} (h : Ow a d y al dl yl n w W) (hb : Below W.heap.size W W2) : Ow a d y al dl yl n w W2 := ⟨h.box.on hb, h.res.on hb, h.below.trans (hb.mono h.below.size), h.here, h.low⟩
theorem Ow.drew {a d y : Value} {al dl yl : List Int} {n : Nat} {w W : World} (h : Ow a d y al dl yl n w W) : Ow a d y al dl yl n w W.drew := h.on (Below.refl _ _).drew
theorem Ow.f3 {a d y : Value} {al dl yl : List Int} {n : Nat} {w W : World} (h : Ow a d y al dl yl n w W) : W.cell? ⟨n, 0, none⟩ = some a ∧ W.cell? ⟨n, 1, none⟩ = some d ∧ W.cell? ⟨n, 2, none⟩ = some y := ⟨h.box.facts.2.1, h.box.facts.2.2.1, h.box.facts.2.2.2.1⟩
theorem Ow.f3set {a d y : Value} {al dl yl : List Int} {n : Nat} {w W : World} (h : Ow a d y al dl yl n w W) (cs : Array Value) : (W.setRow (n + 1) cs).cell? ⟨n, 0, none⟩ = some a ∧ (W.setRow (n + 1) cs).cell? ⟨n, 1, none⟩ = some d ∧ (W.setRow (n + 1) cs).cell? ⟨n, 2, none⟩ = some y := by
  have hb : DAt a d y n (W.setRow (n + 1) cs) := (setRow_other _ _ _ _ (by omega)).trans h.box
  exact ⟨hb.facts.2.1, hb.facts.2.2.1, hb.facts.2.2.2.1⟩
theorem Ow.ra {a d y : Value} {al dl yl : List Int} {n : Nat} {w W : World} (h : Ow a d y al dl yl n w W) : ReadsI W a al := h.here.1.below h.below
theorem Ow.rd {a d y : Value} {al dl yl : List Int} {n : Nat} {w W : World} (h : Ow a d y al dl yl n w W) : ReadsI W d dl := h.here.2.1.below h.below
theorem Ow.ry {a d y : Value} {al dl yl : List Int} {n : Nat} {w W : World} (h : Ow a d y al dl yl n w W) : ReadsI W y yl := h.here.2.2.below h.below
theorem reads_row {W : World} {n g : Nat} {v : Value} {zs : List Int} {cs : Array Value} (h : ReadsN n W v zs) (hg : g < n) (m : Nat) (hm : m ≤ n) : ReadsN m (W.setRow g cs) v zs := by
  refine ⟨?_, fun k hk => by have := h.2 k hk; omega⟩
  rcases h.1 with h0 | ⟨b, off, c, e, h2, h3, h4, h5⟩
  · exact .inl h0
  · subst e
    have hbn := h.2 b rfl
    refine .inr ⟨b, off, c, rfl, h2, h3, by simpa using h4, fun j hj => ?_⟩
    rw [← h5 j hj]
    exact World.cell?_of_block (setRow_other _ _ _ _ (by show b ≠ g; omega))
theorem Ow.done {a d y : Value} {al dl yl : List Int} {n : Nat} {w W : World} (h : Ow a d y al dl yl n w W) {a2 d2 y2 : Value} {al2 dl2 yl2 : List Int} (hd : DepsN (n + 2) W a2 d2 y2 al2 dl2 yl2) :
    DepsOk w al2 dl2 yl2 (.returned (.agg #[a2, d2, y2])) (W.setRow (n + 1) #[a2, d2, y2]) ∧ DAt a2 d2 y2 (n + 1) (W.setRow (n + 1) #[a2, d2, y2]) :=
  ⟨⟨a2, d2, y2, rfl, ⟨reads_row hd.1 (by omega) _ (by have := h.low; omega), reads_row hd.2.1 (by omega) _ (by have := h.low; omega), reads_row hd.2.2 (by omega) _ (by have := h.low; omega)⟩, h.below.trans (below_setRow.mono (by have := h.low; omega))⟩, setRow_heap _ _ _ _ _ _ h.res⟩
theorem Ow.start (a d y : Value) (al dl yl : List Int) (w : World) (ha : ReadsI w a al) (hd : ReadsI w d dl) (hy : ReadsI w y yl) : Ow a d y al dl yl w.heap.size w ((w.alloc (.cells #[a, d, y] 58)).alloc (.cells #[.slice none 0 0, .slice none 0 0, .slice none 0 0] 58)) := by
  refine ⟨(DAt.new a d y w).alloc _, ?_, two_below _ _ _, ⟨ha, hd, hy⟩, Nat.le_refl _⟩
  have := DAt.new (.slice none 0 0) (.slice none 0 0) (.slice none 0 0) (w.alloc (.cells #[a, d, y] 58))
  simp only [World.size_alloc] at this
  exact this
theorem Ow.lt {a d y : Value} {al dl yl : List Int} {n : Nat} {w W : World} (h : Ow a d y al dl yl n w W) : n + 2 ≤ W.heap.size := h.res.lt
end Go.Proofs.YtokhnjcbcpmmjaaGreat
namespace Go.Proofs.YtokhnjcbcpmmjaaGreat
set_option linter.unusedVariables false
set_option linter.unusedSimpArgs false
open Go.RowKit
attribute [local go_sem ↓] fold_E fold_SE fold_SD

/-- a slice that lies in a row of ints -/
def TypedI (w : World) (v : Value) : Prop := ∀ g, v.ownBlock = some g → ∃ cs, w.heap[g]? = some (.cells cs 3 (0, 0))
theorem TypedI.nil (w : World) : TypedI w (.slice none 0 0) := fun g h => by simp [Value.ownBlock] at h
theorem TypedI.on {w w' : World} {v : Value} (h : TypedI w v) (hb : Below w.heap.size w w') : TypedI w' v := fun g hg => by
  obtain ⟨cs, hc⟩ := h g hg
  exact ⟨cs, (hb.block g (Array.getElem?_eq_some_iff.1 hc).1).trans hc⟩
theorem typed_of_own {w : World} {base n : Nat} {v : Value} {xs : List Value} (h : w.ownsRow base 3 1 v n xs) : TypedI w v := fun g hg => by
  rcases h.2 with ⟨rfl, _⟩ | ⟨g', cap, cur, rfl, _, hgg, _⟩
  · simp [Value.ownBlock] at hg
  · simp [Value.ownBlock] at hg
    subst hg
    exact ⟨cur, hgg⟩
def MergedT (w : World) (M : List Int) (e : Ending) (w' : World) : Prop := ∃ v, e = .returned v ∧ ReadsN w.heap.size w' v M ∧ TypedI w' v ∧ Below w.heap.size w w'
set_option maxRecDepth 100000 in
set_option maxHeartbeats 2000000 in
theorem ownT_any (v : Value) (zs : List Int) (w : World) (h : ReadsI w v zs) (hlen : zs.length ≤ 100000) : Calls Tryz.prog 37 #[v] w fun e w' => MergedT w zs e w' := by
  have HR := Lib.hid (h.alloc (.cells #[] 3))
  have HO := Lib.hid (World.ownsRow_made (base := w.heap.size) (e := 3) (size := 1) w #[] 0 (Nat.le_refl _) (by unfold maxLen; omega) (by simp))
  have HB := Lib.hid (box_below w (.cells #[] 3))
  clear h
  go_enter Tryz.func37, Tryz.ntmps37
  go_wp2_with (refine append_reads rfl (.tmp 3) (.tmp 4) rfl w.heap.size _ [] zs rfl HO.out _ rfl HR.out (by simp; omega) HB.out.size ?_; intro v1 w1 hw1 hg1; have H1 := Lib.hid hw1; have HB1 := Lib.hid (HB.out.grown hg1 HB.out.size (fun k hk => (HO.out.lt k hk).1)); clear hw1 hg1)
  go_ret
  exact ⟨_, rfl, readsN_of_own H1.out, typed_of_own H1.out, HB1.out⟩
def TypedD (w : World) (a d y : Value) : Prop := TypedI w a ∧ TypedI w d ∧ TypedI w y
theorem TypedD.on {w w' : World} {a d y : Value} (h : TypedD w a d y) (hb : Below w.heap.size w w') : TypedD w' a d y := ⟨h.1.on hb, h.2.1.on hb, h.2.2.on hb⟩
def DepsT (w : World) (al dl yl : List Int) (e : Ending) (w' : World) : Prop := ∃ a d y, e = .returned (.agg #[a, d, y]) ∧ DepsN w.heap.size w' a d y al dl yl ∧ TypedD w' a d y ∧ Below w.heap.size w w'
theorem typed_row {W : World} {n g : Nat} {v : Value} {zs : List Int} {cs : Array Value} (h : TypedI W v) (hr : ReadsN n W v zs) (hg : g < n) : TypedI (W.setRow g cs) v := fun k hk => by
  obtain ⟨c, hc⟩ := h k hk
  exact ⟨c, (setRow_other _ _ _ _ (by have := hr.2 k hk; omega)).trans hc⟩
set_option maxRecDepth 100000 in
set_option maxHeartbeats 4000000 in
theorem ownDepsT_any (a d y : Value) (al dl yl : List Int) (w : World) (ha : ReadsI w a al) (hd : ReadsI w d dl) (hy : ReadsI w y yl) (na : al.length ≤ 100000) (nd : dl.length ≤ 100000) (ny : yl.length ≤ 100000) :
    Calls Tryz.prog 76 #[.agg #[a, d, y]] w fun e w' => DepsT w al dl yl e w' := by
  have S0 := Lib.hid (Ow.start a d y al dl yl w ha hd hy)
  clear ha hd hy
  go_enter Tryz.func76, Tryz.ntmps76
  go_upto_region 1 with fail
  obtain ⟨W, hW⟩ : ∃ W, Hid ((w.alloc (.cells #[a, d, y] 58)).alloc (.cells #[.slice none 0 0, .slice none 0 0, .slice none 0 0] 58) = W) := ⟨_, Lib.hid rfl⟩
  rw [hW.out] at S0 ⊢
  clear hW
  obtain ⟨f0, f1, f2⟩ := S0.out.f3
  go_region_held3 (fun w' => w'.cell? ⟨w.heap.size, 0, none⟩ = some a ∧ w'.cell? ⟨w.heap.size, 1, none⟩ = some d ∧ w'.cell? ⟨w.heap.size, 2, none⟩ = some y)
    (first | exact S0.out.drew.f3 | exact S3.out.f3set _ | exact S3.out.f3 | exact S2.out.f3 | exact S1.out.f3)
    ((first
      | (go_at_call 37; (with_reducible refine (ownT_any a al _ S0.out.drew.ra na).mono ?_); rintro e w1 ⟨v1, rfl, h1, t1, hb⟩; obtain ⟨a1, c1, rfl⟩ := h1.1.len; have V1 := Lib.hid (h1.mono S0.out.drew.lt); have T1 := Lib.hid t1; have S1 := Lib.hid (S0.out.drew.on hb); clear h1 hb t1)
      | (go_at_call 37; (with_reducible refine (ownT_any d dl _ S1.out.rd nd).mono ?_); rintro e w2 ⟨v2, rfl, h2, t2, hb⟩; obtain ⟨a2, c2, rfl⟩ := h2.1.len; have V2 := Lib.hid (h2.mono S1.out.lt); have T2 := Lib.hid t2; have S2 := Lib.hid (S1.out.on hb); have V12 := Lib.hid (V1.out.on hb); have T12 := Lib.hid (T1.out.on hb); clear h2 hb t2)
      | (go_at_call 37; (with_reducible refine (ownT_any y yl _ S2.out.ry ny).mono ?_); rintro e w3 ⟨v3, rfl, h3, t3, hb⟩; obtain ⟨a3, c3, rfl⟩ := h3.1.len; have V3 := Lib.hid (h3.mono S2.out.lt); have T3 := Lib.hid t3; have S3 := Lib.hid (S2.out.on hb); have V13 := Lib.hid (V12.out.on hb); have V23 := Lib.hid (V2.out.on hb); have T13 := Lib.hid (T12.out.on hb); have T23 := Lib.hid (T2.out.on hb); clear h3 hb t3; have run1 := run_StoreD S3.out.res V13.out.one V23.out.one V3.out.one)))
  have hst := Lib.hid (S3.out.done ⟨V13.out, V23.out, V3.out⟩)
  have hty := Lib.hid (show TypedD (w3.setRow (w.heap.size + 1) #[.slice a1 al.length c1, .slice a2 dl.length c2, .slice a3 yl.length c3]) (.slice a1 al.length c1) (.slice a2 dl.length c2) (.slice a3 yl.length c3) from ⟨typed_row T13.out V13.out (by omega), typed_row T23.out V23.out (by omega), typed_row T3.out V3.out (by omega)⟩)
  go_wp2
  refine bodyPost_ret (deps_end rfl rfl hst.out.2) rfl ?_
  obtain ⟨x1, x2, x3, he, hN, hB⟩ := hst.out.1
  refine ⟨_, _, _, rfl, ?_, hty.out, hB⟩
  simp only [Ending.returned.injEq, Value.agg.injEq, Array.mk.injEq, List.cons.injEq, and_true] at he
  obtain ⟨rfl, rfl, rfl⟩ := he
  exact hN
end Go.Proofs.YtokhnjcbcpmmjaaGreat
namespace Go.Proofs.YtokhnjcbcpmmjaaGreat
set_option linter.unusedVariables false
set_option linter.unusedSimpArgs false
open Go.RowKit
attribute [local go_sem ↓] fold_E fold_SE

theorem light_any (a d y : Option Addr) (n1 n2 n3 c1 c2 c3 : Nat) (m : Nat) (w : World) : Calls Tryz.prog 51 #[.agg #[.slice a n1 c1, .slice d n2 c2, .slice y n3 c3], .int .i64 (m : Int)] w fun e w' => SameOk w (decide (n1 ≤ m) && (decide (n2 ≤ m) && decide (n3 ≤ m))) e w' := by
  by_cases h1 : n1 ≤ m
  · by_cases h2 : n2 ≤ m
    · by_cases h3 : n3 ≤ m
      · have e : Hid ((decide (n1 ≤ m) && (decide (n2 ≤ m) && decide (n3 ≤ m))) = true) := Lib.hid (by simp [h1, h2, h3])
        rw [e.out]
        go_enter Tryz.func51, Tryz.ntmps51
        go_wp2
        go_ret
        exact ⟨rfl, box_below _ _⟩
      · have e : Hid ((decide (n1 ≤ m) && (decide (n2 ≤ m) && decide (n3 ≤ m))) = false) := Lib.hid (by simp [h3])
        rw [e.out]
        have h3' : decide (n3 ≤ m) = false := decide_eq_false h3
        go_enter Tryz.func51, Tryz.ntmps51
        go_wp2
        go_ret
        exact ⟨rfl, box_below _ _⟩
    · have e : Hid ((decide (n1 ≤ m) && (decide (n2 ≤ m) && decide (n3 ≤ m))) = false) := Lib.hid (by simp [h2])
      rw [e.out]
      have h2' : decide (n2 ≤ m) = false := decide_eq_false h2
      go_enter Tryz.func51, Tryz.ntmps51
      go_wp2
      go_ret
      exact ⟨rfl, box_below _ _⟩
  · have e : Hid ((decide (n1 ≤ m) && (decide (n2 ≤ m) && decide (n3 ≤ m))) = false) := Lib.hid (by simp [h1])
    rw [e.out]
    have h1' : decide (n1 ≤ m) = false := decide_eq_false h1
    go_enter Tryz.func51, Tryz.ntmps51
    go_wp2
    go_ret
    exact ⟨rfl, box_below _ _⟩
/-- two deps in boxes of the call's own -/
theorem deps_boxes (a d y a2 d2 y2 : Value) (w : World) : DAt a d y w.heap.size ((w.alloc (.cells #[a, d, y] 58)).alloc (.cells #[a2, d2, y2] 58)) ∧ DAt a2 d2 y2 (w.heap.size + 1) ((w.alloc (.cells #[a, d, y] 58)).alloc (.cells #[a2, d2, y2] 58)) ∧ Below w.heap.size w ((w.alloc (.cells #[a, d, y] 58)).alloc (.cells #[a2, d2, y2] 58)) := by
  refine ⟨(DAt.new a d y w).alloc _, ?_, ((Below.refl _ _).alloc (Nat.le_refl _) _).alloc (by simp) _⟩
  have := DAt.new a2 d2 y2 (w.alloc (.cells #[a, d, y] 58))
  simp only [World.size_alloc] at this
  exact this
def depsB (al dl yl al2 dl2 yl2 : List Int) : Bool := decide (al = al2) && (decide (dl = dl2) && decide (yl = yl2))
theorem same_b (va vb : Value) (a b : List Int) (r : Bool) (hr : decide (a = b) = r) (w : World) (ha : ReadsI w va a) (hb : ReadsI w vb b) (hn : a.length ≤ 100000) : Calls Tryz.prog 14 #[va, vb] w fun e w' => SameOk w r e w' := by
  rw [← hr]; exact same_any va vb a b w ha hb hn
end Go.Proofs.YtokhnjcbcpmmjaaGreat
namespace Go.Proofs.YtokhnjcbcpmmjaaGreat
set_option linter.unusedVariables false
set_option linter.unusedSimpArgs false
open Go.RowKit
attribute [local go_sem ↓] fold_E fold_SE

theorem ReadsN.far {n g k : Nat} {w : World} {v : Value} {zs : List Int} (h : ReadsN n w v zs) (x : Value) (hg : g < n) : ReadsN n (w.setCell ⟨g, k, none⟩ x) v zs :=
  ⟨h.1.set g k x (fun e => absurd (h.2 g e) (by omega)), h.2⟩
/-- what reads from above block n reads so still where block n alone was written -/
theorem reads_but {n m B : Nat} {W w9 : World} {v : Value} {zs : List Int} (hv : ReadsN B W v zs) (hn : n < B) (hm : m ≤ B) (ho : ∀ j, j ≠ n → w9.heap[j]? = W.heap[j]?) (hz : w9.heap.size = W.heap.size) : ReadsN m w9 v zs := by
  refine ⟨?_, fun k hk => by have := hv.2 k hk; omega⟩
  rcases hv.1 with h0 | ⟨b, off, c, e, h2, h3, h4, h5⟩
  · exact .inl h0
  · subst e
    have hbn := hv.2 b rfl
    refine .inr ⟨b, off, c, rfl, h2, h3, by omega, fun j hj => ?_⟩
    rw [← h5 j hj]
    exact World.cell?_of_block (ho b (by omega))
end Go.Proofs.YtokhnjcbcpmmjaaGreat
namespace Go.Proofs.YtokhnjcbcpmmjaaGreat
set_option linter.unusedVariables false
set_option linter.unusedSimpArgs false
open Go.RowKit
attribute [local go_sem ↓] fold_E fold_SE

def nilL : El := ⟨[], [], []⟩
theorem nil_reads (w : World) (e : Ev) (h : e.a = .slice none 0 0 ∧ e.d = .slice none 0 0 ∧ e.y = .slice none 0 0) : EReads w e nilL := by
  unfold EReads
  rw [h.1, h.2.1, h.2.2]
  exact ⟨ReadsI.nil w, ReadsI.nil w, ReadsI.nil w⟩
end Go.Proofs.YtokhnjcbcpmmjaaGreat
namespace Go.Proofs.YtokhnjcbcpmmjaaGreat
set_option linter.unusedVariables false
set_option linter.unusedSimpArgs false
open Go.RowKit
attribute [local go_sem ↓] fold_E fold_SE

theorem EReads.ra {w : World} {e : Ev} {l : El} (h : EReads w e l) : ReadsI w e.a l.a := h.1
theorem EReads.rd {w : World} {e : Ev} {l : El} (h : EReads w e l) : ReadsI w e.d l.d := h.2.1
theorem EReads.ry {w : World} {e : Ev} {l : El} (h : EReads w e l) : ReadsI w e.y l.y := h.2.2
end Go.Proofs.YtokhnjcbcpmmjaaGreat
