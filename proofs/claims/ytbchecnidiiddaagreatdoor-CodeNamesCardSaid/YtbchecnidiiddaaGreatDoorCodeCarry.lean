/-
  Proved here: the fields of a form are the chapter's, and carry carries all of them, into a word or out of it; nothing else that was there is changed. No condition.
-/
import Derived.Test.YtbchecnidiiddaaGreatDoorCodeKinds
import Derived.Laws.EntriesVeiled
import Derived.WalkLawsBesides
import Derived.Shelf.Abstract
namespace Go.Proofs.YtbchecnidiiddaaGreatDoor
set_option linter.unusedVariables false
open Go.RowKit


def fnK : Nat → Nat
  | 0 => 49
  | 1 => 52
  | 2 => 54
  | 3 => 53
  | 4 => 55
  | 5 => 50
  | 6 => 56
  | 7 => 51
  | 8 => 57
  | 9 => 58
  | 10 => 59
  | 11 => 60
  | _ => 61
def FnOk (k F : Nat) : Prop :=
  (∀ args w, (callFunc F args).run Tryz.prog w = .ok (.enter F args) w) ∧ ∀ (c n : Nat) (b : BitVec 64) (i : Ins) (o : Bool) (w : World), n ≠ c → CarAt c b o w → InsAt i n w → Calls Tryz.prog F #[.pointer (some ⟨c, 0, none⟩), .pointer (some ⟨n, 0, none⟩)] w fun e w' => FieldOk c n b i k o w e w'
theorem fn_ok (k : Nat) (h : k < 13) : FnOk k (fnK k) := by
  rcases (by omega : k = 0 ∨ k = 1 ∨ k = 2 ∨ k = 3 ∨ k = 4 ∨ k = 5 ∨ k = 6 ∨ k = 7 ∨ k = 8 ∨ k = 9 ∨ k = 10 ∨ k = 11 ∨ k = 12) with rfl | rfl | rfl | rfl | rfl | rfl | rfl | rfl | rfl | rfl | rfl | rfl | rfl
  · exact ⟨enters_of Tryz.func49 (by kernel_rfl) rfl, rd_any⟩
  · exact ⟨enters_of Tryz.func52 (by kernel_rfl) rfl, rs1_any⟩
  · exact ⟨enters_of Tryz.func54 (by kernel_rfl) rfl, rs2_any⟩
  · exact ⟨enters_of Tryz.func53 (by kernel_rfl) rfl, immI_any⟩
  · exact ⟨enters_of Tryz.func55 (by kernel_rfl) rfl, immStore_any⟩
  · exact ⟨enters_of Tryz.func50 (by kernel_rfl) rfl, immU_any⟩
  · exact ⟨enters_of Tryz.func56 (by kernel_rfl) rfl, immB_any⟩
  · exact ⟨enters_of Tryz.func51 (by kernel_rfl) rfl, immJ_any⟩
  · exact ⟨enters_of Tryz.func57 (by kernel_rfl) rfl, immShift_any⟩
  · exact ⟨enters_of Tryz.func58 (by kernel_rfl) rfl, pred_any⟩
  · exact ⟨enters_of Tryz.func59 (by kernel_rfl) rfl, succ_any⟩
  · exact ⟨enters_of Tryz.func60 (by kernel_rfl) rfl, aq_any⟩
  · exact ⟨enters_of Tryz.func61 (by kernel_rfl) rfl, rl_any⟩
def fieldV (k : Nat) : Value := .func (.func (fnK k)) #[] #[]
def FieldsV (B : Nat) (v : Value) (l : List Nat) (w : World) : Prop :=
  (l = [] ∧ v = .slice none 0 0) ∨ l ≠ [] ∧ ∃ g, v = .slice (some ⟨g, 0, none⟩) l.length l.length ∧ B ≤ g ∧ g < w.heap.size ∧ ∀ j k, l[j]? = some k → w.cell? ⟨g, j, none⟩ = some (fieldV k)
theorem fields_new (l : List Nat) (hl : l ≠ []) (w : World) (t : TypeId) : FieldsV w.heap.size (.slice (some ⟨w.heap.size, 0, none⟩) l.length l.length) l (w.alloc (.cells (l.map fieldV).toArray t)) := by
  have h := heap_new w (.cells (l.map fieldV).toArray t)
  refine .inr ⟨hl, _, rfl, Nat.le_refl _, by simp, fun j k hk => ?_⟩
  unfold World.cell?
  rw [h]
  simp [hk]
def FieldsOk (l : List Nat) (w : World) (e : Ending) (w' : World) : Prop := ∃ v, e = .returned v ∧ FieldsV w.heap.size v l w' ∧ Below w.heap.size w w'
theorem fields_end (l : List Nat) (hl : l ≠ []) (w : World) (t : TypeId) : FieldsOk l w (.returned (.slice (some ⟨w.heap.size, 0, none⟩) l.length l.length)) (w.alloc (.cells (l.map fieldV).toArray t)) :=
  ⟨_, rfl, fields_new l hl w t, (Below.refl _ _).alloc (Nat.le_refl _) _⟩
theorem fields_none (w : World) : FieldsOk [] w (.returned (.slice none 0 0)) w := ⟨_, rfl, .inl ⟨rfl, rfl⟩, Below.refl _ _⟩
set_option maxRecDepth 100000 in
theorem fields_0 (w : World) : Calls Tryz.prog 24 #[.int .i64 0] w fun e w' => FieldsOk (kindsF 0) w e w' := by
  go_enter Tryz.func24, Tryz.ntmps24
  go_wp2
  go_ret
  exact fields_none _
set_option maxRecDepth 100000 in
theorem fields_1 (w : World) : Calls Tryz.prog 24 #[.int .i64 1] w fun e w' => FieldsOk (kindsF 1) w e w' := by
  go_enter Tryz.func24, Tryz.ntmps24
  go_wp2
  go_ret
  exact fields_end (kindsF 1) (by decide) w _
set_option maxRecDepth 100000 in
theorem fields_2 (w : World) : Calls Tryz.prog 24 #[.int .i64 2] w fun e w' => FieldsOk (kindsF 2) w e w' := by
  go_enter Tryz.func24, Tryz.ntmps24
  go_wp2
  go_ret
  exact fields_end (kindsF 2) (by decide) w _
set_option maxRecDepth 100000 in
theorem fields_3 (w : World) : Calls Tryz.prog 24 #[.int .i64 3] w fun e w' => FieldsOk (kindsF 3) w e w' := by
  go_enter Tryz.func24, Tryz.ntmps24
  go_wp2
  go_ret
  exact fields_end (kindsF 3) (by decide) w _
set_option maxRecDepth 100000 in
theorem fields_4 (w : World) : Calls Tryz.prog 24 #[.int .i64 4] w fun e w' => FieldsOk (kindsF 4) w e w' := by
  go_enter Tryz.func24, Tryz.ntmps24
  go_wp2
  go_ret
  exact fields_end (kindsF 4) (by decide) w _
set_option maxRecDepth 100000 in
theorem fields_5 (w : World) : Calls Tryz.prog 24 #[.int .i64 5] w fun e w' => FieldsOk (kindsF 5) w e w' := by
  go_enter Tryz.func24, Tryz.ntmps24
  go_wp2
  go_ret
  exact fields_end (kindsF 5) (by decide) w _
set_option maxRecDepth 100000 in
theorem fields_6 (w : World) : Calls Tryz.prog 24 #[.int .i64 6] w fun e w' => FieldsOk (kindsF 6) w e w' := by
  go_enter Tryz.func24, Tryz.ntmps24
  go_wp2
  go_ret
  exact fields_end (kindsF 6) (by decide) w _
set_option maxRecDepth 100000 in
theorem fields_7 (w : World) : Calls Tryz.prog 24 #[.int .i64 7] w fun e w' => FieldsOk (kindsF 7) w e w' := by
  go_enter Tryz.func24, Tryz.ntmps24
  go_wp2
  go_ret
  exact fields_end (kindsF 7) (by decide) w _
set_option maxRecDepth 100000 in
theorem fields_8 (w : World) : Calls Tryz.prog 24 #[.int .i64 8] w fun e w' => FieldsOk (kindsF 8) w e w' := by
  go_enter Tryz.func24, Tryz.ntmps24
  go_wp2
  go_ret
  exact fields_end (kindsF 8) (by decide) w _
set_option maxRecDepth 100000 in
theorem fields_9 (w : World) : Calls Tryz.prog 24 #[.int .i64 9] w fun e w' => FieldsOk (kindsF 9) w e w' := by
  go_enter Tryz.func24, Tryz.ntmps24
  go_wp2
  go_ret
  exact fields_end (kindsF 9) (by decide) w _
set_option maxRecDepth 100000 in
theorem fields_10 (w : World) : Calls Tryz.prog 24 #[.int .i64 10] w fun e w' => FieldsOk (kindsF 10) w e w' := by
  go_enter Tryz.func24, Tryz.ntmps24
  go_wp2
  go_ret
  exact fields_none _
set_option maxRecDepth 100000 in
theorem fields_11 (w : World) : Calls Tryz.prog 24 #[.int .i64 11] w fun e w' => FieldsOk (kindsF 11) w e w' := by
  go_enter Tryz.func24, Tryz.ntmps24
  go_wp2
  go_ret
  exact fields_end (kindsF 11) (by decide) w _
set_option maxRecDepth 100000 in
theorem fields_12 (w : World) : Calls Tryz.prog 24 #[.int .i64 12] w fun e w' => FieldsOk (kindsF 12) w e w' := by
  go_enter Tryz.func24, Tryz.ntmps24
  go_wp2
  go_ret
  exact fields_end (kindsF 12) (by decide) w _
theorem fields_any (form : Int) (h0 : 0 ≤ form) (h1 : form ≤ 12) (w : World) : Calls Tryz.prog 24 #[.int .i64 form] w fun e w' => FieldsOk (kindsF form.toNat) w e w' := by
  rcases (by omega : form = 0 ∨ form = 1 ∨ form = 2 ∨ form = 3 ∨ form = 4 ∨ form = 5 ∨ form = 6 ∨ form = 7 ∨ form = 8 ∨ form = 9 ∨ form = 10 ∨ form = 11 ∨ form = 12) with rfl | rfl | rfl | rfl | rfl | rfl | rfl | rfl | rfl | rfl | rfl | rfl | rfl
  · exact fields_0 w
  · exact fields_1 w
  · exact fields_2 w
  · exact fields_3 w
  · exact fields_4 w
  · exact fields_5 w
  · exact fields_6 w
  · exact fields_7 w
  · exact fields_8 w
  · exact fields_9 w
  · exact fields_10 w
  · exact fields_11 w
  · exact fields_12 w
/-- a field carried -/
def stepK (o : Bool) (st : BitVec 64 × Ins) (k : Nat) : BitVec 64 × Ins := (nb o st.1 (valK k st.2) (spansK k), setK k st.2 (nv o st.1 (valK k st.2) (spansK k)))
def carryL (o : Bool) (b : BitVec 64) (i : Ins) : BitVec 64 × Ins := (kindsF (formN i.op)).foldl (stepK o) (b, i)
theorem kinds_lt : ∀ f : Fin 13, ∀ k ∈ kindsF f.1, k < 13 := by decide +kernel
theorem kinds_len : ∀ f : Fin 13, (kindsF f.1).length ≤ 5 := by decide +kernel
theorem fold_snoc (o : Bool) (st : BitVec 64 × Ins) (l : List Nat) (j k : Nat) (h : l[j]? = some k) : stepK o ((l.take j).foldl (stepK o) st) k = (l.take (j + 1)).foldl (stepK o) st := by
  obtain ⟨hj, rfl⟩ := List.getElem?_eq_some_iff.1 h
  rw [List.take_succ_eq_append_getElem hj, List.foldl_append]
  rfl
def CarryOk (c n : Nat) (b : BitVec 64) (i : Ins) (o : Bool) (w : World) (e : Ending) (w' : World) : Prop :=
  e = .returned (.tuple #[]) ∧ CarAt c (carryL o b i).1 o w' ∧ InsAt (carryL o b i).2 n w' ∧ Oth2 c n w w'
theorem FieldsV.oth2x {l : List Nat} {w w' : World} {g c n : Nat} (h : g < w.heap.size ∧ ∀ j k, l[j]? = some k → w.cell? ⟨g, j, none⟩ = some (fieldV k)) (ho : Oth2 c n w w') (hc : g ≠ c) (hn : g ≠ n) : g < w'.heap.size ∧ ∀ j k, l[j]? = some k → w'.cell? ⟨g, j, none⟩ = some (fieldV k) := by
  have e : ∀ j, w'.cell? ⟨g, j, none⟩ = w.cell? ⟨g, j, none⟩ := fun j => World.cell?_of_block (w := w) (a := ⟨g, j, none⟩) (ho.2.2.2.2 g h.1 hc hn)
  exact ⟨Nat.lt_of_lt_of_le h.1 ho.size, fun j k hk => by rw [e]; exact h.2 j k hk⟩
def FieldsG (B g : Nat) (l : List Nat) (w : World) : Prop := B ≤ g ∧ g < w.heap.size ∧ ∀ j k, l[j]? = some k → w.cell? ⟨g, j, none⟩ = some (fieldV k)
theorem FieldsG.oth2 {l : List Nat} {w w' : World} {B g c n : Nat} (h : FieldsG B g l w) (ho : Oth2 c n w w') (hc : g ≠ c) (hn : g ≠ n) : FieldsG B g l w' := by
  have e : ∀ j, w'.cell? ⟨g, j, none⟩ = w.cell? ⟨g, j, none⟩ := fun j => World.cell?_of_block (w := w) (a := ⟨g, j, none⟩) (ho.2.2.2.2 g h.2.1 hc hn)
  exact ⟨h.1, Nat.lt_of_lt_of_le h.2.1 ho.size, fun j k hk => by rw [e]; exact h.2.2 j k hk⟩
theorem fields_at (form : Int) (L : List Nat) (hL : Hid (kindsF form.toNat = L)) (hne : Hid (L ≠ [])) (h0 : Hid (0 ≤ form ∧ form ≤ 12)) (w : World) : Calls Tryz.prog 24 #[.int .i64 form] w fun e w' => ∃ g, e = .returned (.slice (some ⟨g, 0, none⟩) L.length L.length) ∧ FieldsG w.heap.size g L w' ∧ Below w.heap.size w w' := by
  refine (fields_any form h0.out.1 h0.out.2 w).mono ?_
  rintro e w' ⟨v, rfl, hv, hb⟩
  rw [hL.out] at hv
  rcases hv with ⟨h, _⟩ | ⟨_, g, rfl, h1, h2, h3⟩
  · exact absurd h hne.out
  · exact ⟨g, rfl, ⟨h1, h2, h3⟩, hb⟩
theorem fields_nil (form : Int) (hL : Hid (kindsF form.toNat = [])) (h0 : Hid (0 ≤ form ∧ form ≤ 12)) (w : World) : Calls Tryz.prog 24 #[.int .i64 form] w fun e w' => e = .returned (.slice none 0 0) ∧ Below w.heap.size w w' := by
  refine (fields_any form h0.out.1 h0.out.2 w).mono ?_
  rintro e w' ⟨v, rfl, hv, hb⟩
  rw [hL.out] at hv
  rcases hv with ⟨_, rfl⟩ | ⟨h, _⟩
  · exact ⟨rfl, hb⟩
  · exact absurd rfl h
def CarryWay (c n g : Nat) (b : BitVec 64) (i : Ins) (o : Bool) (L : List Nat) (w : World) (x : Value) (wr : World) : Prop :=
  ∃ k : Nat, k ≤ L.length ∧ x = .int .i64 k ∧ CarAt c ((L.take k).foldl (stepK o) (b, i)).1 o wr ∧ InsAt ((L.take k).foldl (stepK o) (b, i)).2 n wr ∧ FieldsG w.heap.size g L wr ∧ Oth2 c n w wr
set_option maxRecDepth 100000 in
set_option maxHeartbeats 1000000 in
theorem carry_some (c n : Nat) (b : BitVec 64) (i : Ins) (o : Bool) (w : World) (hcn : n ≠ c) (hc : CarAt c b o w) (hi : InsAt i n w) (hne : kindsF (formN i.op) ≠ []) :
    Calls Tryz.prog 15 #[.pointer (some ⟨c, 0, none⟩), .pointer (some ⟨n, 0, none⟩)] w fun e w' => CarryOk c n b i o w e w' := by
  obtain ⟨hz, c0, -, -, -, -, -, -, -, -⟩ := hi.facts
  have hzc := hc.facts.1
  obtain ⟨L, hL⟩ : ∃ L, kindsF (formN i.op) = L := ⟨_, rfl⟩
  have HL : Hid (kindsF (formOf i.op).toNat = L) := Lib.hid hL
  have hlen : L.length ≤ 5 := by rw [← hL]; have := form_hi i.op; exact kinds_len ⟨formN i.op, by unfold formN; omega⟩
  have HLT : Hid (∀ k ∈ L, k < 13) := Lib.hid (by rw [← hL]; have := form_hi i.op; exact kinds_lt ⟨formN i.op, by unfold formN; omega⟩)
  have H0 := Lib.hid (form_hi i.op)
  rw [hL] at hne
  have HNE := Lib.hid hne
  have HC := Lib.hid hc
  have HI := Lib.hid hi
  have HCN := Lib.hid hcn
  have HE : Hid (carryL o b i = L.foldl (stepK o) (b, i)) := Lib.hid (by unfold carryL; rw [hL])
  clear hne hc hi hcn hL
  go_enter Tryz.func15, Tryz.ntmps15
  go_wp2_with (first
    | (go_at_call 25; (with_reducible refine (Form_any _ _).mono ?_); rintro e w1 ⟨rfl, hb⟩; have B1 := Lib.hid hb; have hs1 := hb.size; clear hb)
    | (go_at_call 24; (with_reducible refine (fields_at _ L HL HNE H0 _).mono ?_); rintro e w2 ⟨g, rfl, hg, hb⟩; have B2 := Lib.hid (B1.out.trans (hb.mono hs1)); have G2 := Lib.hid (show FieldsG w.heap.size g L w2 from ⟨Nat.le_trans hs1 hg.1, hg.2⟩); clear hb hg))
  have hgc : w.heap.size ≤ g := G2.out.1
  go_loopw [13] (fun x wr => CarryWay c n g b i o L w x wr) (fun x _ => (5 - intOf x).toNat)
  case atStart => exact ⟨0, Nat.zero_le _, rfl, HC.out.below B2.out hzc, HI.out.below B2.out hz, G2.out, (Oth.of B2.out).two n⟩
  case round =>
    obtain ⟨k, hk, rfl, hC, hI, hG, hO⟩ := hrel
    have C3 := Lib.hid hC
    have I3 := Lib.hid hI
    have G3 := Lib.hid hG
    have O3 := Lib.hid hO
    clear hC hI hG hO
    by_cases hlt : k < L.length
    · obtain ⟨q, hq⟩ : ∃ q, L[k]? = some q := ⟨L[k], List.getElem?_eq_getElem hlt⟩
      have cf := G3.out.2.2 k q hq
      obtain ⟨hE, hF⟩ := fn_ok q (HLT.out q (List.mem_of_getElem? hq))
      have HS := Lib.hid (fold_snoc o (b, i) L k q hq)
      have HF := Lib.hid hF
      unfold fieldV at cf
      generalize fnK q = F at cf hE HF
      clear hF hq
      go_wp2_with (go_at_fn F; (with_reducible refine (HF.out c n _ _ o _ HCN.out C3.out I3.out).mono ?_); rintro e w4 ⟨rfl, hC, hI, hO⟩; have C4 := Lib.hid hC; have I4 := Lib.hid hI; have O4 := Lib.hid hO; clear hC hI hO)
      go_round
      case rel =>
        refine ⟨k + 1, by omega, by go_num, ?_, ?_, G3.out.oth2 O4.out (by omega) (by omega), O3.out.trans O4.out⟩
        · rw [← HS.out]; exact C4.out
        · rw [← HS.out]; exact I4.out
      case measure => simp [intOf]; omega
    · go_wp2
      go_end0
      have e : L.take k = L := List.take_of_length_le (by omega)
      have C5 := C3.out
      have I5 := I3.out
      rw [e] at C5 I5
      refine ⟨rfl, ?_, ?_, O3.out⟩
      · rw [HE.out]; exact C5
      · rw [HE.out]; exact I5
set_option maxRecDepth 100000 in
set_option maxHeartbeats 1000000 in
theorem carry_none (c n : Nat) (b : BitVec 64) (i : Ins) (o : Bool) (w : World) (hc : CarAt c b o w) (hi : InsAt i n w) (hne : kindsF (formN i.op) = []) :
    Calls Tryz.prog 15 #[.pointer (some ⟨c, 0, none⟩), .pointer (some ⟨n, 0, none⟩)] w fun e w' => CarryOk c n b i o w e w' := by
  obtain ⟨hz, c0, -, -, -, -, -, -, -, -⟩ := hi.facts
  have hzc := hc.facts.1
  have HL : Hid (kindsF (formOf i.op).toNat = []) := Lib.hid hne
  have H0 := Lib.hid (form_hi i.op)
  have HC := Lib.hid hc
  have HI := Lib.hid hi
  have HE : Hid (carryL o b i = (b, i)) := Lib.hid (by unfold carryL; rw [hne]; rfl)
  clear hne hc hi
  go_enter Tryz.func15, Tryz.ntmps15
  go_wp2_with (first
    | (go_at_call 25; (with_reducible refine (Form_any _ _).mono ?_); rintro e w1 ⟨rfl, hb⟩; have B1 := Lib.hid hb; have hs1 := hb.size; clear hb)
    | (go_at_call 24; (with_reducible refine (fields_nil _ HL H0 _).mono ?_); rintro e w2 ⟨rfl, hb⟩; have B2 := Lib.hid (B1.out.trans (hb.mono hs1)); clear hb))
  go_loopw [13] (fun x wr => x = .int .i64 0 ∧ Below w.heap.size w wr) (fun _ _ => 0)
  case atStart => exact ⟨rfl, B2.out⟩
  case round =>
    obtain ⟨rfl, hB⟩ := hrel
    have B3 := Lib.hid hB
    clear hB
    go_wp2
    go_end0
    refine ⟨rfl, ?_, ?_, (Oth.of B3.out).two n⟩
    · rw [HE.out]; exact HC.out.below B3.out hzc
    · rw [HE.out]; exact HI.out.below B3.out hz
theorem carry_any (c n : Nat) (b : BitVec 64) (i : Ins) (o : Bool) (w : World) (hcn : n ≠ c) (hc : CarAt c b o w) (hi : InsAt i n w) :
    Calls Tryz.prog 15 #[.pointer (some ⟨c, 0, none⟩), .pointer (some ⟨n, 0, none⟩)] w fun e w' => CarryOk c n b i o w e w' := by
  by_cases h : kindsF (formN i.op) = []
  · exact carry_none c n b i o w hc hi h
  · exact carry_some c n b i o w hcn hc hi h
end Go.Proofs.YtbchecnidiiddaaGreatDoor
