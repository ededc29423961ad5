/-
  Proved here: what the rows of the laws on axioms ask of the listed tables gives the table of powers of ten, in whatever world behind; the heap that the door's own run leaves meets it. No condition.
  (With it: Proved here: package axiom's name and Line: the text of a judgement, whatever its numbers; nothing that was there is changed. Condition: numbers of 64 bits; the table of powers of ten as the library lays it.)
-/
import Derived.Test.YtcbfokbdiefdeaaGreatDoorAxNo
import Derived.Test.YtcbfokbdiefdeaaGreatDoorShelf
import Derived.Lib.AppendIntMem
import Derived.Lib.AppendStr
import Derived.Lib.ItoaLen
import Derived.Lib.Slices
import Derived.Laws.IdiomStrings
import Derived.Test.YtcbfokbdiefdeaaGreatDoorRows
import Derived.ProofKit
import Derived.OpenShut
import Derived.ChangeOld
import Derived.LaidMore
import Derived.Stop.Joined
import Derived.Lib.LaidTab
import Derived.Stop.LaidErr
namespace Go.Proofs.YtcbfokbdiefdeaaGreatDoor
set_option linter.unusedVariables false
set_option linter.unusedSimpArgs false
open Go.RowKit Go.Maps Go.Sort
attribute [local go_sem ↓] fold_E fold_SE fold_SJ
attribute [local irreducible] wpStill

/-- the table of powers of ten, as the library lays it, in whatever world behind -/
def TabP (w : World) : Prop := Lib.TabBelow Tryz.prog w.heap.size w "internal/strconv.uint64pow10" .u64 Lib.pow10Tab
theorem TabP.on {w w' : World} (h : TabP w) (hb : Below w.heap.size w w') : TabP w' := fun w2 h2 => h w2 (hb.trans (h2.mono hb.size))
def nameS (y : Int) : ByteArray := if y = 1 then ⟨#[102, 111, 114, 109]⟩ else if y = 2 then ⟨#[111, 114, 100, 101, 114]⟩ else if y = 3 then ⟨#[118, 97, 108, 117, 101]⟩ else if y = 4 then ⟨#[112, 97, 105, 114]⟩ else ⟨#[111, 116, 104, 101, 114]⟩
theorem nameS_le (y : Int) : (nameS y).size ≤ 5 := by unfold nameS; repeat (first | decide | split)
set_option maxRecDepth 100000 in
theorem name_any (y : Int) (r : ByteArray) (hr : nameS y = r) (w : World) : Calls Tryz.prog 41 #[.int .i64 y] w fun e w' => e = .returned (.string r) ∧ w = w' := by
  subst hr
  by_cases h1 : y = 1
  · subst h1
    go_enter Tryz.func41, Tryz.ntmps41
    go_wp2
    go_ret
    exact ⟨rfl, rfl⟩
  by_cases h2 : y = 2
  · subst h2
    go_enter Tryz.func41, Tryz.ntmps41
    go_wp2
    go_ret
    exact ⟨rfl, rfl⟩
  by_cases h3 : y = 3
  · subst h3
    go_enter Tryz.func41, Tryz.ntmps41
    go_wp2
    go_ret
    exact ⟨rfl, rfl⟩
  by_cases h4 : y = 4
  · subst h4
    go_enter Tryz.func41, Tryz.ntmps41
    go_wp2
    go_ret
    exact ⟨rfl, rfl⟩
  · have HN : Hid (nameS y = ⟨#[111, 116, 104, 101, 114]⟩) := Lib.hid (by unfold nameS; rw [if_neg h1, if_neg h2, if_neg h3, if_neg h4])
    go_enter Tryz.func41, Tryz.ntmps41
    go_wp2
    go_ret
    exact ⟨by rw [HN.out]; rfl, rfl⟩
/-- the text of a judgement -/
def lineL (o : Bool) (y a b : Int) : List UInt8 := if o then [111, 107] else (nameS y).data.toList ++ 32 :: (Lib.itoa a ++ 32 :: Lib.itoa b)
def TextIsL (w : World) (l : List UInt8) (e : Ending) (w' : World) : Prop := e = .returned (.string ⟨l.toArray⟩) ∧ Below w.heap.size w w'
theorem infoByte : (Tryz.prog.info? 5).map (fun i => (i.zero, i.size, i.bytes)) = some (some (.int .u8 0), 1, 1) := by kernel_rfl
/-- a buffer with room -/
def bufO : Obj := .cells (madeCells (Value.int .u8 0).cells (47 * 1)) 5
theorem make_buf (w : World) : (Instr.makeSlice 71 (.int .i64 0) (.int .i64 47)).run Tryz.prog w = .ok (.slice (some ⟨w.heap.size, 0, none⟩) 0 47) (w.alloc bufO) := by
  obtain ⟨i0, hi, hz0, hz1, hz2⟩ := info_parts infoByte
  have := run_make (P := Tryz.prog) w 71 5 i0 (.int .u8 0) Tryz.underlying71 hi hz0 .i64 .i64 0 47 (by omega) (by omega) (by rw [hz2]; omega) (by omega)
  rw [this, hz1]
  rfl
theorem own_buf (w : World) (base : Nat) (hb : base ≤ w.heap.size) : (w.alloc bufO).ownsRow base 5 1 (.slice (some ⟨w.heap.size, 0, none⟩) 0 47) 0 [] := by
  refine ⟨rfl, .inr ⟨w.heap.size, 47, _, rfl, hb, heap_alloc_new w _, Nat.zero_le _, by unfold maxLen; omega, ?_, by simp⟩⟩
  simp [madeCells]
/-- append of a string, as a step of a region that draws -/
theorem step_append_str {ops : Array Oper} {o : Oper} {a : Act} {w : World} {K : Act → World → Prop} {Q : Exit → Act → World → Prop} {E : Prop} (hgd : o.guard = none) (s x : Operand)
    (ho : o.op = .call { callee := .builtin .append, args := #[s, x], argTypes := #[71, 9] }) (base : Nat) (v : Value) (n : Nat) (xs : List Value) (hs : a.eval s = v) (hown : w.ownsRow base 5 1 v n xs)
    (r : ByteArray) (hx : a.eval x = .string r) (hn : n + r.size ≤ 1000) (hbase : base ≤ w.heap.size)
    (h : ∀ v' w', w'.ownsRow base 5 1 v' (n + r.size) (xs ++ Lib.strCells r) → w.grownBy w' v.ownBlock → K (a.put o.dst v') w') : if Region.wanted o (yielded ops a.tmps) = true then Oper.wp Tryz.prog o a w K Q else E := by
  have hw : Region.wanted o (yielded ops a.tmps) = true := by simp [Region.wanted, hgd]
  rw [if_pos hw]
  obtain ⟨i0, hi, hz0, hz1, hz2⟩ := info_parts infoByte
  obtain ⟨v', w', hr, h2, h3, h4⟩ := Lib.run_append_own_string (P := Tryz.prog) w base 71 9 o.type 5 i0 Tryz.underlying71 Tryz.underlying9 hi hz0 hz1 hz2 v n xs hown r (by unfold maxLen; omega) (by omega) hbase
  unfold Oper.wp execOp
  simp only [ho, resolve, invoke, builtin, Sem.run_bind, Sem.run_pure, Result.andThen_ok, List.map_toArray, List.map_cons, List.map_nil, hs, hx, hr]
  exact h v' w' h2 h3
theorem lineL_no (y a b : Int) : lineL false y a b = (nameS y).data.toList ++ 32 :: (Lib.itoa a ++ 32 :: Lib.itoa b) := rfl
theorem TabP.low {w W : World} (h : TabP w) (hb : Below w.heap.size w W) : Lib.TabBelow Tryz.prog (w.heap.size + 1) W "internal/strconv.uint64pow10" .u64 Lib.pow10Tab := fun w' h' => h w' (hb.trans (h'.mono (by omega)))
/-- a buffer under way, the judgement in its box -/
structure Ln (y a b : Int) (l : List UInt8) (v : Value) (w W : World) : Prop where
  jb : JBox ⟨false, y, a, b⟩ w.heap.size W
  own : W.ownsRow (w.heap.size + 1) 5 1 v l.length (Lib.byteCells l)
  bel : Below w.heap.size w W
theorem Ln.on {y a b : Int} {l : List UInt8} {v : Value} {w W W2 : World} (h : Ln y a b l v w W) (hb : Below W.heap.size W W2) : Ln y a b l v w W2 := ⟨h.jb.on hb, own_on h.own hb, h.bel.trans (hb.mono h.bel.size)⟩
theorem Ln.low {y a b : Int} {l : List UInt8} {v : Value} {w W : World} (h : Ln y a b l v w W) : w.heap.size + 1 ≤ W.heap.size := h.jb.lt
theorem Ln.grown {y a b : Int} {l l2 : List UInt8} {v v2 : Value} {w W W2 : World} (h : Ln y a b l v w W) (hg : W.grownBy W2 v.ownBlock) (ho : W2.ownsRow (w.heap.size + 1) 5 1 v2 l2.length (Lib.byteCells l2)) : Ln y a b l2 v2 w W2 :=
  ⟨(hg.block _ h.jb.lt (fun hh => by have := (h.own.lt _ hh.symm).1; omega)).trans h.jb, ho, h.bel.grown hg h.bel.size (fun k hk => by have := (h.own.lt k hk).1; omega)⟩
theorem Ln.put {y a b : Int} {l l2 : List UInt8} {v v2 : Value} {w W W2 : World} (h : Ln y a b l v w W) (hb : Below (w.heap.size + 1) W W2) (ho : W2.ownsRow (w.heap.size + 1) 5 1 v2 l2.length (Lib.byteCells l2)) : Ln y a b l2 v2 w W2 :=
  ⟨(hb.block _ (by omega)).trans h.jb, ho, h.bel.trans (hb.mono (by omega))⟩
theorem Ln.facts {y a b : Int} {l : List UInt8} {v : Value} {w W : World} (h : Ln y a b l v w W) : W.cell? ⟨w.heap.size, 2, none⟩ = some (.int .i64 a) ∧ W.cell? ⟨w.heap.size, 3, none⟩ = some (.int .i64 b) := h.jb.facts.2.2
/-- append of a blank -/
theorem wpList_append_sp {ops : Array Oper} {rest : List Oper} {o : Oper} {c : Act} {y a b : Int} {l : List UInt8} {v : Value} {w W : World} {Q : Exit → Act → World → Prop} (hgd : o.guard = none) (s x : Operand)
    (ho : o.op = .call { callee := .builtin .append, args := #[s, x], argTypes := #[71, 71] }) (h : Ln y a b l v w W) (hs : c.eval s = v) (g : Nat) (hx : c.eval x = .slice (some ⟨g, 0, none⟩) 1 1) (hg : W.heap[g]? = some (.cells #[.int .u8 32] 5 (0, 0))) (hn : l.length ≤ 1000)
    (hK : ∀ v' W', Ln y a b (l ++ [32]) v' w W' → wpList Tryz.prog ops Q rest (c.put o.dst v') W') : wpList Tryz.prog ops Q (o :: rest) c W := by
  obtain ⟨i0, hi, hz0, hz1, hz2⟩ := info_parts infoByte
  refine wpList_append_own W hgd s x 71 ho (w.heap.size + 1) 5 i0 (.int .u8 0) 1 1 Tryz.underlying71 hi hz0 hz1 hz2 (by kernel_rfl) (by decide) v l.length (Lib.byteCells l) hs h.own ⟨g, 0, none⟩ 1 1 [.int .u8 32] hx rfl ?_ ?_ (by unfold maxLen; omega) (by omega) h.low (fun v' w' h5 h6 _ => hK v' w' (h.grown h6 ?_))
  · intro j u hu
    rw [Addr.add_lit, Nat.zero_add, cell_of_row W g j _ _ _ hg]
    simpa using hu
  · intro u hu
    simp only [List.mem_cons, List.not_mem_nil, or_false] at hu
    subst hu
    rfl
  · have e : Lib.byteCells (l ++ [32]) = Lib.byteCells l ++ [.int .u8 32] := by simp [Lib.byteCells]
    rw [e, List.length_append]
    exact h5
/-- and of a number -/
theorem appendInt_ln {y a b : Int} {l : List UInt8} {v : Value} {w W : World} (h : Ln y a b l v w W) (hT : TabP w) (x : Int) (hx : -9223372036854775808 ≤ x ∧ x ≤ 9223372036854775807) (hn : l.length ≤ 1000) : Calls Tryz.prog 42 #[v, .int .i64 x, .int .i64 10] W fun e W' => ∃ v', e = .returned v' ∧ Ln y a b (l ++ Lib.itoa x) v' w W' := by
  refine (Tryz.strconv_AppendInt_10 (w.heap.size + 1) l.length x hx.1 hx.2 v (Lib.byteCells l) W h.own h.low (by omega) (hT.low h.bel)).mono ?_
  rintro e W' ⟨v', rfl, ho, hb, -⟩
  refine ⟨v', rfl, h.put hb ?_⟩
  have e : Lib.byteCells (l ++ Lib.itoa x) = Lib.byteCells l ++ Lib.byteCells (Lib.itoa x) := by simp [Lib.byteCells]
  rw [e, List.length_append]
  exact ho
set_option maxRecDepth 100000 in
set_option maxHeartbeats 8000000 in
theorem Line_any (o : Bool) (y a b : Int) (w : World) (hT : TabP w) (ha : -9223372036854775808 ≤ a ∧ a ≤ 9223372036854775807) (hb : -9223372036854775808 ≤ b ∧ b ≤ 9223372036854775807) : Calls Tryz.prog 14 #[.agg #[.bool o, .int .i64 y, .int .i64 a, .int .i64 b]] w fun e w' => TextIsL w (lineL o y a b) e w' := by
  have J0 : Hid (JBox ⟨o, y, a, b⟩ w.heap.size (w.alloc (.cells #[.bool o, .int .i64 y, .int .i64 a, .int .i64 b] 37))) := Lib.hid Array.getElem?_push_size
  have B0 := Lib.hid (box_below w (.cells #[.bool o, .int .i64 y, .int .i64 a, .int .i64 b] 37))
  cases o with
  | true =>
    obtain ⟨u0, u1, u2, u3⟩ := J0.out.facts
    go_enter Tryz.func14, Tryz.ntmps14
    go_wp2
    go_ret
    exact ⟨rfl, B0.out⟩
  | false =>
    obtain ⟨r, hr⟩ : ∃ r, Hid (nameS y = r) := ⟨_, Lib.hid rfl⟩
    have KN := Lib.hid (fun w0 => name_any y r hr.out w0)
    have hr5 : Hid (r.size ≤ 5) := Lib.hid (by rw [← hr.out]; exact nameS_le y)
    have HA := Lib.hid ha
    have HB := Lib.hid hb
    have HT := Lib.hid hT
    have HL : Hid (lineL false y a b = r.data.toList ++ 32 :: (Lib.itoa a ++ 32 :: Lib.itoa b)) := Lib.hid (by rw [lineL_no, hr.out])
    clear ha hb hT hr
    obtain ⟨u0, u1, u2, u3⟩ := J0.out.facts
    go_enter Tryz.func14, Tryz.ntmps14
    go_upto_region 3 with fail
    have mk := make_buf
    obtain ⟨W0, hW0⟩ : ∃ W, w.alloc (.cells #[.bool false, .int .i64 y, .int .i64 a, .int .i64 b] 37) = W := ⟨_, rfl⟩
    have hz : W0.heap.size = w.heap.size + 1 := by rw [← hW0]; simp
    rw [hW0] at J0 B0 u0 u1 u2 u3 ⊢
    clear hW0
    have JD := Lib.hid (J0.out.on (Below.refl _ _).drew)
    have JE := Lib.hid (J0.out.on (box_below W0 bufO))
    have JF := Lib.hid (JE.out.on (Below.refl _ _).drew)
    have OB := Lib.hid (own_on (own_buf W0 (w.heap.size + 1) (by omega)) (Below.refl _ _).drew)
    rw [hz] at OB
    have BF := Lib.hid (B0.out.trans (((box_below W0 bufO).trans (Below.refl _ _).drew).mono B0.out.size))
    go_cut [3] (fun t3 wx => ∃ v3, t3 = v3 ∧ Hid (Ln y a b r.data.toList v3 w wx))
    case first => as_aux_lemma =>
      go_region_held3 (fun w' => w'.cell? ⟨w.heap.size, 1, none⟩ = some (.int .i64 y)) (first | exact JD.out.facts.2.1 | exact JE.out.facts.2.1 | exact JF.out.facts.2.1 | exact L2.out.jb.facts.2.1)
        ((first
          | (go_at_call 41; (with_reducible refine (KN.out _).mono ?_); rintro e' w1 ⟨rfl, rfl⟩)
          | (refine step_append_str rfl (.tmp 8) (.tmp 11) rfl (w.heap.size + 1) _ 0 [] rfl OB.out r rfl (by have := hr5.out; omega) (by simp only [World.size_drew, World.size_alloc]; omega) ?_; intro v2 w2 ho hg; have L2 : Hid (Ln y a b r.data.toList v2 w w2) := Lib.hid ⟨(hg.block _ JF.out.lt (fun hh => by have := (OB.out.lt _ hh.symm).1; omega)).trans JF.out, (by rw [Nat.zero_add, List.nil_append] at ho; exact ho), BF.out.grown hg BF.out.size (fun k hk => by have := (OB.out.lt k hk).1; omega)⟩; clear ho hg)))
      all_goals
        go_wp2_with fail
        go_meet
        exact ⟨_, rfl, L2⟩
    case rest =>
      obtain ⟨v3, rfl, L3⟩ := hcut
      clear JD JE JF OB BF mk hz
      obtain ⟨f2, f3⟩ := L3.out.facts
      have hix0 : ∀ W : World, (Instr.index 53 (.agg #[.int .i64 a, .int .i64 b]) (.int .i64 0)).run Tryz.prog W = .ok (.int .i64 a) W := fun W => by kernel_rfl
      have hix1 : ∀ W : World, (Instr.index 53 (.agg #[.int .i64 a, .int .i64 b]) (.int .i64 1)).run Tryz.prog W = .ok (.int .i64 b) W := fun W => by kernel_rfl
      have z3 : Hid (r.data.toList.length ≤ 5) := Lib.hid (by have h := hr5.out; rw [Array.length_toList]; exact h)
      have za : Hid ((Lib.itoa a).length ≤ 21) := Lib.hid (by have := Lib.itoa_length_le a HA.out.1 HA.out.2; omega)
      obtain ⟨l3, hl3⟩ : ∃ l, r.data.toList = l := ⟨_, rfl⟩
      rw [hl3] at L3 z3 HL
      clear hl3
      go_wp2
      refine wp_loop_rounds 3 ?_
      rw [rounds_succ]
      go_wp2_with (first
        | (at_builtin; refine wpList_append_sp rfl (.tmp 21) (.tmp 22) rfl (L3.out.on (box_below _ (.cells #[.int .u8 32] 5))) rfl _ rfl Array.getElem?_push_size (by have := z3.out; omega) ?_; intro v4 w4 h4; have L4 := Lib.hid h4; clear h4)
        | (go_at_call 42; (with_reducible refine (appendInt_ln L4.out HT.out a HA.out (by have := z3.out; simp only [List.length_append, List.length_cons, List.length_nil]; omega)).mono ?_); rintro e5 w5 ⟨v5, rfl, h5⟩; have L5 := Lib.hid h5; clear h5))
      rw [rounds_succ]
      go_wp2_with (first
        | (at_builtin; refine wpList_append_sp rfl (.tmp 21) (.tmp 22) rfl (L5.out.on (box_below _ (.cells #[.int .u8 32] 5))) rfl _ rfl Array.getElem?_push_size (by have := z3.out; have := za.out; simp only [List.length_append, List.length_cons, List.length_nil]; omega) ?_; intro v6 w6 h6; have L6 := Lib.hid h6; clear h6)
        | (go_at_call 42; (with_reducible refine (appendInt_ln L6.out HT.out b HB.out (by have := z3.out; have := za.out; simp only [List.length_append, List.length_cons, List.length_nil]; omega)).mono ?_); rintro e7 w7 ⟨v7, rfl, h7⟩; have L7 := Lib.hid h7; clear h7))
      rw [rounds_succ]
      go_upto_region 9 with fail
      obtain ⟨l7, hl7⟩ : ∃ l, l3 ++ [32] ++ Lib.itoa a ++ [32] ++ Lib.itoa b = l := ⟨_, rfl⟩
      have hpos : l7.length ≠ 0 := by rw [← hl7]; simp
      have HL7 : Hid (lineL false y a b = l7) := Lib.hid (by rw [HL.out, ← hl7]; simp)
      rw [hl7] at L7
      clear hl7
      rcases L7.out.own.2 with ⟨_, h0⟩ | ⟨g, cap, cur, rfl, _⟩
      · exact absurd h0 hpos
      have hcv := run_convert_bytes_back (P := Tryz.prog) w7 71 9 5 ⟨g, 0, none⟩ cap l7 Tryz.underlying71 Tryz.underlying5 Tryz.underlying9 (fun j hj => L7.out.own.cells (g := g) rfl j _ (by simp [Lib.byteCells, hj]))
      clear hpos
      go_wp2
      go_ret
      exact ⟨by rw [HL7.out]; rfl, L7.out.bel⟩
end Go.Proofs.YtcbfokbdiefdeaaGreatDoor
namespace Go.Proofs.YtcbfokbdiefdeaaGreatDoor
open Go.ChangeShapes Go.WideShapes Go.ChangeAt Go.RowKit

theorem ownD : ownKnob Tryz.prog.godebug = none := by kernel_rfl
theorem gPow : Tryz.prog.globalNamed "internal/strconv.uint64pow10" = some 0 := by kernel_rfl
theorem tPow : (Tryz.prog.globals[0]?).map (·.type) = some 159 := by kernel_rfl
theorem powData : (Rows.laid_internal_strconv_uint64pow10 : DataW Unit) = Lib.tabData .u64 Lib.pow10Tab := by kernel_rfl
abbrev laid1 : List (String × DataW Unit) := [("math/bits.deBruijn32tab", Rows.laid_math_bits_deBruijn32tab), ("math/bits.deBruijn64tab", Rows.laid_math_bits_deBruijn64tab), ("internal/strconv.uint64pow10", Rows.laid_internal_strconv_uint64pow10)]
theorem tabs_of_laid {W : World} (h : laidMetH Tryz.prog laid1 W) : TabP W := by
  rw [MakeChecks.laidMetH_plain _ _ _ (by kernel_rfl)] at h
  have h1 := laidMet.tail h
  have h2 := laidMet.tail h1
  rw [powData] at h2
  exact Lib.tabBelow_of_tabIs (Lib.tabIs_of_head gPow tPow Tryz.underlying159 Tryz.underlying28 (by kernel_rfl) (by kernel_rfl) h2)
theorem door_met (os : Os) (args : Array Value) : laidMetH Tryz.prog laid1 ((World.doorLaid Tryz.prog 400 os).forCall (fun _ _ => 0) ⟨#[], args, []⟩).memory :=
  laidMetH_of_parts3 (fuel := 8) (laidMet_of_run' 8 (by kernel_rfl) (by kernel_rfl)) (by kernel_rfl) (by kernel_rfl)
end Go.Proofs.YtcbfokbdiefdeaaGreatDoor
