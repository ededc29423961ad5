/-
  Proved here: the package insn's Read answers the instruction whose text it was, to the byte, or none and an error, and writes nothing that was there. Conditions: at most 10000 bytes; the tables and errors of Go's library read as it lays them.
-/
import Derived.Test.YtplneijbhmhmoaaGreatDoorInsnRead
namespace Go.Proofs.YtplneijbhmhmoaaGreatDoor
open Go.RowKit

def I64 (x : Int) : Prop := -9223372036854775808 ≤ x ∧ x ≤ 9223372036854775807
theorem numV_bounds (s : List UInt8) : I64 (numV s) := by
  unfold numV
  cases h : Lib.parseIntB 64 (digitsR s) with
  | ok v =>
    have hb := Lib.parseIntB_bounds h
    unfold I64; simp only at hb ⊢; omega
  | _ => unfold I64; simp only; omega
theorem fieldR_imm (st : Ins × List UInt8) (c : UInt8) (h : I64 st.1.imm) : I64 (fieldR st c).1.imm := by
  have hn := numV_bounds st.2
  unfold fieldR
  split
  · exact h
  split
  · exact h
  split
  · exact h
  split
  · exact hn
  split
  · exact h
  split
  · exact h
  split
  · exact h
  · exact h
theorem readL_imm (s : List UInt8) : I64 (readL s).imm := by
  have hf : ∀ (cs : List UInt8) (st : Ins × List UInt8), I64 st.1.imm → I64 (cs.foldl fieldR st).1.imm := by
    intro cs
    induction cs with
    | nil => intro st h; exact h
    | cons c cs ih => intro st h; exact ih _ (fieldR_imm st c h)
  unfold readL
  exact hf _ _ (by unfold I64 Ins.none; simp only; omega)
/-- is it the text of what was read? -/
def goodL (s : List UInt8) : Bool := (readL s).ok && (textL (readL s) == s)
def Ins.zero : Ins := Ins.none 0
/-- what Read answers -/
def readI (s : List UInt8) : Ins := if goodL s then readL s else Ins.zero
def readE (s : List UInt8) : Int := if goodL s then 0 else 4
attribute [local irreducible] opS readL
theorem Text_i (i : Ins) (hi : I64 i.imm) (b : Bool) (hb : Hid (i.ok = b)) (T : ByteArray) (hT : Hid (T.data.toList = toldL i)) (w : World) (ht : Tab w) :
    Calls Tryz.prog 14 #[i.V] w fun e w' => e = .returned (.tuple #[.string T, .int .i64 (errI b)]) ∧ Below w.heap.size w w' := by
  have e : T = ⟨(toldL i).toArray⟩ := by rw [← hT.out]
  rw [e, ← hb.out]
  exact Text_any i hi.1 hi.2 w ht
theorem Text_i0 (i : Ins) (hi : I64 i.imm) (hb : Hid (i.ok = true)) (T : ByteArray) (hT : Hid (T.data.toList = toldL i)) (w : World) (ht : Tab w) :
    Calls Tryz.prog 14 #[i.V] w fun e w' => e = .returned (.tuple #[.string T, .int .i64 0]) ∧ Below w.heap.size w w' := Text_i i hi true hb T hT w ht
theorem Text_i2 (i : Ins) (hi : I64 i.imm) (hb : Hid (i.ok = false)) (w : World) (ht : Tab w) :
    Calls Tryz.prog 14 #[i.V] w fun e w' => e = .returned (.tuple #[.string ⟨#[]⟩, .int .i64 2]) ∧ Below w.heap.size w w' :=
  Text_i i hi false hb ⟨#[]⟩ (Lib.hid (by unfold toldL; rw [hb.out]; rfl)) w ht
theorem insn_x (B r : Nat) (s : List UInt8) (x : Ins) (hx : Hid (readL s = x)) (w : World) (h : Rd r s w) (hl : s.length ≤ 10000) (hB : B ≤ r) (he : ErrsB B w) :
    Calls Tryz.prog 25 #[.pointer (some ⟨r, 0, none⟩)] w fun e w' => e = .returned x.V ∧ Oth r w w' := by
  rw [← hx.out]; exact insn_any B r s w h hl hB he
theorem rd_new (S : ByteArray) (w : World) : Rd w.heap.size S.data.toList (w.alloc (.cells #[.string S] 42)) := by
  have e : (⟨S.data.toList.toArray⟩ : ByteArray) = S := by cases S; simp
  unfold Rd; rw [e]; exact heap_new _ _
/-- what every call here asks of the library's tables and errors, and goes on asking -/
def Lay (B : Nat) (w : World) : Prop := Lib.TabBelow Tryz.prog B w "internal/strconv.uint64pow10" .u64 Lib.pow10Tab ∧ ErrsB B w
theorem Lay.on {B : Nat} {w w' : World} (h : Lay B w) (hb : Below B w w') : Lay B w' := ⟨fun w2 h2 => h.1 w2 (hb.trans h2), fun w2 h2 => h.2 w2 (hb.trans h2)⟩
theorem Lay.tab {B : Nat} {w w' : World} (h : Lay B w) (hb : Below B w w') : Tab w' := h.1 w' hb
theorem Lay.errs {B : Nat} {w w' : World} (h : Lay B w) (hb : Below B w w') : ErrsB B w' := (h.on hb).2
theorem below_setNew {B : Nat} {w w' : World} (h : Below B w w') (L o : Nat) (v : Value) (hL : B ≤ L) : Below B w (w'.setCell ⟨L, o, none⟩ v) := h.setCell (p := ⟨L, o, none⟩) hL v
theorem below_stored {B : Nat} {w w' : World} (h : Below B w w') (n : Nat) (hn : B ≤ n) (i : Ins) : Below B w (stored w' n i) :=
  below_setNew (below_setNew (below_setNew (below_setNew (below_setNew (below_setNew (below_setNew (below_setNew (below_setNew h n 0 _ hn) n 1 _ hn) n 2 _ hn) n 3 _ hn) n 4 _ hn) n 5 _ hn) n 6 _ hn) n 7 _ hn) n 8 _ hn
theorem results_cell_tmp {P : Program} {fn : Func} {tmps : Array Value} {t u : Tmp} {ty : TypeId} {ad : Addr} {v : Value} {w : World} (h : fn.results = #[.cell t ty, .tmp u]) (hb : tmps[t]?.getD undef = .pointer (some ad)) (hl : (loadVar ty ad).run P w = .ok v w) :
    (results fn tmps).run P w = .ok (.tuple #[v, tmps[u]?.getD undef]) w := by
  simp [results, h, hb, asAddr, hl]
theorem ins_new_at (i : Ins) (w : World) : InsAt i w.heap.size (w.alloc (.cells (insCells i) 23)) := heap_new _ _
set_option maxRecDepth 100000 in
set_option maxHeartbeats 4000000 in
theorem Read_no (S : ByteArray) (x : Ins) (hx : readL S.data.toList = x) (hok : x.ok = false) (hs : S.size ≤ 10000) (w : World) (hL : Lay w.heap.size w) :
    Calls Tryz.prog 5 #[.string S] w fun e w' => e = .returned (.tuple #[Ins.zero.V, .int .i64 4]) ∧ Below w.heap.size w w' := by
  have HX := Lib.hid hx
  have HO := Lib.hid hok
  have HI := Lib.hid (show I64 x.imm by rw [← hx]; exact readL_imm _)
  have HL := Lib.hid hL
  have HN0 := Lib.hid (ins_none_new 0 w)
  have HLS := Lib.hid (show S.data.toList.length ≤ 10000 by rw [← Lib.size_eq]; exact hs)
  clear hx hok hL
  have HB0 := Lib.hid ((Below.refl w.heap.size w).alloc (Nat.le_refl _) (.cells #[.int .i64 0, .int .i64 0, .int .i64 0, .int .i64 0, .int .i64 0, .bool false, .bool false, .int .i64 0, .int .i64 0] 23))
  have HB1 := Lib.hid (HB0.out.alloc (by simp) (.cells #[.string S] 42))
  have HR := Lib.hid (rd_new S (w.alloc (.cells #[.int .i64 0, .int .i64 0, .int .i64 0, .int .i64 0, .int .i64 0, .bool false, .bool false, .int .i64 0, .int .i64 0] 23)))
  have HR2 : Hid (Rd (w.heap.size + 1) S.data.toList ((w.alloc (.cells #[.int .i64 0, .int .i64 0, .int .i64 0, .int .i64 0, .int .i64 0, .bool false, .bool false, .int .i64 0, .int .i64 0] 23)).alloc (.cells #[.string S] 42))) := Lib.hid (by have := HR.out; simpa using this)
  have HN1 := Lib.hid (InsAt.alloc HN0.out (.cells #[.string S] 42))
  go_enter Tryz.func5, Tryz.ntmps5
  go_wp2_with (go_at_call 25; (with_reducible refine (insn_x w.heap.size (w.heap.size + 1) S.data.toList x HX _ HR2.out HLS.out (by omega) (Lay.errs HL.out HB1.out)).mono ?_); rintro e w1 ⟨rfl, hb1⟩; have HN2 := Lib.hid (InsAt.oth HN1.out hb1 (by omega)); have HB2 := Lib.hid (HB1.out.trans (hb1.below w.heap.size (by omega) (by simp; omega))); clear hb1; have HB3 := Lib.hid (HB2.out.alloc HB2.out.size (.cells (insCells x) 23)); have HN3 := Lib.hid (InsAt.alloc HN2.out (.cells (insCells x) 23)))
  go_wp2_with (go_at_call 14; (with_reducible refine (Text_i2 x HI.out HO _ (Lay.tab HL.out HB3.out)).mono ?_); rintro e w2 ⟨rfl, hb2⟩; have HN4 := Lib.hid (InsAt.below HN3.out hb2 (by have := (InsAt.facts HN2.out).1; simp; omega)); have HB4 := Lib.hid (HB3.out.trans (hb2.mono HB3.out.size)); have HX4 := Lib.hid (InsAt.below (ins_new_at x w1) hb2 (by simp)); clear hb2; obtain ⟨hz4, d0, d1, d2, d3, d4, d5, d6, d7, d8⟩ := InsAt.facts HN4.out; obtain ⟨-, c0, c1, c2, c3, c4, c5, c6, c7, c8⟩ := InsAt.facts HX4.out; have f0 := InsAt.free HN4.out 0; have f1 := InsAt.free HN4.out 1; have f2 := InsAt.free HN4.out 2; have f3 := InsAt.free HN4.out 3; have f4 := InsAt.free HN4.out 4; have f5 := InsAt.free HN4.out 5; have f6 := InsAt.free HN4.out 6; have f7 := InsAt.free HN4.out 7; have f8 := InsAt.free HN4.out 8)
  exact bodyPost_ret (results_cell_tmp rfl rfl (ins_load (ins_stored HN4.out Ins.zero))) rfl ⟨rfl, below_stored HB4.out w.heap.size (Nat.le_refl _) Ins.zero⟩
set_option maxRecDepth 100000 in
set_option maxHeartbeats 4000000 in
theorem Read_yes (S T : ByteArray) (x : Ins) (hx : readL S.data.toList = x) (hok : x.ok = true) (hT : T.data.toList = toldL x) (hq : (T.toList == S.toList) = true) (hs : S.size ≤ 10000) (w : World) (hL : Lay w.heap.size w) :
    Calls Tryz.prog 5 #[.string S] w fun e w' => e = .returned (.tuple #[x.V, .int .i64 0]) ∧ Below w.heap.size w w' := by
  have HX := Lib.hid hx
  have HO := Lib.hid hok
  have HI := Lib.hid (show I64 x.imm by rw [← hx]; exact readL_imm _)
  have HL := Lib.hid hL
  have HN0 := Lib.hid (ins_none_new 0 w)
  have HLS := Lib.hid (show S.data.toList.length ≤ 10000 by rw [← Lib.size_eq]; exact hs)
  have HTT := Lib.hid hT
  clear hx hok hL hT
  have HB0 := Lib.hid ((Below.refl w.heap.size w).alloc (Nat.le_refl _) (.cells #[.int .i64 0, .int .i64 0, .int .i64 0, .int .i64 0, .int .i64 0, .bool false, .bool false, .int .i64 0, .int .i64 0] 23))
  have HB1 := Lib.hid (HB0.out.alloc (by simp) (.cells #[.string S] 42))
  have HR := Lib.hid (rd_new S (w.alloc (.cells #[.int .i64 0, .int .i64 0, .int .i64 0, .int .i64 0, .int .i64 0, .bool false, .bool false, .int .i64 0, .int .i64 0] 23)))
  have HR2 : Hid (Rd (w.heap.size + 1) S.data.toList ((w.alloc (.cells #[.int .i64 0, .int .i64 0, .int .i64 0, .int .i64 0, .int .i64 0, .bool false, .bool false, .int .i64 0, .int .i64 0] 23)).alloc (.cells #[.string S] 42))) := Lib.hid (by have := HR.out; simpa using this)
  have HN1 := Lib.hid (InsAt.alloc HN0.out (.cells #[.string S] 42))
  go_enter Tryz.func5, Tryz.ntmps5
  go_wp2_with (go_at_call 25; (with_reducible refine (insn_x w.heap.size (w.heap.size + 1) S.data.toList x HX _ HR2.out HLS.out (by omega) (Lay.errs HL.out HB1.out)).mono ?_); rintro e w1 ⟨rfl, hb1⟩; have HN2 := Lib.hid (InsAt.oth HN1.out hb1 (by omega)); have HB2 := Lib.hid (HB1.out.trans (hb1.below w.heap.size (by omega) (by simp; omega))); clear hb1; have HB3 := Lib.hid (HB2.out.alloc HB2.out.size (.cells (insCells x) 23)); have HN3 := Lib.hid (InsAt.alloc HN2.out (.cells (insCells x) 23)))
  go_wp2_with (go_at_call 14; (with_reducible refine (Text_i0 x HI.out HO T HTT _ (Lay.tab HL.out HB3.out)).mono ?_); rintro e w2 ⟨rfl, hb2⟩; have HN4 := Lib.hid (InsAt.below HN3.out hb2 (by have := (InsAt.facts HN2.out).1; simp; omega)); have HB4 := Lib.hid (HB3.out.trans (hb2.mono HB3.out.size)); have HX4 := Lib.hid (InsAt.below (ins_new_at x w1) hb2 (by simp)); clear hb2; obtain ⟨hz4, d0, d1, d2, d3, d4, d5, d6, d7, d8⟩ := InsAt.facts HN4.out; obtain ⟨-, c0, c1, c2, c3, c4, c5, c6, c7, c8⟩ := InsAt.facts HX4.out; have f0 := InsAt.free HN4.out 0; have f1 := InsAt.free HN4.out 1; have f2 := InsAt.free HN4.out 2; have f3 := InsAt.free HN4.out 3; have f4 := InsAt.free HN4.out 4; have f5 := InsAt.free HN4.out 5; have f6 := InsAt.free HN4.out 6; have f7 := InsAt.free HN4.out 7; have f8 := InsAt.free HN4.out 8)
  exact bodyPost_ret (results_cell_tmp rfl rfl (ins_load (ins_stored HN4.out x))) rfl ⟨rfl, below_stored HB4.out w.heap.size (Nat.le_refl _) x⟩
set_option maxRecDepth 100000 in
set_option maxHeartbeats 4000000 in
theorem Read_part (S T : ByteArray) (x : Ins) (hx : readL S.data.toList = x) (hok : x.ok = true) (hT : T.data.toList = toldL x) (hq : (T.toList == S.toList) = false) (hs : S.size ≤ 10000) (w : World) (hL : Lay w.heap.size w) :
    Calls Tryz.prog 5 #[.string S] w fun e w' => e = .returned (.tuple #[Ins.zero.V, .int .i64 4]) ∧ Below w.heap.size w w' := by
  have HX := Lib.hid hx
  have HO := Lib.hid hok
  have HI := Lib.hid (show I64 x.imm by rw [← hx]; exact readL_imm _)
  have HL := Lib.hid hL
  have HN0 := Lib.hid (ins_none_new 0 w)
  have HLS := Lib.hid (show S.data.toList.length ≤ 10000 by rw [← Lib.size_eq]; exact hs)
  have HTT := Lib.hid hT
  clear hx hok hL hT
  have HB0 := Lib.hid ((Below.refl w.heap.size w).alloc (Nat.le_refl _) (.cells #[.int .i64 0, .int .i64 0, .int .i64 0, .int .i64 0, .int .i64 0, .bool false, .bool false, .int .i64 0, .int .i64 0] 23))
  have HB1 := Lib.hid (HB0.out.alloc (by simp) (.cells #[.string S] 42))
  have HR := Lib.hid (rd_new S (w.alloc (.cells #[.int .i64 0, .int .i64 0, .int .i64 0, .int .i64 0, .int .i64 0, .bool false, .bool false, .int .i64 0, .int .i64 0] 23)))
  have HR2 : Hid (Rd (w.heap.size + 1) S.data.toList ((w.alloc (.cells #[.int .i64 0, .int .i64 0, .int .i64 0, .int .i64 0, .int .i64 0, .bool false, .bool false, .int .i64 0, .int .i64 0] 23)).alloc (.cells #[.string S] 42))) := Lib.hid (by have := HR.out; simpa using this)
  have HN1 := Lib.hid (InsAt.alloc HN0.out (.cells #[.string S] 42))
  go_enter Tryz.func5, Tryz.ntmps5
  go_wp2_with (go_at_call 25; (with_reducible refine (insn_x w.heap.size (w.heap.size + 1) S.data.toList x HX _ HR2.out HLS.out (by omega) (Lay.errs HL.out HB1.out)).mono ?_); rintro e w1 ⟨rfl, hb1⟩; have HN2 := Lib.hid (InsAt.oth HN1.out hb1 (by omega)); have HB2 := Lib.hid (HB1.out.trans (hb1.below w.heap.size (by omega) (by simp; omega))); clear hb1; have HB3 := Lib.hid (HB2.out.alloc HB2.out.size (.cells (insCells x) 23)); have HN3 := Lib.hid (InsAt.alloc HN2.out (.cells (insCells x) 23)))
  go_wp2_with (go_at_call 14; (with_reducible refine (Text_i0 x HI.out HO T HTT _ (Lay.tab HL.out HB3.out)).mono ?_); rintro e w2 ⟨rfl, hb2⟩; have HN4 := Lib.hid (InsAt.below HN3.out hb2 (by have := (InsAt.facts HN2.out).1; simp; omega)); have HB4 := Lib.hid (HB3.out.trans (hb2.mono HB3.out.size)); have HX4 := Lib.hid (InsAt.below (ins_new_at x w1) hb2 (by simp)); clear hb2; obtain ⟨hz4, d0, d1, d2, d3, d4, d5, d6, d7, d8⟩ := InsAt.facts HN4.out; obtain ⟨-, c0, c1, c2, c3, c4, c5, c6, c7, c8⟩ := InsAt.facts HX4.out; have f0 := InsAt.free HN4.out 0; have f1 := InsAt.free HN4.out 1; have f2 := InsAt.free HN4.out 2; have f3 := InsAt.free HN4.out 3; have f4 := InsAt.free HN4.out 4; have f5 := InsAt.free HN4.out 5; have f6 := InsAt.free HN4.out 6; have f7 := InsAt.free HN4.out 7; have f8 := InsAt.free HN4.out 8)
  exact bodyPost_ret (results_cell_tmp rfl rfl (ins_load (ins_stored HN4.out Ins.zero))) rfl ⟨rfl, below_stored HB4.out w.heap.size (Nat.le_refl _) Ins.zero⟩
theorem Read_any (S : ByteArray) (hs : S.size ≤ 10000) (w : World) (hL : Lay w.heap.size w) :
    Calls Tryz.prog 5 #[.string S] w fun e w' => e = .returned (.tuple #[(readI S.data.toList).V, .int .i64 (readE S.data.toList)]) ∧ Below w.heap.size w w' := by
  cases hok : (readL S.data.toList).ok
  · have hg : goodL S.data.toList = false := by unfold goodL; rw [hok]; rfl
    unfold readI readE
    rw [hg, if_neg (by decide), if_neg (by decide)]
    exact Read_no S _ rfl hok hs w hL
  · obtain ⟨T, hT⟩ : ∃ T : ByteArray, T.data.toList = toldL (readL S.data.toList) := ⟨⟨(toldL (readL S.data.toList)).toArray⟩, by simp⟩
    have hT2 : T.data.toList = textL (readL S.data.toList) := by rw [hT]; unfold toldL; rw [hok]; rfl
    by_cases hq : textL (readL S.data.toList) = S.data.toList
    · have hg : goodL S.data.toList = true := by unfold goodL; rw [hok]; simpa using hq
      unfold readI readE
      rw [hg, if_pos rfl, if_pos rfl]
      exact Read_yes S T _ rfl hok hT (by rw [Lib.toList_data, Lib.toList_data, hT2]; simpa using hq) hs w hL
    · have hg : goodL S.data.toList = false := by unfold goodL; rw [hok]; simpa using hq
      unfold readI readE
      rw [hg, if_neg (by decide), if_neg (by decide)]
      exact Read_part S T _ rfl hok hT (by rw [Lib.toList_data, Lib.toList_data, hT2]; simpa using hq) hs w hL
end Go.Proofs.YtplneijbhmhmoaaGreatDoor
