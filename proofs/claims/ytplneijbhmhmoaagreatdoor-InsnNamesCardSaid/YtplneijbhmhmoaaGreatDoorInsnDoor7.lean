/-
  Proved here: what InsnBack's row asks of the listed tables and errors gives the table of powers of ten and the two errors of strconv, and goes on giving them; a heap with the list laid meets it. No condition.
-/
import Derived.Test.YtplneijbhmhmoaaGreatDoorInsnDoor
import Derived.Test.YtplneijbhmhmoaaGreatDoorInsnReadText
import Derived.Lay
namespace Go.Proofs.YtplneijbhmhmoaaGreatDoor
open Go.ChangeShapes Go.WideShapes Go.ChangeAt Go.RowKit

theorem gSyn : Tryz.prog.globalNamed "strconv.ErrSyntax" = some 2 := by kernel_rfl
theorem gRng : Tryz.prog.globalNamed "strconv.ErrRange" = some 3 := by kernel_rfl
theorem tSyn : (Tryz.prog.globals[2]?).map (·.type) = some 99 := by kernel_rfl
theorem tRng : (Tryz.prog.globals[3]?).map (·.type) = some 99 := by kernel_rfl
abbrev laid7 : List (String × DataW Unit) := [("math/bits.deBruijn32tab", Rows.laid_math_bits_deBruijn32tab), ("math/bits.deBruijn64tab", Rows.laid_math_bits_deBruijn64tab), ("internal/strconv.uint64pow10", Rows.laid_internal_strconv_uint64pow10), ("unicode/utf8.acceptRanges", Rows.laid_unicode_utf8_acceptRanges), ("strconv.ErrRange", Rows.laid_strconv_ErrRange), ("strconv.ErrSyntax", Rows.laid_strconv_ErrSyntax), ("unicode/utf8.first", Rows.laid_unicode_utf8_first)]
theorem starErr : "*" ++ "errors.errorString" = "*errors.errorString" := by decide
theorem rowErr (u : TypeId) (h : Tryz.prog.typeName? 3 u = some "*errors.errorString") : u = 196 :=
  typeName_ptr_named (nm := "errors.errorString") (by rw [starErr]; kernel_rfl) (by kernel_rfl) (by decide) u (by rw [starErr]; exact h)
theorem cellsErr : Tryz.prog.cellsOf 198 = 1 := by kernel_rfl
theorem cellsStr : Tryz.prog.cellsOf 9 = 1 := by kernel_rfl
theorem errs_of {W : World} (h : laidMet Tryz.prog laid7 W) : Errs W := by
  have h5 := laidMet.tail (laidMet.tail (laidMet.tail (laidMet.tail h)))
  obtain ⟨a0, s0, hv0, -, -, -⟩ := laid_sentinel h5 gRng tRng Tryz.underlying99 rowErr Tryz.underlying196 Tryz.underlying198 rfl rfl Tryz.underlying9 cellsErr cellsStr
  obtain ⟨a1, s1, hv1, -, -, -⟩ := laid_sentinel (laidMet.tail h5) gSyn tSyn Tryz.underlying99 rowErr Tryz.underlying196 Tryz.underlying198 rfl rfl Tryz.underlying9 cellsErr cellsStr
  exact ⟨⟨_, _, hv1⟩, ⟨_, _, hv0⟩⟩
theorem var_below {W W' : World} (n : String) (cs : Array Value) (h : W.var? Tryz.prog n = some cs) (hb : Below W.heap.size W W') : W'.var? Tryz.prog n = some cs := by
  unfold World.var? at *
  cases hg : Tryz.prog.globalNamed n with
  | none => simp [hg] at h
  | some g =>
    simp only [hg, Option.bind_some] at h ⊢
    have hlt : g < W.heap.size := by
      rcases Nat.lt_or_ge g W.heap.size with h' | h'
      · exact h'
      · rw [Array.getElem?_eq_none h'] at h; simp at h
    rw [hb.block g hlt]
    exact h
theorem lay_of_laid {W : World} (h : laidMetH Tryz.prog laid7 W) : Lay W.heap.size W := by
  rw [MakeChecks.laidMetH_plain _ _ _ (by kernel_rfl)] at h
  have h2 := laidMet.tail (laidMet.tail h)
  rw [powData] at h2
  have hp := Lib.tabIs_of_head gPow tPow Tryz.underlying163 Tryz.underlying107 (by kernel_rfl) (by kernel_rfl) h2
  obtain ⟨⟨t1, p1, h1⟩, ⟨t2, p2, h2'⟩⟩ := errs_of h
  exact ⟨Lib.tabBelow_of_tabIs hp, fun w' hb => ⟨⟨t1, p1, var_below _ _ h1 hb⟩, ⟨t2, p2, var_below _ _ h2' hb⟩⟩⟩
theorem laid7_met (os : Os) (args : Array Value) : laidMetH Tryz.prog laid7 ((World.laidAll Tryz.prog os laid7).forCall (fun _ _ => 0) ⟨#[], args, []⟩).memory := by
  rw [MakeChecks.laidMetH_plain _ _ _ (by kernel_rfl)]
  exact laidMet_laidAll _ (by kernel_rfl) (by kernel_rfl)
end Go.Proofs.YtplneijbhmhmoaaGreatDoor
