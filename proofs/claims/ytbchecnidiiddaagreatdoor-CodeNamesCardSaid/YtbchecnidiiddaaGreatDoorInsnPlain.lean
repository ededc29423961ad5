/-
  Plain facts and words of the chapter on instructions: the table of the ops, the shapes of their texts, what may be. No condition; no Go text is named.
-/
import Derived.Test.YtbchecnidiiddaaGreatDoorWordPlain
import Derived.Lib.Bytealg
import Derived.Lib.ItoaNum
import Derived.Lib.ItoaMem
import Derived.Lib.Strings
import Derived.Lib.SlTrimSet
import Derived.Lib.ParseIntB
namespace Go.Proofs.YtbchecnidiiddaaGreatDoor
open Go.RowKit

def tabL : List (List UInt8 × Nat × Nat) := [
  ([], 0, 0),
  ([108, 117, 105], 1, 0),
  ([97, 117, 105, 112, 99], 1, 0),
  ([106, 97, 108], 2, 0),
  ([106, 97, 108, 114], 3, 0),
  ([98, 101, 113], 6, 0),
  ([98, 110, 101], 6, 0),
  ([98, 108, 116], 6, 0),
  ([98, 103, 101], 6, 0),
  ([98, 108, 116, 117], 6, 0),
  ([98, 103, 101, 117], 6, 0),
  ([108, 98], 4, 1),
  ([108, 104], 4, 2),
  ([108, 119], 4, 4),
  ([108, 100], 4, 8),
  ([108, 98, 117], 4, 1),
  ([108, 104, 117], 4, 2),
  ([108, 119, 117], 4, 4),
  ([115, 98], 5, 1),
  ([115, 104], 5, 2),
  ([115, 119], 5, 4),
  ([115, 100], 5, 8),
  ([97, 100, 100, 105], 3, 0),
  ([115, 108, 116, 105], 3, 0),
  ([115, 108, 116, 105, 117], 3, 0),
  ([120, 111, 114, 105], 3, 0),
  ([111, 114, 105], 3, 0),
  ([97, 110, 100, 105], 3, 0),
  ([115, 108, 108, 105], 7, 0),
  ([115, 114, 108, 105], 7, 0),
  ([115, 114, 97, 105], 7, 0),
  ([97, 100, 100, 105, 119], 3, 0),
  ([115, 108, 108, 105, 119], 7, 0),
  ([115, 114, 108, 105, 119], 7, 0),
  ([115, 114, 97, 105, 119], 7, 0),
  ([97, 100, 100], 8, 0),
  ([115, 117, 98], 8, 0),
  ([115, 108, 108], 8, 0),
  ([115, 108, 116], 8, 0),
  ([115, 108, 116, 117], 8, 0),
  ([120, 111, 114], 8, 0),
  ([115, 114, 108], 8, 0),
  ([115, 114, 97], 8, 0),
  ([111, 114], 8, 0),
  ([97, 110, 100], 8, 0),
  ([97, 100, 100, 119], 8, 0),
  ([115, 117, 98, 119], 8, 0),
  ([115, 108, 108, 119], 8, 0),
  ([115, 114, 108, 119], 8, 0),
  ([115, 114, 97, 119], 8, 0),
  ([109, 117, 108], 8, 0),
  ([109, 117, 108, 104], 8, 0),
  ([109, 117, 108, 104, 115, 117], 8, 0),
  ([109, 117, 108, 104, 117], 8, 0),
  ([100, 105, 118], 8, 0),
  ([100, 105, 118, 117], 8, 0),
  ([114, 101, 109], 8, 0),
  ([114, 101, 109, 117], 8, 0),
  ([109, 117, 108, 119], 8, 0),
  ([100, 105, 118, 119], 8, 0),
  ([100, 105, 118, 117, 119], 8, 0),
  ([114, 101, 109, 119], 8, 0),
  ([114, 101, 109, 117, 119], 8, 0),
  ([102, 101, 110, 99, 101], 9, 0),
  ([101, 99, 97, 108, 108], 10, 0),
  ([101, 98, 114, 101, 97, 107], 10, 0),
  ([108, 114, 46, 119], 11, 4),
  ([108, 114, 46, 100], 11, 8),
  ([115, 99, 46, 119], 12, 4),
  ([115, 99, 46, 100], 12, 8),
  ([97, 109, 111, 115, 119, 97, 112, 46, 119], 12, 4),
  ([97, 109, 111, 97, 100, 100, 46, 119], 12, 4),
  ([97, 109, 111, 120, 111, 114, 46, 119], 12, 4),
  ([97, 109, 111, 97, 110, 100, 46, 119], 12, 4),
  ([97, 109, 111, 111, 114, 46, 119], 12, 4),
  ([97, 109, 111, 109, 105, 110, 46, 119], 12, 4),
  ([97, 109, 111, 109, 97, 120, 46, 119], 12, 4),
  ([97, 109, 111, 109, 105, 110, 117, 46, 119], 12, 4),
  ([97, 109, 111, 109, 97, 120, 117, 46, 119], 12, 4),
  ([97, 109, 111, 115, 119, 97, 112, 46, 100], 12, 8),
  ([97, 109, 111, 97, 100, 100, 46, 100], 12, 8),
  ([97, 109, 111, 120, 111, 114, 46, 100], 12, 8),
  ([97, 109, 111, 97, 110, 100, 46, 100], 12, 8),
  ([97, 109, 111, 111, 114, 46, 100], 12, 8),
  ([97, 109, 111, 109, 105, 110, 46, 100], 12, 8),
  ([97, 109, 111, 109, 97, 120, 46, 100], 12, 8),
  ([97, 109, 111, 109, 105, 110, 117, 46, 100], 12, 8),
  ([97, 109, 111, 109, 97, 120, 117, 46, 100], 12, 8)]

theorem tab_len : tabL.length = 88 := by decide +kernel
def rowOf (op : Int) : List UInt8 × Nat × Nat := tabL.getD op.toNat ([], 0, 0)
def nameOf (op : Int) : List UInt8 := (rowOf op).1
def formOf (op : Int) : Int := ((rowOf op).2.1 : Int)
def sizeOf' (op : Int) : Int := ((rowOf op).2.2 : Int)
theorem row_none (op : Int) (h : op < 0 ∨ 88 ≤ op) : rowOf op = ([], 0, 0) := by
  rcases h with h | h
  · unfold rowOf
    rw [show op.toNat = 0 by omega]; rfl
  · unfold rowOf
    rw [List.getD_eq_getElem?_getD, List.getElem?_eq_none (by rw [tab_len]; omega)]; rfl
theorem form_hi (op : Int) : 0 ≤ formOf op ∧ formOf op ≤ 12 := by
  have h : ∀ k : Fin 88, (tabL.getD k.1 ([], 0, 0)).2.1 ≤ 12 := by decide +kernel
  by_cases h1 : op < 0 ∨ 88 ≤ op
  · unfold formOf; rw [row_none op h1]; decide
  · have h2 : (tabL.getD op.toNat ([], 0, 0)).2.1 ≤ 12 := h ⟨op.toNat, by omega⟩
    unfold formOf rowOf; omega

def shapesL : List (List UInt8) := [[], [32, 100, 44, 32, 105], [32, 100, 44, 32, 105], [32, 100, 44, 32, 49, 44, 32, 105], [32, 100, 44, 32, 105, 40, 49, 41], [32, 50, 44, 32, 105, 40, 49, 41], [32, 49, 44, 32, 50, 44, 32, 105], [32, 100, 44, 32, 49, 44, 32, 105], [32, 100, 44, 32, 49, 44, 32, 50], [32, 112, 44, 32, 115], [], [109, 32, 100, 44, 32, 40, 49, 41], [109, 32, 100, 44, 32, 50, 44, 32, 40, 49, 41]]
def shapeF (form : Int) : List UInt8 := shapesL.getD form.toNat []
def shapeOf (op form : Int) : List UInt8 := if op = 4 then shapeF 4 else shapeF form
def lastI (op : Int) : Int := if op = 32 ∨ op = 33 ∨ op = 34 then 31 else 63
def evenB (v : Int) : Bool := v.tmod 2 == 0
def goodB (op form v : Int) : Bool :=
  if form = 1 then fitsI v 20 else if form = 2 then fitsI v 21 && evenB v else if form = 3 then fitsI v 12 else if form = 4 then fitsI v 12 else if form = 5 then fitsI v 12
  else if form = 6 then fitsI v 13 && evenB v else if form = 7 then decide (0 ≤ v) && decide (v ≤ lastI op) else decide (v = 0)
def hasB (s : List UInt8) (c : UInt8) : Bool := decide (0 ≤ Lib.indexByte s c)
def upToB (s : List UInt8) (last : Int) (c : UInt8) (x : Int) : Bool := decide (x = 0) || (hasB s c && decide (0 < x) && decide (x ≤ last))
def shapeS (op : Int) : List UInt8 := shapeOf op (formOf op)
def partsB (op rd rs1 rs2 imm : Int) (aq rl : Bool) (pred succ : Int) : List Bool :=
  [upToB (shapeS op) 31 100 rd, upToB (shapeS op) 31 49 rs1, upToB (shapeS op) 31 50 rs2, upToB (shapeS op) 15 112 pred, upToB (shapeS op) 15 115 succ, hasB (shapeS op) 109 || (!aq && !rl), goodB op (formOf op) imm]
def checkB (op rd rs1 rs2 imm : Int) (aq rl : Bool) (pred succ : Int) : Bool := decide (formOf op ≠ 0) && (partsB op rd rs1 rs2 imm aq rl pred succ).all id
def errI (b : Bool) : Int := if b then 0 else 2
end Go.Proofs.YtbchecnidiiddaaGreatDoor
