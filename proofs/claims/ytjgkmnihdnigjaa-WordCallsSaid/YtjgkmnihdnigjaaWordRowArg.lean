/-
  Proved here: a slice of bytes that came in, as the row's frame tells of it, is a row of bytes in the walks' words. No condition beyond the frame's own.
-/
import Derived.Test.YtjgkmnihdnigjaaWordTexts
namespace Go.Proofs.Ytjgkmnihdnigjaa
open Go.RowKit

theorem row_arg {w : World} {x : Addr} {len cap : Nat} {zs : List Int} (hl : len ≤ cap) (hz : zs.length = cap)
    (hcell : ∀ i, i < zs.length → w.cell? (x.add i) = some (.int .u8 (zs.getD i 0))) (hwz : ∀ n ∈ zs, (Lit.int .u8 n).wf = true) :
    RowAt w (some x) (zs.take len) ∧ (zs.take len).length = len ∧ ∀ i, IsByte ((zs.take len).getD i 0) := by
  have hlen : (zs.take len).length = len := by rw [List.length_take]; omega
  refine ⟨?_, hlen, ?_⟩
  · intro hne
    have hpos : 0 < len := by
      have := List.length_pos_iff.2 hne
      omega
    obtain ⟨b, off, spot⟩ := x
    have hspot : spot = none := by
      have hc := hcell 0 (by omega)
      simpa [Addr.add] using World.cell?_spot hc
    subst hspot
    refine ⟨b, off, rfl, ?_⟩
    intro i hi
    have hc := hcell i (by omega)
    rw [Addr.add_lit] at hc
    rw [hc]
    rw [hlen] at hi
    simp [List.getD, hi]
  · intro i
    by_cases hi : i < len
    · have hm : (zs.take len).getD i 0 ∈ zs := by
        have h1 : i < zs.length := by omega
        have e : (zs.take len).getD i 0 = zs[i] := by simp [List.getD, hi, h1]
        rw [e]; exact List.getElem_mem h1
      have h := hwz _ hm
      simp [Lit.wf, IntKind.min, IntKind.max, IntKind.bits, IntKind.signed] at h
      exact ⟨by simpa using h.1, by simpa using h.2⟩
    · have e : (zs.take len).getD i 0 = 0 := by rw [List.getD, List.getElem?_eq_none (by omega)]; rfl
      rw [e]; exact ⟨by omega, by omega⟩
theorem byte_nil (i : Nat) : IsByte (([] : List Int).getD i 0) := by simp [IsByte]
theorem row_nil (w : World) (a : Option Addr) : RowAt w a [] := fun h => absurd rfl h
end Go.Proofs.Ytjgkmnihdnigjaa
