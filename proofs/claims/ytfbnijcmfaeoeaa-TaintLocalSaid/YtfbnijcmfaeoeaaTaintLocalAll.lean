/-
  Proved here: the law TaintLocal returns true at every taint, instruction and list; nothing that was there is changed. No condition.
-/
import Derived.Test.YtfbnijcmfaeoeaaTaintLocalA
import Derived.Test.YtfbnijcmfaeoeaaTaintLocalB
import Derived.Test.YtfbnijcmfaeoeaaTaintLocalC
namespace Go.Proofs.Ytfbnijcmfaeoeaa
open Go.RowKit

theorem local_any (t : Ta) (l : Tl) (i : Ins) (event r : Int) (v : Value) (ol : List Int) (w : World) (h : TReads w t l) (ho : ReadsI w v ol) (hi : -9223372036854775808 ≤ i.imm ∧ i.imm ≤ 9223372036854775807) (hr : -9223372036854775808 ≤ r ∧ r ≤ 9223372036854775807) :
    Calls Try.prog 4 #[t.V, i.V, .int .i64 event, .int .i64 r, v] w fun e w' => SameOk w true e w' := by
  obtain ⟨a, c, rfl⟩ := ho.len
  cases hl : lightB l
  · exact local_heavy t l i event r a ol.length c w h hl
  by_cases hn : 60 < ol.length
  · exact local_long t l i event r a ol.length c w h hl hn
  have hn' : ol.length ≤ 60 := by omega
  cases hk : stepOkB l i event
  · have hst : ∀ w0 t2, TReads w0 t2 l → Calls Try.prog 9 #[t2.V, i.V, .int .i64 event] w0 fun e w' => StepOk w0 zeroTl [] [] [] 2 e w' :=
      fun w0 t2 h2 => step_err t2 l i event w0 h2 (light_short hl) (Lib.hid hk)
    by_cases h0 : i.rd = 0
    · exact local_A t l zeroTl i event r 2 [] [] [] ol a c w h hl ho hn' hi hr h0 (.inl rfl) hst
    · by_cases h1 : i.rd = 1 + pickI r 31
      · exact local_B t l zeroTl i event r 2 [] [] [] ol a c w h hl ho hn' hi hr ⟨h0, h1⟩ (.inl rfl) hst
      · exact local_C t l zeroTl i event r 2 [] [] [] ol a c w h hl ho hn' hi hr ⟨h0, h1⟩ (.inl rfl) hst
  · have hst : ∀ w0 t2, TReads w0 t2 l → Calls Try.prog 9 #[t2.V, i.V, .int .i64 event] w0 fun e w' => StepOk w0 (behindL l i event) (addrL l i) (dataL l i) l.way 0 e w' :=
      fun w0 t2 h2 => step_good t2 l i event w0 h2 (light_short hl) (Lib.hid hk)
    by_cases h0 : i.rd = 0
    · exact local_A t l _ i event r 0 _ _ _ ol a c w h hl ho hn' hi hr h0 (.inr ⟨rfl, hk, rfl, rfl, rfl, rfl⟩) hst
    · by_cases h1 : i.rd = 1 + pickI r 31
      · exact local_B t l _ i event r 0 _ _ _ ol a c w h hl ho hn' hi hr ⟨h0, h1⟩ (.inr ⟨rfl, hk, rfl, rfl, rfl, rfl⟩) hst
      · exact local_C t l _ i event r 0 _ _ _ ol a c w h hl ho hn' hi hr ⟨h0, h1⟩ (.inr ⟨rfl, hk, rfl, rfl, rfl, rfl⟩) hst
end Go.Proofs.Ytfbnijcmfaeoeaa
