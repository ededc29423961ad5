/-
  Words: what the axioms say of a copy of a candidate is what they say of the first one; so is what should be read. No condition.
-/
import Derived.Test.YtcbfokbdiefdeaaGreatDoorAxLaws
namespace Go.Proofs.YtcbfokbdiefdeaaGreatDoor
set_option linter.unusedVariables false
set_option linter.unusedSimpArgs false
open Go.RowKit

theorem amidF_like {c d : Cd} (h : Al c d) (n : Nat) : ∀ j k, amidF d n k j = amidF c n k j
  | 0, _ => rfl
  | j + 1, k => by
    unfold amidF
    rw [h.od, h.addr, h.addr, h.hart, h.hart, h.writes, amidF_like h n j]
theorem partN_like {c d : Cd} (h : Al c d) (s : Int) (n : Nat) : partN d s n = partN c s n := by
  unfold partN
  rw [plN_like h.od, plN_like h.od, amidF_like h]
theorem lrN_like {c d : Cd} (h : Al c d) (n : Nat) : lrN d n = lrN c n := by
  unfold lrN
  rw [h.pos, h.pair]
theorem Al.ordJ {c d : Cd} (h : Al c d) : Go.Proofs.YtcbfokbdiefdeaaGreatDoor.ordJ d = Go.Proofs.YtcbfokbdiefdeaaGreatDoor.ordJ c := by
  have e : ordB d = ordB c := by funext p; unfold ordB; rw [latN_like h.od]
  unfold Go.Proofs.YtcbfokbdiefdeaaGreatDoor.ordJ
  rw [h.pairs, e]
theorem Al.valJ {c d : Cd} (h : Al c d) : Go.Proofs.YtcbfokbdiefdeaaGreatDoor.valJ d = Go.Proofs.YtcbfokbdiefdeaaGreatDoor.valJ c := by
  have e : valB d = valB c := by funext n; unfold valB; rw [h.fr, srcW_like h.ae h.od]
  have e2 : (fun n : Nat => (⟨false, 3, n, srcW d n⟩ : Jd)) = fun n : Nat => ⟨false, 3, n, srcW c n⟩ := by funext n; rw [srcW_like h.ae h.od]
  unfold Go.Proofs.YtcbfokbdiefdeaaGreatDoor.valJ
  rw [e, e2, h.ae.N]
theorem Al.parJ {c d : Cd} (h : Al c d) : Go.Proofs.YtcbfokbdiefdeaaGreatDoor.parJ d = Go.Proofs.YtcbfokbdiefdeaaGreatDoor.parJ c := by
  have e : parB d = parB c := by funext n; unfold parB; rw [h.kind, partN_like h, lrN_like h, h.fr]
  have e2 : (fun n : Nat => (⟨false, 4, lrN d n, partN d (atI d.fr (lrN d n).toNat) n⟩ : Jd)) = fun n : Nat => ⟨false, 4, lrN c n, partN c (atI c.fr (lrN c n).toNat) n⟩ := by funext n; rw [partN_like h, lrN_like h, h.fr]
  unfold Go.Proofs.YtcbfokbdiefdeaaGreatDoor.parJ
  rw [e, e2, h.ae.N]
theorem Al.judge {c d : Cd} (h : Al c d) : judgeW d = judgeW c := by
  unfold judgeW
  rw [h.may, h.ordJ, h.valJ, h.parJ]
theorem Al.source {c d : Cd} (h : Al c d) (n : Int) : sourceW d n = sourceW c n := by
  unfold sourceW
  rw [h.may, h.ae.N, srcW_like h.ae h.od]
end Go.Proofs.YtcbfokbdiefdeaaGreatDoor
