/-
  Words: moves, loads and numbers, one behind the other, by a model: which register has which event's; each step keeps it. No condition.
-/
import Derived.Test.YtmdaleokhekdeaaTaintLives
import Derived.Test.YtmdaleokhekdeaaInsnPick
namespace Go.Proofs.Ytmdaleokhekdeaa
open Go.RowKit

/-- on what a register hangs by the model -/
def evL (n : Int) : List Int := if n = 0 then [] else [n - 1]
/-- the model's cell -/
def mAt (m : List Int) (r : Nat) : Int := m.getD r 0
structure Model (m : List Int) (l : Tl) : Prop where
  len : m.length = 32
  xs : ∀ r, r < 32 → l.x r = evL (mAt m r)
  ge : ∀ r, r < 32 → 0 ≤ mAt m r ∧ mAt m r ≤ 1000
  no : mAt m 0 = 0
  way : l.way = []
theorem evL_len (n : Int) : (evL n).length ≤ 1 := by unfold evL; split <;> simp
theorem evL_rises (n : Int) (h : 0 ≤ n) : rises (evL n) = true := by
  unfold evL rises
  split
  · rfl
  · simp only [risesFrom, Bool.and_true, decide_eq_true_eq]; omega
theorem Model.start : Model (List.replicate 32 0) zeroTl := by
  have e : ∀ r, mAt (List.replicate 32 (0 : Int)) r = 0 := by
    intro r
    unfold mAt
    simp only [List.getD_eq_getElem?_getD, List.getElem?_replicate]
    split <;> rfl
  exact ⟨by simp, fun r _ => by rw [zeroTl_x, e]; rfl, fun r _ => by rw [e]; omega, e 0, rfl⟩
theorem Model.short {m : List Int} {l : Tl} (h : Model m l) : l.short :=
  ⟨fun k hk => by rw [h.xs k hk]; have := evL_len (mAt m k); omega, by rw [h.way]; simp⟩
theorem Model.ok {m : List Int} {l : Tl} (h : Model m l) : l.ok = true := by
  rw [Tl.ok_all l (fun k hk => by rw [h.xs k hk]; exact evL_rises _ (h.ge k hk).1) true true (by rw [h.way]; rfl) (by rw [h.xs 0 (by omega), h.no]; rfl)]
  rfl
theorem mAt_set (m : List Int) (k : Nat) (v : Int) (hl : m.length = 32) (hk : k < 32) (j : Nat) : mAt (m.set k v) j = if j = k then v else mAt m j := by
  unfold mAt
  simp only [List.getD_eq_getElem?_getD, List.getElem?_set]
  by_cases h : j = k
  · subst h; simp [hl, hk]
  · rw [if_neg h, if_neg (Ne.symm h)]
def insK (kind : Int) (rd rs : Nat) : Ins := if kind = 1 then ⟨14, rd, rs, 0, 0, false, false, 0, 0⟩ else if kind = 2 then ⟨1, rd, 0, 0, 1, false, false, 0, 0⟩ else ⟨22, rd, rs, 0, 0, false, false, 0, 0⟩
theorem ins_all0 : ∀ a b : Fin 32, Ins.ok ⟨22, a.1, b.1, 0, 0, false, false, 0, 0⟩ = true := by decide +kernel
theorem ins_all1 : ∀ a b : Fin 32, Ins.ok ⟨14, a.1, b.1, 0, 0, false, false, 0, 0⟩ = true := by decide +kernel
theorem ins_all2 : ∀ a : Fin 32, Ins.ok ⟨1, a.1, 0, 0, 1, false, false, 0, 0⟩ = true := by decide +kernel
/-- the model's next word -/
def nowK (kind : Int) (m : List Int) (rs k : Nat) : Int := if kind = 1 then (k : Int) + 1 else if kind = 2 then 0 else mAt m rs
def evK (kind : Int) (k : Nat) : Int := if kind = 1 then k else -1
def setK (m : List Int) (rd : Nat) (n : Int) : List Int := if rd = 0 then m else m.set rd n
theorem insK_ok (kind : Int) (rd rs : Nat) (h1 : rd < 32) (h2 : rs < 32) : (insK kind rd rs).ok = true := by
  unfold insK
  split
  · exact ins_all1 ⟨rd, h1⟩ ⟨rs, h2⟩
  · split
    · exact ins_all2 ⟨rd, h1⟩
    · exact ins_all0 ⟨rd, h1⟩ ⟨rs, h2⟩
theorem stepK_ok (kind : Int) (rd rs k : Nat) (h1 : rd < 32) (h2 : rs < 32) (m : List Int) (l : Tl) (h : Model m l) : stepOkB l (insK kind rd rs) (evK kind k) = true := by
  unfold stepOkB
  rw [h.ok, insK_ok kind rd rs h1 h2]
  have : decide (-1 ≤ evK kind k) = true := by
    unfold evK
    split
    · simp
    · rfl
  rw [this]
  rfl
theorem regs_one (rs : Nat) : regsL rs 0 = if rs = 0 then [] else [(rs : Int)] := by
  rw [regsL_is]
  by_cases h : rs = 0
  · subst h; rfl
  · rw [if_neg (show ¬ (rs : Int) ≤ 0 by omega), if_neg h]
    have h' : ((rs : Int) != 0) = true := by simpa using h
    simp [h']
theorem hang_one (m : List Int) (l : Tl) (h : Model m l) (rs : Nat) (h2 : rs < 32) : hangL l (regsL rs 0) = evL (mAt m rs) := by
  rw [regs_one]
  by_cases h0 : rs = 0
  · subst h0; rw [if_pos rfl, h.no]; rfl
  · rw [if_neg h0]
    show mergeL [] (l.x (Int.toNat rs)) = _
    rw [mergeL_nil, Int.toNat_natCast, h.xs rs h2]
theorem n14 : bareB 14 = false ∧ loadsB 14 = true ∧ formOf 14 = 4 := by decide +kernel
theorem n22 : bareB 22 = false ∧ loadsB 22 = false ∧ storesB 22 = false ∧ formOf 22 = 3 := by decide +kernel
theorem n1b : bareB 1 = true := by decide +kernel
theorem n1f : formOf 1 = 1 := by decide +kernel
theorem writtenK (kind : Int) (rd rs k : Nat) (h2 : rs < 32) (m : List Int) (l : Tl) (h : Model m l) : writtenL l (insK kind rd rs) (evK kind k) = evL (nowK kind m rs k) := by
  unfold insK evK nowK
  by_cases h1 : kind = 1
  · simp only [if_pos h1]
    unfold writtenL
    dsimp only
    rw [if_neg (by rw [n14.1]; decide), if_pos (by rw [n14.2.1]; rfl)]
    unfold madeL evL
    rw [if_neg (by omega), if_neg (by omega)]
    simp
  · simp only [if_neg h1]
    by_cases h3 : kind = 2
    · simp only [if_pos h3]
      unfold writtenL
      dsimp only
      rw [if_pos n1b]
      rfl
    · simp only [if_neg h3]
      unfold writtenL
      dsimp only
      rw [if_neg (by rw [n22.1]; decide), if_neg (by rw [n22.2.1, n22.2.2.1]; decide)]
      unfold readsL
      dsimp only
      rw [if_neg (by decide)]
      exact hang_one m l h rs h2
theorem wayK (kind : Int) (rd rs : Nat) (l : Tl) : wayL l (insK kind rd rs) = l.way := by
  unfold insK wayL
  by_cases h1 : kind = 1
  · simp only [if_pos h1]; rw [if_neg (by rw [n14.2.2]; decide), if_neg (by decide)]
  · simp only [if_neg h1]
    by_cases h3 : kind = 2
    · simp only [if_pos h3]; rw [if_neg (by rw [n1f]; decide), if_neg (by decide)]
    · simp only [if_neg h3]; rw [if_neg (by rw [n22.2.2.2]; decide), if_neg (by decide)]
theorem addrK (rd rs : Nat) (m : List Int) (l : Tl) (h : Model m l) (h2 : rs < 32) : addrL l (insK 1 rd rs) = evL (mAt m rs) := by
  unfold insK addrL
  simp only [if_true]
  rw [if_pos (by rw [n14.2.1]; rfl)]
  show mergeL [] (l.x (Int.toNat rs)) = _
  rw [mergeL_nil, Int.toNat_natCast, h.xs rs h2]
theorem Model.step (kind : Int) (rd rs k : Nat) (h1 : rd < 32) (h2 : rs < 32) (hk : k ≤ 900) (m : List Int) (l : Tl) (h : Model m l) : Model (setK m rd (nowK kind m rs k)) (behindL l (insK kind rd rs) (evK kind k)) := by
  have hrd : (insK kind rd rs).rd = (rd : Int) := by
    unfold insK; split
    · rfl
    · split <;> rfl
  have hn : 0 ≤ nowK kind m rs k ∧ nowK kind m rs k ≤ 1000 := by
    unfold nowK
    split
    · omega
    · split
      · omega
      · exact h.ge rs h2
  unfold behindL setK
  rw [wayK, hrd, writtenK kind rd rs k h2 m l h]
  by_cases h0 : rd = 0
  · subst h0
    rw [if_pos (show ((0 : Nat) : Int) = 0 from rfl), if_pos rfl]
    exact ⟨h.len, h.xs, h.ge, h.no, h.way⟩
  · rw [if_neg h0, if_neg (by omega), Int.toNat_natCast]
    refine ⟨by rw [List.length_set]; exact h.len, fun r hr => ?_, fun r hr => ?_, ?_, h.way⟩
    · show (l.put rd (evL (nowK kind m rs k))).x r = _
      rw [Tl.put_x l rd _ h1 r, mAt_set m rd _ h.len h1 r]
      split
      · rfl
      · exact h.xs r hr
    · rw [mAt_set m rd _ h.len h1 r]
      split
      · exact hn
      · exact h.ge r hr
    · rw [mAt_set m rd _ h.len h1 0, if_neg (by omega)]
      exact h.no
end Go.Proofs.Ytmdaleokhekdeaa
