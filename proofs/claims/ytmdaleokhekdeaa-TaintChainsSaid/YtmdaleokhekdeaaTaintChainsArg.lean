/-
  Proved here: the law TaintChains answers true of any arguments as they come in; nothing that was there is changed. No condition beyond the frame's own.
-/
import Derived.Test.YtmdaleokhekdeaaTaintChainsWalk
import Derived.Deep.Slices
import Derived.OpenShut
import Derived.ChangeSame
import Derived.RowKit
namespace Go.Proofs.Ytmdaleokhekdeaa
open Go.ChangeShapes Go.WideShapes Go.Deep Go.RowKit

theorem fit_of {z : Int} (h : (Lit.int .i64 z).wf = true) : Fit z := by
  simp [Lit.wf, IntKind.min, IntKind.max, IntKind.bits, IntKind.signed] at h
  exact ⟨by simpa using h.1, by simpa using h.2⟩
theorem cells_two : Try.prog.cellsOf 57 = 2 := by kernel_rfl
theorem cells_oneI : Try.prog.cellsOf 3 = 1 := by kernel_rfl
/-- a slice of pairs, as it comes in -/
def PairRow (w : World) (a : Option Addr) (len : Nat) (z : Nat → Int × Int) : Prop :=
  (a = none ∧ len = 0) ∨ ∃ x, a = some x ∧ ∀ i, i < len → w.cell? (x.add (i * 2)) = some (.int .i64 (z i).1) ∧ w.cell? (x.add (i * 2 + 1)) = some (.int .i64 (z i).2) ∧ (Lit.int .i64 (z i).1).wf = true ∧ (Lit.int .i64 (z i).2).wf = true
theorem take_one {l : List Value} {k : Nat} {v : Value} (h : (l.drop k).take 1 = [v]) : l[k]? = some v := by
  have h2 : ((l.drop k).take 1)[0]? = some v := by rw [h]; rfl
  rw [List.getElem?_take_of_lt (by omega), List.getElem?_drop] at h2
  simpa using h2
section
variable {H : Type} {enc : TypeId × Value → H} {w : World} {base : Nat} {spare : Nat → Bool} {held : Bool}
set_option maxRecDepth 100000 in
theorem open_pairs {fuel : Nat} {a : Option Addr} {len cap : Nat} {x : DataW H × List MemPlace} (h : DataW.trod enc Try.prog w base spare held fuel 55 [.slice a len cap] = some x) : ∃ z, PairRow w a len z := by
  rcases open_slice Try.underlying55 h with ⟨hcs, _⟩ | ⟨b, l, c, m, n, D, Pl, hcs, _, hl, _, hm, _, hi⟩
  · simp at hcs
    exact ⟨fun _ => (0, 0), .inl ⟨hcs.1, hcs.2.1⟩⟩
  · simp at hcs
    obtain ⟨rfl, rfl, rfl⟩ := hcs
    have hlm : len ≤ m := by rw [hm]; split <;> omega
    have each : ∀ i, ∃ p : Int × Int, i < len → w.cell? (b.add (i * 2)) = some (.int .i64 p.1) ∧ w.cell? (b.add (i * 2 + 1)) = some (.int .i64 p.2) ∧ (Lit.int .i64 p.1).wf = true ∧ (Lit.int .i64 p.2).wf = true := by
      intro i
      by_cases hil : i < len
      · obtain ⟨cs', hc, ht⟩ := hi i (by omega)
        rw [cells_two] at hc
        obtain ⟨_, hcl, hat⟩ := World.cells?_some hc
        obtain ⟨xs, k, _, _, _, hxl, hq⟩ := DataW.trod_array Try.underlying57 ht
        have q0 := hq 0 (by omega)
        have q1 := hq 1 (by omega)
        rw [cells_oneI, List.getElem?_eq_getElem (by omega)] at q0 q1
        obtain ⟨z0, e0, _, w0⟩ := DataW.trod_int Try.underlying3 q0
        obtain ⟨z1, e1, _, w1⟩ := DataW.trod_int Try.underlying3 q1
        have h0 := take_one e0
        have h1 := take_one e1
        have a0 := hat 0 (by omega)
        have a1 := hat 1 (by omega)
        rw [add_add] at a0 a1
        refine ⟨(z0, z1), fun _ => ⟨?_, ?_, w0, w1⟩⟩
        · rw [Nat.add_zero] at a0
          rw [a0]; simpa using h0
        · rw [a1]; simpa using h1
      · exact ⟨(0, 0), fun h => absurd h hil⟩
    obtain ⟨f, hf⟩ := Classical.axiomOfChoice each
    exact ⟨f, .inr ⟨b, rfl, hf⟩⟩
end
/-- a slice of ints, as it comes in -/
def NumRow (w : World) (a : Option Addr) (len cap : Nat) (zs : List Int) : Prop :=
  (a = none ∧ len = 0 ∧ cap = 0 ∧ zs = []) ∨
  ∃ x, a = some x ∧ len ≤ cap ∧ cap ≤ maxLen ∧ zs.length = cap ∧ (∀ i, i < zs.length → w.cell? (x.add i) = some (.int .i64 (zs.getD i 0))) ∧ ∀ n ∈ zs, (Lit.int .i64 n).wf = true
theorem PairRow.at {w : World} {a : Option Addr} {len : Nat} {z : Nat → Int × Int} (h : PairRow w a len z) : PairsAt w a len (fun k j => if j = 0 then (z k).1 else (z k).2) := by
  intro k hk
  rcases h with ⟨_, h0⟩ | ⟨x, rfl, hx⟩
  · omega
  · obtain ⟨h1, h2, w1, w2⟩ := hx k hk
    obtain ⟨b, off, spot⟩ := x
    have hspot : spot = none := by simpa [Addr.add] using World.cell?_spot (hx 0 (by omega)).1
    subst hspot
    rw [Addr.add_lit] at h1 h2
    refine ⟨b, off, rfl, World.block_lt_of_cell? w _ h1, h1, ?_, fit_of w1, fit_of w2⟩
    rw [Nat.add_assoc]
    exact h2
theorem NumRow.at {w : World} {a : Option Addr} {len cap : Nat} {zs : List Int} (h : NumRow w a len cap zs) : NumsAt w a len (fun k => zs.getD k 0) := by
  intro k hk
  rcases h with ⟨_, h0, _⟩ | ⟨x, rfl, hl, hm, hz, hcell, hwz⟩
  · omega
  · have h1 := hcell k (by omega)
    obtain ⟨b, off, spot⟩ := x
    have hspot : spot = none := by simpa [Addr.add] using World.cell?_spot (hcell 0 (by omega))
    subst hspot
    rw [Addr.add_lit] at h1
    refine ⟨b, off, rfl, World.block_lt_of_cell? w _ h1, h1, fit_of (hwz _ ?_)⟩
    show zs.getD k 0 ∈ zs
    rw [List.getD_eq_getElem?_getD, List.getElem?_eq_getElem (show k < zs.length by omega)]
    exact List.getElem_mem (show k < zs.length by omega)
set_option maxRecDepth 100000 in
set_option maxHeartbeats 4000000 in
theorem chains_long (a0 b0 : Option Addr) (na nb ca cb : Nat) (w : World) (h : 60 < na ∨ (na ≤ 60 ∧ 60 < nb)) :
    Calls Try.prog 7 #[.slice a0 na ca, .slice b0 nb cb] w fun e w' => SameOk w true e w' := by
  rcases h with h | h
  · have d1 : decide (60 < na) = true := by simpa using h
    go_enter Try.func7, Try.ntmps7
    go_wp2_with (go_at_call 11; (with_reducible refine (lives_any _).mono ?_); rintro e w1 ⟨rfl, h⟩; have M1 := Lib.hid h; clear h)
    go_ret
    exact ⟨rfl, M1.out⟩
  · obtain ⟨h1, h2⟩ := h
    have d1 : decide (60 < na) = false := by simpa using h1
    have d2 : decide (60 < nb) = true := by simpa using h2
    go_enter Try.func7, Try.ntmps7
    go_wp2_with (go_at_call 11; (with_reducible refine (lives_any _).mono ?_); rintro e w1 ⟨rfl, h⟩; have M1 := Lib.hid h; clear h)
    go_ret
    exact ⟨rfl, M1.out⟩
theorem chains_any (a0 b0 : Option Addr) (na nb ca cb : Nat) (z : Nat → Int × Int) (zb : List Int) (w : World) (ha : PairRow w a0 na z) (hb : NumRow w b0 nb cb zb) :
    Calls Try.prog 7 #[.slice a0 na ca, .slice b0 nb cb] w fun e w' => SameOk w true e w' := by
  by_cases h1 : na ≤ 60
  · by_cases h2 : nb ≤ 60
    · exact chains_short a0 b0 na nb ca cb _ _ w ha.at hb.at h1 h2
    · exact chains_long a0 b0 _ _ ca cb w (by omega)
  · exact chains_long a0 b0 _ _ ca cb w (by omega)
end Go.Proofs.Ytmdaleokhekdeaa
