/-
  Proved here: package axiom's look, Judge and Ok of any candidate: of one that may not be an empty view, and the form is what is broken; nothing that was there is changed. Condition: a light candidate.
  (With it: Proved here: package axiom's order: the first pair of what is preserved that Order turns about; nothing that was there is changed. Condition: a view of a light candidate that may be.)
  (With it: Proved here: package axiom's look: a view of a candidate that may be; of one that may not be an empty one; nothing that was there is changed. Condition: a light candidate.)
  (With it: Proved here: package axiom's Judge of a candidate that may be: whether it is allowed, or which axiom is broken first, and by which numbers; nothing that was there is changed. Condition: a light candidate that may be.)
-/
import Derived.Test.YtcbfokbdiefdeaaGreatDoorAxParts
import Derived.Test.YtcbfokbdiefdeaaGreatDoorPpOwn
import Derived.Test.YtcbfokbdiefdeaaGreatDoorPpLook
import Derived.Test.YtcbfokbdiefdeaaGreatDoorAxPairs
namespace Go.Proofs.YtcbfokbdiefdeaaGreatDoor
set_option linter.unusedVariables false
set_option linter.unusedSimpArgs false
open Go.RowKit Go.Maps
attribute [local go_sem ↓] fold_E fold_SE fold_SJ
attribute [local irreducible] wpStill

theorem pairs_at : ∀ (L : List (Nat × Nat)) (i a b : Nat), L[i]? = some (a, b) → (rowP2 L)[i * 2]? = some (.int .i64 (a : Int)) ∧ (rowP2 L)[i * 2 + 1]? = some (.int .i64 (b : Int))
  | [], i, a, b, h => by simp at h
  | p :: l, 0, a, b, h => by
    simp at h; subst h
    exact ⟨rfl, rfl⟩
  | p :: l, i + 1, a, b, h => by
    have := pairs_at l i a b (by simpa using h)
    rw [show (i + 1) * 2 = i * 2 + 2 by omega]
    exact this
theorem pairs_len (L : List (Nat × Nat)) : (rowP2 L).length = L.length * 2 := by
  induction L with
  | nil => rfl
  | cons p l ih => simp [rowP2] at ih ⊢; omega
theorem find_at {α : Type} (f : α → Bool) : ∀ (l : List α) (k : Nat) (q : α), l[k]? = some q → f q = true → (∀ j x, j < k → l[j]? = some x → f x = false) → l.find? f = some q
  | [], k, q, h, _, _ => by simp at h
  | a :: l, 0, q, h, hq, _ => by
    simp at h; subst h
    simp [hq]
  | a :: l, k + 1, q, h, hq, hb => by
    have h0 : f a = false := hb 0 a (by omega) rfl
    rw [List.find?_cons, h0]
    exact find_at f l k q (by simpa using h) hq (fun j x hj hx => hb (j + 1) x (by omega) (by simpa using hx))
theorem find_none_at {α : Type} (f : α → Bool) (l : List α) (hb : ∀ j x, j < l.length → l[j]? = some x → f x = false) : l.find? f = none := find_none.2 fun x hx => by
  obtain ⟨j, hj, e⟩ := List.mem_iff_getElem.1 hx
  exact hb j x hj (by rw [List.getElem?_eq_getElem hj, e])
/-- order's world: its own answer, the pairs -/
structure AxOw (c : Cd) (p : Ap) (L : List (Nat × Nat)) (aL : Option Addr) (cL bL : Nat) (w W : World) : Prop where
  ax : Ax c p W
  jb : JBox ⟨false, 0, 0, 0⟩ w.heap.size W
  own : W.ownsRow bL 53 2 (.slice aL L.length cL) L.length (rowP2 L)
  bel : Below w.heap.size w W
theorem AxOw.on {c : Cd} {p : Ap} {L : List (Nat × Nat)} {aL : Option Addr} {cL bL : Nat} {w W W2 : World} (h : AxOw c p L aL cL bL w W) (hb : Below W.heap.size W W2) : AxOw c p L aL cL bL w W2 := ⟨h.ax.on hb, h.jb.on hb, own_on h.own hb, h.bel.trans (hb.mono h.bel.size)⟩
theorem AxOw.cells {c : Cd} {p : Ap} {L : List (Nat × Nat)} {g cL bL : Nat} {w W : World} (h : AxOw c p L (some ⟨g, 0, none⟩) cL bL w W) {i a b : Nat} (hi : L[i]? = some (a, b)) : W.cell? ⟨g, i * 2, none⟩ = some (.int .i64 (a : Int)) ∧ W.cell? ⟨g, i * 2 + 1, none⟩ = some (.int .i64 (b : Int)) := by
  have hlt : i < L.length := (List.getElem?_eq_some_iff.1 hi).1
  obtain ⟨h1, h2⟩ := pairs_at L i a b hi
  exact ⟨(h.own.cellAt (i * 2) (by omega)).trans h1, (h.own.cellAt (i * 2 + 1) (by omega)).trans h2⟩
set_option maxRecDepth 100000 in
set_option maxHeartbeats 8000000 in
theorem order_a (c : Cd) (p : Ap) (w : World) (hL : Lt c) (hm : c.may = true) (h : Ax c p w) : Calls Tryz.prog 36 #[.pointer (some ⟨p.g, 0, none⟩)] w fun e w' => GivesJ w ((ordJ c).getD keptJ) e w' := by
  have KP := Lib.hid (fun w0 h0 => own_pairs c p.q w0 hL h0)
  have X1 := Lib.hid (h.on (box_below w (.cells #[.bool false, .int .i64 0, .int .i64 0, .int .i64 0] 37)))
  have J1 := Lib.hid (JBox.new w)
  have B1 := Lib.hid (box_below w (.cells #[.bool false, .int .i64 0, .int .i64 0, .int .i64 0] 37))
  have HMEM := Lib.hid (fun a b => (mem_pairsW hm a b).1)
  have HLn : Hid ((pairsW c).length ≤ 3600) := Lib.hid (by
    unfold pairsW
    rw [hm, if_pos rfl]
    have h1 := pairsOut_len c hL.n c.N 0
    have h2 := hL.n
    have h3 : c.N * 60 ≤ 60 * 60 := Nat.mul_le_mul_right _ h2
    omega)
  have HJ : Hid (ordJ c = ((pairsW c).find? (ordB c)).map fun (p : Nat × Nat) => (⟨false, 2, p.1, p.2⟩ : Jd)) := Lib.hid rfl
  obtain ⟨L, hLL⟩ : ∃ L, Hid (pairsW c = L) := ⟨_, Lib.hid rfl⟩
  rw [hLL.out] at KP HMEM HLn HJ
  obtain ⟨f0, f1, f2, f3, _, _⟩ := X1.out.six
  clear h hL hm
  go_enter Tryz.func36, Tryz.ntmps36
  go_wp2_with (first | (go_at_call 61; (with_reducible refine (KP.out _ X1.out.ca).mono ?_); rintro e' w2 ⟨aL, cL, bL, rfl, ho, hb⟩; have V2 : Hid (AxOw c p L aL cL bL w w2) := Lib.hid ⟨X1.out.on hb, J1.out.on hb, ho, B1.out.trans (hb.mono B1.out.size)⟩; clear hb ho))
  go_loopw [13] (fun vi wr => ∃ (k : Nat), k ≤ L.length ∧ vi = .int .i64 k ∧ Hid (∀ j x, j < k → L[j]? = some x → ordB c x = false) ∧ Hid (AxOw c p L aL cL bL w wr)) (fun vi _ => L.length - (intOf vi).toNat)
  case atStart => exact ⟨0, Nat.zero_le _, rfl, Lib.hid (fun j x hj => by omega), V2⟩
  case round =>
    obtain ⟨k, hk, rfl, hB, hV⟩ := hrel
    by_cases hlt : k < L.length
    · obtain ⟨⟨a, b⟩, hab⟩ : ∃ q, L[k]? = some q := ⟨_, List.getElem?_eq_getElem hlt⟩
      have HAB := Lib.hid hab
      have hru := HMEM.out a b (List.mem_of_getElem? hab)
      have hin := aheadP_in (rule_ahead hru)
      obtain ⟨gL, cp, ev⟩ : ∃ g cap, (Value.slice aL L.length cL) = .slice (some ⟨g, 0, none⟩) L.length cap := by
        rcases hV.out.own.2 with ⟨_, h0⟩ | ⟨g, cap, cur, e, _⟩
        · omega
        · exact ⟨g, cap, e⟩
      injection ev with ev1 ev2 ev3
      subst ev1 ev3
      clear ev2
      obtain ⟨c0, c1⟩ := hV.out.cells hab
      obtain ⟨l, hl⟩ : ∃ l, Hid (latN c a b = l) := ⟨_, Lib.hid rfl⟩
      have KT := Lib.hid (fun w0 h0 => later_a c p w0 h0 a b (InN.at (by omega)) (InN.at (by omega)) l hl.out)
      have HLn2 := HLn.out
      have hk0 : (0 : Int) ≤ (k : Int) := by omega
      have hk1 : (k : Int) < (L.length : Int) := by omega
      have P1 : (wr.alloc (.cells #[.int .i64 (a : Int), .int .i64 (b : Int)] 53)).heap[wr.heap.size]? = some (.cells #[.int .i64 (a : Int), .int .i64 (b : Int)] 53 (0, 0)) := Array.getElem?_push_size
      have F1 : Hid ((wr.alloc (.cells #[.int .i64 (a : Int), .int .i64 (b : Int)] 53)).drew.cell? ⟨wr.heap.size, 0, none⟩ = some (.int .i64 (a : Int)) ∧ (wr.alloc (.cells #[.int .i64 (a : Int), .int .i64 (b : Int)] 53)).drew.cell? ⟨wr.heap.size, 1, none⟩ = some (.int .i64 (b : Int))) := Lib.hid ⟨by show (wr.alloc _).cell? _ = _; rw [cell_of_row _ wr.heap.size 0 _ _ _ P1]; rfl, by show (wr.alloc _).cell? _ = _; rw [cell_of_row _ wr.heap.size 1 _ _ _ P1]; rfl⟩
      have V3 := Lib.hid ((hV.out.on (box_below wr (.cells #[.int .i64 (a : Int), .int .i64 (b : Int)] 53))).on (Below.refl _ _).drew)
      clear hab hin hru P1
      go_upto_region 4 with fail
      go_region_held3 (fun w' => w'.cell? ⟨wr.heap.size, 0, none⟩ = some (.int .i64 (a : Int)) ∧ w'.cell? ⟨wr.heap.size, 1, none⟩ = some (.int .i64 (b : Int))) (exact F1.out) (fail)
      by_cases hla : l = (a : Int)
      · have HJ2 : Hid ((ordJ c).getD keptJ = ⟨false, 2, a, b⟩) := Lib.hid (by
          rw [HJ.out, find_at (ordB c) L k (a, b) HAB.out (by unfold ordB; rw [hl.out]; simpa using hla) hB.out]; rfl)
        subst hla
        have KB := Lib.hid (broken_b 2 a b)
        go_wp2_with (first
          | (go_at_call 62; (with_reducible refine (KT.out _ V3.out.ax).mono ?_); rintro e' w4 ⟨rfl, hb⟩; have V4 := Lib.hid (V3.out.on hb); clear hb)
          | (go_at_call 35; (with_reducible refine (KB.out _).mono ?_); rintro e' w5 ⟨rfl, hb⟩; have V5 := Lib.hid (V4.out.on hb); clear hb; obtain ⟨hs, hd⟩ := Dn.broken 2 a b V5.out.jb V5.out.bel; have D5 := Lib.hid hd; clear hd))
        refine bodyPost_ret (judged_end rfl rfl D5.out.jb) rfl ?_
        exact ⟨by rw [HJ2.out], D5.out.bel⟩
      · have HN : Hid (∀ j x, j < k + 1 → L[j]? = some x → ordB c x = false) := Lib.hid (fun j x hj hx => by
          by_cases e : j = k
          · subst e
            rw [HAB.out] at hx
            cases hx
            unfold ordB; rw [hl.out]; simpa using hla
          · exact hB.out j x (by omega) hx)
        go_wp2_with (first
          | (go_at_call 62; (with_reducible refine (KT.out _ V3.out.ax).mono ?_); rintro e' w4 ⟨rfl, hb⟩; have V4 := Lib.hid (V3.out.on hb); clear hb))
        go_roundw
        case rel => exact ⟨k + 1, by omega, by go_num, HN, V4⟩
        case measure => simp [intOf]; omega
    · obtain rfl : k = L.length := by omega
      have HJ2 : Hid ((ordJ c).getD keptJ = keptJ) := Lib.hid (by
        rw [HJ.out, find_none_at (ordB c) L hB.out]; rfl)
      have KK := Lib.hid kept_b
      go_wp2_with (first | (go_at_call 39; (with_reducible refine (KK.out _).mono ?_); rintro e' w3 ⟨rfl, hb⟩; have V3 := Lib.hid (hV.out.on hb); clear hb; obtain ⟨hs, hd⟩ := Dn.kept V3.out.jb V3.out.bel; have D3 := Lib.hid hd; clear hd))
      refine bodyPost_ret (judged_end rfl rfl D3.out.jb) rfl ?_
      exact ⟨by rw [HJ2.out], D3.out.bel⟩
end Go.Proofs.YtcbfokbdiefdeaaGreatDoor
namespace Go.Proofs.YtcbfokbdiefdeaaGreatDoor
set_option linter.unusedVariables false
set_option linter.unusedSimpArgs false
open Go.RowKit Go.Maps
attribute [local go_sem ↓] fold_E fold_SE
attribute [local irreducible] wpStill

/-- a view that lies fresh -/
theorem Ax.start {c : Cd} {q : Cv} {w1 : World} {v : Value} {gP : Nat} (hc : CAt c q w1) (hI : IntsAt (plcL c c.od.length) c.N gP w1) {base : Nat} (ho : w1.ownsRow base 32 14 v c.N (flat ((allP c c.nh).map (·.1)))) :
    ∃ p : Ap, p.q = q ∧ v = .slice p.aA c.N p.cA ∧ p.g = w1.heap.size ∧ Ax c p (w1.alloc (.cells #[.slice q.aF c.fs.length q.cF, .slice q.aH c.nh q.cH, .slice q.aR c.fr.length q.cR, .slice q.aO c.od.length q.cO, v, .slice (some ⟨gP, 0, none⟩) c.N c.N] 69)) := by
  have hblk : (w1.alloc (.cells #[.slice q.aF c.fs.length q.cF, .slice q.aH c.nh q.cH, .slice q.aR c.fr.length q.cR, .slice q.aO c.od.length q.cO, v, .slice (some ⟨gP, 0, none⟩) c.N c.N] 69)).heap[w1.heap.size]? = some (.cells #[.slice q.aF c.fs.length q.cF, .slice q.aH c.nh q.cH, .slice q.aR c.fr.length q.cR, .slice q.aO c.od.length q.cO, v, .slice (some ⟨gP, 0, none⟩) c.N c.N] 69 (0, 0)) := Array.getElem?_push_size
  have hbel := box_below w1 (.cells #[.slice q.aF c.fs.length q.cF, .slice q.aH c.nh q.cH, .slice q.aR c.fr.length q.cR, .slice q.aO c.od.length q.cO, v, .slice (some ⟨gP, 0, none⟩) c.N c.N] 69)
  have hrd : ∀ n, n < c.N → EReads w1 (c.at n).1 (c.at n).2 := fun n hn => (reads_of_harts hc.harts n hn).1
  rcases ho.2 with ⟨rfl, h0⟩ | ⟨g, cap, cur, rfl, hb, hgg, hcc, hm2, hs, ht⟩
  · refine ⟨⟨q, none, 0, 0, 0, gP, w1.heap.size, w1⟩, rfl, by rw [h0], rfl, ⟨?_, hbel, Nat.le_refl _, fun h => by omega, fun n hn => by omega, hrd, fun h => by omega, hI, hc⟩⟩
    exact hblk.trans (by rw [h0])
  · refine ⟨⟨q, some ⟨g, 0, none⟩, cap, g, 0, gP, w1.heap.size, w1⟩, rfl, rfl, rfl, ⟨hblk, hbel, Nat.le_refl _, fun _ => rfl, fun n hn => ?_, hrd, fun _ => (Array.getElem?_eq_some_iff.1 hgg).1, hI, hc⟩⟩
    intro j u hu
    have he : ((allP c c.nh).map (·.1))[n]? = some (c.at n).1 := by rw [List.getElem?_map, c.at_mem n hn]; rfl
    have hx := flat_at _ n j _ u he (by unfold Ev.row; simpa using hu)
    have := ho.cells (g := g) (by simp [Value.ownBlock]) (n * 14 + j) u hx
    rw [Addr.add_lit] at this
    rw [← this]
    congr 2
    show 0 + n * 14 + j = 0 + (n * 14 + j)
    omega
def LookYes (c : Cd) (q : Cv) (w : World) (e : Ending) (w' : World) : Prop := ∃ p : Ap, p.q = q ∧ e = .returned (.tuple #[.pointer (some ⟨p.g, 0, none⟩), .bool true]) ∧ Ax c p w' ∧ Below w.heap.size w w'
set_option maxRecDepth 100000 in
set_option maxHeartbeats 8000000 in
theorem alook_yes (c : Cd) (q : Cv) (w : World) (hL : Lt c) (h : CAt c q w) (hm : c.may = true) : Calls Tryz.prog 34 #[cdV c q] w fun e w' => LookYes c q w e w' := by
  have KC := Lib.hid (fun w0 h0 => check_c c q w0 hL h0 true hm)
  have KN := Lib.hid (fun w0 (h0 : HsAt c c.nh q.aH w0) => (show Calls Tryz.prog 59 #[.slice q.aH c.nh q.cH] w0 fun e w' => ∃ v, e = .returned v ∧ w'.ownsRow w0.heap.size 32 14 v c.N (flat ((allP c c.nh).map (·.1))) ∧ Below w0.heap.size w0 w' from concat_any c c.nh q.aH q.cH w0 hL.nh hL.n h0))
  have KL := Lib.hid (fun w0 h0 => Places_yes c q w0 hL h0 hm)
  have S0 := Lib.hid (Lk.start h)
  clear h hL hm
  obtain ⟨u0, u1, u2, u3⟩ := S0.out.box.facts
  go_enter Tryz.func34, Tryz.ntmps34
  go_upto_region 3 with (go_at_call 58; (with_reducible refine (KC.out _ S0.out.at_).mono ?_); rintro e' w1 ⟨rfl, hb⟩; have S1 := Lib.hid (S0.out.on hb); clear hb u0 u1 u2 u3)
  have SD := Lib.hid (S1.out.on (Below.refl _ _).drew)
  go_region_held3 (fun w' => w'.cell? ⟨w.heap.size, 0, none⟩ = some (.slice q.aF c.fs.length q.cF) ∧ w'.cell? ⟨w.heap.size, 1, none⟩ = some (.slice q.aH c.nh q.cH) ∧ w'.cell? ⟨w.heap.size, 2, none⟩ = some (.slice q.aR c.fr.length q.cR) ∧ w'.cell? ⟨w.heap.size, 3, none⟩ = some (.slice q.aO c.od.length q.cO))
    (first | exact SV.out | exact S3.out.box.facts | exact S2.out.box.facts | exact SD.out.box.facts)
    (first
    | (go_at_call 59; (with_reducible refine (KN.out _ SD.out.at_.harts).mono ?_); rintro e' w2 ⟨v, rfl, ho, hb⟩; obtain ⟨aV, cV, rfl⟩ := own_form ho; have O2 := Lib.hid ho; have S2 := Lib.hid (SD.out.on hb); clear ho hb)
    | (go_at_call 60; (with_reducible refine (KL.out _ S2.out.at_).mono ?_); rintro e' w3 ⟨gP, rfl, hg, hI, hb⟩; have S3 := Lib.hid (S2.out.on hb); obtain ⟨p, hp1, hp2, hp3, hA⟩ := Ax.start S3.out.at_ hI (own_on O2.out hb); have HA := Lib.hid hA; have HP := Lib.hid (show p.q = q ∧ p.g = w3.heap.size from ⟨hp1, hp3⟩); have SV := Lib.hid (S3.out.on (box_below w3 (.cells #[.slice q.aF c.fs.length q.cF, .slice q.aH c.nh q.cH, .slice q.aR c.fr.length q.cR,   .slice q.aO c.od.length q.cO, .slice aV c.N cV, .slice (some ⟨gP, 0, none⟩) c.N c.N] 69))).box.facts; clear hg hI hb hp1 hp2 hp3 hA))
  go_wp2
  exact bodyPost_ret (v := .tuple #[.pointer (some ⟨w3.heap.size, 0, none⟩), .bool true]) (by simp [results, Tryz.results34]) rfl ⟨p, HP.out.1, by rw [HP.out.2], HA.out, S3.out.below.trans ((box_below _ _).mono S3.out.below.size)⟩
end Go.Proofs.YtcbfokbdiefdeaaGreatDoor
namespace Go.Proofs.YtcbfokbdiefdeaaGreatDoor
set_option linter.unusedVariables false
set_option linter.unusedSimpArgs false
open Go.RowKit Go.Maps
attribute [local go_sem ↓] fold_E fold_SE fold_SJ
attribute [local irreducible] wpStill

structure Ju (c : Cd) (p : Ap) (w W : World) : Prop where
  ax : Ax c p W
  jb : JBox ⟨false, 0, 0, 0⟩ (w.heap.size + 1) W
  bel : Below w.heap.size w W
theorem Ju.on {c : Cd} {p : Ap} {w W W2 : World} (h : Ju c p w W) (hb : Below W.heap.size W W2) : Ju c p w W2 := ⟨h.ax.on hb, h.jb.on hb, h.bel.trans (hb.mono h.bel.size)⟩
theorem Ju.box {c : Cd} {p : Ap} {w w2 : World} (h : Ju c p w w2) (o : Bool) (y a b : Int) : ∃ W3, (StoreJ (.pointer (some ⟨w2.heap.size, 0, none⟩)) (.agg #[.bool o, .int .i64 y, .int .i64 a, .int .i64 b])).run Tryz.prog (w2.alloc (.cells #[.bool false, .int .i64 0, .int .i64 0, .int .i64 0] 37)) = .ok () W3 ∧ JBox ⟨o, y, a, b⟩ w2.heap.size W3 ∧ Ju c p w W3 :=
  ⟨_, run_StoreJ (k := ⟨o, y, a, b⟩) (JBox.new w2), (JBox.new w2).set ⟨o, y, a, b⟩, h.on (below_setJ (box_below w2 _) (Nat.le_refl _) _)⟩
theorem Ju.answer {c : Cd} {p : Ap} {w W : World} (h : Ju c p w W) (o : Bool) (y a b : Int) : ∃ W3, (StoreJ (.pointer (some ⟨w.heap.size + 1, 0, none⟩)) (.agg #[.bool o, .int .i64 y, .int .i64 a, .int .i64 b])).run Tryz.prog W = .ok () W3 ∧ JBox ⟨o, y, a, b⟩ (w.heap.size + 1) W3 ∧ Below w.heap.size w W3 :=
  ⟨_, run_StoreJ (k := ⟨o, y, a, b⟩) h.jb, h.jb.set ⟨o, y, a, b⟩, below_setJ h.bel (by omega) _⟩
/-- an answer of an axiom: kept, or broken -/
def AnsIs (o : Bool) (y a b : Int) (w : World) (e : Ending) (w' : World) : Prop := e = .returned (.agg #[.bool o, .int .i64 y, .int .i64 a, .int .i64 b]) ∧ Below w.heap.size w w'
theorem ans_of {j : Option Jd} {o : Bool} {y a b : Int} (h : j.getD keptJ = ⟨o, y, a, b⟩) {w w' : World} {e : Ending} (hg : GivesJ w (j.getD keptJ) e w') : AnsIs o y a b w e w' := by
  rw [h] at hg; exact hg
theorem ordJ_ok {c : Cd} {j : Jd} (h : ordJ c = some j) : j.ok = false := by
  unfold ordJ at h; rw [Option.map_eq_some_iff] at h; obtain ⟨_, _, rfl⟩ := h; rfl
theorem valJ_ok {c : Cd} {j : Jd} (h : valJ c = some j) : j.ok = false := by
  unfold valJ at h; rw [Option.map_eq_some_iff] at h; obtain ⟨_, _, rfl⟩ := h; rfl
theorem parJ_ok {c : Cd} {j : Jd} (h : parJ c = some j) : j.ok = false := by
  unfold parJ at h; rw [Option.map_eq_some_iff] at h; obtain ⟨_, _, rfl⟩ := h; rfl
set_option maxRecDepth 100000 in
set_option maxHeartbeats 8000000 in
theorem Judge_yes (c : Cd) (q : Cv) (w : World) (hL : Lt c) (h : CAt c q w) (hm : c.may = true) : Calls Tryz.prog 11 #[cdV c q] w fun e w' => GivesJ w (judgeW c) e w' := by
  have KL := Lib.hid (fun w0 h0 => alook_yes c q w0 hL h0 hm)
  have KO := Lib.hid (fun p w0 h0 => order_a c p w0 hL hm h0)
  have KV := Lib.hid (fun p w0 h0 => value_a c p w0 hL hm h0)
  have KP := Lib.hid (fun p w0 h0 => pair_a c p w0 hL hm h0)
  have S0 := Lib.hid (Lk.start h)
  have HJ : Hid (judgeW c = (ordJ c).getD ((valJ c).getD ((parJ c).getD keptJ))) := Lib.hid (by unfold judgeW; rw [hm, if_pos rfl])
  have S1 := Lib.hid (S0.out.on (box_below _ (.cells #[.bool false, .int .i64 0, .int .i64 0, .int .i64 0] 37)))
  obtain ⟨u0, u1, u2, u3⟩ := S1.out.box.facts
  clear h hL hm
  go_enter Tryz.func11, Tryz.ntmps11
  go_upto_region 4 with (go_at_call 34; (with_reducible refine (KL.out _ S1.out.at_).mono ?_); rintro e' w1 ⟨p, hp, rfl, hA, hb⟩; have A1 := Lib.hid hA; have S2 := Lib.hid (S1.out.on hb); have JB1 := Lib.hid ((JBox.new _).on hb); clear hA hb hp u0 u1 u2 u3)
  have J1 : Hid (Ju c p w w1) := Lib.hid ⟨A1.out, by have h := JB1.out; rw [show (w.alloc (.cells #[.slice q.aF c.fs.length q.cF, .slice q.aH c.nh q.cH, .slice q.aR c.fr.length q.cR, .slice q.aO c.od.length q.cO] 26)).heap.size = w.heap.size + 1 by simp] at h; exact h, S2.out.below⟩
  clear JB1
  have hix0 : ∀ W : World, (Instr.index 67 (.agg #[.func (.func 36) #[.pointer (some ⟨p.g, 0, none⟩)] #[], .func (.func 37) #[.pointer (some ⟨p.g, 0, none⟩)] #[], .func (.func 38) #[.pointer (some ⟨p.g, 0, none⟩)] #[]]) (.int .i64 0)).run Tryz.prog W = .ok (.func (.func 36) #[.pointer (some ⟨p.g, 0, none⟩)] #[]) W := fun W => by kernel_rfl
  have hix1 : ∀ W : World, (Instr.index 67 (.agg #[.func (.func 36) #[.pointer (some ⟨p.g, 0, none⟩)] #[], .func (.func 37) #[.pointer (some ⟨p.g, 0, none⟩)] #[], .func (.func 38) #[.pointer (some ⟨p.g, 0, none⟩)] #[]]) (.int .i64 1)).run Tryz.prog W = .ok (.func (.func 37) #[.pointer (some ⟨p.g, 0, none⟩)] #[]) W := fun W => by kernel_rfl
  have hix2 : ∀ W : World, (Instr.index 67 (.agg #[.func (.func 36) #[.pointer (some ⟨p.g, 0, none⟩)] #[], .func (.func 37) #[.pointer (some ⟨p.g, 0, none⟩)] #[], .func (.func 38) #[.pointer (some ⟨p.g, 0, none⟩)] #[]]) (.int .i64 2)).run Tryz.prog W = .ok (.func (.func 38) #[.pointer (some ⟨p.g, 0, none⟩)] #[]) W := fun W => by kernel_rfl
  cases h0 : ordJ c with
  | some j =>
    obtain ⟨o, y, a, b⟩ := j
    obtain rfl : o = false := ordJ_ok h0
    rw [h0] at HJ
    have K0 := Lib.hid (fun w0 hx => (KO.out p w0 hx).mono (fun e w2 hg => ans_of (o := false) (y := y) (a := a) (b := b) (by rw [h0]; rfl) hg))
    go_wp2
    refine wp_loop_rounds 4 ?_
    rw [rounds_succ]
    go_wp2_with (first | (go_at_call 36; (with_reducible refine (K0.out _ J1.out.ax).mono ?_); rintro e0 x0 ⟨rfl, hb⟩; obtain ⟨W2, hs2, hj, hJ⟩ := Ju.box (J1.out.on hb) false y a b; have J2 := Lib.hid hJ; obtain ⟨q20, q21, q22, q23⟩ := hj.facts; obtain ⟨W9, hs9, hj9, hB9⟩ := hJ.answer false y a b; have D9 := Lib.hid hj9; have B9 := Lib.hid hB9; clear hj9 hB9; clear hb hj hJ))
    refine bodyPost_ret (judged_end rfl rfl D9.out) rfl ?_
    exact ⟨by rw [HJ.out]; rfl, B9.out⟩
  | none =>
    cases h1 : valJ c with
    | some j =>
      rw [h0] at HJ
      obtain ⟨o, y, a, b⟩ := j
      obtain rfl : o = false := valJ_ok h1
      rw [h1] at HJ
      have K0 := Lib.hid (fun w0 hx => (KO.out p w0 hx).mono (fun e w2 hg => ans_of (o := true) (y := 0) (a := -1) (b := -1) (by rw [h0]; rfl) hg))
      have K1 := Lib.hid (fun w0 hx => (KV.out p w0 hx).mono (fun e w2 hg => ans_of (o := false) (y := y) (a := a) (b := b) (by rw [h1]; rfl) hg))
      go_wp2
      refine wp_loop_rounds 4 ?_
      rw [rounds_succ]
      go_wp2_with (first | (go_at_call 36; (with_reducible refine (K0.out _ J1.out.ax).mono ?_); rintro e0 x0 ⟨rfl, hb⟩; obtain ⟨W2, hs2, hj, hJ⟩ := Ju.box (J1.out.on hb) true 0 (-1) (-1); have J2 := Lib.hid hJ; obtain ⟨q20, q21, q22, q23⟩ := hj.facts; clear hb hj hJ))
      rw [rounds_succ]
      go_wp2_with (first | (go_at_call 37; (with_reducible refine (K1.out _ J2.out.ax).mono ?_); rintro e1 x1 ⟨rfl, hb⟩; obtain ⟨W3, hs3, hj, hJ⟩ := Ju.box (J2.out.on hb) false y a b; have J3 := Lib.hid hJ; obtain ⟨q30, q31, q32, q33⟩ := hj.facts; obtain ⟨W9, hs9, hj9, hB9⟩ := hJ.answer false y a b; have D9 := Lib.hid hj9; have B9 := Lib.hid hB9; clear hj9 hB9; clear hb hj hJ))
      refine bodyPost_ret (judged_end rfl rfl D9.out) rfl ?_
      exact ⟨by rw [HJ.out]; rfl, B9.out⟩
    | none =>
      cases h2 : parJ c with
      | some j =>
        rw [h0] at HJ
        rw [h1] at HJ
        obtain ⟨o, y, a, b⟩ := j
        obtain rfl : o = false := parJ_ok h2
        rw [h2] at HJ
        have K0 := Lib.hid (fun w0 hx => (KO.out p w0 hx).mono (fun e w2 hg => ans_of (o := true) (y := 0) (a := -1) (b := -1) (by rw [h0]; rfl) hg))
        have K1 := Lib.hid (fun w0 hx => (KV.out p w0 hx).mono (fun e w2 hg => ans_of (o := true) (y := 0) (a := -1) (b := -1) (by rw [h1]; rfl) hg))
        have K2 := Lib.hid (fun w0 hx => (KP.out p w0 hx).mono (fun e w2 hg => ans_of (o := false) (y := y) (a := a) (b := b) (by rw [h2]; rfl) hg))
        go_wp2
        refine wp_loop_rounds 4 ?_
        rw [rounds_succ]
        go_wp2_with (first | (go_at_call 36; (with_reducible refine (K0.out _ J1.out.ax).mono ?_); rintro e0 x0 ⟨rfl, hb⟩; obtain ⟨W2, hs2, hj, hJ⟩ := Ju.box (J1.out.on hb) true 0 (-1) (-1); have J2 := Lib.hid hJ; obtain ⟨q20, q21, q22, q23⟩ := hj.facts; clear hb hj hJ))
        rw [rounds_succ]
        go_wp2_with (first | (go_at_call 37; (with_reducible refine (K1.out _ J2.out.ax).mono ?_); rintro e1 x1 ⟨rfl, hb⟩; obtain ⟨W3, hs3, hj, hJ⟩ := Ju.box (J2.out.on hb) true 0 (-1) (-1); have J3 := Lib.hid hJ; obtain ⟨q30, q31, q32, q33⟩ := hj.facts; clear hb hj hJ))
        rw [rounds_succ]
        go_wp2_with (first | (go_at_call 38; (with_reducible refine (K2.out _ J3.out.ax).mono ?_); rintro e2 x2 ⟨rfl, hb⟩; obtain ⟨W4, hs4, hj, hJ⟩ := Ju.box (J3.out.on hb) false y a b; have J4 := Lib.hid hJ; obtain ⟨q40, q41, q42, q43⟩ := hj.facts; obtain ⟨W9, hs9, hj9, hB9⟩ := hJ.answer false y a b; have D9 := Lib.hid hj9; have B9 := Lib.hid hB9; clear hj9 hB9; clear hb hj hJ))
        refine bodyPost_ret (judged_end rfl rfl D9.out) rfl ?_
        exact ⟨by rw [HJ.out]; rfl, B9.out⟩
      | none =>
        rw [h0] at HJ
        rw [h1] at HJ
        rw [h2] at HJ
        have K0 := Lib.hid (fun w0 hx => (KO.out p w0 hx).mono (fun e w2 hg => ans_of (o := true) (y := 0) (a := -1) (b := -1) (by rw [h0]; rfl) hg))
        have K1 := Lib.hid (fun w0 hx => (KV.out p w0 hx).mono (fun e w2 hg => ans_of (o := true) (y := 0) (a := -1) (b := -1) (by rw [h1]; rfl) hg))
        have K2 := Lib.hid (fun w0 hx => (KP.out p w0 hx).mono (fun e w2 hg => ans_of (o := true) (y := 0) (a := -1) (b := -1) (by rw [h2]; rfl) hg))
        go_wp2
        refine wp_loop_rounds 4 ?_
        rw [rounds_succ]
        go_wp2_with (first | (go_at_call 36; (with_reducible refine (K0.out _ J1.out.ax).mono ?_); rintro e0 x0 ⟨rfl, hb⟩; obtain ⟨W2, hs2, hj, hJ⟩ := Ju.box (J1.out.on hb) true 0 (-1) (-1); have J2 := Lib.hid hJ; obtain ⟨q20, q21, q22, q23⟩ := hj.facts; clear hb hj hJ))
        rw [rounds_succ]
        go_wp2_with (first | (go_at_call 37; (with_reducible refine (K1.out _ J2.out.ax).mono ?_); rintro e1 x1 ⟨rfl, hb⟩; obtain ⟨W3, hs3, hj, hJ⟩ := Ju.box (J2.out.on hb) true 0 (-1) (-1); have J3 := Lib.hid hJ; obtain ⟨q30, q31, q32, q33⟩ := hj.facts; clear hb hj hJ))
        rw [rounds_succ]
        go_wp2_with (first | (go_at_call 38; (with_reducible refine (K2.out _ J3.out.ax).mono ?_); rintro e2 x2 ⟨rfl, hb⟩; obtain ⟨W4, hs4, hj, hJ⟩ := Ju.box (J3.out.on hb) true 0 (-1) (-1); have J4 := Lib.hid hJ; obtain ⟨q40, q41, q42, q43⟩ := hj.facts; clear hb hj hJ))
        rw [rounds_succ]
        have KK := Lib.hid kept_b
        go_wp2_with (first | (go_at_call 39; (with_reducible refine (KK.out _).mono ?_); rintro e8 x8 ⟨rfl, hb⟩; have J8 := Lib.hid (J4.out.on hb); obtain ⟨W9, hs9, hj9, hB9⟩ := J8.out.answer true 0 (-1) (-1); have D9 := Lib.hid hj9; have B9 := Lib.hid hB9; clear hj9 hB9 hb))
        refine bodyPost_ret (judged_end rfl rfl D9.out) rfl ?_
        exact ⟨by rw [HJ.out]; rfl, B9.out⟩
end Go.Proofs.YtcbfokbdiefdeaaGreatDoor
namespace Go.Proofs.YtcbfokbdiefdeaaGreatDoor
set_option linter.unusedVariables false
set_option linter.unusedSimpArgs false
open Go.RowKit Go.Maps
attribute [local go_sem ↓] fold_E fold_SE fold_SJ
attribute [local irreducible] wpStill

/-- a view of none -/
def AxE (g : Nat) (w : World) : Prop := w.heap[g]? = some (.cells #[.slice none 0 0, .slice none 0 0, .slice none 0 0, .slice none 0 0, .slice none 0 0, .slice none 0 0] 69 (0, 0))
theorem AxE.lt {g : Nat} {w : World} (h : AxE g w) : g < w.heap.size := (Array.getElem?_eq_some_iff.1 h).1
theorem AxE.on {g : Nat} {w w' : World} (h : AxE g w) (hb : Below w.heap.size w w') : AxE g w' := (hb.block g h.lt).trans h
theorem AxE.all {g : Nat} {w : World} (h : AxE g w) : w.cell? ⟨g, 4, none⟩ = some (.slice none 0 0) := by rw [cell_of_row w g 4 _ _ _ h]; rfl
def ALookNo (w : World) (e : Ending) (w' : World) : Prop := ∃ g, e = .returned (.tuple #[.pointer (some ⟨g, 0, none⟩), .bool false]) ∧ AxE g w' ∧ Below w.heap.size w w'
set_option maxRecDepth 100000 in
set_option maxHeartbeats 4000000 in
theorem alook_no (c : Cd) (q : Cv) (w : World) (hL : Lt c) (h : CAt c q w) (hm : c.may = false) : Calls Tryz.prog 34 #[cdV c q] w fun e w' => ALookNo w e w' := by
  have KC := Lib.hid (fun w0 h0 => check_c c q w0 hL h0 false hm)
  have S0 := Lib.hid (Lk.start h)
  clear h hL hm
  obtain ⟨u0, u1, u2, u3⟩ := S0.out.box.facts
  go_enter Tryz.func34, Tryz.ntmps34
  go_wp2_with (go_at_call 58; (with_reducible refine (KC.out _ S0.out.at_).mono ?_); rintro e' w1 ⟨rfl, hb⟩; have S1 := Lib.hid (S0.out.on hb); clear hb u0 u1 u2 u3)
  exact bodyPost_ret (v := .tuple #[.pointer (some ⟨w1.heap.size, 0, none⟩), .bool false]) (by simp [results, Tryz.results34]) rfl ⟨w1.heap.size, rfl, Array.getElem?_push_size, S1.out.below.trans ((box_below w1 _).mono S1.out.below.size)⟩
theorem ans_store {k : Jd} {w W : World} {n : Nat} (hj : JBox k n W) (hn : w.heap.size ≤ n) (hb : Below w.heap.size w W) (o : Bool) (y a b : Int) : ∃ W3, (StoreJ (.pointer (some ⟨n, 0, none⟩)) (.agg #[.bool o, .int .i64 y, .int .i64 a, .int .i64 b])).run Tryz.prog W = .ok () W3 ∧ JBox ⟨o, y, a, b⟩ n W3 ∧ Below w.heap.size w W3 :=
  ⟨_, run_StoreJ (k := ⟨o, y, a, b⟩) hj, hj.set ⟨o, y, a, b⟩, below_setJ hb hn _⟩
set_option maxRecDepth 100000 in
set_option maxHeartbeats 4000000 in
theorem Judge_no (c : Cd) (q : Cv) (w : World) (hL : Lt c) (h : CAt c q w) (hm : c.may = false) : Calls Tryz.prog 11 #[cdV c q] w fun e w' => GivesJ w (judgeW c) e w' := by
  have KL := Lib.hid (fun w0 h0 => alook_no c q w0 hL h0 hm)
  have S0 := Lib.hid (Lk.start h)
  have HJ : Hid (judgeW c = ⟨false, 1, -1, -1⟩) := Lib.hid (by unfold judgeW; rw [hm]; simp)
  have S1 := Lib.hid (S0.out.on (box_below _ (.cells #[.bool false, .int .i64 0, .int .i64 0, .int .i64 0] 37)))
  have J0 : Hid (JBox ⟨false, 0, 0, 0⟩ (w.heap.size + 1) ((w.alloc (.cells #[.slice q.aF c.fs.length q.cF, .slice q.aH c.nh q.cH, .slice q.aR c.fr.length q.cR, .slice q.aO c.od.length q.cO] 26)).alloc (.cells #[.bool false, .int .i64 0, .int .i64 0, .int .i64 0] 37))) := Lib.hid (by
    have h := JBox.new (w.alloc (.cells #[.slice q.aF c.fs.length q.cF, .slice q.aH c.nh q.cH, .slice q.aR c.fr.length q.cR, .slice q.aO c.od.length q.cO] 26))
    rw [show (w.alloc (.cells #[.slice q.aF c.fs.length q.cF, .slice q.aH c.nh q.cH, .slice q.aR c.fr.length q.cR, .slice q.aO c.od.length q.cO] 26)).heap.size = w.heap.size + 1 by simp] at h
    exact h)
  obtain ⟨u0, u1, u2, u3⟩ := S1.out.box.facts
  clear h hL hm
  go_enter Tryz.func11, Tryz.ntmps11
  go_wp2_with (first
    | (go_at_call 34; (with_reducible refine (KL.out _ S1.out.at_).mono ?_); rintro e' w1 ⟨g, rfl, _, hb⟩; have S2 := Lib.hid (S1.out.on hb); have J2 := Lib.hid (J0.out.on hb); clear hb u0 u1 u2 u3)
    | (go_at_call 35; (with_reducible refine (broken_b _ _ _ _).mono ?_); rintro e8 x8 ⟨rfl, hb⟩; obtain ⟨W9, hs9, hj9, hB9⟩ := ans_store (w := w) (J2.out.on hb) (by omega) (S2.out.on hb).below false 1 (-1) (-1); have D9 := Lib.hid hj9; have B9 := Lib.hid hB9; clear hj9 hB9 hb))
  refine bodyPost_ret (judged_end rfl rfl D9.out) rfl ?_
  exact ⟨by rw [HJ.out], B9.out⟩
theorem Judge_any (c : Cd) (q : Cv) (w : World) (hL : Lt c) (h : CAt c q w) : Calls Tryz.prog 11 #[cdV c q] w fun e w' => GivesJ w (judgeW c) e w' := by
  cases hm : c.may with
  | true => exact Judge_yes c q w hL h hm
  | false => exact Judge_no c q w hL h hm
set_option maxRecDepth 100000 in
set_option maxHeartbeats 4000000 in
theorem Ok_any (c : Cd) (q : Cv) (w : World) (hL : Lt c) (h : CAt c q w) (r : Bool) (hr : (judgeW c).ok = r) : Calls Tryz.prog 12 #[cdV c q] w fun e w' => SaysB w r e w' := by
  obtain ⟨o, y, a, b, hj⟩ : ∃ o y a b, judgeW c = ⟨o, y, a, b⟩ := ⟨_, _, _, _, rfl⟩
  have hro : r = o := by rw [← hr, hj]
  subst hro
  have KJ := Lib.hid (fun w0 h0 => (show Calls Tryz.prog 11 #[cdV c q] w0 fun e w' => AnsIs r y a b w0 e w' from by
    have := Judge_any c q w0 hL h0
    rw [hj] at this
    exact this))
  have S0 := Lib.hid (Lk.start h)
  obtain ⟨u0, u1, u2, u3⟩ := S0.out.box.facts
  have hfd : ∀ W : World, (Instr.field 37 (.agg #[.bool r, .int .i64 y, .int .i64 a, .int .i64 b]) 0).run Tryz.prog W = .ok (.bool r) W := fun W => by kernel_rfl
  clear h hL hr hj
  go_enter Tryz.func12, Tryz.ntmps12
  go_wp2_with (go_at_call 11; (with_reducible refine (KJ.out _ S0.out.at_).mono ?_); rintro e' w1 ⟨rfl, hb⟩; have S1 := Lib.hid (S0.out.on hb); clear hb u0 u1 u2 u3)
  go_ret
  exact ⟨rfl, S1.out.below⟩
end Go.Proofs.YtcbfokbdiefdeaaGreatDoor
