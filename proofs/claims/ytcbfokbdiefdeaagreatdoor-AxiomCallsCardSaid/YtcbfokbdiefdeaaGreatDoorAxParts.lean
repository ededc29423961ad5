/-
  Proved here: package axiom's order, value, pair and parting: each answers whether its axiom holds, or by whom it is broken; nothing that was there is changed. Condition: a view of a light candidate that may be.
  (With it: Proved here: package axiom's meet: a number's source so far, and who was met; nothing else that was there is changed. Condition: a view of a light candidate that may be; a map and a row of the caller's own.)
  (With it: Proved here: package axiom's sources: which one each number should read from; nothing that was there is changed. Condition: a view of a light candidate that may be.)
-/
import Derived.Test.YtcbfokbdiefdeaaGreatDoorAxView
import Derived.Test.YtcbfokbdiefdeaaGreatDoorPpWhole
namespace Go.Proofs.YtcbfokbdiefdeaaGreatDoor
set_option linter.unusedVariables false
set_option linter.unusedSimpArgs false
open Go.RowKit Go.Maps
attribute [local go_sem ↓] fold_E fold_SE
attribute [local irreducible] wpStill

/-- who was met and what is read, in the caller's own map and row -/
structure St (c : Cd) (p : Ap) (s : Sx) (gM gS cnt n0 : Nat) (w0 w : World) : Prop where
  ax : Ax c p w
  mp : ∃ D, OMs gM cnt D w ∧ MetS s.met D
  sr : IntsAt s.src c.N gS w
  bel : Below n0 w0 w
  hn : p.g < n0 ∧ n0 ≤ gM ∧ n0 ≤ gS ∧ gM ≠ gS ∧ n0 ≤ w0.heap.size
  im : ∀ x, InN c (s.met x)
  is_ : ∀ k, k < c.N → InN c (s.src k)
theorem St.n0 {c : Cd} {p : Ap} {s : Sx} {gM gS cnt n0 : Nat} {w0 w : World} (h : St c p s gM gS cnt n0 w0 w) : n0 ≤ w.heap.size := by have := h.bel.size; have := h.hn.2.2.2.2; omega
theorem St.on {c : Cd} {p : Ap} {s : Sx} {gM gS cnt n0 : Nat} {w0 w w2 : World} (h : St c p s gM gS cnt n0 w0 w) (hb : Below w.heap.size w w2) : St c p s gM gS cnt n0 w0 w2 := by
  obtain ⟨D, h1, h2⟩ := h.mp
  exact ⟨h.ax.on hb, ⟨D, h1.on hb, h2⟩, h.sr.on hb, h.bel.trans (hb.mono h.n0), h.hn, h.im, h.is_⟩
theorem St.set {c : Cd} {p : Ap} {s : Sx} {gM gS cnt n0 : Nat} {w0 w : World} (h : St c p s gM gS cnt n0 w0 w) {n : Nat} {L : Int} (hL : InN c L) : St c p ⟨s.met, fun k => if k = n then L else s.src k⟩ gM gS cnt n0 w0 (w.setCell ⟨gS, n, none⟩ (.int .i64 L)) := by
  obtain ⟨D, h1, h2⟩ := h.mp
  have hb : Below n0 w (w.setCell ⟨gS, n, none⟩ (.int .i64 L)) := (Below.refl _ _).setCell (p := ⟨gS, n, none⟩) h.hn.2.2.1 _
  refine ⟨h.ax.on' h.hn.1 hb, ⟨D, ?_, h2⟩, h.sr.set n L (fun k _ => rfl), h.bel.trans hb, h.hn, h.im, fun k hk => ?_⟩
  · obtain ⟨es, clock, g1, g2⟩ := h1
    exact ⟨es, clock, (Below.heap_setCell w ⟨gS, n, none⟩ _ _ h.hn.2.2.2.1).trans g1, g2⟩
  · show InN c (if k = n then L else s.src k)
    split
    · exact hL
    · exact h.is_ k hk
theorem St.put {c : Cd} {p : Ap} {s : Sx} {gM gS cnt n0 : Nat} {w0 w w2 : World} (h : St c p s gM gS cnt n0 w0 w) {f : Int → Int} {D : DataW Unit} (ho : OMs gM (cnt + 1) D w2) (hM : MetS f D) (hg : w.grownBy w2 (some gM)) (hf : ∀ x, InN c (f x)) : St c p ⟨f, s.src⟩ gM gS (cnt + 1) n0 w0 w2 := by
  have hb : Below n0 w w2 := (Below.refl n0 w).grown hg h.n0 (fun k hk => by cases hk; exact h.hn.2.1)
  exact ⟨h.ax.on' h.hn.1 hb, ⟨D, ho, hM⟩, (hg.block gS h.sr.lt (fun e => h.hn.2.2.2.1 (by injection e with e; exact e.symm))).trans h.sr, h.bel.trans hb, h.hn, hf, h.is_⟩
theorem St.more {c : Cd} {p : Ap} {s : Sx} {gM gS cnt n0 : Nat} {w0 w : World} (h : St c p s gM gS cnt n0 w0 w) : St c p s gM gS (cnt + 1) n0 w0 w := by
  obtain ⟨D, h1, h2⟩ := h.mp
  exact ⟨h.ax, ⟨D, h1.mono (by omega), h2⟩, h.sr, h.bel, h.hn, h.im, h.is_⟩
theorem St.like {c : Cd} {p : Ap} {s s2 : Sx} {gM gS cnt n0 : Nat} {w0 w : World} (h : St c p s gM gS cnt n0 w0 w) (hm : ∀ y, s2.met y = s.met y) (hs : ∀ k, s2.src k = s.src k) : St c p s2 gM gS cnt n0 w0 w := by
  have e1 : s2.met = s.met := funext hm
  have e2 : s2.src = s.src := funext hs
  have : s2 = s := by cases s; cases s2; simp only at e1 e2; subst e1 e2; rfl
  rw [this]; exact h
/-- with the box of an event -/
structure Tx (c : Cd) (p : Ap) (s : Sx) (e : Ev) (gM gS cnt n0 bx : Nat) (w0 w : World) : Prop where
  st : St c p s gM gS cnt n0 w0 w
  ev : EvAt e bx w
  ne : bx ≠ gS
  nm : bx ≠ gM
theorem Tx.on {c : Cd} {p : Ap} {s : Sx} {e : Ev} {gM gS cnt n0 bx : Nat} {w0 w w2 : World} (h : Tx c p s e gM gS cnt n0 bx w0 w) (hb : Below w.heap.size w w2) : Tx c p s e gM gS cnt n0 bx w0 w2 := ⟨h.st.on hb, h.ev.on hb, h.ne, h.nm⟩
theorem Tx.set {c : Cd} {p : Ap} {s : Sx} {e : Ev} {gM gS cnt n0 bx : Nat} {w0 w : World} (h : Tx c p s e gM gS cnt n0 bx w0 w) {n : Nat} {L : Int} (hL : InN c L) : Tx c p ⟨s.met, fun k => if k = n then L else s.src k⟩ e gM gS cnt n0 bx w0 (w.setCell ⟨gS, n, none⟩ (.int .i64 L)) :=
  ⟨h.st.set hL, (Below.heap_setCell w ⟨gS, n, none⟩ _ _ h.ne).trans h.ev, h.ne, h.nm⟩
theorem Tx.addr {c : Cd} {p : Ap} {s : Sx} {e : Ev} {gM gS cnt n0 bx : Nat} {w0 w : World} (h : Tx c p s e gM gS cnt n0 bx w0 w) : w.cell? ⟨bx, 3, none⟩ = some (.int .u64 e.addr) := by
  obtain ⟨_, _, _, _, g3, _⟩ := h.ev.facts
  exact g3
theorem Tx.put {c : Cd} {p : Ap} {s : Sx} {e : Ev} {gM gS cnt n0 bx : Nat} {w0 w w2 : World} (h : Tx c p s e gM gS cnt n0 bx w0 w) (hg : w.grownBy w2 (some gM)) : w2.cell? ⟨bx, 3, none⟩ = some (.int .u64 e.addr) := by
  have h2 : EvAt e bx w2 := (hg.block bx (Array.getElem?_eq_some_iff.1 h.ev).1 (fun x => h.nm (by injection x))).trans h.ev
  obtain ⟨_, _, _, _, g3, _⟩ := h2.facts
  exact g3
theorem Tx.start {c : Cd} {p : Ap} {s : Sx} {e : Ev} {gM gS cnt n0 : Nat} {w0 w w1 : World} {o : Obj} (h : St c p s gM gS cnt n0 w0 w) (D1 : EvAt e w.heap.size w1) (hb : Below w.heap.size (w.alloc o) w1) : Tx c p s e gM gS cnt n0 w.heap.size w0 w1 :=
  ⟨h.on ((box_below w o).trans hb), D1, by have := h.sr.lt; omega, by obtain ⟨D, h1, _⟩ := h.mp; have := h1.lt; omega⟩
def MeetIs (c : Cd) (p : Ap) (s : Sx) (gM gS cnt n0 : Nat) (w0 : World) (e : Ending) (w' : World) : Prop := e = .returned (.tuple #[]) ∧ St c p s gM gS cnt n0 w0 w'
set_option maxRecDepth 100000 in
set_option maxHeartbeats 8000000 in
theorem meet_a (c : Cd) (p : Ap) (s : Sx) (gM gS cnt n0 n : Nat) (w0 w : World) (h : St c p s gM gS cnt n0 w0 w) (hn : n < c.N) (hcnt : cnt < 100000) (hwf : (Lit.int .u64 (c.at n).1.addr).wf = true) (hN : c.N ≤ 60) : Calls Tryz.prog 65 #[.pointer (some ⟨p.g, 0, none⟩), .int .i64 (n : Int), .map (some gM), .slice (some ⟨gS, 0, none⟩) c.N c.N] w fun e w' => MeetIs c p (meetN c n s) gM gS (cnt + 1) n0 w0 e w' := by
  have hfl := Lib.hid ((h.ax.rd n hn).flat)
  have cl := (h.ax.ev n hn).load
  have f4 := h.ax.six.2.2.2.2.1
  rw [h.ax.hA (by omega)] at f4
  obtain ⟨e, he⟩ : ∃ e, Hid ((c.at n).1 = e) := ⟨_, Lib.hid rfl⟩
  rw [he.out] at cl hfl hwf
  obtain ⟨r1, hr1⟩ : ∃ r, Hid (readsE e = r) := ⟨_, Lib.hid rfl⟩
  obtain ⟨r2, hr2⟩ : ∃ r, Hid (writesE e = r) := ⟨_, Lib.hid rfl⟩
  have KR := Lib.hid (fun w0 => Reads_b e r1 hr1.out w0)
  have KW := Lib.hid (fun w0 => Writes_b e r2 hr2.out w0)
  obtain ⟨m, hm⟩ : ∃ m, Hid (s.met e.addr = m) := ⟨_, Lib.hid rfl⟩
  obtain ⟨x, hx⟩ : ∃ x, Hid (s.src n = x) := ⟨_, Lib.hid rfl⟩
  obtain ⟨L1, hL1⟩ : ∃ L, Hid (latN c x m = L) := ⟨_, Lib.hid rfl⟩
  obtain ⟨L2, hL2⟩ : ∃ L, Hid (latN c m n = L) := ⟨_, Lib.hid rfl⟩
  have hmi : InN c m := by rw [← hm.out]; exact h.im _
  have hxi : InN c x := by rw [← hx.out]; exact h.is_ n hn
  have K1 := Lib.hid (fun w0 h0 => later_a c p w0 h0 x m hxi hmi L1 hL1.out)
  have K2 := Lib.hid (fun w0 h0 => later_a c p w0 h0 m n hmi (InN.at hn) L2 hL2.out)
  have HL1 := Lib.hid (show InN c L1 by rw [← hL1.out]; exact latN_in hxi hmi)
  have HL2 := Lib.hid (show InN c L2 by rw [← hL2.out]; exact latN_in hmi (InN.at hn))
  have hwv : (Lit.int .i64 L2).wf = true := by
    have h1 : IntKind.i64.min = -9223372036854775808 := by decide
    have h2 : IntKind.i64.max = 9223372036854775807 := by decide
    simp only [Lit.wf, Bool.and_eq_true, decide_eq_true_eq]
    rcases HL2.out with h | ⟨h3, h4⟩ <;> omega
  have HX : Hid (meetN c n s = ⟨fun y => if r2 = true ∧ y = e.addr then L2 else s.met y, fun k => if r1 = true ∧ k = n then L1 else s.src k⟩) := Lib.hid (by
    unfold meetN
    rw [he.out, hr1.out, hr2.out, hm.out]
    congr 1
    · funext y
      by_cases hc : r2 = true ∧ y = e.addr
      · rw [if_pos hc, if_pos hc, hc.2, hm.out, hL2.out]
      · rw [if_neg hc, if_neg hc]
    · funext k
      by_cases hc : r1 = true ∧ k = n
      · rw [if_pos hc, if_pos hc, hc.2, hx.out, hL1.out]
      · rw [if_neg hc, if_neg hc])
  have S0 := Lib.hid h
  have h0 : (0 : Int) ≤ (n : Int) := by omega
  have h1 : (n : Int) < (c.N : Int) := by omega
  have HN := Lib.hid hn
  clear h hmi hxi hn
  go_enter Tryz.func65, Tryz.ntmps65
  go_upto_region 1 with (refine store_ev (EvAt.new_at zeroEv _ w.heap.size (by simp)) e hfl.out rfl (.tmp 8) (.tmp 17) rfl rfl rfl ?_; intro w1 D1 ho1 hb1 hz1; have S1 := Lib.hid (Tx.start S0.out D1 hb1); clear D1 ho1 hb1 hz1)
  obtain ⟨D, HO, HM⟩ := S1.out.st.mp
  obtain ⟨v, r, hlk, hv1, hv0⟩ := HO.look HM hwf
  rw [hm.out] at hv1 hv0
  have HO1 := Lib.hid HO
  have HM1 := Lib.hid HM
  clear HO HM cl f4
  have a1 := S1.out.addr
  cases r with
  | false =>
    obtain rfl : m = -1 := hv0 rfl
    clear hv1 hv0
    cases r1 with
    | false =>
      cases r2 with
      | false =>
        have cl1 := run_LoadE S1.out.ev
        go_upto_region 6 with (first | (go_at_call 83; (with_reducible refine (KR.out _).mono ?_); rintro e2 w2 ⟨rfl, hb⟩; have S2 := Lib.hid (S1.out.on hb); clear hb cl1 a1 hlk; have cl2 := run_LoadE S2.out.ev))
        go_wp2_with (first | (go_at_call 81; (with_reducible refine (KW.out _).mono ?_); rintro e5 w5 ⟨rfl, hb⟩; have S5 := Lib.hid (S2.out.on hb); clear hb cl2))
        exact bodyPost_ret (v := .tuple #[]) (by simp [results, Tryz.results65]) rfl ⟨rfl, by rw [HX.out]; exact St.like S5.out.st.more (fun y => by simp) (fun k => by simp)⟩
      | true =>
        have cl1 := run_LoadE S1.out.ev
        go_upto_region 6 with (first | (go_at_call 83; (with_reducible refine (KR.out _).mono ?_); rintro e2 w2 ⟨rfl, hb⟩; have S2 := Lib.hid (S1.out.on hb); clear hb cl1 a1 hlk; have cl2 := run_LoadE S2.out.ev))
        go_upto_region 7 with (first | (go_at_call 81; (with_reducible refine (KW.out _).mono ?_); rintro e5 w5 ⟨rfl, hb⟩; have S5 := Lib.hid (S2.out.on hb); clear hb cl2; have a5 := S5.out.addr))
        have S6 := Lib.hid (S5.out.on (Below.refl _ _).drew)
        have F6 : Hid (w5.drew.cell? ⟨w.heap.size, 3, none⟩ = some (.int .u64 e.addr)) := Lib.hid S6.out.addr
        go_region_held3 (fun w2 => w2.cell? ⟨w.heap.size, 3, none⟩ = some (.int .u64 e.addr)) (first | exact F6.out | exact F7.out | exact F8.out) ((go_at_call 62; (with_reducible refine (K2.out _ S6.out.st.ax).mono ?_); rintro e7 w7 ⟨rfl, hb⟩; have S7 := Lib.hid (S6.out.on hb); clear hb; have F7 : Hid (w7.cell? ⟨w.heap.size, 3, none⟩ = some (.int .u64 e.addr)) := Lib.hid S7.out.addr; obtain ⟨D7, o7, m7⟩ := S7.out.st.mp; obtain ⟨w8, hup, ⟨o8, m8⟩, hg8⟩ := o7.put m7 hcnt hwf hwv; have S8 := Lib.hid (S7.out.st.put o8 m8 hg8 (fun y => by show InN c (if y = e.addr then L2 else _); split; exact HL2.out; exact S7.out.st.im y)); have F8 : Hid (w8.cell? ⟨w.heap.size, 3, none⟩ = some (.int .u64 e.addr)) := Lib.hid (S7.out.put hg8); clear o7 m7 o8 m8 hg8))
        go_wp2_with fail
        exact bodyPost_ret (v := .tuple #[]) (by simp [results, Tryz.results65]) rfl ⟨rfl, by rw [HX.out]; exact St.like S8.out (fun y => by simp) (fun k => by simp)⟩
    | true =>
      cases r2 with
      | false =>
        have cl1 := run_LoadE S1.out.ev
        go_upto_region 6 with (first | (go_at_call 83; (with_reducible refine (KR.out _).mono ?_); rintro e2 w2 ⟨rfl, hb⟩; have S2 := Lib.hid (S1.out.on hb); clear hb cl1 a1 hlk; have cl2 := run_LoadE S2.out.ev; have cx := S2.out.st.sr.cell n HN.out; rw [hx.out] at cx) | (go_at_call 62; (with_reducible refine (K1.out _ S2.out.st.ax).mono ?_); rintro e3 w3 ⟨rfl, hb⟩; have S3 := Lib.hid (S2.out.on hb); clear hb cl2 cx; have cx := S3.out.st.sr.cell n HN.out; have zx := S3.out.st.sr.free n; have S4 := Lib.hid (S3.out.set (n := n) HL1.out); have cl2 := run_LoadE S4.out.ev))
        go_wp2_with (first | (go_at_call 81; (with_reducible refine (KW.out _).mono ?_); rintro e5 w5 ⟨rfl, hb⟩; have S5 := Lib.hid (S4.out.on hb); clear hb cl2))
        exact bodyPost_ret (v := .tuple #[]) (by simp [results, Tryz.results65]) rfl ⟨rfl, by rw [HX.out]; exact St.like S5.out.st.more (fun y => by simp) (fun k => by simp)⟩
      | true =>
        have cl1 := run_LoadE S1.out.ev
        go_upto_region 6 with (first | (go_at_call 83; (with_reducible refine (KR.out _).mono ?_); rintro e2 w2 ⟨rfl, hb⟩; have S2 := Lib.hid (S1.out.on hb); clear hb cl1 a1 hlk; have cl2 := run_LoadE S2.out.ev; have cx := S2.out.st.sr.cell n HN.out; rw [hx.out] at cx) | (go_at_call 62; (with_reducible refine (K1.out _ S2.out.st.ax).mono ?_); rintro e3 w3 ⟨rfl, hb⟩; have S3 := Lib.hid (S2.out.on hb); clear hb cl2 cx; have cx := S3.out.st.sr.cell n HN.out; have zx := S3.out.st.sr.free n; have S4 := Lib.hid (S3.out.set (n := n) HL1.out); have cl2 := run_LoadE S4.out.ev))
        go_upto_region 7 with (first | (go_at_call 81; (with_reducible refine (KW.out _).mono ?_); rintro e5 w5 ⟨rfl, hb⟩; have S5 := Lib.hid (S4.out.on hb); clear hb cl2; have a5 := S5.out.addr))
        have S6 := Lib.hid (S5.out.on (Below.refl _ _).drew)
        have F6 : Hid (w5.drew.cell? ⟨w.heap.size, 3, none⟩ = some (.int .u64 e.addr)) := Lib.hid S6.out.addr
        go_region_held3 (fun w2 => w2.cell? ⟨w.heap.size, 3, none⟩ = some (.int .u64 e.addr)) (first | exact F6.out | exact F7.out | exact F8.out) ((go_at_call 62; (with_reducible refine (K2.out _ S6.out.st.ax).mono ?_); rintro e7 w7 ⟨rfl, hb⟩; have S7 := Lib.hid (S6.out.on hb); clear hb; have F7 : Hid (w7.cell? ⟨w.heap.size, 3, none⟩ = some (.int .u64 e.addr)) := Lib.hid S7.out.addr; obtain ⟨D7, o7, m7⟩ := S7.out.st.mp; obtain ⟨w8, hup, ⟨o8, m8⟩, hg8⟩ := o7.put m7 hcnt hwf hwv; have S8 := Lib.hid (S7.out.st.put o8 m8 hg8 (fun y => by show InN c (if y = e.addr then L2 else _); split; exact HL2.out; exact S7.out.st.im y)); have F8 : Hid (w8.cell? ⟨w.heap.size, 3, none⟩ = some (.int .u64 e.addr)) := Lib.hid (S7.out.put hg8); clear o7 m7 o8 m8 hg8))
        go_wp2_with fail
        exact bodyPost_ret (v := .tuple #[]) (by simp [results, Tryz.results65]) rfl ⟨rfl, by rw [HX.out]; exact St.like S8.out (fun y => by simp) (fun k => by simp)⟩
  | true =>
    have hv := hv1 rfl
    subst hv
    clear hv1 hv0
    cases r1 with
    | false =>
      cases r2 with
      | false =>
        have cl1 := run_LoadE S1.out.ev
        go_upto_region 6 with (first | (go_at_call 83; (with_reducible refine (KR.out _).mono ?_); rintro e2 w2 ⟨rfl, hb⟩; have S2 := Lib.hid (S1.out.on hb); clear hb cl1 a1 hlk; have cl2 := run_LoadE S2.out.ev))
        go_wp2_with (first | (go_at_call 81; (with_reducible refine (KW.out _).mono ?_); rintro e5 w5 ⟨rfl, hb⟩; have S5 := Lib.hid (S2.out.on hb); clear hb cl2))
        exact bodyPost_ret (v := .tuple #[]) (by simp [results, Tryz.results65]) rfl ⟨rfl, by rw [HX.out]; exact St.like S5.out.st.more (fun y => by simp) (fun k => by simp)⟩
      | true =>
        have cl1 := run_LoadE S1.out.ev
        go_upto_region 6 with (first | (go_at_call 83; (with_reducible refine (KR.out _).mono ?_); rintro e2 w2 ⟨rfl, hb⟩; have S2 := Lib.hid (S1.out.on hb); clear hb cl1 a1 hlk; have cl2 := run_LoadE S2.out.ev))
        go_upto_region 7 with (first | (go_at_call 81; (with_reducible refine (KW.out _).mono ?_); rintro e5 w5 ⟨rfl, hb⟩; have S5 := Lib.hid (S2.out.on hb); clear hb cl2; have a5 := S5.out.addr))
        have S6 := Lib.hid (S5.out.on (Below.refl _ _).drew)
        have F6 : Hid (w5.drew.cell? ⟨w.heap.size, 3, none⟩ = some (.int .u64 e.addr)) := Lib.hid S6.out.addr
        go_region_held3 (fun w2 => w2.cell? ⟨w.heap.size, 3, none⟩ = some (.int .u64 e.addr)) (first | exact F6.out | exact F7.out | exact F8.out) ((go_at_call 62; (with_reducible refine (K2.out _ S6.out.st.ax).mono ?_); rintro e7 w7 ⟨rfl, hb⟩; have S7 := Lib.hid (S6.out.on hb); clear hb; have F7 : Hid (w7.cell? ⟨w.heap.size, 3, none⟩ = some (.int .u64 e.addr)) := Lib.hid S7.out.addr; obtain ⟨D7, o7, m7⟩ := S7.out.st.mp; obtain ⟨w8, hup, ⟨o8, m8⟩, hg8⟩ := o7.put m7 hcnt hwf hwv; have S8 := Lib.hid (S7.out.st.put o8 m8 hg8 (fun y => by show InN c (if y = e.addr then L2 else _); split; exact HL2.out; exact S7.out.st.im y)); have F8 : Hid (w8.cell? ⟨w.heap.size, 3, none⟩ = some (.int .u64 e.addr)) := Lib.hid (S7.out.put hg8); clear o7 m7 o8 m8 hg8))
        go_wp2_with fail
        exact bodyPost_ret (v := .tuple #[]) (by simp [results, Tryz.results65]) rfl ⟨rfl, by rw [HX.out]; exact St.like S8.out (fun y => by simp) (fun k => by simp)⟩
    | true =>
      cases r2 with
      | false =>
        have cl1 := run_LoadE S1.out.ev
        go_upto_region 6 with (first | (go_at_call 83; (with_reducible refine (KR.out _).mono ?_); rintro e2 w2 ⟨rfl, hb⟩; have S2 := Lib.hid (S1.out.on hb); clear hb cl1 a1 hlk; have cl2 := run_LoadE S2.out.ev; have cx := S2.out.st.sr.cell n HN.out; rw [hx.out] at cx) | (go_at_call 62; (with_reducible refine (K1.out _ S2.out.st.ax).mono ?_); rintro e3 w3 ⟨rfl, hb⟩; have S3 := Lib.hid (S2.out.on hb); clear hb cl2 cx; have cx := S3.out.st.sr.cell n HN.out; have zx := S3.out.st.sr.free n; have S4 := Lib.hid (S3.out.set (n := n) HL1.out); have cl2 := run_LoadE S4.out.ev))
        go_wp2_with (first | (go_at_call 81; (with_reducible refine (KW.out _).mono ?_); rintro e5 w5 ⟨rfl, hb⟩; have S5 := Lib.hid (S4.out.on hb); clear hb cl2))
        exact bodyPost_ret (v := .tuple #[]) (by simp [results, Tryz.results65]) rfl ⟨rfl, by rw [HX.out]; exact St.like S5.out.st.more (fun y => by simp) (fun k => by simp)⟩
      | true =>
        have cl1 := run_LoadE S1.out.ev
        go_upto_region 6 with (first | (go_at_call 83; (with_reducible refine (KR.out _).mono ?_); rintro e2 w2 ⟨rfl, hb⟩; have S2 := Lib.hid (S1.out.on hb); clear hb cl1 a1 hlk; have cl2 := run_LoadE S2.out.ev; have cx := S2.out.st.sr.cell n HN.out; rw [hx.out] at cx) | (go_at_call 62; (with_reducible refine (K1.out _ S2.out.st.ax).mono ?_); rintro e3 w3 ⟨rfl, hb⟩; have S3 := Lib.hid (S2.out.on hb); clear hb cl2 cx; have cx := S3.out.st.sr.cell n HN.out; have zx := S3.out.st.sr.free n; have S4 := Lib.hid (S3.out.set (n := n) HL1.out); have cl2 := run_LoadE S4.out.ev))
        go_upto_region 7 with (first | (go_at_call 81; (with_reducible refine (KW.out _).mono ?_); rintro e5 w5 ⟨rfl, hb⟩; have S5 := Lib.hid (S4.out.on hb); clear hb cl2; have a5 := S5.out.addr))
        have S6 := Lib.hid (S5.out.on (Below.refl _ _).drew)
        have F6 : Hid (w5.drew.cell? ⟨w.heap.size, 3, none⟩ = some (.int .u64 e.addr)) := Lib.hid S6.out.addr
        go_region_held3 (fun w2 => w2.cell? ⟨w.heap.size, 3, none⟩ = some (.int .u64 e.addr)) (first | exact F6.out | exact F7.out | exact F8.out) ((go_at_call 62; (with_reducible refine (K2.out _ S6.out.st.ax).mono ?_); rintro e7 w7 ⟨rfl, hb⟩; have S7 := Lib.hid (S6.out.on hb); clear hb; have F7 : Hid (w7.cell? ⟨w.heap.size, 3, none⟩ = some (.int .u64 e.addr)) := Lib.hid S7.out.addr; obtain ⟨D7, o7, m7⟩ := S7.out.st.mp; obtain ⟨w8, hup, ⟨o8, m8⟩, hg8⟩ := o7.put m7 hcnt hwf hwv; have S8 := Lib.hid (S7.out.st.put o8 m8 hg8 (fun y => by show InN c (if y = e.addr then L2 else _); split; exact HL2.out; exact S7.out.st.im y)); have F8 : Hid (w8.cell? ⟨w.heap.size, 3, none⟩ = some (.int .u64 e.addr)) := Lib.hid (S7.out.put hg8); clear o7 m7 o8 m8 hg8))
        go_wp2_with fail
        exact bodyPost_ret (v := .tuple #[]) (by simp [results, Tryz.results65]) rfl ⟨rfl, by rw [HX.out]; exact St.like S8.out (fun y => by simp) (fun k => by simp)⟩
end Go.Proofs.YtcbfokbdiefdeaaGreatDoor
namespace Go.Proofs.YtcbfokbdiefdeaaGreatDoor
set_option linter.unusedVariables false
set_option linter.unusedSimpArgs false
open Go.RowKit Go.Maps
attribute [local go_sem ↓] fold_E fold_SE
attribute [local irreducible] wpStill

theorem St.start {c : Cd} {p : Ap} {gS : Nat} {w W : World} (h : Ax c p w) (hb : Below w.heap.size w W) (hI : IntsAt (fun _ => -1) c.N gS W) (hg : w.heap.size ≤ gS) : St c p (srcO c 0) W.heap.size gS 0 w.heap.size w (W.alloc (.map #[] 0)) := by
  have h1 := hI.lt
  have h2 := hb.size
  exact ⟨(h.on hb).on (box_below _ _), ⟨.map [], World.ownsMap_made _ _ _ _, MetS.start⟩, hI.on (box_below _ _), hb.trans ((box_below _ _).mono h2), ⟨h.lt, h2, hg, by omega, Nat.le_refl _⟩, fun _ => .inl rfl, fun _ _ => .inl rfl⟩
theorem St.clear {c : Cd} {p : Ap} {s : Sx} {gM gS cnt n0 : Nat} {w0 w : World} (h : St c p s gM gS cnt n0 w0 w) : ∃ w2, (∀ ty, (Builtin.clear_ #[94] ty #[.map (some gM)]).run Tryz.prog w = .ok (.tuple #[]) w2) ∧ St c p ⟨fun _ => -1, s.src⟩ gM gS cnt n0 w0 w2 := by
  obtain ⟨D, h1, h2⟩ := h.mp
  obtain ⟨w2, e1, e2, hg⟩ := h1.clear
  have hb : Below n0 w w2 := (Below.refl n0 w).grown hg h.n0 (fun k hk => by cases hk; exact h.hn.2.1)
  have hI : IntsAt s.src c.N gS w2 := (hg.block gS h.sr.lt (fun e => h.hn.2.2.2.1 (Option.some.inj e).symm)).trans h.sr
  exact ⟨w2, e1, h.ax.on' h.hn.1 hb, ⟨_, e2, MetS.start⟩, hI, h.bel.trans hb, h.hn, fun _ => .inl rfl, h.is_⟩
def SrcIs (c : Cd) (w : World) (e : Ending) (w' : World) : Prop := ∃ g, e = .returned (.slice (some ⟨g, 0, none⟩) c.N c.N) ∧ w.heap.size ≤ g ∧ IntsAt (srcW c) c.N g w' ∧ Below w.heap.size w w'
theorem Ax.order_at {c : Cd} {p : Ap} {w : World} (h : Ax c p w) : c.od.length = 0 ∨ ∃ b off, p.q.aO = some ⟨b, off, none⟩ ∧ b < w.heap.size ∧ ∀ j, j < c.od.length → w.cell? ⟨b, off + j, none⟩ = some (.int .i64 (atI c.od j)) := by
  rcases h.ca.order with ⟨_, h0⟩ | ⟨b, off, c2, e, _, _, h3, h4⟩
  · exact .inl (by rw [h0]; rfl)
  · injection e with e1 e2 e3
    exact .inr ⟨b, off, e1, h3, h4⟩
set_option maxRecDepth 100000 in
set_option maxHeartbeats 8000000 in
theorem sources_a (c : Cd) (p : Ap) (w : World) (hL : Lt c) (hm : c.may = true) (h : Ax c p w) : Calls Tryz.prog 40 #[.pointer (some ⟨p.g, 0, none⟩)] w fun e w' => SrcIs c w e w' := by
  have HIN := Lib.hid (may_in hm)
  have hn60 := hL.n
  have ho120 := hL.od
  have KR := Lib.hid (fun b w0 hb => repeat_any c.N b w0 hn60 hb)
  have HWF : Hid (∀ n, n < c.N → (Lit.int .u64 (c.at n).1.addr).wf = true) := Lib.hid (fun n hn => (hL.wordN n hn).1)
  have KM := Lib.hid (fun s gM gS cnt n w0 (h0 : St c p s gM gS cnt w.heap.size w w0) hn hcnt => meet_a c p s gM gS cnt w.heap.size n w w0 h0 hn hcnt (HWF.out n hn) hn60)
  have S0 := Lib.hid h
  have HP := Lib.hid (fun n (hn : n < c.N) => (may_num hm n hn))
  clear h hm hL
  obtain ⟨_, _, _, _, f4, _⟩ := S0.out.six
  go_enter Tryz.func40, Tryz.ntmps40
  have B1 := Lib.hid (box_below w (.cells #[.int .i64 (-1)] 3))
  have S1 := Lib.hid (S0.out.on B1.out)
  have f4b := S1.out.six.2.2.2.2.1
  go_upto_region 2 with (go_at_call 64; (with_reducible refine (KR.out _ _ Array.getElem?_push_size).mono ?_); rintro e' w3 ⟨g, rfl, hg, hI, hb⟩; have S3 := Lib.hid (St.start (gS := g) (W := w3) S0.out (B1.out.trans (hb.mono B1.out.size)) hI (Nat.le_trans B1.out.size hg)); clear hb hI hg)
  have hmm := @run_makeMap Tryz.prog
  obtain ⟨gM, hgM⟩ : ∃ x, Hid (w3.heap.size = x) := ⟨_, Lib.hid rfl⟩
  have HO := Lib.hid (S0.out.order_at)
  obtain ⟨_, _, _, f3, f4c, _⟩ := S3.out.ax.six
  obtain ⟨no, hno⟩ : ∃ no, Hid (c.od.length = no) := ⟨_, Lib.hid rfl⟩
  rw [hgM.out] at S3
  rw [hno.out] at HO HIN ho120 f3
  have HF : Hid (srcO c no = srcN c 0) := Lib.hid (by rw [← hno.out]; rfl)
  go_upto_region 4 with fail
  rw [hgM.out]
  go_wp2
  go_loopw [22] (fun vi wr => ∃ (k : Nat), k ≤ no ∧ vi = .int .i64 k ∧ Hid (St c p (srcO c k) gM g k w.heap.size w wr)) (fun vi _ => no - (intOf vi).toNat)
  case atStart => exact ⟨0, Nat.zero_le _, rfl, S3⟩
  case round =>
    obtain ⟨k, hk, rfl, hS⟩ := hrel
    by_cases hlt : k < no
    · rcases HO.out with h0 | ⟨b, off, hq, hbl, hcell⟩
      · exact absurd h0 (by omega)
      have d0 := (hS.out.bel.cell (p := ⟨b, off + k, none⟩) hbl).trans (hcell k hlt)
      obtain ⟨i0, i1⟩ := HIN.out k hlt
      obtain ⟨x, hx⟩ : ∃ x : Nat, atI c.od k = x := ⟨(atI c.od k).toNat, by omega⟩
      have HK : Hid (meetN c x (srcO c k) = srcO c (k + 1)) := Lib.hid (by show _ = meetN c (atI c.od k).toNat (srcO c k); rw [hx, Int.toNat_natCast])
      rw [hx] at d0 i1
      have KX := Lib.hid (fun w0 h0 => KM.out (srcO c k) gM g k x w0 h0 (by omega) (by omega))
      rw [hq]
      clear hcell i0 i1 hx
      go_wp2_with (first | (go_at_call 65; (with_reducible refine (KX.out _ hS.out).mono ?_); rintro e' w5 ⟨rfl, hb⟩; rw [HK.out] at hb; have S5 := Lib.hid hb; clear hb))
      go_roundw
      case rel => exact ⟨k + 1, by omega, by go_num, S5⟩
      case measure => simp [intOf]; omega
    · obtain rfl : k = no := by omega
      have S6 : Hid (St c p (srcN c 0) gM g k w.heap.size w wr) := Lib.hid (by rw [← HF.out]; exact hS.out)
      obtain ⟨_, _, _, _, f4d, _⟩ := hS.out.ax.six
      clear hS
      go_wp2
      go_loopw [37] (fun vj wr2 => ∃ (n : Nat), n ≤ c.N ∧ vj = .int .i64 n ∧ Hid (St c p (srcN c n) gM g (k + n) w.heap.size w wr2)) (fun vj _ => c.N - (intOf vj).toNat)
      case atStart => exact ⟨0, Nat.zero_le _, rfl, S6⟩
      case round =>
        obtain ⟨n, hn, rfl, hT⟩ := hrel
        by_cases hl2 : n < c.N
        · obtain ⟨_, _, _, _, f4e, _⟩ := hT.out.ax.six
          rw [hT.out.ax.hA (by omega)] at f4e
          have c1 := hT.out.ax.ev n hl2 1 _ rfl
          obtain ⟨x, hx⟩ : ∃ x, Hid ((c.at n).1.pos = x) := ⟨_, Lib.hid rfl⟩
          have KX := Lib.hid (fun s w0 h0 => KM.out s gM g (k + n) n w0 h0 hl2 (by omega))
          have c1b : _ = some (Value.int .i64 (c.at n).1.pos) := c1
          rw [hx.out] at c1b
          clear c1
          by_cases hp : x = 0
          · subst hp
            obtain ⟨w6, hcl, hS6⟩ := hT.out.clear
            have HS6 := Lib.hid hS6
            have HK : Hid (meetN c n ⟨fun _ => -1, (srcN c n).src⟩ = srcN c (n + 1)) := Lib.hid (by show _ = meetN c n (clrN c n (srcN c n)); unfold clrN; rw [if_pos hx.out])
            clear hS6
            go_wp2_with (first | (go_at_call 65; (with_reducible refine (KX.out _ _ HS6.out).mono ?_); rintro e' w7 ⟨rfl, hb⟩; rw [HK.out] at hb; have S7 := Lib.hid hb; clear hb))
            go_roundw
            case rel => exact ⟨n + 1, by omega, by go_num, S7⟩
            case measure => simp [intOf]; omega
          · have HK : Hid (meetN c n (srcN c n) = srcN c (n + 1)) := Lib.hid (by show _ = meetN c n (clrN c n (srcN c n)); unfold clrN; rw [if_neg (by rw [hx.out]; exact hp)])
            go_wp2_with (first | (go_at_call 65; (with_reducible refine (KX.out _ _ hT.out).mono ?_); rintro e' w7 ⟨rfl, hb⟩; rw [HK.out] at hb; have S7 := Lib.hid hb; clear hb))
            go_roundw
            case rel => exact ⟨n + 1, by omega, by go_num, S7⟩
            case measure => simp [intOf]; omega
        · obtain rfl : n = c.N := by omega
          go_wp2
          go_ret
          exact ⟨g, rfl, hT.out.hn.2.2.1, hT.out.sr, hT.out.bel⟩
end Go.Proofs.YtcbfokbdiefdeaaGreatDoor
namespace Go.Proofs.YtcbfokbdiefdeaaGreatDoor
set_option linter.unusedVariables false
set_option linter.unusedSimpArgs false
open Go.RowKit Go.Maps
attribute [local go_sem ↓] fold_E fold_SE
attribute [local irreducible] wpStill

def StoreJ (x y : Value) : Sem Unit := Instr.storeAt 37 x y
theorem fold_SJ (x y : Value) : Instr.storeAt 37 x y = StoreJ x y := rfl
attribute [local go_sem ↓] fold_SJ
@[reducible] def jdV (j : Jd) : Value := .agg #[.bool j.ok, .int .i64 j.why, .int .i64 j.a, .int .i64 j.b]
def JBox (j : Jd) (n : Nat) (w : World) : Prop := w.heap[n]? = some (.cells #[.bool j.ok, .int .i64 j.why, .int .i64 j.a, .int .i64 j.b] 37 (0, 0))
theorem JBox.lt {j : Jd} {n : Nat} {w : World} (h : JBox j n w) : n < w.heap.size := (Array.getElem?_eq_some_iff.1 h).1
theorem JBox.on {j : Jd} {n : Nat} {w w2 : World} (h : JBox j n w) (hb : Below w.heap.size w w2) : JBox j n w2 := (hb.block n h.lt).trans h
theorem JBox.new (w : World) : JBox ⟨false, 0, 0, 0⟩ w.heap.size (w.alloc (.cells #[.bool false, .int .i64 0, .int .i64 0, .int .i64 0] 37)) := Array.getElem?_push_size
theorem JBox.facts {j : Jd} {n : Nat} {w : World} (h : JBox j n w) : w.cell? ⟨n, 0, none⟩ = some (.bool j.ok) ∧ w.cell? ⟨n, 1, none⟩ = some (.int .i64 j.why) ∧ w.cell? ⟨n, 2, none⟩ = some (.int .i64 j.a) ∧ w.cell? ⟨n, 3, none⟩ = some (.int .i64 j.b) :=
  ⟨by rw [cell_of_row w n 0 _ _ _ h]; rfl, by rw [cell_of_row w n 1 _ _ _ h]; rfl, by rw [cell_of_row w n 2 _ _ _ h]; rfl, by rw [cell_of_row w n 3 _ _ _ h]; rfl⟩
theorem run_StoreJ {j k : Jd} {n : Nat} {w : World} (H : JBox j n w) : (StoreJ (.pointer (some ⟨n, 0, none⟩)) (jdV k)).run Tryz.prog w = .ok () (w.setRow n #[.bool k.ok, .int .i64 k.why, .int .i64 k.a, .int .i64 k.b]) := by
  unfold StoreJ Instr.storeAt Instr.sureAddr
  simp only [Sem.run_bind, Sem.run_pure, Result.andThen_ok]
  exact run_storeVar_row w n _ _ _ _ H (by as_aux_lemma => kernel_rfl) rfl (by simp [Value.oneCell'])
theorem JBox.set {j : Jd} {n : Nat} {w : World} (h : JBox j n w) (k : Jd) : JBox k n (w.setRow n #[.bool k.ok, .int .i64 k.why, .int .i64 k.a, .int .i64 k.b]) := setRow_heap _ _ _ _ _ _ h
theorem judged_end {fn : Func} {tmps : Array Value} {p : Tmp} {j : Jd} {n : Nat} {w : World} (h : fn.results = #[.cell p 37]) (hp : tmps.getD p undef = .pointer (some ⟨n, 0, none⟩)) (H : JBox j n w) :
    (results fn tmps).run Tryz.prog w = .ok (jdV j) w :=
  results_cell_row h tmps w n _ _ (0, 0) _ hp H Tryz.underlying37 rfl (by as_aux_lemma => kernel_rfl)
def GivesJ (w : World) (j : Jd) (e : Ending) (w' : World) : Prop := e = .returned (jdV j) ∧ Below w.heap.size w w'
theorem below_setJ {w W : World} {n : Nat} (h : Below w.heap.size w W) (hn : w.heap.size ≤ n) (cs : Array Value) : Below w.heap.size w (W.setRow n cs) := h.trans ⟨rfl, rfl, rfl, by simp, fun j hj => setRow_other _ _ _ _ (by omega)⟩
set_option maxRecDepth 100000 in
theorem broken_a (why a b : Int) (w : World) : Calls Tryz.prog 35 #[.int .i64 why, .int .i64 a, .int .i64 b] w fun e w' => GivesJ w ⟨false, why, a, b⟩ e w' := by
  have J0 := JBox.new w
  have hs := run_StoreJ (k := ⟨false, why, a, b⟩) J0
  have J1 := Lib.hid (J0.set ⟨false, why, a, b⟩)
  have B1 := Lib.hid (below_setJ (box_below w (.cells #[.bool false, .int .i64 0, .int .i64 0, .int .i64 0] 37)) (Nat.le_refl _) #[.bool false, .int .i64 why, .int .i64 a, .int .i64 b])
  go_enter Tryz.func35, Tryz.ntmps35
  go_wp2
  refine bodyPost_ret (judged_end rfl rfl J1.out) rfl ?_
  exact ⟨rfl, B1.out⟩
set_option maxRecDepth 100000 in
theorem kept_a (w : World) : Calls Tryz.prog 39 #[] w fun e w' => GivesJ w keptJ e w' := by
  have J0 := JBox.new w
  have hs : (StoreJ (.pointer (some ⟨w.heap.size, 0, none⟩)) (.agg #[.bool true, .int .i64 0, .int .i64 (-1), .int .i64 (-1)])).run Tryz.prog (w.alloc (.cells #[.bool false, .int .i64 0, .int .i64 0, .int .i64 0] 37)) = .ok () ((w.alloc (.cells #[.bool false, .int .i64 0, .int .i64 0, .int .i64 0] 37)).setRow w.heap.size #[.bool true, .int .i64 0, .int .i64 (-1), .int .i64 (-1)]) := run_StoreJ (k := keptJ) J0
  have J1 : Hid (JBox keptJ w.heap.size ((w.alloc (.cells #[.bool false, .int .i64 0, .int .i64 0, .int .i64 0] 37)).setRow w.heap.size #[.bool true, .int .i64 0, .int .i64 (-1), .int .i64 (-1)])) := Lib.hid (J0.set keptJ)
  have B1 := Lib.hid (below_setJ (box_below w (.cells #[.bool false, .int .i64 0, .int .i64 0, .int .i64 0] 37)) (Nat.le_refl _) #[.bool true, .int .i64 0, .int .i64 (-1), .int .i64 (-1)])
  go_enter Tryz.func39, Tryz.ntmps39
  go_wp2
  refine bodyPost_ret (judged_end rfl rfl J1.out) rfl ?_
  exact ⟨rfl, B1.out⟩
/-! ### the value axiom -/
theorem find_range {f : Nat → Bool} {N k : Nat} (hk : k < N) (h : f k = true) (hb : ∀ j, j < k → f j = false) : (List.range N).find? f = some k := by
  rw [List.find?_range_eq_some]
  exact ⟨h, List.mem_range.2 hk, fun j hj => by rw [hb j hj]; rfl⟩
theorem find_range_none {f : Nat → Bool} {N : Nat} (hb : ∀ j, j < N → f j = false) : (List.range N).find? f = none := find_none.2 fun x hx => hb x (List.mem_range.1 hx)
theorem may_fr {c : Cd} (h : c.may = true) : c.fr.length = c.N := by
  rw [may_is] at h
  simp only [Bool.and_eq_true] at h
  have := h.2.2.2.2.2.1
  unfold foundB at this
  rw [Bool.and_eq_true, decide_eq_true_eq] at this
  exact this.1
theorem Ax.from_at {c : Cd} {p : Ap} {w : World} (h : Ax c p w) (hl : 0 < c.fr.length) : ∃ b off, p.q.aR = some ⟨b, off, none⟩ ∧ b < w.heap.size ∧ ∀ j, j < c.fr.length → w.cell? ⟨b, off + j, none⟩ = some (.int .i64 (atI c.fr j)) := by
  rcases h.ca.from_ with ⟨_, h0⟩ | ⟨b, off, c2, e, _, _, h3, h4⟩
  · rw [h0] at hl; simp at hl
  · injection e with e1 e2 e3
    exact ⟨b, off, e1, h3, h4⟩
/-- value's world: its own answer, the sources -/
structure Vs (c : Cd) (p : Ap) (g : Nat) (w W : World) : Prop where
  ax : Ax c p W
  jb : JBox ⟨false, 0, 0, 0⟩ w.heap.size W
  src : IntsAt (srcW c) c.N g W
  bel : Below w.heap.size w W
theorem Vs.on {c : Cd} {p : Ap} {g : Nat} {w W W2 : World} (h : Vs c p g w W) (hb : Below W.heap.size W W2) : Vs c p g w W2 := ⟨h.ax.on hb, h.jb.on hb, h.src.on hb, h.bel.trans (hb.mono h.bel.size)⟩
/-- the answer, written -/
structure Dn (j : Jd) (n : Nat) (w W : World) : Prop where
  jb : JBox j n W
  bel : Below w.heap.size w W
theorem Dn.mk' {j k : Jd} {w W : World} (hj : JBox k w.heap.size W) (hb : Below w.heap.size w W) : (StoreJ (.pointer (some ⟨w.heap.size, 0, none⟩)) (jdV j)).run Tryz.prog W = .ok () (W.setRow w.heap.size #[.bool j.ok, .int .i64 j.why, .int .i64 j.a, .int .i64 j.b]) ∧ Dn j w.heap.size w (W.setRow w.heap.size #[.bool j.ok, .int .i64 j.why, .int .i64 j.a, .int .i64 j.b]) :=
  ⟨run_StoreJ hj, hj.set j, below_setJ hb (Nat.le_refl _) _⟩
theorem Dn.kept {k : Jd} {w W : World} (hj : JBox k w.heap.size W) (hb : Below w.heap.size w W) : (StoreJ (.pointer (some ⟨w.heap.size, 0, none⟩)) (.agg #[.bool true, .int .i64 0, .int .i64 (-1), .int .i64 (-1)])).run Tryz.prog W = .ok () (W.setRow w.heap.size #[.bool true, .int .i64 0, .int .i64 (-1), .int .i64 (-1)]) ∧ Dn keptJ w.heap.size w (W.setRow w.heap.size #[.bool true, .int .i64 0, .int .i64 (-1), .int .i64 (-1)]) := Dn.mk' (j := keptJ) hj hb
theorem kept_b (w : World) : Calls Tryz.prog 39 #[] w fun e w' => e = .returned (.agg #[.bool true, .int .i64 0, .int .i64 (-1), .int .i64 (-1)]) ∧ Below w.heap.size w w' := kept_a w
theorem broken_b (why a b : Int) (w : World) : Calls Tryz.prog 35 #[.int .i64 why, .int .i64 a, .int .i64 b] w fun e w' => e = .returned (.agg #[.bool false, .int .i64 why, .int .i64 a, .int .i64 b]) ∧ Below w.heap.size w w' := broken_a why a b w
theorem Dn.broken {k : Jd} {w W : World} (why a b : Int) (hj : JBox k w.heap.size W) (hb : Below w.heap.size w W) : (StoreJ (.pointer (some ⟨w.heap.size, 0, none⟩)) (.agg #[.bool false, .int .i64 why, .int .i64 a, .int .i64 b])).run Tryz.prog W = .ok () (W.setRow w.heap.size #[.bool false, .int .i64 why, .int .i64 a, .int .i64 b]) ∧ Dn ⟨false, why, a, b⟩ w.heap.size w (W.setRow w.heap.size #[.bool false, .int .i64 why, .int .i64 a, .int .i64 b]) := Dn.mk' (j := ⟨false, why, a, b⟩) hj hb
set_option maxRecDepth 100000 in
set_option maxHeartbeats 8000000 in
theorem value_a (c : Cd) (p : Ap) (w : World) (hL : Lt c) (hm : c.may = true) (h : Ax c p w) : Calls Tryz.prog 37 #[.pointer (some ⟨p.g, 0, none⟩)] w fun e w' => GivesJ w ((valJ c).getD keptJ) e w' := by
  have KS := Lib.hid (fun w0 h0 => sources_a c p w0 hL hm h0)
  have hfr := may_fr hm
  have hN := hL.n
  have X1 := Lib.hid (h.on (box_below w (.cells #[.bool false, .int .i64 0, .int .i64 0, .int .i64 0] 37)))
  have J1 := Lib.hid (JBox.new w)
  have B1 := Lib.hid (box_below w (.cells #[.bool false, .int .i64 0, .int .i64 0, .int .i64 0] 37))
  clear h hL hm
  go_enter Tryz.func37, Tryz.ntmps37
  go_wp2_with (first | (go_at_call 40; (with_reducible refine (KS.out _ X1.out).mono ?_); rintro e' w2 ⟨g, rfl, hg, hI, hb⟩; have V2 : Hid (Vs c p g w w2) := Lib.hid ⟨X1.out.on hb, J1.out.on hb, hI, B1.out.trans (hb.mono B1.out.size)⟩; clear hb hI hg))
  go_loopw [8] (fun vi wr => ∃ (k : Nat), k ≤ c.N ∧ vi = .int .i64 k ∧ Hid (∀ j, j < k → valB c j = false) ∧ Hid (Vs c p g w wr)) (fun vi _ => c.N - (intOf vi).toNat)
  case atStart => exact ⟨0, Nat.zero_le _, rfl, Lib.hid (fun j hj => by omega), V2⟩
  case round =>
    obtain ⟨k, hk, rfl, hB, hV⟩ := hrel
    by_cases hlt : k < c.N
    · have cs := hV.out.src.cell k hlt
      obtain ⟨b, off, hq, hbl, hcell⟩ := hV.out.ax.from_at (by omega)
      have cf := hcell k (by omega)
      obtain ⟨_, _, f2, _⟩ := hV.out.ax.six
      rw [hq] at f2
      obtain ⟨x, hx⟩ : ∃ x, Hid (srcW c k = x) := ⟨_, Lib.hid rfl⟩
      obtain ⟨y, hy⟩ : ∃ y, Hid (atI c.fr k = y) := ⟨_, Lib.hid rfl⟩
      rw [hx.out] at cs
      rw [hy.out] at cf
      have hkf : (k : Int) < (c.fr.length : Int) := by omega
      have hk0 : (0 : Int) ≤ (k : Int) := by omega
      clear hcell
      by_cases hxy : y = x
      · subst hxy
        have HN : Hid (∀ j, j < k + 1 → valB c j = false) := Lib.hid (fun j hj => by
          by_cases e : j = k
          · subst e; unfold valB; rw [hx.out, hy.out]; simp
          · exact hB.out j (by omega))
        go_wp2
        go_roundw
        case rel => exact ⟨k + 1, by omega, by go_num, HN, hV⟩
        case measure => simp [intOf]; omega
      · have HJ : Hid ((valJ c).getD keptJ = ⟨false, 3, k, x⟩) := Lib.hid (by
          unfold valJ
          rw [find_range hlt (by unfold valB; rw [hx.out, hy.out]; simpa using hxy) hB.out, ← hx.out]; rfl)
        have KB := Lib.hid (broken_b 3 k x)
        go_wp2_with (first | (go_at_call 35; (with_reducible refine (KB.out _).mono ?_); rintro e' w3 ⟨rfl, hb⟩; have V3 := Lib.hid (hV.out.on hb); clear hb; obtain ⟨hs, hd⟩ := Dn.broken 3 k x V3.out.jb V3.out.bel; have D3 := Lib.hid hd; clear hd))
        refine bodyPost_ret (judged_end rfl rfl D3.out.jb) rfl ?_
        exact ⟨by rw [HJ.out], D3.out.bel⟩
    · obtain rfl : k = c.N := by omega
      have HJ : Hid ((valJ c).getD keptJ = keptJ) := Lib.hid (by
        unfold valJ
        rw [find_range_none hB.out]; rfl)
      have KK := Lib.hid kept_b
      go_wp2_with (first | (go_at_call 39; (with_reducible refine (KK.out _).mono ?_); rintro e' w3 ⟨rfl, hb⟩; have V3 := Lib.hid (hV.out.on hb); clear hb; obtain ⟨hs, hd⟩ := Dn.kept V3.out.jb V3.out.bel; have D3 := Lib.hid hd; clear hd))
      refine bodyPost_ret (judged_end rfl rfl D3.out.jb) rfl ?_
      exact ⟨by rw [HJ.out], D3.out.bel⟩
end Go.Proofs.YtcbfokbdiefdeaaGreatDoor
