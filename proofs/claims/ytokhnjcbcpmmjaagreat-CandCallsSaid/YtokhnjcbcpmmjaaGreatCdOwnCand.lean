/-
  Proved here: the kit's OwnCand answers a candidate of the call's own; nothing that was there is changed. Condition: a light candidate.
-/
import Derived.Test.YtokhnjcbcpmmjaaGreatCdKeep
namespace Go.Proofs.YtokhnjcbcpmmjaaGreat
set_option linter.unusedVariables false
set_option linter.unusedSimpArgs false
open Go.RowKit
attribute [local go_sem ↓] fold_E fold_SE

def StoreC (x y : Value) : Sem Unit := Instr.storeAt 26 x y
theorem fold_SC (x y : Value) : Instr.storeAt 26 x y = StoreC x y := rfl
attribute [local go_sem ↓] fold_SC
def CBox (v0 v1 v2 v3 : Value) (n : Nat) (w : World) : Prop := w.heap[n]? = some (.cells #[v0, v1, v2, v3] 26 (0, 0))
theorem CBox.new (v0 v1 v2 v3 : Value) (w : World) : CBox v0 v1 v2 v3 w.heap.size (w.alloc (.cells #[v0, v1, v2, v3] 26)) := Array.getElem?_push_size
theorem CBox.lt {v0 v1 v2 v3 : Value} {n : Nat} {w : World} (h : CBox v0 v1 v2 v3 n w) : n < w.heap.size := (Array.getElem?_eq_some_iff.1 h).1
theorem CBox.facts {v0 v1 v2 v3 : Value} {n : Nat} {w : World} (h : CBox v0 v1 v2 v3 n w) : w.cell? ⟨n, 0, none⟩ = some v0 ∧ w.cell? ⟨n, 1, none⟩ = some v1 ∧ w.cell? ⟨n, 2, none⟩ = some v2 ∧ w.cell? ⟨n, 3, none⟩ = some v3 :=
  ⟨by rw [cell_of_row w n 0 _ _ _ h]; rfl, by rw [cell_of_row w n 1 _ _ _ h]; rfl, by rw [cell_of_row w n 2 _ _ _ h]; rfl, by rw [cell_of_row w n 3 _ _ _ h]; rfl⟩
theorem run_StoreC {x0 x1 x2 x3 y0 y1 y2 y3 : Value} {n : Nat} {w : World} (H : CBox x0 x1 x2 x3 n w) (h0 : y0.oneCell' = true) (h1 : y1.oneCell' = true) (h2 : y2.oneCell' = true) (h3 : y3.oneCell' = true) : (StoreC (.pointer (some ⟨n, 0, none⟩)) (.agg #[y0, y1, y2, y3])).run Tryz.prog w = .ok () (w.setRow n #[y0, y1, y2, y3]) := by
  unfold StoreC Instr.storeAt Instr.sureAddr
  simp only [Sem.run_bind, Sem.run_pure, Result.andThen_ok]
  exact run_storeVar_row w n _ _ _ _ H (by as_aux_lemma => kernel_rfl) rfl (by simp [h0, h1, h2, h3])
theorem cand_end {fn : Func} {tmps : Array Value} {p : Tmp} {v0 v1 v2 v3 : Value} {n : Nat} {w : World} (h : fn.results = #[.cell p 26]) (hp : tmps.getD p undef = .pointer (some ⟨n, 0, none⟩)) (H : CBox v0 v1 v2 v3 n w) :
    (results fn tmps).run Tryz.prog w = .ok (.agg #[v0, v1, v2, v3]) w :=
  results_cell_row h tmps w n _ _ (0, 0) _ hp H Tryz.underlying26 rfl (by as_aux_lemma => kernel_rfl)
theorem infoEvs : (Tryz.prog.info? 35).map (fun i => (i.zero, i.size, i.bytes)) = some (some (.slice none 0 0), 1, 24) := by kernel_rfl
/-- append of one row, as a step of a region that draws -/
theorem step_append_row {ops : Array Oper} {o : Oper} {a : Act} {w : World} {K : Act → World → Prop} {Q : Exit → Act → World → Prop} {E : Prop} (hgd : o.guard = none) (s x : Operand)
    (ho : o.op = .call { callee := .builtin .append, args := #[s, x], argTypes := #[23, 23] }) (base : Nat) (v : Value) (n : Nat) (xs : List Value) (hs : a.eval s = v) (hown : w.ownsRow base 35 1 v n xs)
    (r : Value) (h1 : r.oneCell' = true) (g : Nat) (hx : a.eval x = .slice (some ⟨g, 0, none⟩) 1 1) (hr : w.heap[g]? = some (.cells #[r] 35 (0, 0))) (hn : n ≤ 1000) (hbase : base ≤ w.heap.size)
    (h : ∀ v' w', w'.ownsRow base 35 1 v' (n + 1) (xs ++ [r]) → w.grownBy w' v.ownBlock → K (a.put o.dst v') w') : if Region.wanted o (yielded ops a.tmps) = true then Oper.wp Tryz.prog o a w K Q else E := by
  have hw : Region.wanted o (yielded ops a.tmps) = true := by simp [Region.wanted, hgd]
  rw [if_pos hw]
  obtain ⟨i0, hi, hz0, hz1, hz2⟩ := info_parts infoEvs
  refine wp_append_own w s x _ ho base 35 i0 (.slice none 0 0) 1 24 Tryz.underlying23 hi hz0 hz1 hz2 (by kernel_rfl) (by decide) v n xs hs hown ⟨g, 0, none⟩ 1 1 [r] hx rfl ?_ ?_ (by unfold maxLen; omega) (by omega) hbase (fun v' w' h5 h6 _ => h v' w' h5 h6)
  · intro j u hu
    rw [Addr.add_lit, Nat.zero_add, cell_of_row w g j _ _ _ hr]
    simpa using hu
  · intro u hu
    simp only [List.mem_cons, List.not_mem_nil, or_false] at hu
    subst hu
    exact h1
theorem owns2_any (v : Value) (n : Nat) (ev : Nat → Ev) (el : Nat → El) (w : World) (h : RowV w v n ev el) (hn : n ≤ 60) (hs : ∀ k, k < n → small (el k)) : Calls Tryz.prog 38 #[v] w fun e w' => Owns2Is w n ev el e w' := by
  obtain ⟨a, c, rfl, hc, h0 | ⟨b, off, rfl, hr⟩⟩ := h
  · subst h0
    exact owns2_none a c ev el w
  · exact owns2_row n b off c ev el w hn ⟨hr.at_, hr.reads, fun k hk => (hs k hk).n, hr.low, hr.lt⟩
theorem own_mono {W : World} {base base2 size n : Nat} {e : TypeId} {v : Value} {xs : List Value} (h : W.ownsRow base e size v n xs) (hb : base2 ≤ base) : W.ownsRow base2 e size v n xs := by
  refine ⟨h.1, ?_⟩
  rcases h.2 with hn | ⟨g, cap, cur, rfl, hb1, rest⟩
  · exact .inl hn
  · exact .inr ⟨g, cap, cur, rfl, Nat.le_trans hb hb1, rest⟩
/-- the boxes of the call -/
structure Osx (c : Cd) (q : Cv) (w W : World) : Prop where
  lk : Lk c q w W
  res : CBox (.slice none 0 0) (.slice none 0 0) (.slice none 0 0) (.slice none 0 0) (w.heap.size + 1) W
theorem Osx.on {c : Cd} {q : Cv} {w W W2 : World} (h : Osx c q w W) (hb : Below W.heap.size W W2) : Osx c q w W2 := ⟨h.lk.on hb, (hb.block _ h.res.lt).trans h.res⟩
theorem Osx.start {c : Cd} {q : Cv} {w : World} (h : CAt c q w) : Osx c q w ((w.alloc (.cells #[.slice q.aF c.fs.length q.cF, .slice q.aH c.nh q.cH, .slice q.aR c.fr.length q.cR, .slice q.aO c.od.length q.cO] 26)).alloc (.cells #[.slice none 0 0, .slice none 0 0, .slice none 0 0, .slice none 0 0] 26)) := by
  refine ⟨(Lk.start h).on (box_below _ _), ?_⟩
  have := CBox.new (.slice none 0 0) (.slice none 0 0) (.slice none 0 0) (.slice none 0 0) (w.alloc (.cells #[.slice q.aF c.fs.length q.cF, .slice q.aH c.nh q.cH, .slice q.aR c.fr.length q.cR, .slice q.aO c.od.length q.cO] 26))
  simp only [World.size_alloc] at this
  exact this
theorem Osx.set {c : Cd} {q : Cv} {w W : World} (h : Osx c q w W) {n : Nat} (hn : w.heap.size + 1 < n) (cs : Array Value) : Osx c q w (W.setRow n cs) :=
  ⟨⟨(setRow_other _ _ _ _ (by omega)).trans h.lk.box, h.lk.below.trans (below_setRow.mono (by omega)), h.lk.here⟩, (setRow_other _ _ _ _ (by omega)).trans h.res⟩
theorem CBox.on {v0 v1 v2 v3 : Value} {n : Nat} {w w2 : World} (h : CBox v0 v1 v2 v3 n w) (hb : Below w.heap.size w w2) : CBox v0 v1 v2 v3 n w2 := (hb.block n h.lt).trans h
theorem apart_cand {W : World} {base size n gB : Nat} {e : TypeId} {v : Value} {xs : List Value} (h : W.ownsRow base e size v n xs) (he : e ≠ 26) {v0 v1 v2 v3 : Value} (hB : CBox v0 v1 v2 v3 gB W) : ∀ g, v.ownBlock = some g → g ≠ gB := fun g hg e2 => by
  rcases h.2 with ⟨rfl, _⟩ | ⟨g', cap, cur, rfl, _, hgg, _⟩
  · simp [Value.ownBlock] at hg
  · simp [Value.ownBlock] at hg
    subst hg
    subst e2
    rw [hB] at hgg
    simp at hgg
    exact he hgg.2.symm
theorem Oc.start {c : Cd} {q : Cv} {w W : World} {gB : Nat} (h : Osx c q w W) {vF vR vO : Value} (hB : CBox (.slice none 0 0) (.slice none 0 0) (.slice none 0 0) (.slice none 0 0) gB W) (hgB : w.heap.size + 1 < gB) (hF : W.ownsRow (w.heap.size + 2) 43 2 vF c.fs.length (flatC c.fs)) (hR : W.ownsRow (w.heap.size + 2) 3 1 vR c.fr.length (intsV c.fr)) (hO : W.ownsRow (w.heap.size + 2) 3 1 vO c.od.length (intsV c.od))
    (ro : ∀ g, vR.ownBlock = some g → vO.ownBlock ≠ some g) : Oc c q gB W.heap.size vF vR vO (.slice none 0 0) 0 [] [] w (W.setRow gB #[vF, .slice none 0 0, vR, vO]) := by
  have hX := h.set hgB #[vF, .slice none 0 0, vR, vO]
  have aF := apart_cand hF (by decide) hB
  have aR := apart_cand hR (by decide) hB
  have aO := apart_cand hO (by decide) hB
  refine ⟨hX.lk, hX.res, setRow_heap _ _ _ _ _ _ hB, ?_, ?_, ?_, RowsE.nil _ _ _, World.ownsRow_nil _ _ _ _, ⟨hgB, hB.lt, ?_, ?_, ?_, ro⟩, ?_⟩
  · exact own_mono (own_but hF (fun g hg => setRow_other _ _ _ _ (aF g hg))) (by omega)
  · exact own_mono (own_but hR (fun g hg => setRow_other _ _ _ _ (aR g hg))) (by omega)
  · exact own_mono (own_but hO (fun g hg => setRow_other _ _ _ _ (aO g hg))) (by omega)
  · exact fun g hg => by have := hF.lt g hg; have := aF g hg; omega
  · exact fun g hg => by have := hR.lt g hg; have := aR g hg; omega
  · exact fun g hg => by have := hO.lt g hg; have := aO g hg; omega
  · simp
def OwnCandIs (c : Cd) (q : Cv) (w : World) (e : Ending) (w' : World) : Prop := ∃ gB lo vF vR vO vH ess vals, e = .returned (.agg #[vF, vH, vR, vO]) ∧ OwnC c gB lo vF vR vO vH ess vals w w'
set_option maxRecDepth 100000 in
set_option maxHeartbeats 8000000 in
theorem ownCand_any (c : Cd) (q : Cv) (w : World) (hL : Lt c) (h : CAt c q w) : Calls Tryz.prog 12 #[cdV c q] w fun e w' => OwnCandIs c q w e w' := by
  have S0 := Lib.hid (Osx.start h)
  have hfs : c.fs.length ≤ 1000 := by have := hL.fs; omega
  have hfr : c.fr.length ≤ 100000 := by have := hL.fr; omega
  have hod : c.od.length ≤ 100000 := by have := hL.od; omega
  have hnh := hL.nh
  have HSM := Lib.hid hL.small
  clear h hL
  go_enter Tryz.func12, Tryz.ntmps12
  go_upto_region 1 with fail
  go_name_world W1 hW
  rw [hW] at S0
  clear hW
  have SD := Lib.hid (S0.out.on (Below.refl _ _).drew)
  have hz1 := S0.out.res.lt
  have hzd : W1.drew.heap.size = W1.heap.size := rfl
  have hz1d : w.heap.size + 1 < W1.drew.heap.size := hz1
  clear hzd
  have SDa : Hid (Osx c q w (W1.alloc (.cells #[.slice none 0 0, .slice none 0 0, .slice none 0 0, .slice none 0 0] 26)).drew) := Lib.hid ((S0.out.on (box_below W1 (.cells #[.slice none 0 0, .slice none 0 0, .slice none 0 0, .slice none 0 0] 26))).on (Below.refl _ _).drew)
  have B0 : Hid (CBox (.slice none 0 0) (.slice none 0 0) (.slice none 0 0) (.slice none 0 0) W1.heap.size (W1.alloc (.cells #[.slice none 0 0, .slice none 0 0, .slice none 0 0, .slice none 0 0] 26)).drew) := Lib.hid (CBox.new _ _ _ _ W1)
  go_cut [3] (fun t3 wx => ∃ gB lo vF vR vO, t3 = .pointer (some ⟨gB, 0, none⟩) ∧ Hid (Oc c q gB lo vF vR vO (.slice none 0 0) 0 [] [] w wx))
  case first =>
    go_region_held3 (fun w' => w'.cell? ⟨w.heap.size, 0, none⟩ = some (.slice q.aF c.fs.length q.cF) ∧ w'.cell? ⟨w.heap.size, 1, none⟩ = some (.slice q.aH c.nh q.cH) ∧ w'.cell? ⟨w.heap.size, 2, none⟩ = some (.slice q.aR c.fr.length q.cR) ∧ w'.cell? ⟨w.heap.size, 3, none⟩ = some (.slice q.aO c.od.length q.cO))
      (first | exact SD.out.lk.box.facts | exact S0.out.lk.box.facts | exact (S3.out.set (by omega) _).lk.box.facts | exact S3.out.lk.box.facts | exact (S3a.out.set (by omega) _).lk.box.facts | exact S3a.out.lk.box.facts | exact (S2.out.set (by omega) _).lk.box.facts | exact S2.out.lk.box.facts | exact (S2a.out.set (by omega) _).lk.box.facts | exact S2a.out.lk.box.facts | exact (S1.out.set (by omega) _).lk.box.facts | exact S1.out.lk.box.facts | exact (S1a.out.set (by omega) _).lk.box.facts | exact S1a.out.lk.box.facts | exact (SDa.out.set (by omega) _).lk.box.facts | exact SDa.out.lk.box.facts)
      ((first
        | (go_at_call 36; (with_reducible refine (ownC_any (.slice q.aF c.fs.length q.cF) c.fs _ (by first | exact SD.out.lk.at_.first | exact SDa.out.lk.at_.first) hfs).mono ?_); rintro e' w1 ⟨v1, rfl, h1, hb⟩; obtain ⟨aF, cF, rfl⟩ := own_form h1; have S1 : Hid (Osx c q w w1) := Lib.hid (by first | exact SD.out.on hb | exact SDa.out.on hb); (first | (have C1 := Lib.hid (B0.out.on hb)) | skip); have S1a := Lib.hid (S1.out.on (box_below w1 (.cells #[.slice none 0 0, .slice none 0 0, .slice none 0 0, .slice none 0 0] 26))); have C1a : Hid (CBox (.slice none 0 0) (.slice none 0 0) (.slice none 0 0) (.slice none 0 0) w1.heap.size (w1.alloc (.cells #[.slice none 0 0, .slice none 0 0, .slice none 0 0, .slice none 0 0] 26))) := Lib.hid (CBox.new _ _ _ _ _); have F1 : Hid (w1.ownsRow (w.heap.size + 2) 43 2 (.slice aF c.fs.length cF) c.fs.length (flatC c.fs)) := Lib.hid (own_mono h1 (by first | exact hz1d | exact (SDa.out.res.lt))); have hs1 := S1.out.res.lt; clear h1 hb)
        | (go_at_call 37; (with_reducible refine (ownR_any (.slice q.aR c.fr.length q.cR) c.fr _ (by first | exact S1.out.lk.at_.from_ | exact S1a.out.lk.at_.from_) hfr).mono ?_); rintro e' w2 ⟨v2, rfl, h2, hb⟩; obtain ⟨aR, cR, rfl⟩ := own_form h2; have S2 : Hid (Osx c q w w2) := Lib.hid (by first | exact S1.out.on hb | exact S1a.out.on hb); (first | (have C2 := Lib.hid (C1.out.on hb)) | (have C2 := Lib.hid (C1a.out.on hb)) | skip); have S2a := Lib.hid (S2.out.on (box_below w2 (.cells #[.slice none 0 0, .slice none 0 0, .slice none 0 0, .slice none 0 0] 26))); have C2a : Hid (CBox (.slice none 0 0) (.slice none 0 0) (.slice none 0 0) (.slice none 0 0) w2.heap.size (w2.alloc (.cells #[.slice none 0 0, .slice none 0 0, .slice none 0 0, .slice none 0 0] 26))) := Lib.hid (CBox.new _ _ _ _ _); have G2 : Hid (w2.ownsRow (w.heap.size + 2) 3 1 (.slice aR c.fr.length cR) c.fr.length (intsV c.fr)) := Lib.hid (own_mono h2 (by first | exact hs1 | exact (S1a.out.res.lt))); have F2 : Hid (w2.ownsRow (w.heap.size + 2) 43 2 (.slice aF c.fs.length cF) c.fs.length (flatC c.fs)) := Lib.hid (by first | exact own_on F1.out hb | exact own_on (own_on F1.out (box_below w1 (.cells #[.slice none 0 0, .slice none 0 0, .slice none 0 0, .slice none 0 0] 26))) hb); have GL := Lib.hid (fun g hg => (h2.lt g hg).2); have hs2 := S2.out.res.lt; clear h2 hb)
        | (go_at_call 37; (with_reducible refine (ownR_any (.slice q.aO c.od.length q.cO) c.od _ (by first | exact S2.out.lk.at_.order | exact S2a.out.lk.at_.order) hod).mono ?_); rintro e' w3 ⟨v3, rfl, h3, hb⟩; obtain ⟨aO, cO, rfl⟩ := own_form h3; have S3 : Hid (Osx c q w w3) := Lib.hid (by first | exact S2.out.on hb | exact S2a.out.on hb); have S3a := Lib.hid (S3.out.on (box_below w3 (.cells #[.slice none 0 0, .slice none 0 0, .slice none 0 0, .slice none 0 0] 26))); have C3a : Hid (CBox (.slice none 0 0) (.slice none 0 0) (.slice none 0 0) (.slice none 0 0) w3.heap.size (w3.alloc (.cells #[.slice none 0 0, .slice none 0 0, .slice none 0 0, .slice none 0 0] 26))) := Lib.hid (CBox.new _ _ _ _ _); (first | (have C3 := Lib.hid (C2.out.on hb)) | (have C3 := Lib.hid (C2a.out.on hb)) | skip); have H3 : Hid (w3.ownsRow (w.heap.size + 2) 3 1 (.slice aO c.od.length cO) c.od.length (intsV c.od)) := Lib.hid (own_mono h3 (by first | exact hs2 | exact (S2a.out.res.lt))); have G3 : Hid (w3.ownsRow (w.heap.size + 2) 3 1 (.slice aR c.fr.length cR) c.fr.length (intsV c.fr)) := Lib.hid (by first | exact own_on G2.out hb | exact own_on (own_on G2.out (box_below w2 (.cells #[.slice none 0 0, .slice none 0 0, .slice none 0 0, .slice none 0 0] 26))) hb); have F3 : Hid (w3.ownsRow (w.heap.size + 2) 43 2 (.slice aF c.fs.length cF) c.fs.length (flatC c.fs)) := Lib.hid (by first | exact own_on F2.out hb | exact own_on (own_on F2.out (box_below w2 (.cells #[.slice none 0 0, .slice none 0 0, .slice none 0 0, .slice none 0 0] 26))) hb); have RO : Hid (∀ g, (Value.slice aR c.fr.length cR).ownBlock = some g → (Value.slice aO c.od.length cO).ownBlock ≠ some g) := Lib.hid (fun g hg hg2 => by have := GL.out g hg; have := (h3.lt g hg2).1; first | omega | (simp only [World.size_alloc] at this; omega)); have hs3 := S3.out.res.lt; (first | (have run1 := run_StoreC (y0 := .slice aF c.fs.length cF) (y1 := .slice none 0 0) (y2 := .slice aR c.fr.length cR) (y3 := .slice aO c.od.length cO) C3.out rfl rfl rfl rfl) | (have run1 := run_StoreC (y0 := .slice aF c.fs.length cF) (y1 := .slice none 0 0) (y2 := .slice aR c.fr.length cR) (y3 := .slice aO c.od.length cO) C3a.out rfl rfl rfl rfl)); clear h3 hb)))
    all_goals
      go_wp2_with fail
      go_meet
      first
        | exact ⟨_, _, _, _, _, rfl, Lib.hid (Oc.start S3.out C3.out (by omega) F3.out G3.out H3.out RO.out)⟩
        | exact ⟨_, _, _, _, _, rfl, Lib.hid (Oc.start S3a.out C3a.out (by omega) (own_on F3.out (box_below _ _)) (own_on G3.out (box_below _ _)) (own_on H3.out (box_below _ _)) RO.out)⟩
  case rest =>
    obtain ⟨gB, lo, vF, vR, vO, rfl, O0⟩ := hcut
    clear SD SDa B0 hz1d hz1 S0 hfs hfr hod
    go_wp2
    go_loopw [4] (fun vi wr => ∃ (k : Nat) (ess : List (List Ev)) (vals : List Value) (vH : Value), k ≤ c.nh ∧ vi = .int .i64 k ∧ Hid (Oc c q gB lo vF vR vO vH k ess vals w wr)) (fun vi _ => c.nh - (intOf vi).toNat)
    case atStart => exact ⟨0, _, _, _, Nat.zero_le _, rfl, O0⟩
    case round =>
      obtain ⟨k, ess, vals, vH, hk, rfl, hO⟩ := hrel
      obtain ⟨u0, u1, u2, u3⟩ := hO.out.lk.box.facts
      by_cases hlt : k < c.nh
      · obtain ⟨b, off, a2, c2, hq, hc, _, hrow⟩ := hO.out.lk.at_.harts.row k hlt
        obtain ⟨aH, cH, rfl⟩ := own_form hO.out.own
        have x1 : wr.cell? ⟨gB, 1, none⟩ = some (.slice aH k cH) := by rw [cell_of_row wr gB 1 _ _ _ hO.out.out]; rfl
        have z1 : wr.frozen? ⟨gB, 1, none⟩ = false := frozen_of_row wr gB 1 _ _ hO.out.out
        have HR := Lib.hid hrow
        have O1 := Lib.hid (hO.out.on (Below.refl _ _).drew)
        have KO := Lib.hid (fun W (hW : RowV W (.slice a2 (c.len k) c2) (c.len k) (c.ev k) (c.el k)) => owns2_any _ _ _ _ W hW (HSM.out k hlt).1 (HSM.out k hlt).2)
        have HR1 := Lib.hid (hrow.below (Below.refl wr.heap.size wr).drew)
        have hki : (k : Int) < (c.nh : Int) := by omega
        have hk0 : (0 : Int) ≤ (k : Int) := by omega
        have hk1 : k ≤ 1000 := by omega
        rw [hq] at u1
        clear hq hrow
        go_upto_region 5 with fail
        go_region_law (first
          | (go_simp; go_at_call 38; (with_reducible refine (KO.out _ HR1.out).mono ?_); rintro e' w2 ⟨v2, es, rfl, hlen, hown, hcp, hnew, hb⟩; obtain ⟨a3, c3, rfl⟩ := own_form hown; have O2 := Lib.hid (O1.out.on hb); have RW2 : Hid (RowE lo w2 (.slice a3 (c.len k) c3) (c.len k) es (c.ev k) (c.el k)) := Lib.hid ⟨hlen, own_mono hown O1.out.sz, hcp, hnew.mono O1.out.sz⟩; have y1 := O2.out.cell1; have hgl : gB < w2.heap.size := (Array.getElem?_eq_some_iff.1 O2.out.out).1; have O3 := Lib.hid (O2.out.on (box_below w2 (.cells #[.slice a3 (c.len k) c3] 35))); have RW3 := Lib.hid (RW2.out.keep (.of_below (box_below w2 (.cells #[.slice a3 (c.len k) c3] 35)))); have B3 : Hid ((w2.alloc (.cells #[.slice a3 (c.len k) c3] 35)).heap[w2.heap.size]? = some (.cells #[.slice a3 (c.len k) c3] 35 (0, 0))) := Lib.hid Array.getElem?_push_size; have y3 := O3.out.cell1; clear hlen hown hcp hnew hb)
          | (refine step_append_row rfl (.tmp 23) (.tmp 30) rfl lo (.slice aH k cH) k vals rfl O3.out.own (.slice a3 (c.len k) c3) rfl w2.heap.size rfl B3.out hk1 O3.out.sz ?_; intro v5 w5 ho5 hg5; obtain ⟨a5, c5, rfl⟩ := own_form ho5; have O5 := Lib.hid (O3.out.step RW3.out ho5 hg5); have f5 : w5.frozen? ⟨gB, 1, none⟩ = false := O3.out.free hg5; have e5 := O3.out.there hg5))
        all_goals
          go_wp2
          go_roundw
          case rel => exact ⟨k + 1, _, _, _, by omega, by go_num, O5⟩
          case measure => simp [intOf]; omega
      · obtain rfl : k = c.nh := by omega
        obtain ⟨aF, cF, rfl⟩ := own_form hO.out.first
        obtain ⟨aR, cR, rfl⟩ := own_form hO.out.from_
        obtain ⟨aO, cO, rfl⟩ := own_form hO.out.order
        obtain ⟨aH, cH, rfl⟩ := own_form hO.out.own
        obtain ⟨x0, x1, x2, x3⟩ := CBox.facts hO.out.out
        have run1 := run_StoreC (y0 := .slice aF c.fs.length cF) (y1 := .slice aH c.nh cH) (y2 := .slice aR c.fr.length cR) (y3 := .slice aO c.od.length cO) hO.out.res rfl rfl rfl rfl
        have HD := Lib.hid (hO.out.done #[.slice aF c.fs.length cF, .slice aH c.nh cH, .slice aR c.fr.length cR, .slice aO c.od.length cO])
        have HR2 : Hid (CBox (.slice aF c.fs.length cF) (.slice aH c.nh cH) (.slice aR c.fr.length cR) (.slice aO c.od.length cO) (w.heap.size + 1) (wr.setRow (w.heap.size + 1) #[.slice aF c.fs.length cF, .slice aH c.nh cH, .slice aR c.fr.length cR, .slice aO c.od.length cO])) := Lib.hid (setRow_heap _ _ _ _ _ _ hO.out.res)
        go_wp2
        refine bodyPost_ret (cand_end rfl rfl HR2.out) rfl ?_
        exact ⟨_, _, _, _, _, _, _, _, rfl, HD.out⟩
end Go.Proofs.YtokhnjcbcpmmjaaGreat
