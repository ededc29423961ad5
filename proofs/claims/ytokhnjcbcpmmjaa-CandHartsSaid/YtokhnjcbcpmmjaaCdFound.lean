/-
  Proved here: cand's found tells whether From tells of each number where it may have found what it loaded; nothing that was there is changed. Condition: at most 60 events and cells.
  (With it: Proved here: cand's finds tells whether a number's From may be this one; nothing that was there is changed. Condition: at most 60 events and cells.)
  (With it: Words: the events of a candidate by number, in one block; cand's within. No condition.)
-/
import Derived.Test.YtokhnjcbcpmmjaaCdNumbered
import Derived.Test.YtokhnjcbcpmmjaaCdVal
namespace Go.Proofs.Ytokhnjcbcpmmjaa
set_option linter.unusedVariables false
set_option linter.unusedSimpArgs false
open Go.RowKit
attribute [local go_sem ↓] fold_E fold_SE

/-- the events by number, in block g -/
structure AllIn (c : Cd) (g : Nat) (w : World) : Prop where
  blk : w.heap[g]? = some (.cells (flat ((allP c c.nh).map (·.1))).toArray 42 (0, 0))
  reads : ∀ n, n < c.N → EReads w (c.at n).1 (c.at n).2
  low : ∀ n, n < c.N → 0 ≤ (c.at n).1.addr
theorem AllIn.lt {c : Cd} {g : Nat} {w : World} (h : AllIn c g w) : g < w.heap.size := (Array.getElem?_eq_some_iff.1 h.blk).1
theorem AllIn.on {c : Cd} {g : Nat} {w w' : World} (h : AllIn c g w) (hb : Below w.heap.size w w') : AllIn c g w' :=
  ⟨(hb.block g h.lt).trans h.blk, fun n hn => (h.reads n hn).below hb, h.low⟩
theorem AllIn.evIn {c : Cd} {g : Nat} {w : World} (h : AllIn c g w) (n : Nat) (hn : n < c.N) : EvIn (c.at n).1 g (n * 14) w := by
  intro j v hv
  have he : ((allP c c.nh).map (·.1))[n]? = some (c.at n).1 := by rw [List.getElem?_map, c.at_mem n hn]; rfl
  have := flat_at _ n j _ v he (by unfold Ev.row; simpa using hv)
  rw [cell_of_row w g (n * 14 + j) _ _ _ h.blk]
  simpa using this
theorem AllIn.load {c : Cd} {g : Nat} {w : World} (h : AllIn c g w) (n : Nat) (hn : n < c.N) : (LoadE (.pointer (some ⟨g, n * 14, none⟩))).run Try.prog w = .ok (c.at n).1.V w := (h.evIn n hn).load
theorem AllIn.flat_ {c : Cd} {g : Nat} {w : World} (h : AllIn c g w) (n : Nat) (hn : n < c.N) : (c.at n).1.flat := (h.reads n hn).flat
/-- the rows' events read as they do, by number -/
theorem reads_of_harts {c : Cd} {a : Option Addr} {w : World} (h : HsAt c c.nh a w) (n : Nat) (hn : n < c.N) : EReads w (c.at n).1 (c.at n).2 ∧ 0 ≤ (c.at n).1.addr := by
  obtain ⟨k, j, hk, hj, rfl⟩ := num_of c.len c.nh n hn
  rw [c.at_is k j hk hj]
  obtain ⟨b, off, a2, c2, _, _, _, hr⟩ := h.row k hk
  obtain ⟨a3, c3, e, _, hr⟩ := hr
  rcases hr with h0 | ⟨b2, off2, _, hr⟩
  · omega
  · exact ⟨hr.reads j hj, hr.low j hj⟩
theorem AllIn.mk' {c : Cd} {a : Option Addr} {g : Nat} {w w' : World} (h : HsAt c c.nh a w) (hb : Below w.heap.size w w') (hg : w'.heap[g]? = some (.cells (flat ((allP c c.nh).map (·.1))).toArray 42 (0, 0))) : AllIn c g w' :=
  ⟨hg, fun n hn => (reads_of_harts h n hn).1.below hb, fun n hn => (reads_of_harts h n hn).2⟩
theorem cwithin_any (x m : Int) (w : World) : Calls Try.prog 37 #[.int .i64 x, .int .i64 m] w fun e w' => e = .returned (.bool (withinB x m)) ∧ w = w' := by
  unfold withinB
  by_cases h1 : 0 ≤ x
  · by_cases h2 : x < m
    · go_enter Try.func37, Try.ntmps37
      go_wp2
      go_ret
      exact ⟨by simp [h1, h2], rfl⟩
    · have h2' : decide (x < m) = false := by simpa using h2
      go_enter Try.func37, Try.ntmps37
      go_wp2
      go_ret
      exact ⟨by simp, rfl⟩
  · have h1' : decide (0 ≤ x) = false := by simpa using h1
    go_enter Try.func37, Try.ntmps37
    go_wp2
    go_ret
    exact ⟨by simp, rfl⟩
theorem cwithin_b (x m : Int) (b : Bool) (h : withinB x m = b) (w : World) : Calls Try.prog 37 #[.int .i64 x, .int .i64 m] w fun e w' => e = .returned (.bool b) ∧ w = w' := by rw [← h]; exact cwithin_any x m w
/-- a number's From, whatever it is -/
def findX (c : Cd) (n : Nat) (f : Int) : Bool :=
  if readsE (c.at n).1 = false then f == -1
  else if f = -1 then (c.at n).1.load == valL c.fs (c.at n).1.addr
  else if f = n ∨ withinB f c.N = false then false
  else writesE (c.at f.toNat).1 && ((c.at f.toNat).1.addr == (c.at n).1.addr && (c.at f.toNat).1.store == (c.at n).1.load)
theorem findB_is (c : Cd) (n : Nat) : findB c n = findX c n (atI c.fr n) := rfl
end Go.Proofs.Ytokhnjcbcpmmjaa
namespace Go.Proofs.Ytokhnjcbcpmmjaa
set_option linter.unusedVariables false
set_option linter.unusedSimpArgs false
open Go.RowKit
attribute [local go_sem ↓] fold_E fold_SE

/-- what finds stands on -/
structure Fd (c : Cd) (q : Cv) (g : Nat) (w : World) : Prop where
  all : AllIn c g w
  first : ReadsF w (.slice q.aF c.fs.length q.cF) c.fs
  fs60 : c.fs.length ≤ 60
  rise : riseL c.fs c.fs.length = true
  n60 : c.N ≤ 60
theorem Fd.on {c : Cd} {q : Cv} {g : Nat} {w w' : World} (h : Fd c q g w) (hb : Below w.heap.size w w') : Fd c q g w' := ⟨h.all.on hb, h.first.below hb, h.fs60, h.rise, h.n60⟩
/-- the boxes of finds: the candidate, the event -/
structure Fx (c : Cd) (q : Cv) (g : Nat) (e : Ev) (w W : World) : Prop where
  box : CdAt c q w.heap.size W
  ev : EvAt e (w.heap.size + 1) W
  below : Below w.heap.size w W
  here : Fd c q g w
theorem Fx.on {c : Cd} {q : Cv} {g : Nat} {e : Ev} {w W W2 : World} (h : Fx c q g e w W) (hb : Below W.heap.size W W2) : Fx c q g e w W2 := ⟨h.box.on hb, h.ev.on hb, h.below.trans (hb.mono h.below.size), h.here⟩
theorem Fx.fd {c : Cd} {q : Cv} {g : Nat} {e : Ev} {w W : World} (h : Fx c q g e w W) : Fd c q g W := h.here.on h.below
theorem Fx.start {c : Cd} {q : Cv} {g : Nat} {e : Ev} {w w1 : World} (h : Fd c q g w) (D1 : EvAt e (w.heap.size + 1) w1) (ho : ∀ j, j ≠ w.heap.size + 1 → w1.heap[j]? = ((w.alloc (.cells #[.slice q.aF c.fs.length q.cF, .slice q.aH c.nh q.cH, .slice q.aR c.fr.length q.cR, .slice q.aO c.od.length q.cO] 26)).alloc (.cells #[.int .i64 0, .int .i64 0, .int .i64 0, .int .u64 0, .int .u64 0, .int .u64 0, .bool false, .bool false, .int .i64 0, .int .i64 0, .int .i64 0, .slice none 0 0, .slice none 0 0, .slice none 0 0] 42)).heap[j]?)
    (hb : Below (w.heap.size + 1) ((w.alloc (.cells #[.slice q.aF c.fs.length q.cF, .slice q.aH c.nh q.cH, .slice q.aR c.fr.length q.cR, .slice q.aO c.od.length q.cO] 26)).alloc (.cells #[.int .i64 0, .int .i64 0, .int .i64 0, .int .u64 0, .int .u64 0, .int .u64 0, .bool false, .bool false, .int .i64 0, .int .i64 0, .int .i64 0, .slice none 0 0, .slice none 0 0, .slice none 0 0] 42)) w1) : Fx c q g e w w1 := by
  refine ⟨?_, D1, (two_below w _ _).trans (hb.mono (by omega)), h⟩
  have h0 := (CdAt.new c q w).on (box_below _ (.cells #[.int .i64 0, .int .i64 0, .int .i64 0, .int .u64 0, .int .u64 0, .int .u64 0, .bool false, .bool false, .int .i64 0, .int .i64 0, .int .i64 0, .slice none 0 0, .slice none 0 0, .slice none 0 0] 42))
  exact (ho w.heap.size (by omega)).trans h0
theorem Fx.three {c : Cd} {q : Cv} {g : Nat} {e : Ev} {w W : World} (h : Fx c q g e w W) : W.cell? ⟨w.heap.size + 1, 4, none⟩ = some (.int .u64 e.load) ∧ W.cell? ⟨w.heap.size, 0, none⟩ = some (.slice q.aF c.fs.length q.cF) ∧ W.cell? ⟨w.heap.size + 1, 3, none⟩ = some (.int .u64 e.addr) := by
  obtain ⟨_, _, _, _, g3, g4, _⟩ := h.ev.facts
  exact ⟨g4, h.box.facts.1, g3⟩
set_option maxRecDepth 100000 in
set_option maxHeartbeats 8000000 in
theorem finds_any (c : Cd) (q : Cv) (g n : Nat) (f : Int) (w : World) (h : Fd c q g w) (hn : n < c.N) : Calls Try.prog 35 #[cdV c q, .slice (some ⟨g, 0, none⟩) c.N c.N, .int .i64 (n : Int), .int .i64 f] w fun e w' => TellsIs w (findX c n f) e w' := by
  have H := Lib.hid h
  clear h
  have HB0 := Lib.hid (box_below w (.cells #[.slice q.aF c.fs.length q.cF, .slice q.aH c.nh q.cH, .slice q.aR c.fr.length q.cR, .slice q.aO c.od.length q.cO] 26))
  have cl := (H.out.on HB0.out).all.load n hn
  have hfl := Lib.hid (H.out.all.flat_ n hn)
  have HX := Lib.hid (show findX c n f = if readsE (c.at n).1 = false then f == -1
      else if f = -1 then (c.at n).1.load == valL c.fs (c.at n).1.addr
      else if f = n ∨ withinB f c.N = false then false
      else writesE (c.at f.toNat).1 && ((c.at f.toNat).1.addr == (c.at n).1.addr && (c.at f.toNat).1.store == (c.at n).1.load) from rfl)
  obtain ⟨e, he⟩ : ∃ e, Hid ((c.at n).1 = e) := ⟨_, Lib.hid rfl⟩
  rw [he.out] at cl hfl HX
  obtain ⟨N, hN⟩ : ∃ N, Hid (c.N = N) := ⟨_, Lib.hid rfl⟩
  rw [hN.out] at hn HX ⊢
  have KR := Lib.hid (fun b hb w0 => Reads_b e b hb w0)
  obtain ⟨r, hr⟩ : ∃ r, Hid (readsE e = r) := ⟨_, Lib.hid rfl⟩
  have KR2 := Lib.hid (KR.out r hr.out)
  rw [hr.out] at HX
  cases r with
  | false =>
    rw [if_pos rfl] at HX
    go_enter Try.func35, Try.ntmps35
    go_upto_region 2 with (refine store_ev (EvAt.new_at zeroEv _ (w.heap.size + 1) (by simp)) e hfl.out rfl (.tmp 9) (.tmp 14) rfl rfl rfl ?_; intro w1 D1 ho1 hb1 hz1; have S1 := Lib.hid (Fx.start H.out D1 ho1 hb1); clear D1 ho1 hb1 hz1)
    have cl1 := run_LoadE S1.out.ev
    clear cl
    go_wp2_with (go_at_call 54; (with_reducible refine (KR2.out _).mono ?_); rintro e' w2 ⟨rfl, hb⟩; have S2 := Lib.hid (S1.out.on hb); clear hb cl1)
    go_ret
    exact TellsIs.mk HX.out S2.out.below
  | true =>
    rw [if_neg (by simp)] at HX
    by_cases h1 : f = -1
    · rw [if_pos h1] at HX
      subst h1
      go_enter Try.func35, Try.ntmps35
      go_upto_region 2 with (refine store_ev (EvAt.new_at zeroEv _ (w.heap.size + 1) (by simp)) e hfl.out rfl (.tmp 9) (.tmp 14) rfl rfl rfl ?_; intro w1 D1 ho1 hb1 hz1; have S1 := Lib.hid (Fx.start H.out D1 ho1 hb1); clear D1 ho1 hb1 hz1)
      have cl1 := run_LoadE S1.out.ev
      clear cl
      go_upto_region 5 with (go_at_call 54; (with_reducible refine (KR2.out _).mono ?_); rintro e' w2 ⟨rfl, hb⟩; have S2 := Lib.hid (S1.out.on hb); clear hb cl1)
      have S3 := Lib.hid (S2.out.on (Below.refl _ _).drew)
      have KV := Lib.hid (fun w0 h0 => value_any (.slice q.aF c.fs.length q.cF) c.fs e.addr w0 h0 H.out.fs60 H.out.rise)
      obtain ⟨v, hv⟩ : ∃ v, Hid (valL c.fs e.addr = v) := ⟨_, Lib.hid rfl⟩
      rw [hv.out] at KV HX
      obtain ⟨u0, u1, u2⟩ := S2.out.three
      go_region_held3 (fun w' => w'.cell? ⟨w.heap.size + 1, 4, none⟩ = some (.int .u64 e.load) ∧ w'.cell? ⟨w.heap.size, 0, none⟩ = some (.slice q.aF c.fs.length q.cF) ∧ w'.cell? ⟨w.heap.size + 1, 3, none⟩ = some (.int .u64 e.addr))
        (first | exact S3.out.three | exact S2.out.three | exact S4.out.three)
        ((go_at_call 55; (with_reducible refine (KV.out _ S3.out.fd.first).mono ?_); rintro e' w3 ⟨rfl, hb⟩; have S4 := Lib.hid (S3.out.on hb); clear hb))
      go_wp2
      go_ret
      exact TellsIs.mk HX.out S4.out.below
    · rw [if_neg h1] at HX
      have h1' : (f == -1) = false := by simpa using h1
      clear h1
      by_cases h2 : f = n
      · rw [if_pos (.inl h2)] at HX
        have h2' : (f == (n : Int)) = true := by simpa using h2
        clear h2
        go_enter Try.func35, Try.ntmps35
        go_upto_region 2 with (refine store_ev (EvAt.new_at zeroEv _ (w.heap.size + 1) (by simp)) e hfl.out rfl (.tmp 9) (.tmp 14) rfl rfl rfl ?_; intro w1 D1 ho1 hb1 hz1; have S1 := Lib.hid (Fx.start H.out D1 ho1 hb1); clear D1 ho1 hb1 hz1)
        have cl1 := run_LoadE S1.out.ev
        clear cl
        go_wp2_with (go_at_call 54; (with_reducible refine (KR2.out _).mono ?_); rintro e' w2 ⟨rfl, hb⟩; have S2 := Lib.hid (S1.out.on hb); clear hb cl1)
        go_ret
        exact TellsIs.mk HX.out S2.out.below
      have h2' : (f == (n : Int)) = false := by simpa using h2
      obtain ⟨iw, hiw⟩ : ∃ iw, Hid (withinB f N = iw) := ⟨_, Lib.hid rfl⟩
      have KW := Lib.hid (fun w0 => cwithin_b f N iw hiw.out w0)
      cases iw with
      | false =>
        rw [if_pos (.inr hiw.out)] at HX
        clear h2
        go_enter Try.func35, Try.ntmps35
        go_upto_region 2 with (refine store_ev (EvAt.new_at zeroEv _ (w.heap.size + 1) (by simp)) e hfl.out rfl (.tmp 9) (.tmp 14) rfl rfl rfl ?_; intro w1 D1 ho1 hb1 hz1; have S1 := Lib.hid (Fx.start H.out D1 ho1 hb1); clear D1 ho1 hb1 hz1)
        have cl1 := run_LoadE S1.out.ev
        clear cl
        go_wp2_with (first
          | (go_at_call 54; (with_reducible refine (KR2.out _).mono ?_); rintro e' w2 ⟨rfl, hb⟩; have S2 := Lib.hid (S1.out.on hb); clear hb cl1)
          | (go_at_call 37; (with_reducible refine (KW.out _).mono ?_); rintro e' w3 ⟨rfl, rfl⟩))
        go_ret
        exact TellsIs.mk HX.out S2.out.below
      | true =>
        rw [if_neg (by rw [hiw.out]; simp [h2])] at HX
        have hfn := withinB_yes hiw.out
        obtain ⟨m, hm⟩ : ∃ m : Nat, f = m := ⟨f.toNat, by omega⟩
        subst hm
        have hmN : m < N := by omega
        rw [Int.toNat_natCast] at HX
        clear h2 hfn
        obtain ⟨d, hd⟩ : ∃ d, Hid ((c.at m).1 = d) := ⟨_, Lib.hid rfl⟩
        have hfd := Lib.hid (H.out.all.flat_ m (by rw [hN.out]; exact hmN))
        rw [hd.out] at HX hfd
        have KWr := Lib.hid (fun w0 => Writes_b d _ rfl w0)
        obtain ⟨wr, hwr⟩ : ∃ wr, Hid (writesE d = wr) := ⟨_, Lib.hid rfl⟩
        have KW2 : Hid (∀ w0, Calls Try.prog 29 #[d.V] w0 fun e' w' => AskIs w0 wr e' w') := Lib.hid (by rw [← hwr.out]; exact KWr.out)
        rw [hwr.out] at HX
        clear KWr
        go_enter Try.func35, Try.ntmps35
        go_upto_region 2 with (refine store_ev (EvAt.new_at zeroEv _ (w.heap.size + 1) (by simp)) e hfl.out rfl (.tmp 9) (.tmp 14) rfl rfl rfl ?_; intro w1 D1 ho1 hb1 hz1; have S1 := Lib.hid (Fx.start H.out D1 ho1 hb1); clear D1 ho1 hb1 hz1)
        have cl1 := run_LoadE S1.out.ev
        clear cl
        go_upto_region 8 with (first
          | (go_at_call 54; (with_reducible refine (KR2.out _).mono ?_); rintro e' w2 ⟨rfl, hb⟩; have S2 := Lib.hid (S1.out.on hb); clear hb cl1)
          | (go_at_call 37; (with_reducible refine (KW.out _).mono ?_); rintro e' w3 ⟨rfl, rfl⟩))
        have cd := S2.out.fd.all.load m (by rw [hN.out]; exact hmN)
        rw [hd.out] at cd
        go_upto_region 9 with (refine store_ev (EvAt.new zeroEv _) d hfd.out rfl (.tmp 10) (.tmp 46) rfl rfl rfl ?_; intro w4 D4 ho4 hb4 hz4; have X4 := Lib.hid D4; have S4 := Lib.hid (S2.out.on ((box_below w2 (.cells #[.int .i64 0, .int .i64 0, .int .i64 0, .int .u64 0, .int .u64 0, .int .u64 0, .bool false, .bool false, .int .i64 0, .int .i64 0, .int .i64 0, .slice none 0 0, .slice none 0 0, .slice none 0 0] 42)).trans hb4)); clear D4 ho4 hb4 hz4 cd)
        have cd4 := run_LoadE X4.out
        cases wr with
        | false =>
          rw [Bool.false_and] at HX
          go_wp2_with (go_at_call 29; (with_reducible refine (KW2.out _).mono ?_); rintro e' w5 ⟨rfl, hb⟩; have X5 := Lib.hid (X4.out.on hb); have S5 := Lib.hid (S4.out.on hb); clear hb cd4; obtain ⟨_, _, _, _, x3, _, x5, _⟩ := X5.out.facts; obtain ⟨_, _, _, _, y3, y4, _⟩ := S5.out.ev.facts)
          go_ret
          exact TellsIs.mk HX.out S5.out.below
        | true =>
          rw [Bool.true_and] at HX
          cases ha : (d.addr == e.addr) with
          | false =>
            rw [ha, Bool.false_and] at HX
            go_wp2_with (go_at_call 29; (with_reducible refine (KW2.out _).mono ?_); rintro e' w5 ⟨rfl, hb⟩; have X5 := Lib.hid (X4.out.on hb); have S5 := Lib.hid (S4.out.on hb); clear hb cd4; obtain ⟨_, _, _, _, x3, _, x5, _⟩ := X5.out.facts; obtain ⟨_, _, _, _, y3, y4, _⟩ := S5.out.ev.facts)
            go_ret
            exact TellsIs.mk HX.out S5.out.below
          | true =>
            rw [ha, Bool.true_and] at HX
            obtain ⟨b3, hb3⟩ : ∃ b3, Hid ((d.store == e.load) = b3) := ⟨_, Lib.hid rfl⟩
            rw [hb3.out] at HX
            go_wp2_with (go_at_call 29; (with_reducible refine (KW2.out _).mono ?_); rintro e' w5 ⟨rfl, hb⟩; have X5 := Lib.hid (X4.out.on hb); have S5 := Lib.hid (S4.out.on hb); clear hb cd4; obtain ⟨_, _, _, _, x3, _, x5, _⟩ := X5.out.facts; obtain ⟨_, _, _, _, y3, y4, _⟩ := S5.out.ev.facts)
            go_ret
            exact TellsIs.mk (HX.out.trans hb3.out.symm) S5.out.below
end Go.Proofs.Ytokhnjcbcpmmjaa
namespace Go.Proofs.Ytokhnjcbcpmmjaa
set_option linter.unusedVariables false
set_option linter.unusedSimpArgs false
open Go.RowKit
attribute [local go_sem ↓] fold_E fold_SE

def foundB (c : Cd) : Bool := decide (c.fr.length = c.N) && foundL c c.N
set_option maxRecDepth 100000 in
set_option maxHeartbeats 8000000 in
theorem found_lens (c : Cd) (q : Cv) (g : Nat) (w : World) (hl : c.fr.length ≠ c.N) : Calls Try.prog 26 #[cdV c q, .slice (some ⟨g, 0, none⟩) c.N c.N] w fun e w' => TellsIs w (foundB c) e w' := by
  have HX : Hid (foundB c = false) := Lib.hid (by unfold foundB; rw [decide_eq_false hl]; rfl)
  have HB0 := Lib.hid (box_below w (.cells #[.slice q.aF c.fs.length q.cF, .slice q.aH c.nh q.cH, .slice q.aR c.fr.length q.cR, .slice q.aO c.od.length q.cO] 26))
  have hne : ((c.fr.length : Int) != (c.N : Int)) = true := by simp; omega
  clear hl
  go_enter Try.func26, Try.ntmps26
  go_wp2
  go_ret
  exact TellsIs.mk HX.out HB0.out
set_option maxRecDepth 100000 in
set_option maxHeartbeats 8000000 in
theorem found_some (c : Cd) (q : Cv) (g b off : Nat) (w : World) (h : Fd c q g w) (hl : c.fr.length = c.N) (hq : q.aR = some ⟨b, off, none⟩) (hlt : b < w.heap.size) (hcell : ∀ j, j < c.fr.length → w.cell? ⟨b, off + j, none⟩ = some (.int .i64 (atI c.fr j))) :
    Calls Try.prog 26 #[cdV c q, .slice (some ⟨g, 0, none⟩) c.N c.N] w fun e w' => TellsIs w (foundB c) e w' := by
  have HX : Hid (foundB c = foundL c c.N) := Lib.hid (by unfold foundB; rw [decide_eq_true hl]; rfl)
  have H := Lib.hid h
  have HC := Lib.hid hcell
  have HB0 := Lib.hid (box_below w (.cells #[.slice q.aF c.fs.length q.cF, .slice q.aH c.nh q.cH, .slice q.aR c.fr.length q.cR, .slice q.aO c.od.length q.cO] 26))
  have KF := Lib.hid (fun n hn w0 h0 => finds_any c q g n (atI c.fr n) w0 h0 hn)
  have HN60 := h.n60
  obtain ⟨N, hN⟩ : ∃ N, Hid (c.N = N) := ⟨_, Lib.hid rfl⟩
  obtain ⟨fs, hfs⟩ : ∃ fs, Hid (c.fs.length = fs) := ⟨_, Lib.hid rfl⟩
  obtain ⟨nh, hnh⟩ : ∃ nh, Hid (c.nh = nh) := ⟨_, Lib.hid rfl⟩
  obtain ⟨od, hod⟩ : ∃ od, Hid (c.od.length = od) := ⟨_, Lib.hid rfl⟩
  clear h hcell
  unfold cdV at KF ⊢
  rw [hl] at HC
  rw [hN.out] at hl HX HN60 HC
  have HB1 := HB0
  rw [hl, hq, hfs.out, hnh.out, hod.out] at HB0
  rw [hl, hq, hN.out, hfs.out, hnh.out, hod.out] at KF
  rw [hl, hq, hN.out, hfs.out, hnh.out, hod.out]
  have HBox : Hid (∀ W, W.heap[w.heap.size]? = some (.cells #[.slice q.aF fs q.cF, .slice q.aH nh q.cH, .slice (some ⟨b, off, none⟩) N q.cR, .slice q.aO od q.cO] 26 (0, 0)) → CdAt c q w.heap.size W) := Lib.hid (fun W hW => by unfold CdAt; rw [hl, hq, hfs.out, hnh.out, hod.out]; exact hW)
  clear HB1
  go_enter Try.func26, Try.ntmps26
  go_wp2
  go_loopw [16] (fun vi wr => ∃ (j : Nat), j ≤ N ∧ vi = .int .i64 j ∧ Hid (foundL c j = true) ∧ Hid (wr.heap[w.heap.size]? = some (.cells #[.slice q.aF fs q.cF, .slice q.aH nh q.cH, .slice (some ⟨b, off, none⟩) N q.cR, .slice q.aO od q.cO] 26 (0, 0))) ∧ Below w.heap.size w wr) (fun vi _ => N - (intOf vi).toNat)
  case atStart => exact ⟨0, Nat.zero_le _, rfl, Lib.hid rfl, Lib.hid Array.getElem?_push_size, HB0.out⟩
  case round =>
    obtain ⟨j, hj, rfl, hR, hbx, hbel⟩ := hrel
    have HB := Lib.hid hbel
    clear hbel
    by_cases hlt2 : j < N
    · have d0 := (HB.out.cell (p := ⟨b, off + j, none⟩) hlt).trans (HC.out j hlt2)
      have hlb := Lib.hid (show w.heap.size < wr.heap.size from (Array.getElem?_eq_some_iff.1 hbx.out).1)
      have b0 : wr.cell? ⟨w.heap.size, 0, none⟩ = some (.slice q.aF fs q.cF) := by rw [cell_of_row wr _ 0 _ _ _ hbx.out]; rfl
      have b1 : wr.cell? ⟨w.heap.size, 1, none⟩ = some (.slice q.aH nh q.cH) := by rw [cell_of_row wr _ 1 _ _ _ hbx.out]; rfl
      have b2 : wr.cell? ⟨w.heap.size, 2, none⟩ = some (.slice (some ⟨b, off, none⟩) N q.cR) := by rw [cell_of_row wr _ 2 _ _ _ hbx.out]; rfl
      have b3 : wr.cell? ⟨w.heap.size, 3, none⟩ = some (.slice q.aO od q.cO) := by rw [cell_of_row wr _ 3 _ _ _ hbx.out]; rfl
      have KF2 := Lib.hid (KF.out j hlt2 wr (H.out.on HB.out))
      obtain ⟨F, hF⟩ : ∃ F, Hid (atI c.fr j = F) := ⟨_, Lib.hid rfl⟩
      obtain ⟨r, hr⟩ : ∃ r, Hid (findB c j = r) := ⟨_, Lib.hid rfl⟩
      rw [hF.out] at d0
      rw [← findB_is, hr.out, hF.out] at KF2
      cases r with
      | true =>
        have HY := Lib.hid (all_next (findB c) j hR.out hr.out)
        go_wp2_with (go_at_call 35; (with_reducible refine (KF2.out).mono ?_); rintro e' w2 ⟨rfl, hb⟩; have L2 := Lib.hid (HB.out.trans (hb.mono HB.out.size)); have X2 := Lib.hid ((hb.block _ hlb.out).trans hbx.out); clear hb)
        go_roundw
        case rel => exact ⟨j + 1, by omega, by go_num, HY, X2, L2.out⟩
        case measure => simp [intOf]; omega
      | false =>
        have HNo := Lib.hid (all_stop (findB c) j N hlt2 hr.out)
        go_wp2_with (go_at_call 35; (with_reducible refine (KF2.out).mono ?_); rintro e' w2 ⟨rfl, hb⟩; have L2 := Lib.hid (HB.out.trans (hb.mono HB.out.size)); clear hb)
        go_ret
        exact TellsIs.mk (HX.out.trans HNo.out) L2.out
    · obtain rfl : j = N := by omega
      go_wp2
      go_ret
      exact TellsIs.mk (HX.out.trans hR.out) HB.out
set_option maxRecDepth 100000 in
set_option maxHeartbeats 8000000 in
theorem found_zero (c : Cd) (q : Cv) (g : Nat) (w : World) (hl : c.fr.length = c.N) (h0 : c.N = 0) : Calls Try.prog 26 #[cdV c q, .slice (some ⟨g, 0, none⟩) c.N c.N] w fun e w' => TellsIs w (foundB c) e w' := by
  have HX : Hid (foundB c = true) := Lib.hid (by unfold foundB; rw [decide_eq_true hl, h0]; rfl)
  have HB0 := Lib.hid (box_below w (.cells #[.slice q.aF c.fs.length q.cF, .slice q.aH c.nh q.cH, .slice q.aR 0 q.cR, .slice q.aO c.od.length q.cO] 26))
  unfold cdV
  rw [hl, h0]
  clear hl h0
  go_enter Try.func26, Try.ntmps26
  go_wp2
  refine wp_loop_rounds 1 ?_
  rw [rounds_succ]
  go_wp2
  go_ret
  exact TellsIs.mk HX.out HB0.out
theorem found_any (c : Cd) (q : Cv) (g : Nat) (w : World) (h : Fd c q g w) (hr : ReadsI w (.slice q.aR c.fr.length q.cR) c.fr) : Calls Try.prog 26 #[cdV c q, .slice (some ⟨g, 0, none⟩) c.N c.N] w fun e w' => TellsIs w (foundB c) e w' := by
  by_cases hl : c.fr.length = c.N
  · rcases hr with ⟨_, h0⟩ | ⟨b, off, c2, e, _, _, h3, h4⟩
    · exact found_zero c q g w hl (by rw [← hl, h0]; rfl)
    · injection e with e1 e2 e3
      exact found_some c q g b off w h hl e1 h3 h4
  · exact found_lens c q g w hl
end Go.Proofs.Ytokhnjcbcpmmjaa
