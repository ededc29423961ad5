/-
  Proved here: the law TaintChains answers true of any moves, loads and numbers; nothing that was there is changed. Condition: numbers of 64 bits.
-/
import Derived.Test.YtmdaleokhekdeaaTaintChainsWords
namespace Go.Proofs.Ytmdaleokhekdeaa
open Go.RowKit
attribute [local go_sem ↓] fold_T fold_I

def Fit (z : Int) : Prop := -9223372036854775808 ≤ z ∧ z ≤ 9223372036854775807
def PairsAt (w : World) (a0 : Option Addr) (n : Nat) (z : Nat → Nat → Int) : Prop := ∀ k, k < n → ∃ b off, a0 = some ⟨b, off, none⟩ ∧ b < w.heap.size ∧ w.cell? ⟨b, off + k * 2, none⟩ = some (.int .i64 (z k 0)) ∧ w.cell? ⟨b, off + k * 2 + 1, none⟩ = some (.int .i64 (z k 1)) ∧ Fit (z k 0) ∧ Fit (z k 1)
def NumsAt (w : World) (a0 : Option Addr) (n : Nat) (y : Nat → Int) : Prop := ∀ k, k < n → ∃ b off, a0 = some ⟨b, off, none⟩ ∧ b < w.heap.size ∧ w.cell? ⟨b, off + k, none⟩ = some (.int .i64 (y k)) ∧ Fit (y k)
theorem pick_nat (z m : Int) (hm : 1 ≤ m) : ∃ r : Nat, Hid (pickI z m = (r : Int)) ∧ (r : Int) < m := by
  have h0 : 0 ≤ pickI z m := by
    unfold pickI
    rw [if_neg (by omega)]
    exact Int.emod_nonneg _ (by omega)
  have h1 : pickI z m < m := by
    unfold pickI
    rw [if_neg (by omega)]
    exact Int.emod_lt_of_pos _ (by omega)
  exact ⟨(pickI z m).toNat, Lib.hid (by omega), by omega⟩
theorem pick_is (z m : Int) (hz : Fit z) (hm : m ≤ 9223372036854775807) (r : Int) (hr : Hid (pickI z m = r)) (w : World) : Calls Try.prog 25 #[.int .i64 z, .int .i64 m] w fun e w' => e = .returned (.int .i64 r) ∧ w' = w := by
  have := Pick_any z m hz.1 hz.2 hm w
  rw [hr.out] at this
  exact this.mono fun e w' ⟨h1, h2⟩ => ⟨h1, h2.symm⟩
theorem pick_at (z m : Int) (hz : Fit z) (hm : m ≤ 9223372036854775807) (r : Int) (hr : Hid (pickI z m = r)) (w : World) : Calls Try.prog 25 #[.int .i64 z, .int .i64 m] w fun e w' => e = .returned (.int .i64 r) ∧ w = w' := by
  have := Pick_any z m hz.1 hz.2 hm w
  rw [hr.out] at this
  exact this
/-- what the loop keeps -/
structure Chain (w0 : World) (gt gm k : Nat) (t : Ta) (l : Tl) (m : List Int) (wr : World) : Prop where
  box : TAt 25 t gt wr
  mem : MAt m gm wr
  reads : TReads wr t l
  model : Model m l
  low : Below w0.heap.size w0 wr
theorem Chain.on {w0 : World} {gt gm k : Nat} {t : Ta} {l : Tl} {m : List Int} {wr w2 : World} (h : Chain w0 gt gm k t l m wr) (hb : Below wr.heap.size wr w2) : Chain w0 gt gm k t l m w2 :=
  ⟨h.box.below hb h.box.lt, h.mem.below hb h.mem.lt, h.reads.below hb, h.model, h.low.trans (hb.mono h.low.size)⟩
theorem alone_q (v : Value) (n : Int) (w : World) (h : ReadsI w v (evL n)) (h0 : 0 ≤ n) (h1 : n ≤ 1000) : Calls Try.prog 29 #[v, .int .i64 n] w fun e w' => e = .returned (.bool true) ∧ w' = w :=
  (alone_any v n w h h0 h1).mono fun _ _ ⟨a, b⟩ => ⟨a, b.symm⟩
/-- behind the store of the whole taint -/
theorem chain_end {w0 w9 w14 w15 : World} {gt gm k : Nat} {t u : Ta} {l l2 : Tl} {m : List Int} (h : Chain w0 gt gm k t l m w14) (hu : TReadsN w9.heap.size w14 u l2) (_ht : TAt 25 u gt w15) (ho : ∀ j, j ≠ gt → w15.heap[j]? = w14.heap[j]?) (hb : Below gt w14 w15) (hz : w15.heap.size = w14.heap.size) (hg : w0.heap.size ≤ gt) (hgm : gt < gm) (h9 : gm < w9.heap.size) :
    MAt m gm w15 ∧ TReadsN w9.heap.size w15 u l2 ∧ Below w0.heap.size w0 w15 := by
  have one : ∀ v zs, ReadsN w9.heap.size w14 v zs → ReadsN w9.heap.size w15 v zs := by
    intro v zs hv
    refine ⟨?_, hv.2⟩
    rcases hv.1 with h0 | ⟨b, off, c, e, h2, h3, h4, h5⟩
    · exact .inl h0
    · subst e
      have hbn := hv.2 b rfl
      refine .inr ⟨b, off, c, rfl, h2, h3, by omega, fun j hj => ?_⟩
      rw [← h5 j hj]
      exact World.cell?_of_block (ho b (by omega))
  exact ⟨(ho gm (by omega)).trans h.mem, ⟨fun k hk => one _ _ (hu.1 k hk), one _ _ hu.2⟩, h.low.trans (hb.mono hg)⟩
theorem chain_put {w0 w9 w15 : World} {gt gm : Nat} {u : Ta} {l2 : Tl} {m : List Int} (h : MAt m gm w15 ∧ TReadsN w9.heap.size w15 u l2 ∧ Below w0.heap.size w0 w15) (hgm : gt < gm) (hg : w0.heap.size ≤ gt) (v : Int) (rd : Nat) (h9 : gm < w9.heap.size) (ht : TAt 25 u gt w15) :
    TAt 25 u gt (w15.setCell ⟨gm, rd, none⟩ (.int .i64 v)) ∧ MAt (m.set rd v) gm (w15.setCell ⟨gm, rd, none⟩ (.int .i64 v)) ∧ TReads (w15.setCell ⟨gm, rd, none⟩ (.int .i64 v)) u l2 ∧ Below w0.heap.size w0 (w15.setCell ⟨gm, rd, none⟩ (.int .i64 v)) :=
  ⟨ht.far _ (by omega), h.1.set rd v, ⟨fun k hk => ((h.2.1.1 k hk).set _ h9).1, (h.2.1.2.set _ h9).1⟩, h.2.2.setCell (by show w0.heap.size ≤ gm; omega) _⟩
def KeepsOn (w0 : World) (gt gm n : Nat) (vi : Value) (wr : World) : Prop := ∃ (k : Nat) (t : Ta) (l : Tl) (m : List Int), k ≤ n ∧ vi = .int .i64 k ∧ Chain w0 gt gm k t l m wr
set_option maxRecDepth 100000 in
set_option maxHeartbeats 40000000 in
theorem chains_short (a0 a1 : Option Addr) (n n1 c0 c1 : Nat) (z : Nat → Nat → Int) (y : Nat → Int) (w : World) (hz : PairsAt w a0 n z) (hy : NumsAt w a1 n1 y) (hn : n ≤ 60) (hn1 : n1 ≤ 60) :
    Calls Try.prog 7 #[.slice a0 n c0, .slice a1 n1 c1] w fun e w' => SameOk w true e w' := by
  have HZ := Lib.hid hz
  have HY := Lib.hid hy
  clear hz hy
  have d1 : decide (60 < n) = false := by simpa using hn
  have d2 : decide (60 < n1) = false := by simpa using hn1
  go_enter Try.func7, Try.ntmps7
  go_upto_region 6 with (first
    | (go_at_call 11; (with_reducible refine (lives_any _).mono ?_); rintro e w1 ⟨rfl, h⟩; have M1 := Lib.hid h; clear h)
    | (go_at_call 10; (with_reducible refine (New_any _).mono ?_); rintro e w2 ⟨rfl, h⟩; have M2 := Lib.hid (M1.out.trans (h.mono M1.out.size)); clear h)
    | (refine store_ta (zero_at w2) zeroTa zeroFlat rfl (.tmp 5) (.tmp 28) rfl rfl rfl ?_; intro w3 D3 ho3 hb3 hz3; have hb := (box_below w2 _).trans hb3; have HD := Lib.hid D3; have M3 := Lib.hid (M2.out.trans (hb.mono M2.out.size)); clear ho3 hz3 D3 hb3 hb))
  go_wp2
  have HC0 : Hid (Chain w w2.heap.size w3.heap.size 0 zeroTa zeroTl (List.replicate 32 0) (w3.alloc (.cells #[.int .i64 0, .int .i64 0, .int .i64 0, .int .i64 0, .int .i64 0, .int .i64 0, .int .i64 0, .int .i64 0, .int .i64 0, .int .i64 0, .int .i64 0, .int .i64 0, .int .i64 0, .int .i64 0, .int .i64 0, .int .i64 0, .int .i64 0, .int .i64 0, .int .i64 0, .int .i64 0, .int .i64 0, .int .i64 0, .int .i64 0, .int .i64 0, .int .i64 0, .int .i64 0, .int .i64 0, .int .i64 0, .int .i64 0, .int .i64 0, .int .i64 0, .int .i64 0] 56))) := Lib.hid ⟨HD.out.alloc _, MAt.new _, zeroTa_reads _, Model.start, M3.out.trans ((box_below _ _).mono M3.out.size)⟩
  have hlt23 : w2.heap.size < w3.heap.size := HD.out.lt
  have hg2 := Lib.hid M2.out.size
  go_loopw [7] (fun vi wr => KeepsOn w w2.heap.size w3.heap.size n vi wr) (fun vi _ => n - (intOf vi).toNat)
  case atStart => exact ⟨0, _, _, _, Nat.zero_le _, rfl, HC0.out⟩
  case round =>
    obtain ⟨k, t, l, m, hk, rfl, hch⟩ := hrel
    have CH := Lib.hid hch
    clear hch HC0
    by_cases hlt : k < n
    · obtain ⟨b, off, ea, hb, hc0, hc1, hf0, hf1⟩ := HZ.out k hlt
      have HE := Lib.hid ea
      subst ea
      obtain ⟨rd, hrd, hrd32⟩ := pick_nat (z k 0) 32 (by omega)
      obtain ⟨rs, hrs, hrs32⟩ := pick_nat (z k 1) 32 (by omega)
      have P0 := Lib.hid (fun w0 => pick_is (z k 0) 32 hf0 (by omega) _ hrd w0)
      have P1 := Lib.hid (fun w0 => pick_is (z k 1) 32 hf1 (by omega) _ hrs w0)
      have hcell0 := (CH.out.low.cell (p := ⟨b, off + k * 2, none⟩) hb).trans hc0
      have hcell1 := (CH.out.low.cell (p := ⟨b, off + k * 2 + 1, none⟩) hb).trans hc1
      clear hc0 hc1 hf0 hf1
      have hi0 : (0 : Int) ≤ (k : Int) := by omega
      have hi1 : (k : Int) < (n : Int) := by omega
      go_upto_region 10 with fail
      go_quiet ((first | (go_at_call 25; (with_reducible exact Calls.quiet_of_same (P0.out _))) | (go_at_call 25; (with_reducible exact Calls.quiet_of_same (P1.out _)))))
      obtain ⟨wq, HWq⟩ : ∃ wq, Hid (wr.drewN nq = wq) := ⟨_, Lib.hid rfl⟩
      rw [HWq.out]
      have CQ : Hid (Chain w w2.heap.size w3.heap.size k t l m wq) := Lib.hid (by rw [← HWq.out]; exact CH.out.on (below_drewW (Below.refl _ _) nq))
      have HL := Lib.hid CQ.out.model.len
      clear hcell0 hcell1 CH P0 P1 HWq
      have hr0 : (0 : Int) ≤ (rs : Int) := by omega
      have hd0 : (0 : Int) ≤ (rd : Int) := by omega
      by_cases hw : k < n1
      · obtain ⟨b1, off1, ea1, hb1, hcy, hfy⟩ := HY.out k hw
        subst ea1
        obtain ⟨kd, hkd, hkd3⟩ := pick_nat (y k) 3 (by omega)
        have P2 := Lib.hid (fun w0 => pick_at (y k) 3 hfy (by omega) _ hkd w0)
        have hcellk := (CQ.out.low.cell (p := ⟨b1, off1 + k, none⟩) hb1).trans hcy
        have hw' : decide (k < n1) = true := by simpa using hw
        have hkn : (k : Int) < (n1 : Int) := by omega
        clear hcy hfy
        have hk3 : kd = 0 ∨ kd = 1 ∨ kd = 2 := by omega
        rcases hk3 with rfl | rfl | rfl
        · go_upto_region 14 with (go_at_call 25; (with_reducible refine (P2.out _).mono ?_); rintro e wz ⟨rfl, rfl⟩)
          clear P2 hcellk
          have cm := CQ.out.mem.cx HL.out rs (by omega)
          have hnew := World.new_ne wq ⟨w3.heap.size, rs, none⟩ cm
          go_region_held3 (fun w' => w'.cell? ⟨w3.heap.size, rs, none⟩ = some (.int .i64 (mAt m rs))) (go_keep) (fail)
          go_upto_region 19 with fail
          clear cm hnew
          obtain ⟨W9, HW9⟩ : ∃ W9, Hid ((wq.alloc (.cells #[.int .i64 22, .int .i64 (rd : Int), .int .i64 (rs : Int), .int .i64 0, .int .i64 0, .bool false, .bool false, .int .i64 0, .int .i64 0] 33)).drew = W9) := ⟨_, Lib.hid rfl⟩
          rw [HW9.out]
          have C9 : Hid (Chain w w2.heap.size w3.heap.size k t l m W9) := Lib.hid (by rw [← HW9.out]; exact CQ.out.on ((box_below wq _).drew))
          have I9 : Hid (InsAt (insK 0 rd rs) wq.heap.size W9) := Lib.hid (by rw [← HW9.out]; exact heap_new wq _)
          have cl := run_LoadT C9.out.box
          have ci : (LoadI (.pointer (some ⟨wq.heap.size, 0, none⟩))).run Try.prog W9 = .ok (.agg #[.int .i64 22, .int .i64 (rd : Int), .int .i64 (rs : Int), .int .i64 0, .int .i64 0, .bool false, .bool false, .int .i64 0, .int .i64 0]) W9 := run_LoadI I9.out
          have HS9 : Hid (∀ w0, TReads w0 t l → Calls Try.prog 8 #[t.V, .agg #[.int .i64 22, .int .i64 (rd : Int), .int .i64 (rs : Int), .int .i64 0, .int .i64 0, .bool false, .bool false, .int .i64 0, .int .i64 0], .int .i64 (-1)] w0 fun e w' => StepOk w0 (behindL l (insK 0 rd rs) (evK 0 k)) (addrL l (insK 0 rd rs)) (dataL l (insK 0 rd rs)) l.way 0 e w') := Lib.hid (fun w0 h => step_ok t l (insK 0 rd rs) (evK 0 k) w0 h CQ.out.model.short (Lib.hid (stepK_ok 0 rd rs k (by omega) (by omega) m l CQ.out.model)))
          have HM9 := Lib.hid (CQ.out.model.step 0 rd rs k (by omega) (by omega) (by omega))
          have hyw := Lib.hid CQ.out.model.way
          obtain ⟨l2, hl2⟩ : ∃ l2, Hid (behindL l (insK 0 rd rs) (evK 0 k) = l2) := ⟨_, Lib.hid rfl⟩
          rw [hl2.out] at HS9 HM9
          rw [hyw.out] at HS9
          have hge := CQ.out.model.ge rs (by omega)
          clear HW9 I9
          go_upto_region 20 with (first
            | (go_at_call 8; (with_reducible refine (HS9.out _ C9.out.reads).mono ?_); rintro e w11 ⟨u, da, dd, dy, rfl, ht, hd, hb⟩; have U := Lib.hid ht; have D := Lib.hid hd; have C11 := Lib.hid (C9.out.on hb); have hs11 : W9.heap.size ≤ w11.heap.size := hb.size; clear ht hd hb cl ci)
            | (refine store_ta ((zero_at w11).alloc _) _ (U.out.reads.flat) rfl (.tmp 14) (.tmp 79) rfl rfl rfl ?_; intro w12 D3 ho3 hb3 hz3; clear hz3; have E12 := Lib.hid D3; have F12 := Lib.hid hb3; have G12 := Lib.hid ((ho3 _ (by omega)).trans (d_new w11 _)); clear D3 ho3 hb3)
            | (refine store_d G12.out rfl (.tmp 15) (.tmp 80) rfl _ _ _ D.out.1.one D.out.2.1.one D.out.2.2.one rfl rfl ?_; intro w13 D4 ho4 hb4 hz4; clear ho4 hz4; have hg := got_of U.out D.out C11.out.low.size E12.out F12.out D4 hb4; have H13 := Lib.hid hg.1; have U13 := Lib.hid (U.out.on hg.2); have C13 := Lib.hid (C11.out.on hg.2); have hs13 : w11.heap.size ≤ w13.heap.size := hg.2.size; clear hg D4 hb4))
          have hlm := C13.out.mem.lt
          have hlw : w3.heap.size < wq.heap.size := CQ.out.mem.lt
          have hnm := Lib.hid C9.out.mem.lt
          obtain ⟨ay, cy, ey⟩ := H13.out.ry.len
          have hd2 := (H13.out.deps.facts).2.2.2.1
          rw [ey, List.length_nil] at hd2
          clear ey
          go_quiet (fail)
          obtain ⟨w14, HW14⟩ : ∃ w14, Hid (w13.drewN nq = w14) := ⟨_, Lib.hid rfl⟩
          rw [HW14.out]
          have hb14 : Below w13.heap.size w13 w14 := by rw [← HW14.out]; exact below_drewW (Below.refl _ _) _
          have H14 := Lib.hid (H13.out.on hb14)
          have C14 := Lib.hid (C13.out.on hb14)
          have U14 := Lib.hid (U13.out.on hb14)
          have hfl := Lib.hid H14.out.reads.flat
          clear HW14 hb14 hd2
          have cl := run_LoadT H14.out.box
          go_upto_region 23 with (refine store_ta C14.out.box u hfl.out rfl (.tmp 5) (.tmp 103) rfl rfl rfl ?_; intro w15 D15 ho15 hb15 hz15; have T15 := Lib.hid D15; have O15 := Lib.hid ho15; have B15 := Lib.hid hb15; have Z15 := Lib.hid hz15; clear D15 ho15 hb15 hz15 cl)
          have X15 := Lib.hid (chain_end C14.out U14.out T15.out O15.out B15.out Z15.out hg2.out hlt23 hnm.out)
          have hmc := X15.out.1.cx HL.out rd (by omega)
          have hmz := X15.out.1.frozen rd
          by_cases h0 : rd = 0
          · have hN : setK m rd (nowK 0 m rs k) = m := by unfold setK; rw [if_pos h0]
            have HN := Lib.hid hN
            rw [HN.out] at HM9
            have hr00 : decide ((0 : Int) < (rd : Int)) = false := by simp; omega
            have hr01 : ¬ (0 : Int) < (rd : Int) := by omega
            clear hmc hmz hN
            go_wp2
            go_roundw
            case rel => exact ⟨k + 1, u, l2, m, by omega, by go_num, ⟨T15.out, X15.out.1, X15.out.2.1.reads, HM9.out, X15.out.2.2⟩⟩
            case measure => simp [intOf]; omega
          · have hN : setK m rd (nowK 0 m rs k) = m.set rd (mAt m rs) := by unfold setK; rw [if_neg h0]; rfl
            have HN := Lib.hid hN
            rw [HN.out] at HM9
            have hr01 : (0 : Int) < (rd : Int) := by omega
            clear hN
            have E15 := Lib.hid (chain_put X15.out hlt23 hg2.out (mAt m rs) rd hnm.out T15.out)
            go_wp2
            go_roundw
            case rel => exact ⟨k + 1, u, l2, _, by omega, by go_num, ⟨E15.out.1, E15.out.2.1, E15.out.2.2.1, HM9.out, E15.out.2.2.2⟩⟩
            case measure => simp [intOf]; omega
        · go_upto_region 14 with (go_at_call 25; (with_reducible refine (P2.out _).mono ?_); rintro e wz ⟨rfl, rfl⟩)
          clear P2 hcellk
          have cm := CQ.out.mem.cx HL.out rs (by omega)
          have hnew := World.new_ne wq ⟨w3.heap.size, rs, none⟩ cm
          go_region_held3 (fun w' => w'.cell? ⟨w3.heap.size, rs, none⟩ = some (.int .i64 (mAt m rs))) (go_keep) (fail)
          go_upto_region 19 with fail
          clear cm hnew
          obtain ⟨W9, HW9⟩ : ∃ W9, Hid ((wq.alloc (.cells #[.int .i64 14, .int .i64 (rd : Int), .int .i64 (rs : Int), .int .i64 0, .int .i64 0, .bool false, .bool false, .int .i64 0, .int .i64 0] 33)).drew = W9) := ⟨_, Lib.hid rfl⟩
          rw [HW9.out]
          have C9 : Hid (Chain w w2.heap.size w3.heap.size k t l m W9) := Lib.hid (by rw [← HW9.out]; exact CQ.out.on ((box_below wq _).drew))
          have I9 : Hid (InsAt (insK 1 rd rs) wq.heap.size W9) := Lib.hid (by rw [← HW9.out]; exact heap_new wq _)
          have cl := run_LoadT C9.out.box
          have ci : (LoadI (.pointer (some ⟨wq.heap.size, 0, none⟩))).run Try.prog W9 = .ok (.agg #[.int .i64 14, .int .i64 (rd : Int), .int .i64 (rs : Int), .int .i64 0, .int .i64 0, .bool false, .bool false, .int .i64 0, .int .i64 0]) W9 := run_LoadI I9.out
          have HS9 : Hid (∀ w0, TReads w0 t l → Calls Try.prog 8 #[t.V, .agg #[.int .i64 14, .int .i64 (rd : Int), .int .i64 (rs : Int), .int .i64 0, .int .i64 0, .bool false, .bool false, .int .i64 0, .int .i64 0], .int .i64 ((k : Int))] w0 fun e w' => StepOk w0 (behindL l (insK 1 rd rs) (evK 1 k)) (addrL l (insK 1 rd rs)) (dataL l (insK 1 rd rs)) l.way 0 e w') := Lib.hid (fun w0 h => step_ok t l (insK 1 rd rs) (evK 1 k) w0 h CQ.out.model.short (Lib.hid (stepK_ok 1 rd rs k (by omega) (by omega) m l CQ.out.model)))
          have HM9 := Lib.hid (CQ.out.model.step 1 rd rs k (by omega) (by omega) (by omega))
          have HA9 := Lib.hid (addrK rd rs m l CQ.out.model (by omega))
          have hyw := Lib.hid CQ.out.model.way
          obtain ⟨l2, hl2⟩ : ∃ l2, Hid (behindL l (insK 1 rd rs) (evK 1 k) = l2) := ⟨_, Lib.hid rfl⟩
          rw [hl2.out] at HS9 HM9
          rw [hyw.out] at HS9
          have hge := CQ.out.model.ge rs (by omega)
          clear HW9 I9
          go_upto_region 20 with (first
            | (go_at_call 8; (with_reducible refine (HS9.out _ C9.out.reads).mono ?_); rintro e w11 ⟨u, da, dd, dy, rfl, ht, hd, hb⟩; have U := Lib.hid ht; have D := Lib.hid hd; have C11 := Lib.hid (C9.out.on hb); have hs11 : W9.heap.size ≤ w11.heap.size := hb.size; clear ht hd hb cl ci)
            | (refine store_ta ((zero_at w11).alloc _) _ (U.out.reads.flat) rfl (.tmp 14) (.tmp 79) rfl rfl rfl ?_; intro w12 D3 ho3 hb3 hz3; clear hz3; have E12 := Lib.hid D3; have F12 := Lib.hid hb3; have G12 := Lib.hid ((ho3 _ (by omega)).trans (d_new w11 _)); clear D3 ho3 hb3)
            | (refine store_d G12.out rfl (.tmp 15) (.tmp 80) rfl _ _ _ D.out.1.one D.out.2.1.one D.out.2.2.one rfl rfl ?_; intro w13 D4 ho4 hb4 hz4; clear ho4 hz4; have hg := got_of U.out D.out C11.out.low.size E12.out F12.out D4 hb4; have H13 := Lib.hid hg.1; have U13 := Lib.hid (U.out.on hg.2); have C13 := Lib.hid (C11.out.on hg.2); have hs13 : w11.heap.size ≤ w13.heap.size := hg.2.size; clear hg D4 hb4))
          have hlm := C13.out.mem.lt
          have hlw : w3.heap.size < wq.heap.size := CQ.out.mem.lt
          have hnm := Lib.hid C9.out.mem.lt
          obtain ⟨ay, cy, ey⟩ := H13.out.ry.len
          have hd2 := (H13.out.deps.facts).2.2.2.1
          rw [ey, List.length_nil] at hd2
          clear ey
          have hd0a := (H13.out.deps.facts).2.1
          have hcm := C13.out.mem.cx HL.out rs (by omega)
          have HAL := Lib.hid (fun q => alone_q da (mAt m rs) (w13.drewN q) (by have := H13.out.ra; rw [HA9.out] at this; exact this.below (below_drewW (Below.refl _ _) q)) hge.1 hge.2)
          go_quiet ((go_at_call 29; (with_reducible exact Calls.quiet_of_same (HAL.out _))))
          obtain ⟨w14, HW14⟩ : ∃ w14, Hid (w13.drewN nq = w14) := ⟨_, Lib.hid rfl⟩
          rw [HW14.out]
          have hb14 : Below w13.heap.size w13 w14 := by rw [← HW14.out]; exact below_drewW (Below.refl _ _) _
          have H14 := Lib.hid (H13.out.on hb14)
          have C14 := Lib.hid (C13.out.on hb14)
          have U14 := Lib.hid (U13.out.on hb14)
          have hfl := Lib.hid H14.out.reads.flat
          clear HW14 hb14 hd2 hd0a hcm
          have cl := run_LoadT H14.out.box
          go_upto_region 23 with (refine store_ta C14.out.box u hfl.out rfl (.tmp 5) (.tmp 103) rfl rfl rfl ?_; intro w15 D15 ho15 hb15 hz15; have T15 := Lib.hid D15; have O15 := Lib.hid ho15; have B15 := Lib.hid hb15; have Z15 := Lib.hid hz15; clear D15 ho15 hb15 hz15 cl)
          have X15 := Lib.hid (chain_end C14.out U14.out T15.out O15.out B15.out Z15.out hg2.out hlt23 hnm.out)
          have hmc := X15.out.1.cx HL.out rd (by omega)
          have hmz := X15.out.1.frozen rd
          by_cases h0 : rd = 0
          · have hN : setK m rd (nowK 1 m rs k) = m := by unfold setK; rw [if_pos h0]
            have HN := Lib.hid hN
            rw [HN.out] at HM9
            have hr00 : decide ((0 : Int) < (rd : Int)) = false := by simp; omega
            have hr01 : ¬ (0 : Int) < (rd : Int) := by omega
            clear hmc hmz hN
            go_wp2
            go_roundw
            case rel => exact ⟨k + 1, u, l2, m, by omega, by go_num, ⟨T15.out, X15.out.1, X15.out.2.1.reads, HM9.out, X15.out.2.2⟩⟩
            case measure => simp [intOf]; omega
          · have hN : setK m rd (nowK 1 m rs k) = m.set rd ((k : Int) + 1) := by unfold setK; rw [if_neg h0]; rfl
            have HN := Lib.hid hN
            rw [HN.out] at HM9
            have hr01 : (0 : Int) < (rd : Int) := by omega
            clear hN
            have E15 := Lib.hid (chain_put X15.out hlt23 hg2.out ((k : Int) + 1) rd hnm.out T15.out)
            go_wp2
            go_roundw
            case rel => exact ⟨k + 1, u, l2, _, by omega, by go_num, ⟨E15.out.1, E15.out.2.1, E15.out.2.2.1, HM9.out, E15.out.2.2.2⟩⟩
            case measure => simp [intOf]; omega
        · go_upto_region 14 with (go_at_call 25; (with_reducible refine (P2.out _).mono ?_); rintro e wz ⟨rfl, rfl⟩)
          clear P2 hcellk
          have cm := CQ.out.mem.cx HL.out rs (by omega)
          have hnew := World.new_ne wq ⟨w3.heap.size, rs, none⟩ cm
          go_region_held3 (fun w' => w'.cell? ⟨w3.heap.size, rs, none⟩ = some (.int .i64 (mAt m rs))) (go_keep) (fail)
          go_upto_region 19 with fail
          clear cm hnew
          obtain ⟨W9, HW9⟩ : ∃ W9, Hid ((wq.alloc (.cells #[.int .i64 1, .int .i64 (rd : Int), .int .i64 0, .int .i64 0, .int .i64 1, .bool false, .bool false, .int .i64 0, .int .i64 0] 33)).drew = W9) := ⟨_, Lib.hid rfl⟩
          rw [HW9.out]
          have C9 : Hid (Chain w w2.heap.size w3.heap.size k t l m W9) := Lib.hid (by rw [← HW9.out]; exact CQ.out.on ((box_below wq _).drew))
          have I9 : Hid (InsAt (insK 2 rd rs) wq.heap.size W9) := Lib.hid (by rw [← HW9.out]; exact heap_new wq _)
          have cl := run_LoadT C9.out.box
          have ci : (LoadI (.pointer (some ⟨wq.heap.size, 0, none⟩))).run Try.prog W9 = .ok (.agg #[.int .i64 1, .int .i64 (rd : Int), .int .i64 0, .int .i64 0, .int .i64 1, .bool false, .bool false, .int .i64 0, .int .i64 0]) W9 := run_LoadI I9.out
          have HS9 : Hid (∀ w0, TReads w0 t l → Calls Try.prog 8 #[t.V, .agg #[.int .i64 1, .int .i64 (rd : Int), .int .i64 0, .int .i64 0, .int .i64 1, .bool false, .bool false, .int .i64 0, .int .i64 0], .int .i64 (-1)] w0 fun e w' => StepOk w0 (behindL l (insK 2 rd rs) (evK 2 k)) (addrL l (insK 2 rd rs)) (dataL l (insK 2 rd rs)) l.way 0 e w') := Lib.hid (fun w0 h => step_ok t l (insK 2 rd rs) (evK 2 k) w0 h CQ.out.model.short (Lib.hid (stepK_ok 2 rd rs k (by omega) (by omega) m l CQ.out.model)))
          have HM9 := Lib.hid (CQ.out.model.step 2 rd rs k (by omega) (by omega) (by omega))
          have hyw := Lib.hid CQ.out.model.way
          obtain ⟨l2, hl2⟩ : ∃ l2, Hid (behindL l (insK 2 rd rs) (evK 2 k) = l2) := ⟨_, Lib.hid rfl⟩
          rw [hl2.out] at HS9 HM9
          rw [hyw.out] at HS9
          have hge := CQ.out.model.ge rs (by omega)
          clear HW9 I9
          go_upto_region 20 with (first
            | (go_at_call 8; (with_reducible refine (HS9.out _ C9.out.reads).mono ?_); rintro e w11 ⟨u, da, dd, dy, rfl, ht, hd, hb⟩; have U := Lib.hid ht; have D := Lib.hid hd; have C11 := Lib.hid (C9.out.on hb); have hs11 : W9.heap.size ≤ w11.heap.size := hb.size; clear ht hd hb cl ci)
            | (refine store_ta ((zero_at w11).alloc _) _ (U.out.reads.flat) rfl (.tmp 14) (.tmp 79) rfl rfl rfl ?_; intro w12 D3 ho3 hb3 hz3; clear hz3; have E12 := Lib.hid D3; have F12 := Lib.hid hb3; have G12 := Lib.hid ((ho3 _ (by omega)).trans (d_new w11 _)); clear D3 ho3 hb3)
            | (refine store_d G12.out rfl (.tmp 15) (.tmp 80) rfl _ _ _ D.out.1.one D.out.2.1.one D.out.2.2.one rfl rfl ?_; intro w13 D4 ho4 hb4 hz4; clear ho4 hz4; have hg := got_of U.out D.out C11.out.low.size E12.out F12.out D4 hb4; have H13 := Lib.hid hg.1; have U13 := Lib.hid (U.out.on hg.2); have C13 := Lib.hid (C11.out.on hg.2); have hs13 : w11.heap.size ≤ w13.heap.size := hg.2.size; clear hg D4 hb4))
          have hlm := C13.out.mem.lt
          have hlw : w3.heap.size < wq.heap.size := CQ.out.mem.lt
          have hnm := Lib.hid C9.out.mem.lt
          obtain ⟨ay, cy, ey⟩ := H13.out.ry.len
          have hd2 := (H13.out.deps.facts).2.2.2.1
          rw [ey, List.length_nil] at hd2
          clear ey
          go_quiet (fail)
          obtain ⟨w14, HW14⟩ : ∃ w14, Hid (w13.drewN nq = w14) := ⟨_, Lib.hid rfl⟩
          rw [HW14.out]
          have hb14 : Below w13.heap.size w13 w14 := by rw [← HW14.out]; exact below_drewW (Below.refl _ _) _
          have H14 := Lib.hid (H13.out.on hb14)
          have C14 := Lib.hid (C13.out.on hb14)
          have U14 := Lib.hid (U13.out.on hb14)
          have hfl := Lib.hid H14.out.reads.flat
          clear HW14 hb14 hd2
          have cl := run_LoadT H14.out.box
          go_upto_region 23 with (refine store_ta C14.out.box u hfl.out rfl (.tmp 5) (.tmp 103) rfl rfl rfl ?_; intro w15 D15 ho15 hb15 hz15; have T15 := Lib.hid D15; have O15 := Lib.hid ho15; have B15 := Lib.hid hb15; have Z15 := Lib.hid hz15; clear D15 ho15 hb15 hz15 cl)
          have X15 := Lib.hid (chain_end C14.out U14.out T15.out O15.out B15.out Z15.out hg2.out hlt23 hnm.out)
          have hmc := X15.out.1.cx HL.out rd (by omega)
          have hmz := X15.out.1.frozen rd
          by_cases h0 : rd = 0
          · have hN : setK m rd (nowK 2 m rs k) = m := by unfold setK; rw [if_pos h0]
            have HN := Lib.hid hN
            rw [HN.out] at HM9
            have hr00 : decide ((0 : Int) < (rd : Int)) = false := by simp; omega
            have hr01 : ¬ (0 : Int) < (rd : Int) := by omega
            clear hmc hmz hN
            go_wp2
            go_roundw
            case rel => exact ⟨k + 1, u, l2, m, by omega, by go_num, ⟨T15.out, X15.out.1, X15.out.2.1.reads, HM9.out, X15.out.2.2⟩⟩
            case measure => simp [intOf]; omega
          · have hN : setK m rd (nowK 2 m rs k) = m.set rd (0) := by unfold setK; rw [if_neg h0]; rfl
            have HN := Lib.hid hN
            rw [HN.out] at HM9
            have hr01 : (0 : Int) < (rd : Int) := by omega
            clear hN
            have E15 := Lib.hid (chain_put X15.out hlt23 hg2.out (0) rd hnm.out T15.out)
            go_wp2
            go_roundw
            case rel => exact ⟨k + 1, u, l2, _, by omega, by go_num, ⟨E15.out.1, E15.out.2.1, E15.out.2.2.1, HM9.out, E15.out.2.2.2⟩⟩
            case measure => simp [intOf]; omega
      · have hw' : decide (k < n1) = false := by simpa using hw
        go_upto_region 14 with fail
        have cm := CQ.out.mem.cx HL.out rs (by omega)
        have hnew := World.new_ne wq ⟨w3.heap.size, rs, none⟩ cm
        go_region_held3 (fun w' => w'.cell? ⟨w3.heap.size, rs, none⟩ = some (.int .i64 (mAt m rs))) (go_keep) (fail)
        go_upto_region 19 with fail
        clear cm hnew
        obtain ⟨W9, HW9⟩ : ∃ W9, Hid ((wq.alloc (.cells #[.int .i64 22, .int .i64 (rd : Int), .int .i64 (rs : Int), .int .i64 0, .int .i64 0, .bool false, .bool false, .int .i64 0, .int .i64 0] 33)).drew = W9) := ⟨_, Lib.hid rfl⟩
        rw [HW9.out]
        have C9 : Hid (Chain w w2.heap.size w3.heap.size k t l m W9) := Lib.hid (by rw [← HW9.out]; exact CQ.out.on ((box_below wq _).drew))
        have I9 : Hid (InsAt (insK 0 rd rs) wq.heap.size W9) := Lib.hid (by rw [← HW9.out]; exact heap_new wq _)
        have cl := run_LoadT C9.out.box
        have ci : (LoadI (.pointer (some ⟨wq.heap.size, 0, none⟩))).run Try.prog W9 = .ok (.agg #[.int .i64 22, .int .i64 (rd : Int), .int .i64 (rs : Int), .int .i64 0, .int .i64 0, .bool false, .bool false, .int .i64 0, .int .i64 0]) W9 := run_LoadI I9.out
        have HS9 : Hid (∀ w0, TReads w0 t l → Calls Try.prog 8 #[t.V, .agg #[.int .i64 22, .int .i64 (rd : Int), .int .i64 (rs : Int), .int .i64 0, .int .i64 0, .bool false, .bool false, .int .i64 0, .int .i64 0], .int .i64 (-1)] w0 fun e w' => StepOk w0 (behindL l (insK 0 rd rs) (evK 0 k)) (addrL l (insK 0 rd rs)) (dataL l (insK 0 rd rs)) l.way 0 e w') := Lib.hid (fun w0 h => step_ok t l (insK 0 rd rs) (evK 0 k) w0 h CQ.out.model.short (Lib.hid (stepK_ok 0 rd rs k (by omega) (by omega) m l CQ.out.model)))
        have HM9 := Lib.hid (CQ.out.model.step 0 rd rs k (by omega) (by omega) (by omega))
        have hyw := Lib.hid CQ.out.model.way
        obtain ⟨l2, hl2⟩ : ∃ l2, Hid (behindL l (insK 0 rd rs) (evK 0 k) = l2) := ⟨_, Lib.hid rfl⟩
        rw [hl2.out] at HS9 HM9
        rw [hyw.out] at HS9
        have hge := CQ.out.model.ge rs (by omega)
        clear HW9 I9
        go_upto_region 20 with (first
          | (go_at_call 8; (with_reducible refine (HS9.out _ C9.out.reads).mono ?_); rintro e w11 ⟨u, da, dd, dy, rfl, ht, hd, hb⟩; have U := Lib.hid ht; have D := Lib.hid hd; have C11 := Lib.hid (C9.out.on hb); have hs11 : W9.heap.size ≤ w11.heap.size := hb.size; clear ht hd hb cl ci)
          | (refine store_ta ((zero_at w11).alloc _) _ (U.out.reads.flat) rfl (.tmp 14) (.tmp 79) rfl rfl rfl ?_; intro w12 D3 ho3 hb3 hz3; clear hz3; have E12 := Lib.hid D3; have F12 := Lib.hid hb3; have G12 := Lib.hid ((ho3 _ (by omega)).trans (d_new w11 _)); clear D3 ho3 hb3)
          | (refine store_d G12.out rfl (.tmp 15) (.tmp 80) rfl _ _ _ D.out.1.one D.out.2.1.one D.out.2.2.one rfl rfl ?_; intro w13 D4 ho4 hb4 hz4; clear ho4 hz4; have hg := got_of U.out D.out C11.out.low.size E12.out F12.out D4 hb4; have H13 := Lib.hid hg.1; have U13 := Lib.hid (U.out.on hg.2); have C13 := Lib.hid (C11.out.on hg.2); have hs13 : w11.heap.size ≤ w13.heap.size := hg.2.size; clear hg D4 hb4))
        have hlm := C13.out.mem.lt
        have hlw : w3.heap.size < wq.heap.size := CQ.out.mem.lt
        have hnm := Lib.hid C9.out.mem.lt
        obtain ⟨ay, cy, ey⟩ := H13.out.ry.len
        have hd2 := (H13.out.deps.facts).2.2.2.1
        rw [ey, List.length_nil] at hd2
        clear ey
        go_quiet (fail)
        obtain ⟨w14, HW14⟩ : ∃ w14, Hid (w13.drewN nq = w14) := ⟨_, Lib.hid rfl⟩
        rw [HW14.out]
        have hb14 : Below w13.heap.size w13 w14 := by rw [← HW14.out]; exact below_drewW (Below.refl _ _) _
        have H14 := Lib.hid (H13.out.on hb14)
        have C14 := Lib.hid (C13.out.on hb14)
        have U14 := Lib.hid (U13.out.on hb14)
        have hfl := Lib.hid H14.out.reads.flat
        clear HW14 hb14 hd2
        have cl := run_LoadT H14.out.box
        go_upto_region 23 with (refine store_ta C14.out.box u hfl.out rfl (.tmp 5) (.tmp 103) rfl rfl rfl ?_; intro w15 D15 ho15 hb15 hz15; have T15 := Lib.hid D15; have O15 := Lib.hid ho15; have B15 := Lib.hid hb15; have Z15 := Lib.hid hz15; clear D15 ho15 hb15 hz15 cl)
        have X15 := Lib.hid (chain_end C14.out U14.out T15.out O15.out B15.out Z15.out hg2.out hlt23 hnm.out)
        have hmc := X15.out.1.cx HL.out rd (by omega)
        have hmz := X15.out.1.frozen rd
        by_cases h0 : rd = 0
        · have hN : setK m rd (nowK 0 m rs k) = m := by unfold setK; rw [if_pos h0]
          have HN := Lib.hid hN
          rw [HN.out] at HM9
          have hr00 : decide ((0 : Int) < (rd : Int)) = false := by simp; omega
          have hr01 : ¬ (0 : Int) < (rd : Int) := by omega
          clear hmc hmz hN
          go_wp2
          go_roundw
          case rel => exact ⟨k + 1, u, l2, m, by omega, by go_num, ⟨T15.out, X15.out.1, X15.out.2.1.reads, HM9.out, X15.out.2.2⟩⟩
          case measure => simp [intOf]; omega
        · have hN : setK m rd (nowK 0 m rs k) = m.set rd (mAt m rs) := by unfold setK; rw [if_neg h0]; rfl
          have HN := Lib.hid hN
          rw [HN.out] at HM9
          have hr01 : (0 : Int) < (rd : Int) := by omega
          clear hN
          have E15 := Lib.hid (chain_put X15.out hlt23 hg2.out (mAt m rs) rd hnm.out T15.out)
          go_wp2
          go_roundw
          case rel => exact ⟨k + 1, u, l2, _, by omega, by go_num, ⟨E15.out.1, E15.out.2.1, E15.out.2.2.1, HM9.out, E15.out.2.2.2⟩⟩
          case measure => simp [intOf]; omega
    · obtain ⟨wo, hwo⟩ : ∃ wo : World, Hid (wo = wr) := ⟨_, Lib.hid rfl⟩
      go_wp2
      go_loopw [17] (fun vi wx => ∃ r : Nat, r ≤ 32 ∧ vi = .int .i64 r ∧ Chain w w2.heap.size w3.heap.size k t l m wx) (fun vi _ => 32 - (intOf vi).toNat)
      case atStart => exact ⟨0, by omega, rfl, CH.out⟩
      case round =>
        clear CH hwo
        obtain ⟨r, hr, rfl, hch⟩ := hrel
        have CR := Lib.hid hch
        clear hch
        by_cases hr32 : r < 32
        · have ct := CR.out.box.cx r hr32
          have cm := CR.out.mem.cx CR.out.model.len r hr32
          have hge := CR.out.model.ge r hr32
          have HAL := Lib.hid (fun q => alone_q (t.v r) (mAt m r) (World.drewN _ q) (by have := CR.out.reads.x r hr32; rw [CR.out.model.xs r hr32] at this; exact this.below (below_drewW (Below.refl _ _) q)) hge.1 hge.2)
          have hr0 : (0 : Int) ≤ (r : Int) := by omega
          go_upto_region 28 with fail
          go_quiet ((go_at_call 29; (with_reducible exact Calls.quiet_of_same (HAL.out _))))
          have CR2 := Lib.hid (CR.out.on (below_drewW (Below.refl _ _) nq))
          go_wp2
          go_roundw
          case rel => exact ⟨r + 1, by omega, by go_num, CR2.out⟩
          case measure => simp [intOf]; omega
        · obtain ⟨ay, cy, ey⟩ := CR.out.reads.w.len
          have cw := CR.out.box.cw
          rw [ey, CR.out.model.way, List.length_nil] at cw
          clear ey
          go_wp2
          go_ret
          exact ⟨rfl, CR.out.low⟩
end Go.Proofs.Ytmdaleokhekdeaa
