/-
  Proved here: the document's Last of a candidate that may be: the document's cells at the end; nothing that was there is changed. Condition: a light candidate whose pairs fit.
-/
import Derived.Test.YtokhnjcbcpmmjaaGreatRf09PutWalk
import Derived.Test.YtokhnjcbcpmmjaaGreatRf09All
import Derived.Test.YtokhnjcbcpmmjaaGreatCdPlaces
import Derived.Deep.RegionHeld3
namespace Go.Proofs.YtokhnjcbcpmmjaaGreat
set_option linter.unusedVariables false
set_option linter.unusedSimpArgs false
open Go.RowKit
attribute [local go_sem ↓] fold_E fold_SE
attribute [local irreducible] wpStill

theorem readsF_ownP {W : World} {base : Nat} {v : Value} {fs : List (Int × Int)} (h : W.ownsRow base 43 2 v fs.length (flatC fs)) : ReadsF W v fs := by
  rcases h.2 with ⟨rfl, h0⟩ | ⟨g, cap, cur, rfl, hb, hgg, hc, hm, hs, ht⟩
  · exact .inl ⟨EmptyS.nil, List.length_eq_zero_iff.1 h0⟩
  · refine .inr ⟨g, 0, cap, rfl, hc, by unfold maxLen at hm; omega, (Array.getElem?_eq_some_iff.1 hgg).1, fun j hj => ⟨?_, ?_⟩⟩
    · have := h.cells (g := g) (by simp [Value.ownBlock]) (j * 2) _ (flatC_at fs j 0 hj (by omega))
      rw [Addr.add_lit] at this
      exact this
    · have := h.cells (g := g) (by simp [Value.ownBlock]) (j * 2 + 1) _ (flatC_at fs j 1 hj (by omega))
      rw [Addr.add_lit] at this
      exact this
theorem first_sixP {c : Cd} {q : Cv} {w W : World} (h : Lk c q w W) {b off : Nat} (hq : q.aF = some ⟨b, off, none⟩) (hb : b < w.heap.size) (hc : CellsIn w b off c.fs) (k : Nat) (hk : k < c.fs.length) :
    W.cell? ⟨w.heap.size, 0, none⟩ = some (.slice (some ⟨b, off, none⟩) c.fs.length q.cF) ∧ W.cell? ⟨w.heap.size, 1, none⟩ = some (.slice q.aH c.nh q.cH) ∧ W.cell? ⟨w.heap.size, 2, none⟩ = some (.slice q.aR c.fr.length q.cR) ∧ W.cell? ⟨w.heap.size, 3, none⟩ = some (.slice q.aO c.od.length q.cO) ∧ W.cell? ⟨b, off + k * 2, none⟩ = some (.int .u64 (fA c.fs k)) ∧ W.cell? ⟨b, off + k * 2 + 1, none⟩ = some (.int .u64 (fV c.fs k)) := by
  obtain ⟨u0, u1, u2, u3⟩ := h.box.facts
  rw [hq] at u0
  obtain ⟨c0, c1⟩ := hc k hk
  exact ⟨u0, u1, u2, u3, (h.below.cell (p := ⟨b, off + k * 2, none⟩) hb).trans c0, (h.below.cell (p := ⟨b, off + k * 2 + 1, none⟩) hb).trans c1⟩
def RLastIs (w : World) (l : List (Int × Int)) (e : Ending) (w' : World) : Prop := ∃ v, e = .returned v ∧ ReadsF w' v l ∧ Below w.heap.size w w'
theorem rput_reads (v : Value) (l m : List (Int × Int)) (x y : Int) (w : World) (h : ReadsF w v l) (hn : l.length ≤ 400) (hm : putL l x y = m) : Calls Tryz.prog 45 #[v, .int .u64 x, .int .u64 y] w fun e w' => RLastIs w m e w' := by
  subst hm
  exact (rput_any v l x y w h hn).mono (fun e w' ⟨v2, he, ho, hb⟩ => ⟨v2, he, readsF_ownP ho, hb⟩)
/-- the candidate's box, the row of all events, the cells so far -/
structure Rl (c : Cd) (q : Cv) (es : List Ev) (va : Value) (base : Nat) (v : Value) (l : List (Int × Int)) (w W : World) : Prop where
  rg : Rg c q es va base w W
  rd : ReadsF W v l
theorem Rl.on {c : Cd} {q : Cv} {es : List Ev} {va : Value} {base : Nat} {v : Value} {l : List (Int × Int)} {w W W2 : World} (h : Rl c q es va base v l w W) (hb : Below W.heap.size W W2) : Rl c q es va base v l w W2 := ⟨h.rg.on hb, h.rd.below hb⟩
theorem Rl.next {c : Cd} {q : Cv} {es : List Ev} {va : Value} {base : Nat} {v v2 : Value} {l l2 : List (Int × Int)} {w W W2 : World} (h : Rl c q es va base v l w W) (hb : Below W.heap.size W W2) (hr : ReadsF W2 v2 l2) : Rl c q es va base v2 l2 w W2 := ⟨h.rg.on hb, hr⟩
set_option maxRecDepth 100000 in
set_option maxHeartbeats 16000000 in
theorem rlast_yes (c : Cd) (q : Cv) (w : World) (hL : Lt c) (hX : ∀ h, h < c.nh → ∀ k, k < c.len h → PairFits (c.ev h k)) (h : CAt c q w) (hm : c.may = true) : Calls Tryz.prog 21 #[cdV c q] w fun e w' => RLastIs w (lastR c c.od.length) e w' := by
  have KC := Lib.hid (fun w0 h0 => rcheck9_is c q w0 hL hX h0 true hm)
  have KF := Lib.hid (fun w0 h0 => flat_any c q w0 hL.nh hL.n (fun h hh j hj => ((hL.small h hh).2 j hj).n) h0)
  have S0 := Lib.hid (Lk.start h)
  have HFC : Hid (c.fs.length = 0 ∨ ∃ b off, q.aF = some ⟨b, off, none⟩ ∧ b < w.heap.size ∧ CellsIn w b off c.fs) := Lib.hid (by
    rcases h.first with ⟨_, h0⟩ | ⟨b, off, c2, e, _, _, h3, h4⟩
    · exact .inl (by rw [h0]; rfl)
    · injection e with e1 e2 e3
      exact .inr ⟨b, off, e1, h3, h4⟩)
  have HOC : Hid (c.od.length = 0 ∨ ∃ b off, q.aO = some ⟨b, off, none⟩ ∧ b < w.heap.size ∧ ∀ j, j < c.od.length → w.cell? ⟨b, off + j, none⟩ = some (.int .i64 (atI c.od j))) := Lib.hid (by
    rcases h.order with ⟨_, h0⟩ | ⟨b, off, c2, e, _, _, h3, h4⟩
    · exact .inl (by rw [h0]; rfl)
    · injection e with e1 e2 e3
      exact .inr ⟨b, off, e1, h3, h4⟩)
  have HIN := Lib.hid (may_in hm)
  have hfs60 := hL.fs
  have ho120 := hL.od
  have HF1 := Lib.hid (firstR_len c.fs)
  have HL1 := Lib.hid (lastR_len c)
  clear h hm hL hX
  obtain ⟨u0, u1, u2, u3⟩ := S0.out.box.facts
  go_enter Tryz.func21, Tryz.ntmps21
  go_upto_region 3 with (go_at_call 9; (with_reducible refine (KC.out _ S0.out.at_).mono ?_); rintro e' w1 ⟨rfl, hb⟩; have S1 := Lib.hid (S0.out.on hb); clear hb u0 u1 u2 u3; obtain ⟨u0, u1, u2, u3⟩ := S1.out.box.facts)
  go_upto_region 4 with (go_at_call 31; (with_reducible refine (KF.out _ S1.out.at_).mono ?_); rintro e' w2 ⟨va, es, rfl, hlen, hown, hcp, hb⟩; have R2 : Hid (Rg c q es va (w1.heap.size + 1) w w2) := Lib.hid ⟨S1.out.on hb, ⟨hown, hcp, hlen⟩⟩; clear hlen hown hcp hb u0 u1 u2 u3; obtain ⟨u0, u1, u2, u3⟩ := R2.out.lk.box.facts)
  obtain ⟨base, hbase⟩ : ∃ base, w1.heap.size + 1 = base := ⟨_, rfl⟩
  rw [hbase] at R2
  clear hbase S0 S1
  have L2 : Hid (Rl c q es va base (.slice none 0 0) [] w w2) := Lib.hid ⟨R2.out, .inl ⟨EmptyS.nil, rfl⟩⟩
  go_wp2
  go_loopw [4, 5] (fun vo vi wr => ∃ (k : Nat) (v : Value), v = vo ∧ k ≤ c.fs.length ∧ vi = .int .i64 k ∧ Hid (Rl c q es va base vo (firstR c.fs k) w wr)) (fun _ vi _ => c.fs.length - (intOf vi).toNat)
  case atStart => exact ⟨0, _, rfl, Nat.zero_le _, rfl, L2⟩
  case round =>
    clear u0 u1 u2 u3
    obtain ⟨k, v, rfl, hk, rfl, hS⟩ := hrel
    obtain ⟨u0, u1, u2, u3⟩ := hS.out.rg.lk.box.facts
    by_cases hlt : k < c.fs.length
    · rcases HFC.out with h0 | ⟨b, off, hq, hbl, hcell⟩
      · exact absurd h0 (by omega)
      have SIX := Lib.hid (fun W (h : Lk c q w W) => first_sixP h hq hbl hcell k hlt)
      have h400 : (firstR c.fs k).length ≤ 400 := by have := HF1.out k; omega
      have KP := Lib.hid (fun w0 (h0 : ReadsF w0 v (firstR c.fs k)) => rput_reads v (firstR c.fs k) (firstR c.fs (k + 1)) (fA c.fs k) (fV c.fs k) w0 h0 h400 rfl)
      obtain ⟨x, hx⟩ : ∃ x, Hid (fA c.fs k = x) := ⟨_, Lib.hid rfl⟩
      obtain ⟨y, hy⟩ : ∃ y, Hid (fV c.fs k = y) := ⟨_, Lib.hid rfl⟩
      rw [hx.out] at SIX KP
      rw [hy.out] at SIX KP
      clear u0 hcell
      have hki : (k : Int) < (c.fs.length : Int) := by omega
      have hk0 : (0 : Int) ≤ (k : Int) := by omega
      obtain ⟨t0, t1, t2, t3, d0, d1⟩ := SIX.out wr hS.out.rg.lk
      clear u1 u2 u3 hq
      have SD := Lib.hid (hS.out.on (Below.refl _ _).drew)
      go_upto_region 8 with fail
      go_region_held3 (fun w' => w'.cell? ⟨w.heap.size, 0, none⟩ = some (.slice (some ⟨b, off, none⟩) c.fs.length q.cF) ∧ w'.cell? ⟨w.heap.size, 1, none⟩ = some (.slice q.aH c.nh q.cH) ∧ w'.cell? ⟨w.heap.size, 2, none⟩ = some (.slice q.aR c.fr.length q.cR) ∧ w'.cell? ⟨w.heap.size, 3, none⟩ = some (.slice q.aO c.od.length q.cO) ∧ w'.cell? ⟨b, off + k * 2, none⟩ = some (.int .u64 x) ∧ w'.cell? ⟨b, off + k * 2 + 1, none⟩ = some (.int .u64 y))
        (first | exact SIX.out _ SD.out.rg.lk | exact SIX.out _ S3.out.rg.lk)
        ((go_at_call 45; (with_reducible refine (KP.out _ SD.out.rd).mono ?_); rintro e' w3 ⟨v2, rfl, hrd, hb⟩; have S3 := Lib.hid (SD.out.next hb hrd); clear hb hrd))
      go_wp2
      go_roundw
      case rel => exact ⟨k + 1, _, rfl, by omega, by go_num, S3⟩
      case measure => simp [intOf]; omega
    · obtain rfl : k = c.fs.length := by omega
      have L5 : Hid (Rl c q es va base v (lastR c 0) w wr) := hS
      clear hS
      go_wp2
      go_loopw [4, 6] (fun vo vi wr => ∃ (k : Nat) (v : Value), v = vo ∧ k ≤ c.od.length ∧ vi = .int .i64 k ∧ Hid (Rl c q es va base vo (lastR c k) w wr)) (fun _ vi _ => c.od.length - (intOf vi).toNat)
      case atStart => exact ⟨0, _, rfl, Nat.zero_le _, rfl, L5⟩
      case round =>
        clear u0 u1 u2 u3 L5
        obtain ⟨k, v, rfl, hk, rfl, hS⟩ := hrel
        obtain ⟨u0, u1, u2, u3⟩ := hS.out.rg.lk.box.facts
        by_cases hlt : k < c.od.length
        · rcases HOC.out with h0 | ⟨b, off, hq, hbl, hcell⟩
          · exact absurd h0 (by omega)
          have d0 := (hS.out.rg.lk.below.cell (p := ⟨b, off + k, none⟩) hbl).trans (hcell k hlt)
          obtain ⟨i0, i1⟩ := HIN.out k hlt
          obtain ⟨n, hn⟩ : ∃ n : Nat, atI c.od k = n := ⟨(atI c.od k).toNat, by omega⟩
          have HNX : Hid (lastR c (k + 1) = if writesE (c.at n).1 = true then putL (lastR c k) (c.at n).1.addr (c.at n).1.store else lastR c k) := Lib.hid (by
            have e : (atI c.od k).toNat = n := by omega
            rw [← e]; rfl)
          rw [hn] at d0 i1
          have hnN : n < c.N := by omega
          obtain ⟨g, cap, hva, hcap, hra⟩ := hS.out.rg.ra.rall (by omega)
          have HLD := Lib.hid (load0 hra n hnN)
          have hfl := Lib.hid (hra.flat_ n hnN)
          have hlk := hra.like n hnN
          obtain ⟨e, he⟩ : ∃ e, evAtN es n = e := ⟨_, rfl⟩
          rw [he] at HLD hfl hlk
          obtain ⟨ea, ed, ey, hle⟩ := hlk
          have HW : Hid (writesE (c.at n).1 = writesE e ∧ (c.at n).1.addr = e.addr ∧ (c.at n).1.store = e.store) := Lib.hid (by rw [hle]; exact ⟨rfl, rfl, rfl⟩)
          rw [HW.out.1, HW.out.2.1, HW.out.2.2] at HNX
          have h400 : (lastR c k).length ≤ 400 := by have := HL1.out k; omega
          obtain ⟨r, hr⟩ : ∃ r, Hid (writesE e = r) := ⟨_, Lib.hid rfl⟩
          have KM := Lib.hid (fun w0 => rWrites_b e r hr.out w0)
          rw [hr.out] at HNX
          rw [hq] at u3
          subst hva
          have hld := HLD.out
          have hki : (k : Int) < (c.od.length : Int) := by omega
          have hk0 : (0 : Int) ≤ (k : Int) := by omega
          have hni : (n : Int) < (c.N : Int) := by omega
          have hn0 : (0 : Int) ≤ (n : Int) := by omega
          clear hcell i0 i1 hn hra he hle HW hq hbl hcap HLD
          go_upto_region 13 with (refine store_ev (EvAt.new zeroEv _) e hfl.out rfl (.tmp 7) (.tmp 48) rfl rfl rfl ?_; intro w1 D1 ho1 hb1 hz1; have E1 := Lib.hid D1; have A1 := Lib.hid ((box_below wr (.cells #[.int .i64 0, .int .i64 0, .int .i64 0, .int .u64 0, .int .u64 0, .int .u64 0, .bool false, .bool false, .int .i64 0, .int .i64 0, .int .i64 0, .slice none 0 0, .slice none 0 0, .slice none 0 0] 60)).trans hb1); clear D1 ho1 hb1 hz1)
          have cl1 := run_LoadE E1.out
          clear hld d0 u0 u1 u2 u3
          cases r with
          | false =>
            have HNX2 : Hid (lastR c (k + 1) = lastR c k) := Lib.hid (by rw [HNX.out, if_neg (by simp)])
            go_wp2_with (go_at_call 46; (with_reducible refine (KM.out _).mono ?_); rintro e' w3 ⟨rfl, hb⟩; have A3 := Lib.hid (A1.out.trans (hb.mono A1.out.size)); clear hb cl1)
            go_roundw
            case rel => exact ⟨k + 1, _, rfl, by omega, by go_num, Lib.hid (by rw [HNX2.out]; exact hS.out.on A3.out)⟩
            case measure => simp [intOf]; omega
          | true =>
            have HNX2 : Hid (putL (lastR c k) e.addr e.store = lastR c (k + 1)) := Lib.hid (by rw [HNX.out, if_pos rfl])
            have KP := Lib.hid (fun w0 (h0 : ReadsF w0 v (lastR c k)) => rput_reads v (lastR c k) (lastR c (k + 1)) e.addr e.store w0 h0 h400 HNX2.out)
            go_wp2_with (first
              | (go_at_call 46; (with_reducible refine (KM.out _).mono ?_); rintro e' w3 ⟨rfl, hb⟩; have A3 := Lib.hid (A1.out.trans (hb.mono A1.out.size)); have S3 := Lib.hid (hS.out.on A3.out); have E3 := Lib.hid (E1.out.on hb); clear hb cl1; obtain ⟨_, _, _, _, x3, _, x5, _⟩ := E3.out.facts)
              | (go_at_call 45; (with_reducible refine (KP.out _ S3.out.rd).mono ?_); rintro e' w4 ⟨v2, rfl, hrd, hb⟩; have S4 := Lib.hid (S3.out.next hb hrd); clear hb hrd))
            go_roundw
            case rel => exact ⟨k + 1, _, rfl, by omega, by go_num, S4⟩
            case measure => simp [intOf]; omega
        · obtain rfl : k = c.od.length := by omega
          go_wp2
          go_ret
          exact ⟨_, rfl, hS.out.rd, hS.out.rg.lk.below⟩
set_option maxRecDepth 100000 in
set_option maxHeartbeats 8000000 in
theorem rlast_no (c : Cd) (q : Cv) (w : World) (hL : Lt c) (hX : ∀ h, h < c.nh → ∀ k, k < c.len h → PairFits (c.ev h k)) (h : CAt c q w) (hm : c.may = false) : Calls Tryz.prog 21 #[cdV c q] w fun e w' => RLastIs w [] e w' := by
  have KC := Lib.hid (fun w0 h0 => rcheck9_is c q w0 hL hX h0 false hm)
  have S0 := Lib.hid (Lk.start h)
  clear h hm hL hX
  obtain ⟨u0, u1, u2, u3⟩ := S0.out.box.facts
  go_enter Tryz.func21, Tryz.ntmps21
  go_wp2_with (go_at_call 9; (with_reducible refine (KC.out _ S0.out.at_).mono ?_); rintro e' w1 ⟨rfl, hb⟩; have S1 := Lib.hid (S0.out.on hb); clear hb u0 u1 u2 u3)
  go_ret
  exact ⟨_, rfl, .inl ⟨EmptyS.nil, rfl⟩, S1.out.below⟩
end Go.Proofs.YtokhnjcbcpmmjaaGreat
