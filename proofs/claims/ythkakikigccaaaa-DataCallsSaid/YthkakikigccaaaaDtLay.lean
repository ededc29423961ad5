/-
  Proved here: package data's sorted, seated and Lay answer new rows: pieces by rank, each rank's in their order, side by side; nothing that was there is changed. Condition: at most forty pieces, numbers of 64 bits.
-/
import Derived.Test.YthkakikigccaaaaDtRow
import Derived.StillTailTactics
import Derived.Deep.RegionHeld3
namespace Go.Proofs.Ythkakikigccaaaa
open Go.RowKit Go.Lib Go.Sort
set_option linter.unusedVariables false
set_option linter.unusedSimpArgs false

theorem below_sortP {g n : Nat} {d' : Array Pc} {os : Array Obj} {w : World} (hg : g < w.heap.size) : Go.RowKit.Below g w (sortWorldK pcV 3 w g 0 n d' os) := by
  have hz : (putRowK pcV 3 (Sort.ahead w n) g 0 d').heap.size = w.heap.size := by simp [putRowK, putRow, mapBlock, Sort.ahead]
  refine ⟨rfl, rfl, rfl, ?_, fun k hk => ?_⟩
  · unfold sortWorldK grow
    simp only [Array.size_append]
    omega
  · unfold sortWorldK grow
    simp only
    rw [Array.getElem?_append_left (by omega)]
    unfold putRowK putRow mapBlock
    simp only [Array.getElem?_modify]
    rw [if_neg (by omega)]
    rfl
open Classical in
theorem St.perm {β : Type} {r : β → Int} {l z : List β} (h : St r l z) : z.Perm l := by
  rw [List.perm_iff_count]
  intro x
  have e : ∀ L : List β, (pick r (r x) L).count x = L.count x := fun L => by
    unfold pick; rw [List.count_filter]; simp
  rw [← e z, ← e l, h.same]
theorem sum_perm {a b : List Pc} (h : a.Perm b) : sumS a = sumS b := by
  unfold sumS
  induction h with
  | nil => rfl
  | cons x _ ih => simp only [List.map_cons, List.sum_cons, ih]
  | swap x y l => simp only [List.map_cons, List.sum_cons]; omega
  | trans _ _ h1 h2 => rw [h1, h2]
/-- a new row of pieces -/
def SortedOut (l : List Pc) (w : World) (e : Ending) (w' : World) : Prop :=
  ∃ (B : Nat) (d : Array Pc), e = .returned (.slice (some ⟨B, 0, none⟩) l.length l.length) ∧ w.heap.size ≤ B ∧ B < w'.heap.size ∧ d.size = l.length ∧ HoldsK pcV 3 w' B 0 d ∧ St rk l d.toList ∧ Below w.heap.size w w'
/-- how far the copy has come -/
structure Cp (l : List Pc) (k B : Nat) (w W : World) : Prop where
  below : Below w.heap.size w W
  le : w.heap.size ≤ B
  lt : B < W.heap.size
  row : ∃ d : Array Pc, d.size = l.length ∧ HoldsK pcV 3 W B 0 d ∧ ∀ j (h : j < l.length), j < k → d[j]! = l[j]
theorem Cp.on {l : List Pc} {k B : Nat} {w W W2 : World} (h : Cp l k B w W) (hb : Below W.heap.size W W2) : Cp l k B w W2 := by
  obtain ⟨d, h1, h2, h3⟩ := h.row
  exact ⟨h.below.trans (hb.mono h.below.size), h.le, Nat.lt_of_lt_of_le h.lt hb.size, d, h1, holdsK_on h2 hb h.lt, h3⟩
theorem Cp.free {l : List Pc} {k B : Nat} {w W : World} (h : Cp l k B w W) (hk : k < l.length) : ∃ v0 v1 v2, W.cell? ⟨B, k * 3, none⟩ = some v0 ∧ W.cell? ⟨B, k * 3 + 1, none⟩ = some v1 ∧ W.cell? ⟨B, k * 3 + 2, none⟩ = some v2 ∧ W.frozen? ⟨B, k * 3, none⟩ = false ∧ W.frozen? ⟨B, k * 3 + 1, none⟩ = false ∧ W.frozen? ⟨B, k * 3 + 2, none⟩ = false := by
  obtain ⟨d, h1, h2, h3⟩ := h.row
  exact ⟨_, _, _, HoldsK.three h2 (by omega)⟩
theorem Cp.put {l : List Pc} {k B : Nat} {w W : World} (h : Cp l k B w W) (hk : k < l.length) : Cp l (k + 1) B w (W.setCells B (k * 3) (pcV l[k])) := by
  obtain ⟨d, h1, h2, h3⟩ := h.row
  refine ⟨below_setCells h.le _ _ _ h.below, h.le, by rw [size_setCells]; exact h.lt, d.setIfInBounds k l[k], by simpa using h1, ?_, fun j hj hjk => ?_⟩
  · have := holdsK_set (enc := pcV) (k := 3) (fun _ => rfl) (by omega) h2 k (by omega) l[k]
    simpa using this
  · by_cases e : j = k
    · subst e; exact getElem!_set_same d j _ (by omega)
    · have : (d.setIfInBounds k l[k])[j]! = d[j]! := by simp [show j < d.size by omega, Ne.symm e]
      rw [this]; exact h3 j hj (by omega)
set_option maxHeartbeats 2000000 in
set_option maxRecDepth 100000 in
theorem sorted_any (a : Option Addr) (c : Nat) (l : List Pc) (w : World) (hn : l.length ≤ 40) (hl : Sl w a l) :
    Calls Try.prog 26 #[.slice a l.length c] w (SortedOut l w) := by
  obtain ⟨w1, hmk, hH, hb, hz⟩ := make_ps l.length (by omega) w
  have HL := Lib.hid hl
  have C0 := Lib.hid (show Cp l 0 w.heap.size w w1 from ⟨hb, Nat.le_refl _, by omega, _, by simp, hH, fun j _ h => by omega⟩)
  clear hl hH hb hz
  go_enter Try.func26, Try.ntmps26
  go_wp2
  clear hmk
  go_loopw [11] (fun vi wr => ∃ k : Nat, k ≤ l.length ∧ vi = .int .i64 k ∧ Hid (Cp l k w.heap.size w wr)) (fun vi _ => l.length - (intOf vi).toNat)
  case atStart => exact ⟨0, Nat.zero_le _, rfl, C0⟩
  case round =>
    obtain ⟨k, hk, rfl, HC⟩ := hrel
    by_cases hlt : k < l.length
    · obtain ⟨b, off, ha, hbl, hP⟩ := Sl.at_ (HL.out.below HC.out.below) hlt
      subst ha
      obtain ⟨p, hp⟩ : ∃ p, p = l[k] := ⟨_, rfl⟩
      rw [← hp] at hP
      have HP := Lib.hid hp
      clear hp
      obtain ⟨n1, n2, n3⟩ := hP
      have C1 := Lib.hid (HC.out.on (one_below wr (.cells #[.string p.name, .int .i64 p.size, .int .i64 p.hart] 32)))
      obtain ⟨v0, v1, v2, f0, f1, f2, f3, f4, f5⟩ := C1.out.free hlt
      have C2 : Hid (Cp l (k + 1) w.heap.size w ((((wr.alloc (.cells #[.string p.name, .int .i64 p.size, .int .i64 p.hart] 32)).setCell ⟨w.heap.size, k * 3, none⟩ (.string p.name)).setCell ⟨w.heap.size, k * 3 + 1, none⟩ (.int .i64 p.size)).setCell ⟨w.heap.size, k * 3 + 2, none⟩ (.int .i64 p.hart))) := Lib.hid (by
        have := C1.out.put hlt
        rw [← HP.out] at this
        exact this)
      have r1 : IntKind.i64.wrap ((k : Int) + 1) = (k : Int) + 1 := by rw [IntKind.wrap_i64]; omega
      go_wp2
      go_roundw
      case rel => exact ⟨k + 1, by omega, by go_num, C2⟩
      case measure => simp [intOf]; omega
    · obtain rfl : k = l.length := by omega
      obtain ⟨d, h1, h2, h3⟩ := HC.out.row
      have HS := Lib.hid (stable_any w.heap.size 0 l.length d wr h2 HC.out.lt (by omega))
      have hd : d.toList = l := by
        apply List.ext_getElem
        · simp [h1]
        · intro j a1 a2
          have := h3 j a2 (by simpa using a2)
          simp only [Array.getElem_toList]
          rw [← this]; simp [show j < d.size by omega]
      have HD := Lib.hid (And.intro hd (And.intro h1 h2))
      have hs := HS.out
      rw [h1] at hs
      clear h1 h2 h3 hd HS
      go_wp2_with (go_at_call 34; (with_reducible refine hs.mono ?_); rintro e w2 ⟨rfl, d2, q1, q2, q3⟩; have O2 := Lib.hid (And.intro q1 (And.intro q2 q3)); clear q1 q2 q3)
      go_ret
      obtain ⟨q1, q2, q3⟩ := O2.out
      obtain ⟨g1, g2, g3⟩ := HD.out
      refine ⟨w.heap.size, d2, rfl, Nat.le_refl _, q3.lt HC.out.lt, by rw [q1], q3.holds HC.out.lt g3 (by omega), by rw [← g1]; exact q2, ?_⟩
      obtain ⟨n1, os1, rfl⟩ := q3
      exact HC.out.below.trans ((below_sortP HC.out.lt).mono (Nat.le_refl _))
/-- where pieces stand, one behind the other -/
def seatAt (z : List Pc) (i : Nat) : Se := ⟨z[i]!, plI (sumS (z.take i))⟩
def seatsL (z : List Pc) : List Se := (List.range z.length).map (seatAt z)
def SeatedOut (z : List Pc) (w : World) (e : Ending) (w' : World) : Prop :=
  ∃ (B : Nat) (d : Array Se), e = .returned (.slice (some ⟨B, 0, none⟩) z.length z.length) ∧ w.heap.size ≤ B ∧ B < w'.heap.size ∧ HoldsK seV 4 w' B 0 d ∧ d.toList = seatsL z ∧ Below w.heap.size w w'
structure Sp (z : List Pc) (k B : Nat) (w W : World) : Prop where
  below : Below w.heap.size w W
  le : w.heap.size ≤ B
  lt : B < W.heap.size
  row : ∃ d : Array Se, d.size = z.length ∧ HoldsK seV 4 W B 0 d ∧ ∀ j, j < k → d[j]! = seatAt z j
theorem Sp.on {z : List Pc} {k B : Nat} {w W W2 : World} (h : Sp z k B w W) (hb : Below W.heap.size W W2) : Sp z k B w W2 := by
  obtain ⟨d, h1, h2, h3⟩ := h.row
  exact ⟨h.below.trans (hb.mono h.below.size), h.le, Nat.lt_of_lt_of_le h.lt hb.size, d, h1, holdsK_on h2 hb h.lt, h3⟩
theorem Sp.free {z : List Pc} {k B : Nat} {w W : World} (h : Sp z k B w W) (hk : k < z.length) : ∃ v0 v1 v2 v3, (W.cell? ⟨B, k * 4, none⟩ = some v0 ∧ W.cell? ⟨B, k * 4 + 1, none⟩ = some v1 ∧ W.cell? ⟨B, k * 4 + 2, none⟩ = some v2 ∧ W.cell? ⟨B, k * 4 + 3, none⟩ = some v3) ∧ (W.frozen? ⟨B, k * 4, none⟩ = false ∧ W.frozen? ⟨B, k * 4 + 1, none⟩ = false ∧ W.frozen? ⟨B, k * 4 + 2, none⟩ = false ∧ W.frozen? ⟨B, k * 4 + 3, none⟩ = false) := by
  obtain ⟨d, h1, h2, h3⟩ := h.row
  exact ⟨_, _, _, _, HoldsK.four h2 (by omega)⟩
theorem Sp.put {z : List Pc} {k B : Nat} {w W : World} (h : Sp z k B w W) (hk : k < z.length) : Sp z (k + 1) B w (W.setCells B (k * 4) (seV (seatAt z k))) := by
  obtain ⟨d, h1, h2, h3⟩ := h.row
  refine ⟨below_setCells h.le _ _ _ h.below, h.le, by rw [size_setCells]; exact h.lt, d.setIfInBounds k (seatAt z k), by simpa using h1, ?_, fun j hjk => ?_⟩
  · have := holdsK_set (enc := seV) (k := 4) (fun _ => rfl) (by omega) h2 k (by omega) (seatAt z k)
    simpa using this
  · by_cases e : j = k
    · subst e; exact getElem!_set_same d j _ (by omega)
    · have : (d.setIfInBounds k (seatAt z k))[j]! = d[j]! := by simp [show j < d.size by omega, Ne.symm e]
      rw [this]; exact h3 j (by omega)
set_option maxHeartbeats 2000000 in
set_option maxRecDepth 100000 in
theorem seated_any (B : Nat) (d : Array Pc) (z : List Pc) (w : World) (hd : d.toList = z) (hn : z.length ≤ 40) (hH : HoldsK pcV 3 w B 0 d) (hB : B < w.heap.size)
    (hs : ∀ k, k ≤ z.length → 0 ≤ sumS (z.take k) ∧ sumS (z.take k) ≤ 65536) (hp : ∀ p ∈ z, 0 ≤ p.size ∧ p.size ≤ 65536) :
    Calls Try.prog 25 #[.slice (some ⟨B, 0, none⟩) z.length z.length] w (SeatedOut z w) := by
  obtain ⟨w1, hmk, hH1, hb, hz⟩ := make_ss z.length (by omega) w
  have C0 := Lib.hid (show Sp z 0 w.heap.size w w1 from ⟨hb, Nat.le_refl _, by omega, _, by simp, hH1, fun j h => by omega⟩)
  have HH := Lib.hid (And.intro hH (And.intro hB hd))
  have HS := Lib.hid hs
  have HP := Lib.hid hp
  have mixed : Try.prog.follows .mixedOrders = true := by kernel_rfl
  clear hH hH1 hb hz hB hd hs hp
  go_enter Try.func25, Try.ntmps25
  go_wp2
  clear hmk
  go_loopw [4, 12] (fun vd vi wr => ∃ k : Nat, k ≤ z.length ∧ vi = .int .i64 k ∧ ∃ dd : Int, vd = .int .i64 dd ∧ Hid (dd = sumS (z.take k)) ∧ Hid (Sp z k w.heap.size w wr)) (fun _ vi _ => z.length - (intOf vi).toNat)
  case atStart => exact ⟨0, Nat.zero_le _, rfl, 0, rfl, Lib.hid (by simp [sumS]), C0⟩
  case round =>
    obtain ⟨k, hk, rfl, dd, rfl, HD, HC⟩ := hrel
    have d1 : 0 ≤ dd := by rw [HD.out]; exact (HS.out k hk).1
    have d2 : dd ≤ 65536 := by rw [HD.out]; exact (HS.out k hk).2
    by_cases hlt : k < z.length
    · obtain ⟨p, hp⟩ : ∃ p, p = z[k] := ⟨_, rfl⟩
      have hsz : d.size = z.length := by rw [← HH.out.2.2]; simp
      have hdp : d[k]! = p := by
        rw [hp]
        have := HH.out.2.2
        subst this
        simp [show k < d.size by omega]
      obtain ⟨n1, n2, n3, _, _, _⟩ := HoldsK.three (holdsK_on HH.out.1 HC.out.below HH.out.2.1) (i := k) (by omega)
      rw [hdp] at n1 n2 n3
      have HPZ := Lib.hid (HP.out p (by rw [hp]; exact List.getElem_mem hlt))
      have HSA : Hid (seatAt z k = ⟨p, plI dd⟩) := Lib.hid (by unfold seatAt; rw [HD.out, hp]; congr 1; simp [hlt])
      have HSU : Hid (sumS (z.take (k + 1)) = dd + p.size) := Lib.hid (by rw [sumS_take hlt, ← HD.out, ← hp])
      clear hp hdp hsz
      have p1 := HPZ.out.1
      have p2 := HPZ.out.2
      have C1 := Lib.hid (HC.out.on (one_below wr (.cells #[.string p.name, .int .i64 p.size, .int .i64 p.hart] 63)))
      have B1 := Lib.hid (Bx.new p wr 63)
      have r1 : IntKind.i64.wrap ((k : Int) + 1) = (k : Int) + 1 := by rw [IntKind.wrap_i64]; omega
      have r2 : IntKind.i64.wrap (dd + p.size) = dd + p.size := by rw [IntKind.wrap_i64]; omega
      go_wp2_with fail
      clear n1 n2 n3
      obtain ⟨g, hg⟩ : ∃ g, wr.heap.size = g := ⟨_, rfl⟩
      rw [hg] at B1 ⊢
      generalize hW : wr.alloc (.cells #[.string p.name, .int .i64 p.size, .int .i64 p.hart] 63) = W at B1 C1 ⊢
      have hlw : w.heap.size < g := by rw [← hg]; exact HC.out.lt
      clear hg hW HC
      obtain ⟨b1, b2, b3, b4⟩ := B1.out
      obtain ⟨v0, v1, v2, v3, ⟨f0, f1, f2, f3⟩, f4, f5, f6, f7⟩ := C1.out.free hlt
      have hne : ¬ w.heap.size = g := by omega
      have hlz : (k : Int) < (z.length : Int) := by omega
      have C3 : Hid (Sp z (k + 1) w.heap.size w ((((W.drew.setCell ⟨w.heap.size, k * 4, none⟩ (.string p.name)).setCell ⟨w.heap.size, k * 4 + 1, none⟩ (.int .i64 p.size)).setCell ⟨w.heap.size, k * 4 + 2, none⟩ (.int .i64 p.hart)).setCell ⟨w.heap.size, k * 4 + 3, none⟩ (.int .u64 (plI dd)))) := Lib.hid (by
        have := (C1.out.on (Below.refl _ _).drew).put hlt
        rw [HSA.out] at this
        exact this)
      go_still_tail 8, (by kernel_rfl)
      still_call ((place_any dd _ d1 (by omega)).mono fun _ _ h => ⟨h.1, h.2.symm⟩)
      repeat still_step
      refine wpStill_nil ?_
      change wpList _ _ _ _ _ W.drew
      have B2 := Lib.hid (B1.out.on (Below.refl _ _).drew)
      have C2 := Lib.hid (C1.out.on (Below.refl _ _).drew)
      clear b1 b2 b3 b4 f0 f1 f2 f3 f4 f5 f6 f7 B1 C1
      obtain ⟨W2, hW2⟩ : ∃ W2, W2 = W.drew := ⟨_, rfl⟩
      rw [← hW2] at B2 C2 C3 ⊢
      clear hW2
      obtain ⟨b1, b2, b3, b4⟩ := B2.out
      obtain ⟨v0, v1, v2, v3, ⟨f0, f1, f2, f3⟩, f4, f5, f6, f7⟩ := C2.out.free hlt
      go_wp2
      go_roundw
      case rel => exact ⟨k + 1, by omega, by go_num, dd + p.size, rfl, Lib.hid HSU.out.symm, C3⟩
      case measure => simp [intOf]; omega
    · obtain rfl : k = z.length := by omega
      go_wp2
      go_ret
      obtain ⟨d2, h1, h2, h3⟩ := HC.out.row
      refine ⟨w.heap.size, d2, rfl, HC.out.le, HC.out.lt, h2, ?_, HC.out.below⟩
      apply List.ext_getElem
      · simp [seatsL, h1]
      · intro j a1 a2
        have a3 : j < z.length := by simpa [seatsL] using a2
        have := h3 j a3
        simp only [Array.getElem_toList, seatsL, List.getElem_map, List.getElem_range]
        rw [← this]; simp [show j < d2.size by omega]
theorem sumS_nonneg {L : List Pc} (h : ∀ p ∈ L, 0 ≤ p.size) : 0 ≤ sumS L := by
  induction L with
  | nil => simp [sumS]
  | cons x L ih =>
    have h1 := ih (fun p hp => h p (by simp [hp]))
    have h2 := h x (by simp)
    have : sumS (x :: L) = x.size + sumS L := rfl
    omega
theorem up_all {l : List Pc} (h : OkUp l l.length) : ∀ p ∈ l, mayB p = true := fun p hp => by
  obtain ⟨i, hi, rfl⟩ := List.getElem_of_mem hp
  exact (h.at_ hi hi).may
theorem st_sums {l z : List Pc} (h : OkUp l l.length) (st : St rk l z) : (∀ k, k ≤ z.length → 0 ≤ sumS (z.take k) ∧ sumS (z.take k) ≤ 65536) ∧ (∀ p ∈ z, 0 ≤ p.size ∧ p.size ≤ 65536) := by
  have hm : ∀ p ∈ z, 1 ≤ p.size ∧ p.size ≤ 65536 := fun p hp => by
    have := mayB_facts (up_all h p ((st.mem p).1 hp)); omega
  have hz : sumS z ≤ 65536 := by
    rw [sum_perm st.perm]
    have := sum_le h (Nat.le_refl _)
    rwa [List.take_length] at this
  refine ⟨fun k hk => ?_, fun p hp => by have := hm p hp; omega⟩
  have e : sumS z = sumS (z.take k) + sumS (z.drop k) := by rw [← sumS_append, List.take_append_drop]
  have h1 : 0 ≤ sumS (z.take k) := sumS_nonneg (fun p hp => by have := hm p (List.mem_of_mem_take hp); omega)
  have h2 : 0 ≤ sumS (z.drop k) := sumS_nonneg (fun p hp => by have := hm p (List.mem_of_mem_drop hp); omega)
  omega
theorem Lay_bad (a : Option Addr) (c : Nat) (l : List Pc) (w : World) (hn : l.length ≤ maxLen) (hl : Sl w a l) (hw : ∀ p ∈ l, PcW p) (e : Int) (he : ckE l = e) (h0 : e ≠ 0) :
    Calls Try.prog 7 #[.slice a l.length c] w fun x w' => x = .returned (.tuple #[.slice none 0 0, .int .i64 e]) ∧ Below w.heap.size w w' := by
  have H := Check_any a c l w hn hl hw
  rw [he] at H
  have z1 : (e == 0) = false := by simpa using h0
  have z2 : (e != 0) = true := by simpa using h0
  clear he
  go_enter Try.func7, Try.ntmps7
  go_wp2_with (go_at_call 13; (with_reducible refine H.mono ?_); rintro e w' ⟨rfl, hb⟩; have HB := Lib.hid hb; clear hb)
  go_ret2
  exact ⟨rfl, HB.out⟩
/-- seats in a new row -/
def LayOut (l : List Pc) (w : World) (e : Ending) (w' : World) : Prop :=
  ∃ (B : Nat) (d : Array Se) (z : List Pc), e = .returned (.tuple #[.slice (some ⟨B, 0, none⟩) l.length l.length, .int .i64 0]) ∧ w.heap.size ≤ B ∧ B < w'.heap.size ∧ HoldsK seV 4 w' B 0 d ∧ d.toList = seatsL z ∧ St rk l z ∧ Below w.heap.size w w'
set_option maxHeartbeats 1000000 in
theorem Lay_good (a : Option Addr) (c : Nat) (l : List Pc) (w : World) (hn : l.length ≤ 40) (hl : Sl w a l) (hw : ∀ p ∈ l, PcW p) (he : ckE l = 0) :
    Calls Try.prog 7 #[.slice a l.length c] w (LayOut l w) := by
  have H := Check_any a c l w (by unfold maxLen; omega) hl hw
  rw [he] at H
  have HU := Lib.hid (ck_up he)
  have HL := Lib.hid hl
  clear he hl
  go_enter Try.func7, Try.ntmps7
  go_wp2_with (go_at_call 13; (with_reducible refine H.mono ?_); rintro e w1 ⟨rfl, hb⟩; have HB := Lib.hid hb; clear hb)
  have H2 := Lib.hid (sorted_any a c l w1 hn (HL.out.below HB.out))
  go_wp2_with (go_at_call 26; refine H2.out.mono ?_; rintro e w2 ⟨B, d, rfl, q1, q2, q3, q4, q5, q6⟩; have O2 := Lib.hid (And.intro q1 (And.intro q2 (And.intro q3 (And.intro q4 (And.intro q5 q6))))); clear q1 q2 q3 q4 q5 q6)
  obtain ⟨z, hz⟩ : ∃ z, d.toList = z := ⟨_, rfl⟩
  have hzl : l.length = z.length := by have := O2.out.2.2.2.2.1.len; rw [hz] at this; omega
  have st : St rk l z := by rw [← hz]; exact O2.out.2.2.2.2.1
  have H3 := Lib.hid (seated_any B d z w2 hz (by omega) O2.out.2.2.2.1 O2.out.2.1 (st_sums HU.out st).1 (st_sums HU.out st).2)
  have ST := Lib.hid (And.intro hzl st)
  clear hz st
  rw [hzl]
  clear hzl
  go_wp2_with (go_at_call 25; refine H3.out.mono ?_; rintro e w3 ⟨B2, d2, rfl, q1, q2, q3, q4, q5⟩; have O3 := Lib.hid (And.intro q1 (And.intro q2 (And.intro q3 (And.intro q4 q5)))); clear q1 q2 q3 q4 q5)
  go_ret2
  obtain ⟨q1, q2, q3, q4, q5⟩ := O3.out
  have hb2 := O2.out.2.2.2.2.2
  refine ⟨B2, d2, z, by rw [ST.out.1]; rfl, ?_, q2, q3, q4, ST.out.2, HB.out.trans ((hb2.mono HB.out.size).trans (q5.mono ?_))⟩
  · have := HB.out.size; have := hb2.size; omega
  · have := HB.out.size; have := hb2.size; omega
end Go.Proofs.Ythkakikigccaaaa
