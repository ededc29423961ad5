/-
  Proved here: the contracts of the document's own Bytes and Of, and of the laws' Own of bytes; what rows of bytes read as, bit by bit. Conditions: what is read is a row of bytes.
-/
import Derived.Test.YtjgkmnihdnigjaaWordBytes
namespace Go.Proofs.Ytjgkmnihdnigjaa
open Go.RowKit

/-! ### bytes as words, no Go in sight -/
def byteB (y : Int) : BitVec 64 := BitVec.ofInt 64 y
def IsByte (y : Int) : Prop := 0 ≤ y ∧ y ≤ 255
theorem byte_U {y : Int} (h : IsByte y) : y = U (byteB y) := by
  unfold byteB; rw [← wrapU, IntKind.wrap_u64]; unfold IsByte at h; omega
theorem byte_high {y : Int} (h : IsByte y) (i : Nat) (hi : 8 ≤ i) : (byteB y).getLsbD i = false := by
  have e : (byteB y).toNat < 2 ^ i := by
    have h1 : ((byteB y).toNat : Int) = y := (byte_U h).symm
    unfold IsByte at h
    have h2 : (2 : Nat) ^ 8 ≤ 2 ^ i := Nat.pow_le_pow_right (by omega) hi
    omega
  rw [BitVec.getLsbD, Nat.testBit_lt_two_pow e]
/-- what Of has behind j bytes, as a word -/
def ofB (xs : List Int) : Nat → BitVec 64
  | 0 => 0
  | j + 1 => ofB xs j ||| (byteB (xs.getD j 0) <<< (j * 8))
theorem ofI_U (xs : List Int) (hx : ∀ i, IsByte (xs.getD i 0)) (j : Nat) : ofI xs j = U (ofB xs j) := by
  induction j with
  | zero => rfl
  | succ j ih =>
    show bits .or .u64 (ofI xs j) (IntKind.u64.wrap (xs.getD j 0 * 2 ^ (j * 8))) = U (ofB xs j ||| (byteB (xs.getD j 0) <<< (j * 8)))
    rw [ih, byte_U (hx j), shl_U, or_U, ← byte_U (hx j)]
theorem bit_of (xs : List Int) (hx : ∀ i, IsByte (xs.getD i 0)) (j i : Nat) (hi : i < 64) :
    (ofB xs j).getLsbD i = (decide (i / 8 < j) && (byteB (xs.getD (i / 8) 0)).getLsbD (i % 8)) := by
  induction j with
  | zero => simp [ofB]
  | succ j ih =>
    show (ofB xs j ||| (byteB (xs.getD j 0) <<< (j * 8))).getLsbD i = _
    rw [BitVec.getLsbD_or, ih, BitVec.getLsbD_shiftLeft]
    by_cases h1 : i / 8 < j
    · have h2 : i / 8 < j + 1 := by omega
      have h3 : i < j * 8 := by omega
      simp [h1, h2, h3]
    · by_cases h4 : i / 8 = j
      · have h2 : i / 8 < j + 1 := by omega
        have h3 : ¬ i < j * 8 := by omega
        have e : i - j * 8 = i % 8 := by omega
        rw [e, h4]; simp [hi, h3]
      · have h2 : ¬ i / 8 < j + 1 := by omega
        have h3 : ¬ i < j * 8 := by omega
        rw [byte_high (hx j) (i - j * 8) (by omega)]
        simp [h1, h2]
/-- the document's Put of a byte behind those that are there -/
theorem put_byte (xs : List Int) (hx : ∀ i, IsByte (xs.getD i 0)) (j : Nat) (hj : j < 8) : putI (ofI xs j) (8 * (j : Int)) 8 (xs.getD j 0) = ofI xs (j + 1) := by
  rw [ofI_U xs hx, ofI_U xs hx]
  have e : xs.getD j 0 = U (byteB (xs.getD j 0)) := byte_U (hx j)
  rw [e, putI_U, show ck 8 = 8 by decide +kernel, ck_in (8 * (j : Int)) (by omega) (by omega)]
  refine congrArg U ?_
  apply bits_ext
  intro i hi
  have ek : (8 * (j : Int)).toNat = 8 * j := by omega
  rw [ek, bit_put _ _ _ _ _ hi, bit_of xs hx _ _ hi, bit_of xs hx _ _ hi]
  split
  · have h1 : i / 8 = j := by omega
    have h2 : i - 8 * j = i % 8 := by omega
    rw [h2, h1]; simp
  · by_cases h1 : i / 8 < j
    · have h2 : i / 8 < j + 1 := by omega
      simp [h1, h2]
    · have h2 : ¬ i / 8 < j + 1 := by omega
      simp [h1, h2]
theorem byteI_is (x : BitVec 64) (i : Nat) : IsByte (byteI (U x) i) := by
  unfold byteI IsByte; omega
theorem byteB_I (x : BitVec 64) (i b : Nat) (hb : b < 8) : (byteB (byteI (U x) i)).getLsbD b = x.getLsbD (i * 8 + b) := by
  unfold byteI byteB
  rw [shr_U]
  have e : BitVec.ofInt 64 (U (x >>> (i * 8)) % 256) = (x >>> (i * 8)) % 256#64 := by
    apply BitVec.eq_of_toNat_eq
    rw [BitVec.toNat_ofInt, BitVec.toNat_umod]
    unfold U
    have h1 := (x >>> (i * 8)).isLt
    have h2 : (256#64).toNat = 256 := rfl
    rw [h2]
    omega
  have e2 : (x >>> (i * 8)) % 256#64 = (x >>> (i * 8)) &&& 255#64 := by
    apply BitVec.eq_of_toNat_eq
    rw [BitVec.toNat_umod, BitVec.toNat_and]
    show _ % 2 ^ 8 = _ &&& (2 ^ 8 - 1)
    rw [Nat.and_two_pow_sub_one_eq_mod]
  rw [e, e2, BitVec.getLsbD_and, BitVec.getLsbD_ushiftRight]
  have e3 : (255#64).getLsbD b = true := by
    match b, hb with
    | 0, _ => rfl
    | 1, _ => rfl
    | 2, _ => rfl
    | 3, _ => rfl
    | 4, _ => rfl
    | 5, _ => rfl
    | 6, _ => rfl
    | 7, _ => rfl
  rw [e3, Bool.and_true]
/-- a byte is a part -/
theorem part_byte (x : BitVec 64) (i : Nat) (hi : i < 8) : partI (U x) (8 * (i : Int)) 8 = byteI (U x) i := by
  rw [partI_U, byte_U (byteI_is x i), show ck 8 = 8 by decide +kernel, ck_in (8 * (i : Int)) (by omega) (by omega)]
  refine congrArg U ?_
  apply bits_ext
  intro b hb
  have ek : (8 * (i : Int)).toNat = 8 * i := by omega
  rw [ek, bit_part]
  by_cases h : b < 8
  · rw [byteB_I x i b h, Nat.mul_comm]; simp [h]
  · rw [byte_high (byteI_is x i) b (by omega)]; simp [h]
/-- x's first k bytes -/
def bytesL (x : Int) (k : Nat) : List Int := (List.range k).map (byteI x)
theorem bytesL_len (x : Int) (k : Nat) : (bytesL x k).length = k := by simp [bytesL]
theorem bytesL_get (x : Int) (k i : Nat) (h : i < k) : (bytesL x k).getD i 0 = byteI x i := by simp [bytesL, List.getD, h]
theorem bytesL_succ (x : Int) (k : Nat) : bytesL x (k + 1) = bytesL x k ++ [byteI x k] := by simp [bytesL, List.range_succ]
theorem bytesL_is (x : BitVec 64) (k i : Nat) : IsByte ((bytesL (U x) k).getD i 0) := by
  by_cases h : i < k
  · rw [bytesL_get _ _ _ h]; exact byteI_is x i
  · have : (bytesL (U x) k).getD i 0 = 0 := by simp [bytesL, List.getD, h]
    rw [this]; unfold IsByte; omega

/-! ### rows in memory -/
/-- what has been made from w to w' is new; v is a slice of its own that reads as the bytes xs -/
def OwnB (w w' : World) (v : Value) (xs : List Int) : Prop :=
  w'.ownsRow w.heap.size 5 1 v xs.length (xs.map (Value.int .u8)) ∧ Below w.heap.size w w'
theorem OwnB.slice {w w' : World} {v : Value} {xs : List Int} (h : OwnB w w' v xs) : ∃ a cap, v = .slice a xs.length cap ∧ RowAt w' a xs := by
  obtain ⟨hown, _⟩ := h
  rcases hown.2 with ⟨rfl, hn⟩ | ⟨g, cap, cur, rfl, _⟩
  · exact ⟨none, 0, by rw [hn], fun hne => absurd (List.eq_nil_of_length_eq_zero hn) hne⟩
  · refine ⟨_, cap, rfl, fun _ => ⟨g, 0, rfl, fun i hi => ?_⟩⟩
    have := hown.cells (g := g) rfl i (.int .u8 (xs.getD i 0)) (by simp [List.getD, hi])
    rw [Addr.add_lit] at this
    exact this

theorem made_0 (w : World) : (w.alloc (.cells #[] 5)).ownsRow w.heap.size 5 1 (.slice (some ⟨w.heap.size, 0, none⟩) 0 0) 0 [] :=
  World.ownsRow_made w #[] 0 (Nat.le_refl _) (by unfold maxLen; omega) rfl
theorem row_cells {w : World} {ad : Addr} {xs : List Int} (hr : RowAt w (some ad) xs) : ∀ (j : Nat) (u : Value), (xs.map (Value.int .u8))[j]? = some u → w.cell? (ad.add j) = some u := by
  intro j u hu
  have hj : j < xs.length := by
    have := (List.getElem?_eq_some_iff.1 hu).1
    simpa using this
  obtain ⟨b, off, e, hc⟩ := hr (by intro e; rw [e] at hj; simp at hj)
  obtain rfl := Option.some.inj e
  rw [Addr.add_lit, hc j hj]
  simp [hj] at hu
  simp [List.getD, hj, ← hu]
theorem row_later {w w' : World} {a : Option Addr} {xs : List Int} (hr : RowAt w a xs) (hb : Below w.heap.size w w') (hlt : ∀ ad, a = some ad → xs ≠ [] → ad.block < w.heap.size) : RowAt w' a xs := by
  intro hne
  obtain ⟨b, off, e, hc⟩ := hr hne
  exact ⟨b, off, e, fun i hi => (hb.cell (p := ⟨b, off + i, none⟩) (show b < w.heap.size from hlt ⟨b, off, none⟩ e hne)).trans (hc i hi)⟩
theorem OwnB.intro {w w' : World} {v : Value} {xs : List Int} (h1 : w'.ownsRow w.heap.size 5 1 v xs.length (xs.map (Value.int .u8)))
    (hg : (w.alloc (.cells #[] 5)).grownBy w' (some w.heap.size)) : OwnB w w' v xs := by
  refine ⟨h1, ?_⟩
  exact (((Below.refl w.heap.size w).alloc (Nat.le_refl _) (.cells #[] 5)).grown hg (by simp) (fun k hk => by obtain rfl := Option.some.inj hk; exact Nat.le_refl _))
set_option maxHeartbeats 1000000 in
theorem Own_any (a : Option Addr) (cap : Nat) (xs : List Int) (w : World) (hr : RowAt w a xs) (hm : xs.length ≤ 140737488351232) (hlt : ∀ ad, a = some ad → xs ≠ [] → ad.block < w.heap.size) (hn : a = none → cap = 0) :
    Calls Try.prog 27 #[.slice a xs.length cap] w fun e w' => ∃ v, e = .returned v ∧ OwnB w w' v xs := by
  obtain ⟨i0, hi, hz0, hz1, hz2⟩ := info_parts info5
  have hr2 : RowAt (w.alloc (.cells #[] 5)) a xs := row_later hr ((Below.refl w.heap.size w).alloc (Nat.le_refl _) _) hlt
  cases a with
  | none =>
    obtain rfl : cap = 0 := hn rfl
    obtain rfl : xs = [] := by
      by_cases hne : xs = []
      · exact hne
      · obtain ⟨b, off, e, _⟩ := hr hne
        cases e
    clear hr hr2 hlt hn hm
    have HO := Lib.hid (show OwnB w (w.alloc (.cells #[] 5)) (.slice (some ⟨w.heap.size, 0, none⟩) 0 0) [] from ⟨made_0 w, (Below.refl w.heap.size w).alloc (Nat.le_refl _) _⟩)
    go_enter Try.func27, Try.ntmps27
    go_wp2_with (fail)
    go_ret
    exact ⟨_, rfl, HO.out⟩
  | some ad =>
    have hc := row_cells hr2
    have HC := Lib.hid hc
    clear hc hr hr2 hlt hn
    go_enter Try.func27, Try.ntmps27
    go_wp2_with (at_builtin; refine wpList_append_own _ rfl _ _ 26 rfl w.heap.size 5 i0 (.int .u8 0) 1 1 Try.underlying26 hi hz0 hz1 hz2 rfl (by decide) _ _ _ rfl (made_0 w) ad xs.length cap (xs.map (Value.int .u8)) rfl ?c0 HC.out (ints_oneCell _ _) ?c1 ?c2 ?c3 ?_)
    case c0 => simp
    case c1 => unfold maxLen; omega
    case c2 => omega
    case c3 => simp
    intro v' w1 hown hgrow _
    have HO := Lib.hid (OwnB.intro hown hgrow)
    clear hown hgrow
    go_wp2_with (fail)
    go_ret
    exact ⟨_, rfl, HO.out⟩

set_option maxHeartbeats 1000000 in
theorem refOf_any (a : Option Addr) (cap : Nat) (xs : List Int) (w : World) (hr : RowAt w a xs) (hm : xs.length ≤ maxLen) (hx : ∀ i, IsByte (xs.getD i 0)) :
    Calls Try.prog 28 #[.slice a xs.length cap] w fun e w' => e = .returned (.int .u64 (ofI xs (cl xs.length 8).toNat)) ∧ w = w' := by
  unfold maxLen at hm
  obtain ⟨k, hk, hk8⟩ := cl_is xs.length 8
  have hk2 : cl (xs.length : Int) 8 = (k : Int) := hk
  have hkl : k ≤ xs.length := by
    have : cl (xs.length : Int) 8 ≤ xs.length := by unfold cl; rw [if_neg (by omega)]; split <;> omega
    omega
  have hkm : k < xs.length → k = 8 := by
    intro h
    have : cl (xs.length : Int) 8 = 8 ∨ cl (xs.length : Int) 8 = xs.length := by unfold cl; rw [if_neg (by omega)]; split <;> omega
    omega
  have hk' : (cl (xs.length : Int) 8).toNat = k := by rw [hk2, Int.toNat_natCast]
  rw [hk']
  clear hk hk' hk2
  have HP := Lib.hid (put_byte xs hx)
  have HU := Lib.hid (ofI_U xs hx)
  have HX := Lib.hid hx
  clear hx
  obtain ⟨l, hl⟩ : ∃ l, l = xs.length := ⟨_, rfl⟩
  rw [← hl] at hm hkl hkm ⊢
  have HL := Lib.hid hl
  clear hl
  have HZ := Lib.hid (show ofI xs 0 = 0 from rfl)
  have HR := Lib.hid hr
  clear hr
  have HM := Lib.hid hkm
  clear hkm
  go_enter Try.func28, Try.ntmps28
  go_wp2_with (fail)
  go_loop [3, 4] (fun x i => ∃ j : Nat, j ≤ k ∧ i = .int .i64 j ∧ x = .int .u64 (ofI xs j)) (fun _ i => k - (intOf i).toNat)
  case atStart => exact ⟨0, by omega, rfl, by rw [HZ.out]⟩
  case round =>
    obtain ⟨j, hj, rfl, rfl⟩ := hrel
    by_cases hlt : j < k
    · obtain ⟨b, off, rfl, hc⟩ := HR.out (by intro e; rw [e] at HL; have := HL.out; simp at this; omega)
      have hcj := hc j (by rw [← HL.out]; omega)
      have hp := HP.out j (by omega)
      obtain ⟨y, hy⟩ : ∃ y, xs.getD j 0 = y := ⟨_, rfl⟩
      rw [hy] at hcj hp
      have hb := HX.out j
      rw [hy] at hb
      have HB := Lib.hid (byte_U hb)
      obtain ⟨hb0, hb1⟩ := hb
      have H1 := Lib.hid (HU.out j)
      have HP' := Lib.hid hp
      clear hy hc HR hp
      go_wp2_with (go_at_call 22; rw [H1.out, HB.out]; (with_reducible refine (refPut_any _ _ _ _ _).mono ?_); rw [← H1.out, ← HB.out, HP'.out]; rintro e w' ⟨rfl, rfl⟩)
      go_round
      case rel => exact ⟨j + 1, by omega, by go_num, rfl⟩
      case measure => simp [intOf]; omega
    · have h1 : ¬ (j < l ∧ j < 8) := by
        intro h
        have := HM.out
        omega
      by_cases h2 : j < l
      · have h3 : ¬ j < 8 := fun h => h1 ⟨h2, h⟩
        clear h1
        go_wp2_with (fail)
        go_ret
        obtain rfl : j = k := by omega
        exact ⟨rfl, rfl⟩
      · clear h1
        go_wp2_with (fail)
        go_ret
        obtain rfl : j = k := by omega
        exact ⟨rfl, rfl⟩

/-- one byte more behind what is owned, by way of a one-cell block -/
theorem one_cell (w : World) (v : Value) : ∀ (j : Nat) (u : Value), [v][j]? = some u → (w.alloc (.cells #[v] 5)).cell? ((⟨w.heap.size, 0, none⟩ : Addr).add j) = some u := by
  intro j u hu
  match j, hu with
  | 0, hu =>
    simp at hu
    subst hu
    rw [Addr.add_lit, World.cell?_alloc_at _ _ _ _ rfl]; rfl
def OwnK (w w' : World) (v : Value) (x : Int) (k : Nat) : Prop :=
  w'.ownsRow w.heap.size 5 1 v k ((bytesL x k).map (Value.int .u8)) ∧ Below w.heap.size w w'
theorem OwnK.step {w wr w1 : World} {v v' : Value} {x : Int} {k : Nat} (h : OwnK w wr v x k)
    (hown : w1.ownsRow w.heap.size 5 1 v' (k + 1) ((bytesL x k).map (Value.int .u8) ++ [.int .u8 (byteI x k)])) (hg : (wr.alloc (.cells #[.int .u8 (byteI x k)] 5)).grownBy w1 v.ownBlock) : OwnK w w1 v' x (k + 1) := by
  refine ⟨by rw [bytesL_succ, List.map_append]; exact hown, ?_⟩
  refine (h.2.alloc h.2.size _).grown hg ?_ ?_
  · have := h.2.size; simp; omega
  · intro g hk
    exact ((h.1.lt g) hk).1
theorem OwnK.own {w w' : World} {v : Value} {x : Int} {k : Nat} (h : OwnK w w' v x k) : OwnB w w' v (bytesL x k) := by
  refine ⟨?_, h.2⟩
  rw [bytesL_len]; exact h.1

set_option maxHeartbeats 1000000 in
theorem refBytes_any (x : BitVec 64) (n : Int) (w : World) :
    Calls Try.prog 26 #[.int .u64 (U x), .int .i64 n] w fun e w' => ∃ v, e = .returned v ∧ OwnB w w' v (bytesL (U x) (cl n 8).toNat) := by
  obtain ⟨i0, hi, hz0, hz1, hz2⟩ := info_parts info5
  obtain ⟨k, hk, hk8⟩ := cl_is n 8
  have hk2 : cl n 8 = (k : Int) := hk
  have hk' : (cl n 8).toNat = k := by rw [hk2, Int.toNat_natCast]
  rw [hk']
  have HK := Lib.hid hk2
  clear hk hk' hk2
  go_enter Try.func26, Try.ntmps26
  go_wp2_with (fail)
  go_loopw [5, 6] (fun v i wr => ∃ j : Nat, j ≤ k ∧ i = .int .i64 j ∧ OwnK w wr v (U x) j) (fun _ i _ => k - (intOf i).toNat)
  case atStart => exact ⟨0, by omega, rfl, World.ownsRow_nil _ _ _ _, Below.refl _ _⟩
  case round =>
    obtain ⟨j, hj, rfl, hown⟩ := hrel
    by_cases hlt : j < k
    · have hp := part_byte x j (by omega)
      have hb := byteI_is x j
      obtain ⟨hb0, hb1⟩ := hb
      have hsz := hown.2.size
      have HO := Lib.hid hown
      clear hown
      go_wp2_with (first
        | (go_at_call 31; (with_reducible refine (bound_any _ _ (by omega) _).mono ?_); rw [HK.out]; rintro e w' ⟨rfl, rfl⟩)
        | (go_at_call 20; (with_reducible refine (refPart_any _ _ _ _).mono ?_); rw [hp]; rintro e w' ⟨rfl, rfl⟩)
        | (at_builtin; refine wpList_append_own _ rfl _ _ 26 rfl w.heap.size 5 i0 (.int .u8 0) 1 1 Try.underlying26 hi hz0 hz1 hz2 rfl (by decide) _ _ _ rfl (HO.out.1.alloc _) ⟨_, 0, none⟩ 1 1 [.int .u8 (byteI (U x) j)] rfl rfl (one_cell _ _) ?c1 ?c2 ?c3 ?c4 ?_))
      case c1 => intro u hu; simp at hu; subst hu; rfl
      case c2 => unfold maxLen; omega
      case c3 => omega
      case c4 => simp; omega
      intro v' w1 hown' hgrow _
      have HO' := Lib.hid (OwnK.step HO.out hown' hgrow)
      clear hown' hgrow
      go_wp2_with (fail)
      go_roundw
      case rel => exact ⟨j + 1, by omega, by go_num, HO'.out⟩
      case measure => simp [intOf]; omega
    · have HO := Lib.hid hown.own
      clear hown
      go_wp2_with (go_at_call 31; (with_reducible refine (bound_any _ _ (by omega) _).mono ?_); rw [HK.out]; rintro e w' ⟨rfl, rfl⟩)
      go_ret
      obtain rfl : j = k := by omega
      exact ⟨_, rfl, HO.out⟩
end Go.Proofs.Ytjgkmnihdnigjaa
