/-
  Proved here: the package insn's reader takes a text apart as the plain functions say: eat, number, register, marks, between, field; nothing but the reader's own rest, and the instruction that it fills, is changed. Conditions: at most 10000 bytes; the two errors of strconv read as the library lays them.
-/
import Derived.Test.YtplneijbhmhmoaaGreatDoorInsnAsk
import Derived.Shelf.Strings.SlTrimAscii
namespace Go.Proofs.YtplneijbhmhmoaaGreatDoor
open Go.RowKit

/-- all but block r is as it was -/
def Oth (r : Nat) (w w' : World) : Prop := w'.os = w.os ∧ w'.tape = w.tape ∧ w'.output = w.output ∧ w.heap.size ≤ w'.heap.size ∧ ∀ k, k < w.heap.size → k ≠ r → w'.heap[k]? = w.heap[k]?
theorem Oth.refl (r : Nat) (w : World) : Oth r w w := ⟨rfl, rfl, rfl, Nat.le_refl _, fun _ _ _ => rfl⟩
theorem Oth.trans {r : Nat} {w w1 w2 : World} (h : Oth r w w1) (k : Oth r w1 w2) : Oth r w w2 :=
  ⟨k.1.trans h.1, k.2.1.trans h.2.1, k.2.2.1.trans h.2.2.1, Nat.le_trans h.2.2.2.1 k.2.2.2.1, fun i hi hr => (k.2.2.2.2 i (Nat.lt_of_lt_of_le hi h.2.2.2.1) hr).trans (h.2.2.2.2 i hi hr)⟩
theorem Oth.of {r : Nat} {w w' : World} (h : Below w.heap.size w w') : Oth r w w' := ⟨h.os, h.tape, h.output, h.size, fun k hk _ => h.block k hk⟩
theorem Oth.below {r : Nat} {w w' : World} (h : Oth r w w') (B : Nat) (hB : B ≤ r) (hs : B ≤ w.heap.size) : Below B w w' := ⟨h.1, h.2.1, h.2.2.1, h.2.2.2.1, fun k hk => h.2.2.2.2 k (by omega) (by omega)⟩
theorem Oth.set (r : Nat) (w : World) (o : Nat) (v : Value) : Oth r w (w.setCell ⟨r, o, none⟩ v) :=
  ⟨rfl, rfl, rfl, by simp [World.setCell], fun k _ hr => Below.heap_setCell _ _ _ _ (fun e => hr e)⟩
/-- the reader's block: what is left of the text -/
def Rd (r : Nat) (s : List UInt8) (w : World) : Prop := w.heap[r]? = some (.cells #[.string ⟨s.toArray⟩] 42 (0, 0))
theorem Rd.facts {r : Nat} {s : List UInt8} {w : World} (h : Rd r s w) : w.cell? ⟨r, 0, none⟩ = some (.string ⟨s.toArray⟩) ∧ w.frozen? ⟨r, 0, none⟩ = false ∧ r < w.heap.size :=
  ⟨by rw [Lib.cell_of_heap h]; rfl, Lib.frozen_of_heap h 0, (Array.getElem?_eq_some_iff.1 h).1⟩
theorem Rd.of {r : Nat} {s : List UInt8} {w w' : World} (h : Rd r s w) (hb : Below w.heap.size w w') : Rd r s w' := (hb.block r (Array.getElem?_eq_some_iff.1 h).1).trans h
theorem Rd.set {r : Nat} {s : List UInt8} {w : World} (h : Rd r s w) (t : List UInt8) : Rd r t (w.setCell ⟨r, 0, none⟩ (.string ⟨t.toArray⟩)) := by
  unfold Rd at *
  simp [World.setCell, Array.getElem?_modify, h]
def Ate (r : Nat) (s : List UInt8) (w w' : World) : Prop := Rd r s w' ∧ Oth r w w'
theorem Ate.rd {r : Nat} {s : List UInt8} {w w' : World} (h : Ate r s w w') : Rd r s w' := h.1
theorem Ate.oth {r : Nat} {s : List UInt8} {w w' : World} (h : Ate r s w w') : Oth r w w' := h.2
theorem Ate.refl {r : Nat} {s : List UInt8} {w : World} (h : Rd r s w) : Ate r s w w := ⟨h, Oth.refl r w⟩
theorem Ate.trans {r : Nat} {s t : List UInt8} {w w1 w2 : World} (h : Ate r s w w1) (k : Ate r t w1 w2) : Ate r t w w2 := ⟨k.1, h.2.trans k.2⟩
theorem Ate.of {r : Nat} {s : List UInt8} {w w' : World} (h : Rd r s w) (hb : Below w.heap.size w w') : Ate r s w w' := ⟨h.of hb, Oth.of hb⟩

set_option maxRecDepth 100000 in
theorem eat_any (r : Nat) (s : List UInt8) (p : ByteArray) (w : World) (h : Rd r s w) :
    Calls Tryz.prog 74 #[.pointer (some ⟨r, 0, none⟩), .string p] w fun e w' => e = .returned (.bool (Lib.hasPrefix s p.data.toList)) ∧ Ate r (Lib.trimPrefix s p.data.toList) w w' := by
  have H := Lib.hid h
  obtain ⟨c0, f0, hz⟩ := h.facts
  have HS := Lib.hid (⟨h.set _, Oth.set r w 0 _⟩ : Ate r (Lib.trimPrefix s p.data.toList) w (w.setCell ⟨r, 0, none⟩ (.string ⟨(Lib.trimPrefix s p.data.toList).toArray⟩)))
  clear h
  go_enter Tryz.func74, Tryz.ntmps74
  go_wp2_with (go_at_call 93; (with_reducible refine (Tryz.strings_CutPrefix _ _ _).mono ?_); rintro e w' ⟨rfl, rfl⟩)
  go_ret
  exact ⟨rfl, HS.out⟩
/-- eat at a text that is written out -/
theorem eat_at (r : Nat) (s : List UInt8) (p : List UInt8) (w : World) (h : Rd r s w) :
    Calls Tryz.prog 74 #[.pointer (some ⟨r, 0, none⟩), .string ⟨p.toArray⟩] w fun e w' => e = .returned (.bool (Lib.hasPrefix s p)) ∧ Ate r (Lib.trimPrefix s p) w w' := by
  have := eat_any r s ⟨p.toArray⟩ w h
  simpa using this
theorem trim_len (s p : List UInt8) : (Lib.trimPrefix s p).length ≤ s.length := by unfold Lib.trimPrefix; split <;> simp

/-! ### numbers -/
theorem arr256 : (Tryz.prog.info? 144).map (fun i => (i.zero, i.size)) = some (some (.agg (Array.replicate 256 (.bool false))), 256) := by kernel_rfl
set_option maxRecDepth 1000000 in
theorem trimLeft_cut (s : List UInt8) (w : World) : Calls Tryz.prog 94 #[.string ⟨s.toArray⟩, .string ⟨#[45, 48, 49, 50, 51, 52, 53, 54, 55, 56, 57]⟩] w fun e w' => e = .returned (.string ⟨(Lib.trimLeftS s cutL).toArray⟩) ∧ Below w.heap.size w w' := by
  have h := Any.strings_TrimLeft_laid Tryz.lays161 arr256 ⟨s.toArray⟩ ⟨#[45, 48, 49, 50, 51, 52, 53, 54, 55, 56, 57]⟩ w (by decide) (ascii_of_all (by decide))
  exact h
set_option maxRecDepth 1000000 in
theorem trimSuffix_at (s t : List UInt8) (w : World) (hs : s.length ≤ 10000) : Calls Tryz.prog 95 #[.string ⟨s.toArray⟩, .string ⟨t.toArray⟩] w fun e w' => e = .returned (.string ⟨(Lib.trimSuffix s t).toArray⟩) ∧ w' = w := by
  have hz : (⟨s.toArray⟩ : ByteArray).size = s.length := by rw [Lib.size_eq]
  have h := Tryz.strings_TrimSuffix ⟨s.toArray⟩ ⟨t.toArray⟩ w (by rw [hz]; exact Nat.le_trans hs (by decide))
  simpa using h
/-- the two errors of strconv read as values of an interface -/
def Errs (w : World) : Prop := (∃ tp p, w.var? Tryz.prog "strconv.ErrSyntax" = some #[.iface tp p]) ∧ ∃ tp p, w.var? Tryz.prog "strconv.ErrRange" = some #[.iface tp p]
def ErrsB (B : Nat) (w : World) : Prop := ∀ w', Below B w w' → Errs w'
theorem ErrsB.on {B r : Nat} {w w' : World} (h : ErrsB B w) (hB : B ≤ r) (hs : B ≤ w.heap.size) (ho : Oth r w w') : ErrsB B w' := fun w2 h2 => h w2 ((ho.below B hB hs).trans h2)
theorem ErrsB.here {B : Nat} {w : World} (h : ErrsB B w) : Errs w := h w (Below.refl _ _)
/-- ParseInt ends with an error -/
def ParseErr (w : World) (e : Ending) (w' : World) : Prop := ∃ (t : TypeId) (q : Addr) (y : Int), e = .returned (.tuple #[.int .i64 y, .iface t (.pointer (some q))]) ∧ Below w.heap.size w w'
theorem parse_ok (s : List UInt8) (hs : s.length ≤ 10000) (v : Int) (h : Lib.parseIntB 64 s = .ok v) (w : World) : Calls Tryz.prog 96 #[.string ⟨s.toArray⟩, .int .i64 10, .int .i64 64] w fun e w' => e = .returned (.tuple #[.int .i64 v, .nilIface]) ∧ Below w.heap.size w w' := by
  have hl : (⟨s.toArray⟩ : ByteArray).size ≤ 10000 := by rw [Lib.size_eq]; simpa using hs
  have hd : (⟨s.toArray⟩ : ByteArray).data.toList = s := by simp
  refine (Tryz.strconv_ParseInt_10_at64_ok ⟨s.toArray⟩ (by omega) v (by rw [hd]; exact h) w).mono ?_
  rintro e w' ⟨rfl, hw⟩
  refine ⟨rfl, ?_⟩
  rcases hw with rfl | ⟨t, rfl⟩
  · exact Below.refl _ _
  · exact Lib.bytesWorld_below _ _ _
theorem parse_err (s : List UInt8) (hs : s.length ≤ 10000) (h : ∀ v, Lib.parseIntB 64 s ≠ .ok v) (w : World) (he : Errs w) : Calls Tryz.prog 96 #[.string ⟨s.toArray⟩, .int .i64 10, .int .i64 64] w (ParseErr w) := by
  obtain ⟨⟨t1, p1, h1⟩, ⟨t2, p2, h2⟩⟩ := he
  have hl : (⟨s.toArray⟩ : ByteArray).size ≤ 10000 := by rw [Lib.size_eq]; simpa using hs
  have hd : (⟨s.toArray⟩ : ByteArray).data.toList = s := by simp
  cases hc : Lib.parseIntB 64 s with
  | ok v => exact absurd hc (h v)
  | range =>
    refine (Tryz.strconv_ParseInt_10_at64_range_var ⟨s.toArray⟩ (by omega) (by rw [hd]; exact hc) t2 p2 w h2).mono ?_
    rintro e w' ⟨N, rfl, _, _, hb⟩
    exact ⟨_, _, _, rfl, hb⟩
  | _ =>
    refine (Tryz.strconv_ParseInt_10_at64_syntax_var ⟨s.toArray⟩ (by omega) (by rw [hd]; exact hc) t1 p1 w h1).mono ?_
    rintro e w' ⟨N, rfl, _, _, hb⟩
    exact ⟨_, _, _, rfl, hb⟩
theorem digits_len (s : List UInt8) : (digitsR s).length ≤ s.length := by unfold digitsR Lib.trimSuffix; split <;> simp <;> omega
set_option maxRecDepth 100000 in
set_option maxHeartbeats 1000000 in
theorem number_any (B r : Nat) (s : List UInt8) (w : World) (h : Rd r s w) (hl : s.length ≤ 10000) (hB : B ≤ r) (he : ErrsB B w) :
    Calls Tryz.prog 76 #[.pointer (some ⟨r, 0, none⟩)] w fun e w' => e = .returned (.int .i64 (numV s)) ∧ Ate r (numR s) w w' := by
  have H := Lib.hid h
  obtain ⟨c0, f0, hz⟩ := h.facts
  have HE := Lib.hid he
  have HZ := Lib.hid hz
  have HL := Lib.hid (show (Lib.trimSuffix s (Lib.trimLeftS s cutL)).length ≤ 10000 from Nat.le_trans (digits_len s) hl)
  clear h he
  cases hc : Lib.parseIntB 64 (digitsR s) with
  | ok v =>
    have HV := Lib.hid (show numV s = v by unfold numV; rw [hc])
    have HC := Lib.hid (show Lib.parseIntB 64 (Lib.trimSuffix s (Lib.trimLeftS s cutL)) = .ok v from hc)
    clear hc
    go_enter Tryz.func76, Tryz.ntmps76
    go_wp2_with (go_at_call 94; (with_reducible refine (trimLeft_cut s _).mono ?_); rintro e w1 ⟨rfl, hb1⟩; have H1 := Lib.hid (Ate.of H.out hb1); clear hb1 c0 f0 hz; obtain ⟨c0, f0, hz⟩ := Rd.facts (Ate.rd H1.out))
    go_wp2_with (go_at_call 95; (with_reducible refine (trimSuffix_at s (Lib.trimLeftS s cutL) _ hl).mono ?_); rintro e w2 ⟨rfl, rfl⟩)
    go_wp2_with (go_at_call 74; (with_reducible refine (eat_at r s (Lib.trimSuffix s (Lib.trimLeftS s cutL)) _ (Ate.rd H1.out)).mono ?_); rintro e w3 ⟨rfl, hb3⟩; have H3 := Lib.hid (Ate.trans H1.out hb3); clear hb3)
    go_wp2_with (go_at_call 96; (with_reducible refine (parse_ok _ HL.out v HC.out _).mono ?_); rintro e w4 ⟨rfl, hb4⟩; have H4 := Lib.hid (Ate.trans H3.out (Ate.of (Ate.rd H3.out) hb4)); clear hb4)
    go_ret
    rw [HV.out]
    exact ⟨rfl, H4.out⟩
  | _ =>
    have HV := Lib.hid (show numV s = 0 by unfold numV; rw [hc])
    have HC := Lib.hid (show ∀ v, Lib.parseIntB 64 (Lib.trimSuffix s (Lib.trimLeftS s cutL)) ≠ .ok v by intro v; have hc2 : Lib.parseIntB 64 (Lib.trimSuffix s (Lib.trimLeftS s cutL)) = _ := hc; rw [hc2]; intro e; cases e)
    clear hc
    go_enter Tryz.func76, Tryz.ntmps76
    go_wp2_with (go_at_call 94; (with_reducible refine (trimLeft_cut s _).mono ?_); rintro e w1 ⟨rfl, hb1⟩; have H1 := Lib.hid (Ate.of H.out hb1); clear hb1 c0 f0 hz; obtain ⟨c0, f0, hz⟩ := Rd.facts (Ate.rd H1.out))
    go_wp2_with (go_at_call 95; (with_reducible refine (trimSuffix_at s (Lib.trimLeftS s cutL) _ hl).mono ?_); rintro e w2 ⟨rfl, rfl⟩)
    go_wp2_with (go_at_call 74; (with_reducible refine (eat_at r s (Lib.trimSuffix s (Lib.trimLeftS s cutL)) _ (Ate.rd H1.out)).mono ?_); rintro e w3 ⟨rfl, hb3⟩; have H3 := Lib.hid (Ate.trans H1.out hb3); clear hb3)
    go_wp2_with (go_at_call 96; (with_reducible refine (parse_err _ HL.out HC.out _ (ErrsB.here (ErrsB.on HE.out hB (by have := HZ.out; omega) (Ate.oth H3.out)))).mono ?_); rintro e w4 ⟨t, q, y, rfl, hb4⟩; have H4 := Lib.hid (Ate.trans H3.out (Ate.of (Ate.rd H3.out) hb4)); clear hb4)
    go_ret
    rw [HV.out]
    exact ⟨rfl, H4.out⟩
set_option maxRecDepth 100000 in
theorem register_any (B r : Nat) (s : List UInt8) (w : World) (h : Rd r s w) (hl : s.length ≤ 10000) (hB : B ≤ r) (he : ErrsB B w) :
    Calls Tryz.prog 75 #[.pointer (some ⟨r, 0, none⟩)] w fun e w' => e = .returned (.int .i64 (regV s)) ∧ Ate r (regR s) w w' := by
  have H := Lib.hid h
  have HE := Lib.hid he
  have HL := Lib.hid (Nat.le_trans (trim_len s [120]) hl)
  have HZ := Lib.hid (Rd.facts h).2.2
  clear h he
  go_enter Tryz.func75, Tryz.ntmps75
  go_wp2_with (go_at_call 74; (with_reducible refine (eat_at r s [120] _ H.out).mono ?_); rintro e w1 ⟨rfl, hb1⟩; have H1 := Lib.hid hb1; clear hb1)
  go_wp2_with (go_at_call 76; (with_reducible refine (number_any B r _ _ (Ate.rd H1.out) HL.out hB (ErrsB.on HE.out hB (by have := HZ.out; omega) (Ate.oth H1.out))).mono ?_); rintro e w2 ⟨rfl, hb2⟩; have H2 := Lib.hid (Ate.trans H1.out hb2); clear hb2)
  go_ret
  exact ⟨rfl, H2.out⟩

/-! ### marks, parts -/
set_option maxRecDepth 100000 in
set_option maxHeartbeats 1000000 in
theorem marks_any (r : Nat) (s : List UInt8) (w : World) (h : Rd r s w) :
    Calls Tryz.prog 77 #[.pointer (some ⟨r, 0, none⟩)] w fun e w' => e = .returned (.tuple #[.bool (aqV s), .bool (rlV s)]) ∧ Ate r (marksR s) w w' := by
  have H := Lib.hid h
  clear h
  cases hp : Lib.hasPrefix s [46]
  · have HA := Lib.hid (show aqV s = false ∧ rlV s = false ∧ marksR s = Lib.trimPrefix s [46] by
      refine ⟨by unfold aqV; rw [hp]; rfl, by unfold rlV; rw [hp]; rfl, ?_⟩
      unfold marksR; rw [hp, trim_not [46] s hp]; rfl)
    go_enter Tryz.func77, Tryz.ntmps77
    go_wp2_with (go_at_call 74; (with_reducible refine (eat_at r s [46] _ H.out).mono ?_); rintro e w1 ⟨rfl, hb1⟩; have H1 := Lib.hid hb1; clear hb1)
    go_ret2
    rw [HA.out.1, HA.out.2.1, HA.out.2.2]
    exact ⟨rfl, H1.out⟩
  · have HA := Lib.hid (show aqV s = Lib.hasPrefix (Lib.trimPrefix s [46]) [97, 113] ∧ rlV s = Lib.hasPrefix (Lib.trimPrefix (Lib.trimPrefix s [46]) [97, 113]) [114, 108] ∧ marksR s = Lib.trimPrefix (Lib.trimPrefix (Lib.trimPrefix s [46]) [97, 113]) [114, 108] by
      refine ⟨by unfold aqV; rw [hp]; rfl, by unfold rlV; rw [hp]; rfl, ?_⟩
      unfold marksR; rw [hp]; rfl)
    go_enter Tryz.func77, Tryz.ntmps77
    go_wp2_with (go_at_call 74; (with_reducible refine (eat_at r s [46] _ H.out).mono ?_); rintro e w1 ⟨rfl, hb1⟩; have H1 := Lib.hid hb1; clear hb1)
    go_wp2_with (go_at_call 74; (with_reducible refine (eat_at r _ [97, 113] _ (Ate.rd H1.out)).mono ?_); rintro e w2 ⟨rfl, hb2⟩; have H2 := Lib.hid (Ate.trans H1.out hb2); clear hb2)
    go_wp2_with (go_at_call 74; (with_reducible refine (eat_at r _ [114, 108] _ (Ate.rd H2.out)).mono ?_); rintro e w3 ⟨rfl, hb3⟩; have H3 := Lib.hid (Ate.trans H2.out hb3); clear hb3)
    go_ret2
    rw [HA.out.1, HA.out.2.1, HA.out.2.2]
    exact ⟨rfl, H3.out⟩
def betweenK (s : List UInt8) (k : Nat) : Nat × List UInt8 := (fenceL.take k).foldl partR (0, Lib.trimPrefix s [48])
theorem betweenK_4 (s : List UInt8) : betweenK s 4 = betweenS s := rfl
theorem betweenK_succ (s : List UInt8) (k : Nat) (hk : k < 4) : betweenK s (k + 1) = (if Lib.hasPrefix (betweenK s k).2 [fsign k] then (betweenK s k).1 ||| fbit k else (betweenK s k).1, Lib.trimPrefix (betweenK s k).2 [fsign k]) := by
  have hl : k < fenceL.length := hk
  have e : fenceL[k] = (fbit k, fsign k) := by simp [fbit, fsign, hl]
  unfold betweenK
  rw [List.take_succ_eq_append_getElem hl, List.foldl_append, e]
  rfl
theorem or_is : ∀ s : Fin 16, ∀ k : Fin 4, bits BinOp.or IntKind.i64 (s.1 : Nat) ((fbit k.1 : Nat) : Int) = ((s.1 ||| fbit k.1 : Nat) : Int) ∧ s.1 ||| fbit k.1 ≤ 15 := by decide +kernel
theorem betweenK_le (s : List UInt8) : ∀ k, k ≤ 4 → (betweenK s k).1 ≤ 15
  | 0, _ => by simp [betweenK]
  | k + 1, h => by
    have ih := betweenK_le s k (by omega)
    rw [betweenK_succ s k (by omega)]
    simp only
    split
    · exact (or_is ⟨(betweenK s k).1, by omega⟩ ⟨k, by omega⟩).2
    · exact ih
theorem or_at (s : List UInt8) (k : Nat) (hk : k < 4) : bits BinOp.or IntKind.i64 ((betweenK s k).1 : Nat) ((fbit k : Nat) : Int) = (((betweenK s k).1 ||| fbit k : Nat) : Int) :=
  (or_is ⟨(betweenK s k).1, by have := betweenK_le s k (by omega); omega⟩ ⟨k, hk⟩).1
set_option maxRecDepth 100000 in
set_option maxHeartbeats 1000000 in
theorem between_any (r : Nat) (s : List UInt8) (w : World) (h : Rd r s w) :
    Calls Tryz.prog 78 #[.pointer (some ⟨r, 0, none⟩)] w fun e w' => e = .returned (.int .i64 ((betweenS s).1 : Nat)) ∧ Ate r (betweenS s).2 w w' := by
  have H := Lib.hid h
  clear h
  go_enter Tryz.func78, Tryz.ntmps78
  go_wp2_with (go_at_call 74; (with_reducible refine (eat_at r s [48] _ H.out).mono ?_); rintro e w1 ⟨rfl, hb1⟩; have H1 := Lib.hid hb1; clear hb1)
  go_wp2_with (go_at_call 89; (with_reducible refine (parts_any _).mono ?_); rintro e w2 ⟨rfl, rfl⟩)
  go_loopw [3, 5, 9] (fun t _ i wr => ∃ k : Nat, k ≤ 4 ∧ i = .int .i64 k ∧ t = .int .i64 ((betweenK s k).1 : Nat) ∧ Hid (Ate r (betweenK s k).2 w wr)) (fun _ _ i _ => 4 - (intOf i).toNat)
  case atStart => exact ⟨0, by omega, rfl, rfl, Lib.hid (Ate.trans H1.out (Ate.of (Ate.rd H1.out) ((Below.refl _ _).alloc (Nat.le_refl _) _)))⟩
  case round =>
    obtain ⟨k, hk, rfl, rfl, HW⟩ := hrel
    by_cases hlt : k < 4
    · have hix := index_parts k hlt
      have hor := or_at s k hlt
      have HK := Lib.hid (betweenK_succ s k hlt)
      have HA := Lib.hid (Ate.trans HW.out (Ate.of (Ate.rd HW.out) ((Below.refl _ _).alloc (Nat.le_refl _) (.cells #[.int .i64 (fbit k : Nat), .string ⟨#[fsign k]⟩] 120))))
      have hz := (Rd.facts (Ate.rd HW.out)).2.2
      cases hp : Lib.hasPrefix (betweenK s k).2 [fsign k]
      · go_wp2_with (go_at_call 74; (with_reducible refine (eat_at r _ [fsign k] _ (Ate.rd HA.out)).mono ?_); rintro e w3 ⟨rfl, hb3⟩; have H3 := Lib.hid (Ate.trans HA.out hb3); clear hb3)
        go_roundw
        case rel => exact ⟨k + 1, by omega, by go_num, by rw [HK.out, hp]; rfl, Lib.hid (by rw [HK.out]; exact H3.out)⟩
        case measure => simp [intOf]; omega
      · go_wp2_with (go_at_call 74; (with_reducible refine (eat_at r _ [fsign k] _ (Ate.rd HA.out)).mono ?_); rintro e w3 ⟨rfl, hb3⟩; have HP3 := Lib.hid ((hb3.2.2.2.2.2 wr.heap.size (by simp) (by omega)).trans (heap_new _ _)); have hc3 : w3.cell? ⟨wr.heap.size, 0, none⟩ = some (.int .i64 (fbit k : Nat)) := (Lib.cell_of_heap HP3.out 0).trans rfl; have H3 := Lib.hid (Ate.trans HA.out hb3); clear hb3)
        go_roundw
        case rel => exact ⟨k + 1, by omega, by go_num, by rw [HK.out, hp]; rfl, Lib.hid (by rw [HK.out]; exact H3.out)⟩
        case measure => simp [intOf]; omega
    · have e : k = 4 := by omega
      subst e
      go_wp2
      go_ret
      exact ⟨rfl, HW.out⟩

/-! ### field -/
def Oth2 (r q : Nat) (w w' : World) : Prop := w'.os = w.os ∧ w'.tape = w.tape ∧ w'.output = w.output ∧ w.heap.size ≤ w'.heap.size ∧ ∀ k, k < w.heap.size → k ≠ r → k ≠ q → w'.heap[k]? = w.heap[k]?
theorem Oth2.refl (r q : Nat) (w : World) : Oth2 r q w w := ⟨rfl, rfl, rfl, Nat.le_refl _, fun _ _ _ _ => rfl⟩
theorem Oth2.trans {r q : Nat} {w w1 w2 : World} (h : Oth2 r q w w1) (k : Oth2 r q w1 w2) : Oth2 r q w w2 :=
  ⟨k.1.trans h.1, k.2.1.trans h.2.1, k.2.2.1.trans h.2.2.1, Nat.le_trans h.2.2.2.1 k.2.2.2.1, fun i hi hr hq => (k.2.2.2.2 i (Nat.lt_of_lt_of_le hi h.2.2.2.1) hr hq).trans (h.2.2.2.2 i hi hr hq)⟩
theorem Oth.two {r : Nat} {w w' : World} (h : Oth r w w') (q : Nat) : Oth2 r q w w' := ⟨h.1, h.2.1, h.2.2.1, h.2.2.2.1, fun k hk hr _ => h.2.2.2.2 k hk hr⟩
theorem Oth2.set (r q : Nat) (w : World) (o : Nat) (v : Value) : Oth2 r q w (w.setCell ⟨q, o, none⟩ v) :=
  ⟨rfl, rfl, rfl, by simp [World.setCell], fun k _ _ hq => Below.heap_setCell _ _ _ _ (fun e => hq e)⟩
theorem Oth2.below {r q : Nat} {w w' : World} (h : Oth2 r q w w') (B : Nat) (hB : B ≤ r) (hq : B ≤ q) (hs : B ≤ w.heap.size) : Below B w w' := ⟨h.1, h.2.1, h.2.2.1, h.2.2.2.1, fun k hk => h.2.2.2.2 k (by omega) (by omega) (by omega)⟩
/-- a field is read: what is left, the instruction so far, nothing else changed -/
def Fed (r q : Nat) (st : Ins × List UInt8) (w w' : World) : Prop := Rd r st.2 w' ∧ InsAt st.1 q w' ∧ Oth2 r q w w'
theorem Fed.rd {r q : Nat} {st : Ins × List UInt8} {w w' : World} (h : Fed r q st w w') : Rd r st.2 w' := h.1
theorem Fed.ins {r q : Nat} {st : Ins × List UInt8} {w w' : World} (h : Fed r q st w w') : InsAt st.1 q w' := h.2.1
theorem Fed.oth {r q : Nat} {st : Ins × List UInt8} {w w' : World} (h : Fed r q st w w') : Oth2 r q w w' := h.2.2
theorem Fed.trans {r q : Nat} {st st2 : Ins × List UInt8} {w w1 w2 : World} (h : Fed r q st w w1) (k : Fed r q st2 w1 w2) : Fed r q st2 w w2 := ⟨k.1, k.2.1, h.2.2.trans k.2.2⟩
theorem Fed.ate {r q : Nat} {j : Ins} {s : List UInt8} {w w' : World} (hj : InsAt j q w) (hqr : q ≠ r) (h : Ate r s w w') : Fed r q (j, s) w w' :=
  ⟨h.1, (h.2.2.2.2.2 q (Array.getElem?_eq_some_iff.1 hj).1 hqr).trans hj, h.2.two q⟩
theorem InsAt.free {i : Ins} {n : Nat} {w : World} (h : InsAt i n w) (o : Nat) : w.frozen? ⟨n, o, none⟩ = false := Lib.frozen_of_heap h o
theorem Rd.keep {r q : Nat} {s : List UInt8} {w : World} (h : Rd r s w) (hqr : q ≠ r) (o : Nat) (v : Value) : Rd r s (w.setCell ⟨q, o, none⟩ v) := (Below.heap_setCell _ _ _ _ (fun e => hqr e.symm)).trans h
theorem ins_set {j : Ins} {q : Nat} {w : World} (h : InsAt j q w) (o : Nat) (v : Value) (j2 : Ins) (he : (insCells j).setIfInBounds o v = insCells j2) : InsAt j2 q (w.setCell ⟨q, o, none⟩ v) := by
  unfold InsAt at *
  rw [← he]
  simp [World.setCell, Array.getElem?_modify, h]
theorem Fed.put {r q : Nat} {j j2 : Ins} {s : List UInt8} {w w' : World} (h : Fed r q (j, s) w w') (hqr : q ≠ r) (o : Nat) (v : Value) (he : (insCells j).setIfInBounds o v = insCells j2) : Fed r q (j2, s) w (w'.setCell ⟨q, o, none⟩ v) :=
  ⟨Rd.keep h.1 hqr o v, ins_set h.2.1 o v j2 he, h.2.2.trans (Oth2.set r q w' o v)⟩
set_option maxRecDepth 100000 in
theorem fieldR_100 (B r q : Nat) (j : Ins) (s : List UInt8) (w : World) (h : Rd r s w) (hj : InsAt j q w) (hqr : q ≠ r) (hl : s.length ≤ 10000) (hB : B ≤ r) (he : ErrsB B w) :
    Calls Tryz.prog 53 #[.pointer (some ⟨r, 0, none⟩), .int .i32 100, .pointer (some ⟨q, 0, none⟩)] w fun e w' => e = .returned (.tuple #[]) ∧ Fed r q (fieldR (j, s) 100) w w' := by
  have H := Lib.hid h
  have HJ := Lib.hid hj
  have HE := Lib.hid he
  clear h hj he
  go_enter Tryz.func53, Tryz.ntmps53
  go_wp2_with (go_at_call 75; (with_reducible refine (register_any B r s _ H.out hl hB HE.out).mono ?_); rintro e w1 ⟨rfl, hb1⟩; have H1 := Lib.hid (Fed.ate HJ.out hqr hb1); clear hb1; have f1 := InsAt.free (Fed.ins H1.out) 1; obtain ⟨hz1, -, c1, c2, c3, c4, c5, c6, c7, c8⟩ := InsAt.facts (Fed.ins H1.out))
  go_end0
  exact ⟨rfl, Fed.put H1.out hqr 1 _ rfl⟩
set_option maxRecDepth 100000 in
theorem fieldR_49 (B r q : Nat) (j : Ins) (s : List UInt8) (w : World) (h : Rd r s w) (hj : InsAt j q w) (hqr : q ≠ r) (hl : s.length ≤ 10000) (hB : B ≤ r) (he : ErrsB B w) :
    Calls Tryz.prog 53 #[.pointer (some ⟨r, 0, none⟩), .int .i32 49, .pointer (some ⟨q, 0, none⟩)] w fun e w' => e = .returned (.tuple #[]) ∧ Fed r q (fieldR (j, s) 49) w w' := by
  have H := Lib.hid h
  have HJ := Lib.hid hj
  have HE := Lib.hid he
  clear h hj he
  go_enter Tryz.func53, Tryz.ntmps53
  go_wp2_with (go_at_call 75; (with_reducible refine (register_any B r s _ H.out hl hB HE.out).mono ?_); rintro e w1 ⟨rfl, hb1⟩; have H1 := Lib.hid (Fed.ate HJ.out hqr hb1); clear hb1; have f1 := InsAt.free (Fed.ins H1.out) 2; obtain ⟨hz1, -, c1, c2, c3, c4, c5, c6, c7, c8⟩ := InsAt.facts (Fed.ins H1.out))
  go_end0
  exact ⟨rfl, Fed.put H1.out hqr 2 _ rfl⟩
set_option maxRecDepth 100000 in
theorem fieldR_50 (B r q : Nat) (j : Ins) (s : List UInt8) (w : World) (h : Rd r s w) (hj : InsAt j q w) (hqr : q ≠ r) (hl : s.length ≤ 10000) (hB : B ≤ r) (he : ErrsB B w) :
    Calls Tryz.prog 53 #[.pointer (some ⟨r, 0, none⟩), .int .i32 50, .pointer (some ⟨q, 0, none⟩)] w fun e w' => e = .returned (.tuple #[]) ∧ Fed r q (fieldR (j, s) 50) w w' := by
  have H := Lib.hid h
  have HJ := Lib.hid hj
  have HE := Lib.hid he
  clear h hj he
  go_enter Tryz.func53, Tryz.ntmps53
  go_wp2_with (go_at_call 75; (with_reducible refine (register_any B r s _ H.out hl hB HE.out).mono ?_); rintro e w1 ⟨rfl, hb1⟩; have H1 := Lib.hid (Fed.ate HJ.out hqr hb1); clear hb1; have f1 := InsAt.free (Fed.ins H1.out) 3; obtain ⟨hz1, -, c1, c2, c3, c4, c5, c6, c7, c8⟩ := InsAt.facts (Fed.ins H1.out))
  go_end0
  exact ⟨rfl, Fed.put H1.out hqr 3 _ rfl⟩
set_option maxRecDepth 100000 in
theorem fieldR_105 (B r q : Nat) (j : Ins) (s : List UInt8) (w : World) (h : Rd r s w) (hj : InsAt j q w) (hqr : q ≠ r) (hl : s.length ≤ 10000) (hB : B ≤ r) (he : ErrsB B w) :
    Calls Tryz.prog 53 #[.pointer (some ⟨r, 0, none⟩), .int .i32 105, .pointer (some ⟨q, 0, none⟩)] w fun e w' => e = .returned (.tuple #[]) ∧ Fed r q (fieldR (j, s) 105) w w' := by
  have H := Lib.hid h
  have HJ := Lib.hid hj
  have HE := Lib.hid he
  clear h hj he
  go_enter Tryz.func53, Tryz.ntmps53
  go_wp2_with (go_at_call 76; (with_reducible refine (number_any B r s _ H.out hl hB HE.out).mono ?_); rintro e w1 ⟨rfl, hb1⟩; have H1 := Lib.hid (Fed.ate HJ.out hqr hb1); clear hb1; have f1 := InsAt.free (Fed.ins H1.out) 4; obtain ⟨hz1, -, c1, c2, c3, c4, c5, c6, c7, c8⟩ := InsAt.facts (Fed.ins H1.out))
  go_end0
  exact ⟨rfl, Fed.put H1.out hqr 4 _ rfl⟩
set_option maxRecDepth 100000 in
theorem fieldR_112 (r q : Nat) (j : Ins) (s : List UInt8) (w : World) (h : Rd r s w) (hj : InsAt j q w) (hqr : q ≠ r) :
    Calls Tryz.prog 53 #[.pointer (some ⟨r, 0, none⟩), .int .i32 112, .pointer (some ⟨q, 0, none⟩)] w fun e w' => e = .returned (.tuple #[]) ∧ Fed r q (fieldR (j, s) 112) w w' := by
  have H := Lib.hid h
  have HJ := Lib.hid hj
  clear h hj
  go_enter Tryz.func53, Tryz.ntmps53
  go_wp2_with (go_at_call 78; (with_reducible refine (between_any r s _ H.out).mono ?_); rintro e w1 ⟨rfl, hb1⟩; have H1 := Lib.hid (Fed.ate HJ.out hqr hb1); clear hb1; have f1 := InsAt.free (Fed.ins H1.out) 7; obtain ⟨hz1, -, c1, c2, c3, c4, c5, c6, c7, c8⟩ := InsAt.facts (Fed.ins H1.out))
  go_end0
  exact ⟨rfl, Fed.put H1.out hqr 7 _ rfl⟩
set_option maxRecDepth 100000 in
theorem fieldR_115 (r q : Nat) (j : Ins) (s : List UInt8) (w : World) (h : Rd r s w) (hj : InsAt j q w) (hqr : q ≠ r) :
    Calls Tryz.prog 53 #[.pointer (some ⟨r, 0, none⟩), .int .i32 115, .pointer (some ⟨q, 0, none⟩)] w fun e w' => e = .returned (.tuple #[]) ∧ Fed r q (fieldR (j, s) 115) w w' := by
  have H := Lib.hid h
  have HJ := Lib.hid hj
  clear h hj
  go_enter Tryz.func53, Tryz.ntmps53
  go_wp2_with (go_at_call 78; (with_reducible refine (between_any r s _ H.out).mono ?_); rintro e w1 ⟨rfl, hb1⟩; have H1 := Lib.hid (Fed.ate HJ.out hqr hb1); clear hb1; have f1 := InsAt.free (Fed.ins H1.out) 8; obtain ⟨hz1, -, c1, c2, c3, c4, c5, c6, c7, c8⟩ := InsAt.facts (Fed.ins H1.out))
  go_end0
  exact ⟨rfl, Fed.put H1.out hqr 8 _ rfl⟩
set_option maxRecDepth 100000 in
theorem fieldR_109 (r q : Nat) (j : Ins) (s : List UInt8) (w : World) (h : Rd r s w) (hj : InsAt j q w) (hqr : q ≠ r) :
    Calls Tryz.prog 53 #[.pointer (some ⟨r, 0, none⟩), .int .i32 109, .pointer (some ⟨q, 0, none⟩)] w fun e w' => e = .returned (.tuple #[]) ∧ Fed r q (fieldR (j, s) 109) w w' := by
  have H := Lib.hid h
  have HJ := Lib.hid hj
  clear h hj
  go_enter Tryz.func53, Tryz.ntmps53
  go_wp2_with (go_at_call 77; (with_reducible refine (marks_any r s _ H.out).mono ?_); rintro e w1 ⟨rfl, hb1⟩; have H1 := Lib.hid (Fed.ate HJ.out hqr hb1); clear hb1; have f1 := InsAt.free (Fed.ins H1.out) 5; obtain ⟨hz1, -, c1, c2, c3, c4, c5, c6, c7, c8⟩ := InsAt.facts (Fed.ins H1.out); have f2 := InsAt.free (Fed.ins H1.out) 6)
  go_end0
  exact ⟨rfl, Fed.put (Fed.put H1.out hqr 5 _ (j2 := { j with aq := aqV s }) rfl) hqr 6 _ rfl⟩
set_option maxRecDepth 100000 in
theorem fieldR_32 (r q : Nat) (j : Ins) (s : List UInt8) (w : World) (h : Rd r s w) (hj : InsAt j q w) (hqr : q ≠ r) :
    Calls Tryz.prog 53 #[.pointer (some ⟨r, 0, none⟩), .int .i32 32, .pointer (some ⟨q, 0, none⟩)] w fun e w' => e = .returned (.tuple #[]) ∧ Fed r q (fieldR (j, s) 32) w w' := by
  have H := Lib.hid h
  have HJ := Lib.hid hj
  have hcv : ∀ w : World, (convert 21 9 (.int .i32 32)).run Tryz.prog w = .ok (.string ⟨#[32]⟩) w := fun _ => by kernel_rfl
  clear h hj
  go_enter Tryz.func53, Tryz.ntmps53
  go_wp2_with (go_at_call 74; (with_reducible refine (eat_at r s [32] _ H.out).mono ?_); rintro e w1 ⟨rfl, hb1⟩; have H1 := Lib.hid (Fed.ate HJ.out hqr hb1); clear hb1)
  go_end0
  exact ⟨rfl, H1.out⟩
set_option maxRecDepth 100000 in
theorem fieldR_44 (r q : Nat) (j : Ins) (s : List UInt8) (w : World) (h : Rd r s w) (hj : InsAt j q w) (hqr : q ≠ r) :
    Calls Tryz.prog 53 #[.pointer (some ⟨r, 0, none⟩), .int .i32 44, .pointer (some ⟨q, 0, none⟩)] w fun e w' => e = .returned (.tuple #[]) ∧ Fed r q (fieldR (j, s) 44) w w' := by
  have H := Lib.hid h
  have HJ := Lib.hid hj
  have hcv : ∀ w : World, (convert 21 9 (.int .i32 44)).run Tryz.prog w = .ok (.string ⟨#[44]⟩) w := fun _ => by kernel_rfl
  clear h hj
  go_enter Tryz.func53, Tryz.ntmps53
  go_wp2_with (go_at_call 74; (with_reducible refine (eat_at r s [44] _ H.out).mono ?_); rintro e w1 ⟨rfl, hb1⟩; have H1 := Lib.hid (Fed.ate HJ.out hqr hb1); clear hb1)
  go_end0
  exact ⟨rfl, H1.out⟩
set_option maxRecDepth 100000 in
theorem fieldR_40 (r q : Nat) (j : Ins) (s : List UInt8) (w : World) (h : Rd r s w) (hj : InsAt j q w) (hqr : q ≠ r) :
    Calls Tryz.prog 53 #[.pointer (some ⟨r, 0, none⟩), .int .i32 40, .pointer (some ⟨q, 0, none⟩)] w fun e w' => e = .returned (.tuple #[]) ∧ Fed r q (fieldR (j, s) 40) w w' := by
  have H := Lib.hid h
  have HJ := Lib.hid hj
  have hcv : ∀ w : World, (convert 21 9 (.int .i32 40)).run Tryz.prog w = .ok (.string ⟨#[40]⟩) w := fun _ => by kernel_rfl
  clear h hj
  go_enter Tryz.func53, Tryz.ntmps53
  go_wp2_with (go_at_call 74; (with_reducible refine (eat_at r s [40] _ H.out).mono ?_); rintro e w1 ⟨rfl, hb1⟩; have H1 := Lib.hid (Fed.ate HJ.out hqr hb1); clear hb1)
  go_end0
  exact ⟨rfl, H1.out⟩
set_option maxRecDepth 100000 in
theorem fieldR_41 (r q : Nat) (j : Ins) (s : List UInt8) (w : World) (h : Rd r s w) (hj : InsAt j q w) (hqr : q ≠ r) :
    Calls Tryz.prog 53 #[.pointer (some ⟨r, 0, none⟩), .int .i32 41, .pointer (some ⟨q, 0, none⟩)] w fun e w' => e = .returned (.tuple #[]) ∧ Fed r q (fieldR (j, s) 41) w w' := by
  have H := Lib.hid h
  have HJ := Lib.hid hj
  have hcv : ∀ w : World, (convert 21 9 (.int .i32 41)).run Tryz.prog w = .ok (.string ⟨#[41]⟩) w := fun _ => by kernel_rfl
  clear h hj
  go_enter Tryz.func53, Tryz.ntmps53
  go_wp2_with (go_at_call 74; (with_reducible refine (eat_at r s [41] _ H.out).mono ?_); rintro e w1 ⟨rfl, hb1⟩; have H1 := Lib.hid (Fed.ate HJ.out hqr hb1); clear hb1)
  go_end0
  exact ⟨rfl, H1.out⟩
theorem fieldR_any (B r q : Nat) (j : Ins) (s : List UInt8) (c : UInt8) (hc : c ∈ lettersL) (w : World) (h : Rd r s w) (hj : InsAt j q w) (hqr : q ≠ r) (hl : s.length ≤ 10000) (hB : B ≤ r) (he : ErrsB B w) :
    Calls Tryz.prog 53 #[.pointer (some ⟨r, 0, none⟩), .int .i32 (c.toNat : Nat), .pointer (some ⟨q, 0, none⟩)] w fun e w' => e = .returned (.tuple #[]) ∧ Fed r q (fieldR (j, s) c) w w' := by
  simp only [lettersL, List.mem_cons, List.not_mem_nil, or_false] at hc
  rcases hc with rfl | rfl | rfl | rfl | rfl | rfl | rfl | rfl | rfl | rfl | rfl
  · exact fieldR_100 B r q j s w h hj hqr hl hB he
  · exact fieldR_49 B r q j s w h hj hqr hl hB he
  · exact fieldR_50 B r q j s w h hj hqr hl hB he
  · exact fieldR_105 B r q j s w h hj hqr hl hB he
  · exact fieldR_109 r q j s w h hj hqr
  · exact fieldR_112 r q j s w h hj hqr
  · exact fieldR_115 r q j s w h hj hqr
  · exact fieldR_32 r q j s w h hj hqr
  · exact fieldR_44 r q j s w h hj hqr
  · exact fieldR_40 r q j s w h hj hqr
  · exact fieldR_41 r q j s w h hj hqr
end Go.Proofs.YtplneijbhmhmoaaGreatDoor
