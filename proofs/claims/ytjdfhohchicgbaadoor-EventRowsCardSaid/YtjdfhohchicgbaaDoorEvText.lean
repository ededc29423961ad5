/-
  Proved here: event's Text answers an event's text, or nothing; nothing that was there is changed. Condition: the tables of strconv and math/bits as the library lays them; lists of at most 100,000 numbers.
-/
import Derived.Test.YtjdfhohchicgbaaDoorEvAsk
import Derived.Deep.RegionHeld3
import Derived.Lib.AppendIntMem
import Derived.Lib.ItoaLen
import Derived.Lib.Repeat
import Derived.Laws.Concat
namespace Go.Proofs.YtjdfhohchicgbaaDoor
open Go.RowKit
attribute [local go_sem ↓] fold_E fold_SE

/-- the tables of Go's library, as it lays them, in whatever world behind -/
def Tabs (w : World) : Prop := TabZ w ∧ Lib.TabIs Tryd.prog w "internal/strconv.uint64pow10" .u64 Lib.pow10Tab
def TabB (w : World) : Prop := ∀ w', Below w.heap.size w w' → Tabs w'
theorem TabB.on {w w' : World} (h : TabB w) (hb : Below w.heap.size w w') : TabB w' := fun w2 h2 => h w2 (hb.trans (h2.mono hb.size))
theorem TabB.tabs {w w' : World} (h : TabB w) (hb : Below w.heap.size w w') : Tabs w' := h w' hb
theorem Tabs.z {w : World} (h : Tabs w) : TabZ w := h.1
theorem TabB.here {w : World} (h : TabB w) : Tabs w := h w (Below.refl _ _)
set_option maxHeartbeats 2000000 in
theorem Text_bad (e : Ev) (l : El) (w : World) (h : EReads w e l) (hn : l.n) (hu : 0 ≤ e.addr) (hc : Hid (chkE e l = false)) : Calls Tryd.prog 11 #[e.V] w fun e' w' => TextIs w ⟨#[]⟩ e' w' := by
  have HE := Lib.hid (EvAt.new e w)
  have HB := Lib.hid (box_below w (.cells #[.int .i64 e.hart, .int .i64 e.pos, .int .i64 e.kind, .int .u64 e.addr, .int .u64 e.load, .int .u64 e.store, .bool e.aq, .bool e.rl, .int .i64 e.pred, .int .i64 e.succ, .int .i64 e.pair, e.a, e.d, e.y] 27))
  have HC := Lib.hid (fun (w1 : World) (hb : Below w.heap.size w w1) => check_any e l w1 (h.below hb) hn hu)
  rw [hc.out] at HC
  clear h
  go_enter Tryd.func11, Tryd.ntmps11
  go_upto_region 1 with fail
  have cl := run_LoadE HE.out
  go_wp2_with (go_at_call 13; (with_reducible refine (HC.out _ HB.out).mono ?_); rintro e' w1 ⟨rfl, hb⟩; have HB1 := Lib.hid (HB.out.trans (hb.mono HB.out.size)); clear hb cl)
  go_ret
  exact ⟨rfl, HB1.out⟩
def itoaS (n : Int) : ByteArray := ⟨(Lib.itoa n).toArray⟩
theorem itoa_any (n : Int) (hn : -9223372036854775808 ≤ n ∧ n ≤ 9223372036854775807) (w : World) (h : Tabs w) : Calls Tryd.prog 28 #[.int .i64 n] w fun e w' => TextIs w (itoaS n) e w' := by
  refine (Tryd.strconv_Itoa n hn.1 hn.2 w h.2).mono ?_
  rintro e w' ⟨rfl, k, os, rfl⟩
  exact ⟨rfl, Lib.below_grow _ w (Nat.le_refl _) k os⟩
theorem add_is {a b c : ByteArray} (h : Hid (a ++ b = c)) (hs : a.size + b.size ≤ 1000000) (w : World) : (Op.stringOp .add a b).run Tryd.prog w = .ok (.string c) w := by rw [run_string_add_sum w a b (by omega), h.out]
theorem size_is {a b c : ByteArray} (h : Hid (a ++ b = c)) : c.size = a.size + b.size := by rw [← h.out]; simp
theorem itoaS_le (n : Int) (h : -9223372036854775808 ≤ n ∧ n ≤ 9223372036854775807) : (itoaS n).size ≤ 21 := by
  have := Lib.itoa_length_le n h.1 h.2
  unfold itoaS
  simpa [ByteArray.size] using this
theorem itoaS_pos (n : Int) : 1 ≤ (itoaS n).size := by
  have h : 1 ≤ (Lib.itoa n).length := by
    unfold Lib.itoa
    split
    · simp
    · rw [Lib.decDigits_length]; exact Lib.nDigits_pos _
  unfold itoaS
  simpa [ByteArray.size] using h
theorem hexS_size (u : Nat) (h : u < 18446744073709551616) : 1 ≤ (hexS u).size ∧ (hexS u).size ≤ 16 := by
  have := hexL_len u h
  unfold hexS
  simpa [ByteArray.size] using this
theorem nameS_le (k : Int) : (nameS k).size ≤ 5 := by unfold nameS; repeat (first | decide | split)
def repS (c : Nat) : ByteArray := ⟨(Lib.repeatL [48] c).toArray⟩
theorem repS_size (c : Nat) : (repS c).size = c := by
  unfold repS
  have := Lib.repeatL_length [48] c
  simpa [ByteArray.size] using this
theorem rep_any (c : Nat) (h : c ≤ 1000) (w : World) : Calls Tryd.prog 31 #[.string ⟨#[48]⟩, .int .i64 c] w fun e w' => TextIs w (repS c) e w' := by
  refine (Tryd.strings_Repeat ⟨#[48]⟩ c w (by omega) (by show 1 * c ≤ _; omega)).mono ?_
  rintro e w' ⟨rfl, hb⟩
  exact ⟨rfl, hb⟩
/-- an event's text, part by part -/
def baseS (e : Ev) : ByteArray := (((itoaS e.hart ++ ⟨#[58]⟩) ++ itoaS e.pos) ++ ⟨#[32]⟩) ++ nameS e.kind
def memS (u : Nat) : ByteArray := ((⟨#[32]⟩ ++ repS (16 - (hexS u).size)) ++ hexS u)
def textS (e : Ev) (u x y : Nat) (b1 b2 b3 : Bool) : ByteArray :=
  let s1 := if b1 then baseS e ++ memS u else baseS e
  let s2 := if b2 then s1 ++ (⟨#[32, 114]⟩ ++ hexS x) else s1
  if b3 then s2 ++ (⟨#[32, 119]⟩ ++ hexS y) else s2
/-- what the walk holds on to -/
structure Txt (e : Ev) (w W : World) : Prop where
  here : EvAt e w.heap.size W
  below : Below w.heap.size w W
theorem Txt.on {e : Ev} {w W W2 : World} (h : Txt e w W) (hb : Below W.heap.size W W2) : Txt e w W2 := ⟨h.here.on hb, h.below.trans (hb.mono h.below.size)⟩
theorem Txt.drew {e : Ev} {w W : World} (h : Txt e w W) : Txt e w W.drew := h.on (Below.refl _ _).drew
theorem Txt.f3 {e : Ev} {w W : World} (h : Txt e w W) : W.cell? ⟨w.heap.size, 0, none⟩ = some (.int .i64 e.hart) ∧ W.cell? ⟨w.heap.size, 1, none⟩ = some (.int .i64 e.pos) ∧ W.cell? ⟨w.heap.size, 2, none⟩ = some (.int .i64 e.kind) := ⟨h.here.facts.2.1, h.here.facts.2.2.1, h.here.facts.2.2.2.1⟩
theorem Txt.load {e : Ev} {w W : World} (h : Txt e w W) : (LoadE (.pointer (some ⟨w.heap.size, 0, none⟩))).run Tryd.prog W = .ok e.V W := run_LoadE h.here
theorem Txt.m {e : Ev} {w W : World} (h : Txt e w W) {u x y : Nat} (hu : Hid (e.addr = u)) (hx : Hid (e.load = x)) (hy : Hid (e.store = y)) : W.cell? ⟨w.heap.size, 3, none⟩ = some (.int .u64 (u : Int)) ∧ W.cell? ⟨w.heap.size, 4, none⟩ = some (.int .u64 (x : Int)) ∧ W.cell? ⟨w.heap.size, 5, none⟩ = some (.int .u64 (y : Int)) := by
  obtain ⟨_, _, _, _, f3, f4, f5, _⟩ := h.here.facts
  rw [hu.out] at f3
  rw [hx.out] at f4
  rw [hy.out] at f5
  exact ⟨f3, f4, f5⟩
set_option maxRecDepth 100000 in
set_option maxHeartbeats 8000000 in
theorem Text_ok (e : Ev) (l : El) (w : World) (u x y : Nat) (hT : TabB w) (h : EReads w e l) (hn : l.n) (hc : Hid (chkE e l = true)) (hk : Hid (1 ≤ e.kind ∧ e.kind ≤ 6)) (hh : Hid (-9223372036854775808 ≤ e.hart ∧ e.hart ≤ 9223372036854775807)) (hp : Hid (-9223372036854775808 ≤ e.pos ∧ e.pos ≤ 9223372036854775807))
    (hu : e.addr = u) (hx : e.load = x) (hy : e.store = y) (lu : u < 18446744073709551616) (lx : x < 18446744073709551616) (ly : y < 18446744073709551616) (b1 b2 b3 : Bool) (g1 : Hid (hasB (fieldsOf e.kind) 8 = b1)) (g2 : Hid (hasB (fieldsOf e.kind) 16 = b2)) (g3 : Hid (hasB (fieldsOf e.kind) 32 = b3)) :
    Calls Tryd.prog 11 #[e.V] w fun e' w' => TextIs w (textS e u x y b1 b2 b3) e' w' := by
  have HE := Lib.hid (EvAt.new e w)
  have HB := Lib.hid (box_below w (.cells #[.int .i64 e.hart, .int .i64 e.pos, .int .i64 e.kind, .int .u64 e.addr, .int .u64 e.load, .int .u64 e.store, .bool e.aq, .bool e.rl, .int .i64 e.pred, .int .i64 e.succ, .int .i64 e.pair, e.a, e.d, e.y] 27))
  have HC := Lib.hid (fun (w1 : World) (hb : Below w.heap.size w w1) => check_any e l w1 (h.below hb) hn (by rw [hu]; omega))
  have HT := Lib.hid hT
  rw [hc.out] at HC
  have HU := Lib.hid hu
  have HX := Lib.hid hx
  have HY := Lib.hid hy
  have KM := Lib.hid (fun w0 => Memory_any e w0)
  have KR := Lib.hid (fun w0 => Reads_any e w0)
  have KW := Lib.hid (fun w0 => Writes_any e w0)
  rw [g1.out] at KM
  rw [g2.out] at KR
  rw [g3.out] at KW
  have z0 := itoaS_le e.hart hh.out
  have z1 := itoaS_le e.pos hp.out
  have z2 := nameS_le e.kind
  have zu := hexS_size u lu
  have zx := hexS_size x lx
  have zy := hexS_size y ly
  obtain ⟨t1, q1⟩ : ∃ t, Hid (itoaS e.hart ++ ⟨#[58]⟩ = t) := ⟨_, Lib.hid rfl⟩
  obtain ⟨t2, q2⟩ : ∃ t, Hid (t1 ++ itoaS e.pos = t) := ⟨_, Lib.hid rfl⟩
  obtain ⟨t3, q3⟩ : ∃ t, Hid (t2 ++ ⟨#[32]⟩ = t) := ⟨_, Lib.hid rfl⟩
  obtain ⟨t4, q4⟩ : ∃ t, Hid (t3 ++ nameS e.kind = t) := ⟨_, Lib.hid rfl⟩
  have one : ∀ b : UInt8, (ByteArray.mk #[b]).size = 1 := fun _ => rfl
  have two : ∀ a b : UInt8, (ByteArray.mk #[a, b]).size = 2 := fun _ _ => rfl
  have y1 := size_is q1
  have y2 := size_is q2
  have y3 := size_is q3
  have y4 := size_is q4
  rw [one] at y1 y3
  have r1 := Lib.hid (add_is q1 (by rw [one]; omega))
  have r2 := Lib.hid (add_is q2 (by omega))
  have r3 := Lib.hid (add_is q3 (by rw [one]; omega))
  have r4 := Lib.hid (add_is q4 (by omega))
  have hbase : Hid (baseS e = t4) := Lib.hid (by unfold baseS; rw [q1.out, q2.out, q3.out, q4.out])
  -- memory's part
  obtain ⟨c, hcc⟩ : ∃ c, Hid (16 - (hexS u).size = c) := ⟨_, Lib.hid rfl⟩
  have hc16 : c ≤ 16 := by rw [← hcc.out]; omega
  have hsub := Lib.hid (show (16 : Int) - ((hexS u).size : Int) = (c : Int) by rw [← hcc.out]; omega)
  have zr := repS_size c
  obtain ⟨m1, p1⟩ : ∃ t, Hid ((⟨#[32]⟩ : ByteArray) ++ repS c = t) := ⟨_, Lib.hid rfl⟩
  obtain ⟨m2, p2⟩ : ∃ t, Hid (m1 ++ hexS u = t) := ⟨_, Lib.hid rfl⟩
  have x1 := size_is p1
  have x2 := size_is p2
  rw [one, zr] at x1
  have k1 := Lib.hid (add_is p1 (by rw [one, zr]; omega))
  have k2 := Lib.hid (add_is p2 (by omega))
  have hmem : Hid (memS u = m2) := Lib.hid (by unfold memS; rw [hcc.out, p1.out, p2.out])
  obtain ⟨n1, o1⟩ : ∃ t, Hid ((⟨#[32, 114]⟩ : ByteArray) ++ hexS x = t) := ⟨_, Lib.hid rfl⟩
  obtain ⟨n2, o2⟩ : ∃ t, Hid ((⟨#[32, 119]⟩ : ByteArray) ++ hexS y = t) := ⟨_, Lib.hid rfl⟩
  have x3 := size_is o1
  have x4 := size_is o2
  rw [two] at x3 x4
  have k3 := Lib.hid (add_is o1 (by rw [two]; omega))
  have k4 := Lib.hid (add_is o2 (by rw [two]; omega))
  obtain ⟨s1, v1⟩ : ∃ t, Hid ((if b1 then t4 ++ m2 else t4) = t) := ⟨_, Lib.hid rfl⟩
  obtain ⟨s2, v2⟩ : ∃ t, Hid ((if b2 then s1 ++ n1 else s1) = t) := ⟨_, Lib.hid rfl⟩
  obtain ⟨s3, v3⟩ : ∃ t, Hid ((if b3 then s2 ++ n2 else s2) = t) := ⟨_, Lib.hid rfl⟩
  have hend : Hid (textS e u x y b1 b2 b3 = s3) := Lib.hid (by unfold textS; simp only [hbase.out, hmem.out, o1.out, o2.out, v1.out, v2.out, v3.out])
  have zs1 : s1.size ≤ 200 := by rw [← v1.out]; split <;> (try simp only [ByteArray.size_append]) <;> omega
  have zs2 : s2.size ≤ 300 := by rw [← v2.out]; split <;> (try simp only [ByteArray.size_append]) <;> omega
  rw [hend.out]
  have l1 : Hid (b1 = true → ∀ w, (Op.stringOp .add t4 m2).run Tryd.prog w = .ok (.string s1) w) := Lib.hid (fun hb => add_is (Lib.hid (by rw [← v1.out, if_pos hb])) (by omega))
  have l2 : Hid (b2 = true → ∀ w, (Op.stringOp .add s1 n1).run Tryd.prog w = .ok (.string s2) w) := Lib.hid (fun hb => add_is (Lib.hid (by rw [← v2.out, if_pos hb])) (by omega))
  have l3 : Hid (b3 = true → ∀ w, (Op.stringOp .add s2 n2).run Tryd.prog w = .ok (.string s3) w) := Lib.hid (fun hb => add_is (Lib.hid (by rw [← v3.out, if_pos hb])) (by omega))
  have e1 : Hid (b1 = false → t4 = s1) := Lib.hid (fun hb => by rw [← v1.out, if_neg (by rw [hb]; decide)])
  have e2 : Hid (b2 = false → s1 = s2) := Lib.hid (fun hb => by rw [← v2.out, if_neg (by rw [hb]; decide)])
  have e3 : Hid (b3 = false → s2 = s3) := Lib.hid (fun hb => by rw [← v3.out, if_neg (by rw [hb]; decide)])
  clear h hT hu hx hy g1 g2 g3 z0 z1 z2 zu zx zy q1 q2 q3 q4 y1 y2 y3 y4 p1 p2 x1 x2 o1 o2 x3 x4 v1 v2 v3 hbase hmem zs1 zs2 hend one two zr hcc
  have r1' := r1.out
  have r2' := r2.out
  have r3' := r3.out
  have r4' := r4.out
  go_enter Tryd.func11, Tryd.ntmps11
  go_upto_region 1 with fail
  have cl := run_LoadE HE.out
  go_upto_region 3 with (go_at_call 13; (with_reducible refine (HC.out _ HB.out).mono ?_); rintro e' w1 ⟨rfl, hb⟩; have HE1 := Lib.hid (HE.out.on hb); have HB1 := Lib.hid (HB.out.trans (hb.mono HB.out.size)); clear hb cl)
  have T1 := Lib.hid (Txt.mk HE1.out HB1.out).drew
  have hi := index_names e.kind hk.out.1 hk.out.2
  clear HE HB HC
  obtain ⟨f0, f1, f2⟩ := (Txt.mk HE1.out HB1.out).f3
  have hlt := HE1.out.lt
  go_region_held3 (fun w' => w'.cell? ⟨w.heap.size, 0, none⟩ = some (.int .i64 e.hart) ∧ w'.cell? ⟨w.heap.size, 1, none⟩ = some (.int .i64 e.pos) ∧ w'.cell? ⟨w.heap.size, 2, none⟩ = some (.int .i64 e.kind)) (first | exact ⟨f0, f1, f2⟩ | (go_keep)) ((first
    | (go_at_call 28; (with_reducible refine (itoa_any e.hart hh.out _ (HT.out.tabs T1.out.below)).mono ?_); rintro e' w2 ⟨rfl, hb⟩; have T2 := Lib.hid (T1.out.on hb); clear hb f0 f1 f2 hlt; obtain ⟨f0, f1, f2⟩ := T2.out.f3; have hlt := T2.out.here.lt)
    | (go_at_call 28; (with_reducible refine (itoa_any e.pos hp.out _ (HT.out.tabs T2.out.below)).mono ?_); rintro e' w3 ⟨rfl, hb⟩; have T3 := Lib.hid (T2.out.on hb); clear hb f0 f1 f2 hlt; obtain ⟨f0, f1, f2⟩ := T3.out.f3; have hlt := T3.out.here.lt)
    | (go_at_call 29; (with_reducible refine (names_tab _).mono ?_); rintro e' w4 ⟨rfl, hb⟩; have T4 := Lib.hid (T3.out.on hb); clear hb f0 f1 f2 hlt; obtain ⟨f0, f1, f2⟩ := T4.out.f3; have hlt := T4.out.here.lt)))
  go_wp2_with fail
  clear f0 f1 f2 hlt hi r1' r2' r3' r4'
  have cl := T4.out.load
  cases b1 with
  | false =>
    obtain rfl := e1.out rfl
    go_upto_region 7 with (go_at_call 10; (with_reducible refine (KM.out _).mono ?_); rintro e' w7 ⟨rfl, hb⟩; have T7 := Lib.hid (T4.out.on hb); clear hb cl; obtain ⟨m3, m4, m5⟩ := T7.out.m HU HX HY; have hlt := T7.out.here.lt)
    have cl := T7.out.load
    clear m3 m4 m5 hlt
    cases b2 with
    | false =>
      obtain rfl := e2.out rfl
      go_upto_region 9 with (go_at_call 8; (with_reducible refine (KR.out _).mono ?_); rintro e' w9 ⟨rfl, hb⟩; have T9 := Lib.hid (T7.out.on hb); clear hb cl; obtain ⟨m3, m4, m5⟩ := T9.out.m HU HX HY; have hlt := T9.out.here.lt)
      have cl := T9.out.load
      clear m3 m4 m5 hlt
      cases b3 with
      | false =>
        obtain rfl := e3.out rfl
        go_wp2_with (go_at_call 9; (with_reducible refine (KW.out _).mono ?_); rintro e' w11 ⟨rfl, hb⟩; have T11 := Lib.hid (T9.out.on hb); clear hb cl; obtain ⟨m3, m4, m5⟩ := T11.out.m HU HX HY; have hlt := T11.out.here.lt)
        go_ret
        exact ⟨rfl, T11.out.below⟩
      | true =>
        have l3' := l3.out rfl
        have k4' := k4.out
        go_wp2_with (first
          | (go_at_call 9; (with_reducible refine (KW.out _).mono ?_); rintro e' w10 ⟨rfl, hb⟩; have T10 := Lib.hid (T9.out.on hb); clear hb cl; obtain ⟨m3, m4, m5⟩ := T10.out.m HU HX HY; have hlt := T10.out.here.lt)
          | (go_at_call 30; (with_reducible refine (digits_any y ly _ (HT.out.tabs T10.out.below).z).mono ?_); rintro e' w11 ⟨rfl, hb⟩; have T11 := Lib.hid (T10.out.on hb); clear hb m3 m4 m5 hlt))
        go_ret
        exact ⟨rfl, T11.out.below⟩
    | true =>
      have l2' := l2.out rfl
      have k3' := k3.out
      go_upto_region 9 with (first
        | (go_at_call 8; (with_reducible refine (KR.out _).mono ?_); rintro e' w8 ⟨rfl, hb⟩; have T8 := Lib.hid (T7.out.on hb); clear hb cl; obtain ⟨m3, m4, m5⟩ := T8.out.m HU HX HY; have hlt := T8.out.here.lt)
        | (go_at_call 30; (with_reducible refine (digits_any x lx _ (HT.out.tabs T8.out.below).z).mono ?_); rintro e' w9 ⟨rfl, hb⟩; have T9 := Lib.hid (T8.out.on hb); clear hb m3 m4 m5 hlt))
      have cl := T9.out.load
      clear l2' k3'
      cases b3 with
      | false =>
        obtain rfl := e3.out rfl
        go_wp2_with (go_at_call 9; (with_reducible refine (KW.out _).mono ?_); rintro e' w11 ⟨rfl, hb⟩; have T11 := Lib.hid (T9.out.on hb); clear hb cl; obtain ⟨m3, m4, m5⟩ := T11.out.m HU HX HY; have hlt := T11.out.here.lt)
        go_ret
        exact ⟨rfl, T11.out.below⟩
      | true =>
        have l3' := l3.out rfl
        have k4' := k4.out
        go_wp2_with (first
          | (go_at_call 9; (with_reducible refine (KW.out _).mono ?_); rintro e' w10 ⟨rfl, hb⟩; have T10 := Lib.hid (T9.out.on hb); clear hb cl; obtain ⟨m3, m4, m5⟩ := T10.out.m HU HX HY; have hlt := T10.out.here.lt)
          | (go_at_call 30; (with_reducible refine (digits_any y ly _ (HT.out.tabs T10.out.below).z).mono ?_); rintro e' w11 ⟨rfl, hb⟩; have T11 := Lib.hid (T10.out.on hb); clear hb m3 m4 m5 hlt))
        go_ret
        exact ⟨rfl, T11.out.below⟩
  | true =>
    have l1' := l1.out rfl
    have k1' := k1.out
    have k2' := k2.out
    have hs' := hsub.out
    go_upto_region 7 with (first
      | (go_at_call 10; (with_reducible refine (KM.out _).mono ?_); rintro e' w5 ⟨rfl, hb⟩; have T5 := Lib.hid (T4.out.on hb); clear hb cl; obtain ⟨m3, m4, m5⟩ := T5.out.m HU HX HY; have hlt := T5.out.here.lt)
      | (go_at_call 30; (with_reducible refine (digits_any u lu _ (HT.out.tabs T5.out.below).z).mono ?_); rintro e' w6 ⟨rfl, hb⟩; have T6 := Lib.hid (T5.out.on hb); clear hb m3 m4 m5 hlt)
      | (go_at_call 31; (with_reducible refine (rep_any c (by omega) _).mono ?_); rintro e' w7 ⟨rfl, hb⟩; have T7 := Lib.hid (T6.out.on hb); clear hb))
    have cl := T7.out.load
    clear l1' k1' k2' hs'
    cases b2 with
    | false =>
      obtain rfl := e2.out rfl
      go_upto_region 9 with (go_at_call 8; (with_reducible refine (KR.out _).mono ?_); rintro e' w9 ⟨rfl, hb⟩; have T9 := Lib.hid (T7.out.on hb); clear hb cl; obtain ⟨m3, m4, m5⟩ := T9.out.m HU HX HY; have hlt := T9.out.here.lt)
      have cl := T9.out.load
      clear m3 m4 m5 hlt
      cases b3 with
      | false =>
        obtain rfl := e3.out rfl
        go_wp2_with (go_at_call 9; (with_reducible refine (KW.out _).mono ?_); rintro e' w11 ⟨rfl, hb⟩; have T11 := Lib.hid (T9.out.on hb); clear hb cl; obtain ⟨m3, m4, m5⟩ := T11.out.m HU HX HY; have hlt := T11.out.here.lt)
        go_ret
        exact ⟨rfl, T11.out.below⟩
      | true =>
        have l3' := l3.out rfl
        have k4' := k4.out
        go_wp2_with (first
          | (go_at_call 9; (with_reducible refine (KW.out _).mono ?_); rintro e' w10 ⟨rfl, hb⟩; have T10 := Lib.hid (T9.out.on hb); clear hb cl; obtain ⟨m3, m4, m5⟩ := T10.out.m HU HX HY; have hlt := T10.out.here.lt)
          | (go_at_call 30; (with_reducible refine (digits_any y ly _ (HT.out.tabs T10.out.below).z).mono ?_); rintro e' w11 ⟨rfl, hb⟩; have T11 := Lib.hid (T10.out.on hb); clear hb m3 m4 m5 hlt))
        go_ret
        exact ⟨rfl, T11.out.below⟩
    | true =>
      have l2' := l2.out rfl
      have k3' := k3.out
      go_upto_region 9 with (first
        | (go_at_call 8; (with_reducible refine (KR.out _).mono ?_); rintro e' w8 ⟨rfl, hb⟩; have T8 := Lib.hid (T7.out.on hb); clear hb cl; obtain ⟨m3, m4, m5⟩ := T8.out.m HU HX HY; have hlt := T8.out.here.lt)
        | (go_at_call 30; (with_reducible refine (digits_any x lx _ (HT.out.tabs T8.out.below).z).mono ?_); rintro e' w9 ⟨rfl, hb⟩; have T9 := Lib.hid (T8.out.on hb); clear hb m3 m4 m5 hlt))
      have cl := T9.out.load
      clear l2' k3'
      cases b3 with
      | false =>
        obtain rfl := e3.out rfl
        go_wp2_with (go_at_call 9; (with_reducible refine (KW.out _).mono ?_); rintro e' w11 ⟨rfl, hb⟩; have T11 := Lib.hid (T9.out.on hb); clear hb cl; obtain ⟨m3, m4, m5⟩ := T11.out.m HU HX HY; have hlt := T11.out.here.lt)
        go_ret
        exact ⟨rfl, T11.out.below⟩
      | true =>
        have l3' := l3.out rfl
        have k4' := k4.out
        go_wp2_with (first
          | (go_at_call 9; (with_reducible refine (KW.out _).mono ?_); rintro e' w10 ⟨rfl, hb⟩; have T10 := Lib.hid (T9.out.on hb); clear hb cl; obtain ⟨m3, m4, m5⟩ := T10.out.m HU HX HY; have hlt := T10.out.here.lt)
          | (go_at_call 30; (with_reducible refine (digits_any y ly _ (HT.out.tabs T10.out.below).z).mono ?_); rintro e' w11 ⟨rfl, hb⟩; have T11 := Lib.hid (T10.out.on hb); clear hb m3 m4 m5 hlt))
        go_ret
        exact ⟨rfl, T11.out.below⟩
end Go.Proofs.YtjdfhohchicgbaaDoor
