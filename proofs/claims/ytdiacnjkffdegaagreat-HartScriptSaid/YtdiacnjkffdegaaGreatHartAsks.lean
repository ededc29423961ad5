/-
  Proved here: what the package hart's ask comes to: it panics with the end that the chapter has, or answers; it writes nothing that was there. Condition: the registers are 0 to 31.
-/
import Derived.Test.YtdiacnjkffdegaaGreatHartAsk
namespace Go.Proofs.YtdiacnjkffdegaaGreat
set_option linter.unusedSimpArgs false
set_option linter.unusedVariables false
open Go.RowKit

set_option maxHeartbeats 2000000 in
set_option maxRecDepth 100000 in
theorem ask_f4 (op : Int) (d a b : Nat) (ha : a < 32) (hb' : b < 32) (v : BitVec 64) (aq rl : Bool) (p q : Int) (n : Nat) (h : Ha) (w : World) (H : HAt 48 h n w) (hf : Hid (formOf op = 4)) :
    Calls Tryz.prog 25 #[.pointer (some ⟨n, 0, none⟩), insV op d a b (S v) aq rl p q] w fun e w' => AskPost (accE h op a v) e ∧ Below w.heap.size w w' := by
  have hn := H.lt
  have HN := Lib.hid (And.intro H hn)
  have HA0 : Hid (AskAt (w.heap.size + 1) ((w.alloc (.cells #[.int .i64 op, .int .i64 (d : Int), .int .i64 (a : Int), .int .i64 (b : Int), .int .i64 (S v), .bool aq, .bool rl, .int .i64 p, .int .i64 q] 34)).alloc (.cells #[.int .i64 0, .int .u64 0, .int .u64 0, .int .i64 0, .bool false, .bool false, .int .i64 0, .int .i64 0] 37))) := Lib.hid (by have := AskAt.new (w.alloc (.cells #[.int .i64 op, .int .i64 (d : Int), .int .i64 (a : Int), .int .i64 (b : Int), .int .i64 (S v), .bool aq, .bool rl, .int .i64 p, .int .i64 q] 34)) 0 0 0 0 false false 0 0; simpa using this)
  have HC := Lib.hid (fun w H => access_any op d a b ha hb' v aq rl p q n h w H)
  cases hx : accE h op a v with
  | none =>
    rw [hx] at HC
    clear hx
    go_enter Tryz.func25, Tryz.ntmps25
    go_wp2_with (first | (go_at_call 41; (with_reducible refine (Form_is op _ hf _).mono ?_); rintro e w1 ⟨rfl, hb⟩; obtain ⟨hc1, hf1⟩ := bcell hb; have hz1 : w.heap.size + 1 < w1.heap.size := (by have := hb.size; simp at this; omega); have hn1 : n < w1.heap.size := (by have := HN.out.2; omega); have HA1 : Hid (AskAt (w.heap.size + 1) w1) := Lib.hid (HA0.out.below hb (by simp)); have HB0 : Hid (Below w.heap.size w w1) := Lib.hid ((((Below.refl _ _).alloc (Nat.le_refl _) _).alloc (by simp) _).trans (hb.mono (by simp; omega))); have HH1 : Hid (HAt 48 h n w1) := Lib.hid (((HN.out.1.alloc _).alloc _).below hb (by have := HN.out.2; simp; omega)); clear hb) | (go_at_call 42; (with_reducible refine (HC.out _ HH1.out).mono ?_); rintro e w2 ⟨⟨u, ⟨cs, hcs, hc1', rfl⟩, rfl⟩, hb⟩; have HB2 : Hid (Below w.heap.size w w2) := Lib.hid (HB0.out.trans (hb.mono (by omega))); have HA2 : Hid (AskAt (w.heap.size + 1) w2) := Lib.hid (HA1.out.below hb (by omega)); have HS := Lib.hid (And.intro hcs hc1'); have hz3 := hb.size; clear hb hcs hc1') | (refine store_ask (n := w.heap.size + 1) HA2.out HS.out.1 HS.out.2 rfl _ _ rfl rfl rfl ?_; intro w3 ha3 hb3; have HA3 := Lib.hid ha3; have HB3 : Hid (Below w.heap.size w w3) := Lib.hid (HB2.out.trans (hb3.mono (by omega))); clear ha3 hb3))
    (try simp only [Exit.inBlock, Exit.then])
    exact ask_ret (n := w.heap.size + 1) HA3.out rfl rfl rfl fun u hu => ⟨⟨u, hu, rfl⟩, HB3.out⟩
  | some z =>
    obtain ⟨how, c⟩ := z
    rw [hx] at HC
    clear hx
    go_enter Tryz.func25, Tryz.ntmps25
    go_wp2_with (first | (go_at_call 41; (with_reducible refine (Form_is op _ hf _).mono ?_); rintro e w1 ⟨rfl, hb⟩; obtain ⟨hc1, hf1⟩ := bcell hb; have hz1 : w.heap.size + 1 < w1.heap.size := (by have := hb.size; simp at this; omega); have hn1 : n < w1.heap.size := (by have := HN.out.2; omega); have HA1 : Hid (AskAt (w.heap.size + 1) w1) := Lib.hid (HA0.out.below hb (by simp)); have HB0 : Hid (Below w.heap.size w w1) := Lib.hid ((((Below.refl _ _).alloc (Nat.le_refl _) _).alloc (by simp) _).trans (hb.mono (by simp; omega))); have HH1 : Hid (HAt 48 h n w1) := Lib.hid (((HN.out.1.alloc _).alloc _).below hb (by have := HN.out.2; simp; omega)); clear hb) | (go_at_call 42; (with_reducible refine (HC.out _ HH1.out).mono ?_); rintro e w2 ⟨rfl, hb⟩; have HB2 : Hid (Below w.heap.size w w2) := Lib.hid (HB0.out.trans (hb.mono (by omega))); clear hb))
    refine ⟨rfl, rfl, ?_⟩
    exact HB2.out

set_option maxHeartbeats 2000000 in
set_option maxRecDepth 100000 in
theorem ask_f5 (op : Int) (d a b : Nat) (ha : a < 32) (hb' : b < 32) (v : BitVec 64) (aq rl : Bool) (p q : Int) (n : Nat) (h : Ha) (w : World) (H : HAt 48 h n w) (hf : Hid (formOf op = 5)) :
    Calls Tryz.prog 25 #[.pointer (some ⟨n, 0, none⟩), insV op d a b (S v) aq rl p q] w fun e w' => AskPost (accE h op a v) e ∧ Below w.heap.size w w' := by
  have hn := H.lt
  have HN := Lib.hid (And.intro H hn)
  have HA0 : Hid (AskAt (w.heap.size + 1) ((w.alloc (.cells #[.int .i64 op, .int .i64 (d : Int), .int .i64 (a : Int), .int .i64 (b : Int), .int .i64 (S v), .bool aq, .bool rl, .int .i64 p, .int .i64 q] 34)).alloc (.cells #[.int .i64 0, .int .u64 0, .int .u64 0, .int .i64 0, .bool false, .bool false, .int .i64 0, .int .i64 0] 37))) := Lib.hid (by have := AskAt.new (w.alloc (.cells #[.int .i64 op, .int .i64 (d : Int), .int .i64 (a : Int), .int .i64 (b : Int), .int .i64 (S v), .bool aq, .bool rl, .int .i64 p, .int .i64 q] 34)) 0 0 0 0 false false 0 0; simpa using this)
  have HC := Lib.hid (fun w H => access_any op d a b ha hb' v aq rl p q n h w H)
  cases hx : accE h op a v with
  | none =>
    rw [hx] at HC
    clear hx
    go_enter Tryz.func25, Tryz.ntmps25
    go_wp2_with (first | (go_at_call 41; (with_reducible refine (Form_is op _ hf _).mono ?_); rintro e w1 ⟨rfl, hb⟩; obtain ⟨hc1, hf1⟩ := bcell hb; have hz1 : w.heap.size + 1 < w1.heap.size := (by have := hb.size; simp at this; omega); have hn1 : n < w1.heap.size := (by have := HN.out.2; omega); have HA1 : Hid (AskAt (w.heap.size + 1) w1) := Lib.hid (HA0.out.below hb (by simp)); have HB0 : Hid (Below w.heap.size w w1) := Lib.hid ((((Below.refl _ _).alloc (Nat.le_refl _) _).alloc (by simp) _).trans (hb.mono (by simp; omega))); have HH1 : Hid (HAt 48 h n w1) := Lib.hid (((HN.out.1.alloc _).alloc _).below hb (by have := HN.out.2; simp; omega)); clear hb) | (go_at_call 42; (with_reducible refine (HC.out _ HH1.out).mono ?_); rintro e w2 ⟨⟨u, ⟨cs, hcs, hc1', rfl⟩, rfl⟩, hb⟩; have HB2 : Hid (Below w.heap.size w w2) := Lib.hid (HB0.out.trans (hb.mono (by omega))); have HA2 : Hid (AskAt (w.heap.size + 1) w2) := Lib.hid (HA1.out.below hb (by omega)); have HS := Lib.hid (And.intro hcs hc1'); have hz3 := hb.size; clear hb hcs hc1') | (refine store_ask (n := w.heap.size + 1) HA2.out HS.out.1 HS.out.2 rfl _ _ rfl rfl rfl ?_; intro w3 ha3 hb3; have HA3 := Lib.hid ha3; have HB3 : Hid (Below w.heap.size w w3) := Lib.hid (HB2.out.trans (hb3.mono (by omega))); clear ha3 hb3))
    (try simp only [Exit.inBlock, Exit.then])
    exact ask_ret (n := w.heap.size + 1) HA3.out rfl rfl rfl fun u hu => ⟨⟨u, hu, rfl⟩, HB3.out⟩
  | some z =>
    obtain ⟨how, c⟩ := z
    rw [hx] at HC
    clear hx
    go_enter Tryz.func25, Tryz.ntmps25
    go_wp2_with (first | (go_at_call 41; (with_reducible refine (Form_is op _ hf _).mono ?_); rintro e w1 ⟨rfl, hb⟩; obtain ⟨hc1, hf1⟩ := bcell hb; have hz1 : w.heap.size + 1 < w1.heap.size := (by have := hb.size; simp at this; omega); have hn1 : n < w1.heap.size := (by have := HN.out.2; omega); have HA1 : Hid (AskAt (w.heap.size + 1) w1) := Lib.hid (HA0.out.below hb (by simp)); have HB0 : Hid (Below w.heap.size w w1) := Lib.hid ((((Below.refl _ _).alloc (Nat.le_refl _) _).alloc (by simp) _).trans (hb.mono (by simp; omega))); have HH1 : Hid (HAt 48 h n w1) := Lib.hid (((HN.out.1.alloc _).alloc _).below hb (by have := HN.out.2; simp; omega)); clear hb) | (go_at_call 42; (with_reducible refine (HC.out _ HH1.out).mono ?_); rintro e w2 ⟨rfl, hb⟩; have HB2 : Hid (Below w.heap.size w w2) := Lib.hid (HB0.out.trans (hb.mono (by omega))); clear hb))
    refine ⟨rfl, rfl, ?_⟩
    exact HB2.out

set_option maxHeartbeats 2000000 in
set_option maxRecDepth 100000 in
theorem ask_f11 (op : Int) (d a b : Nat) (ha : a < 32) (hb' : b < 32) (v : BitVec 64) (aq rl : Bool) (p q : Int) (n : Nat) (h : Ha) (w : World) (H : HAt 48 h n w) (hf : Hid (formOf op = 11)) :
    Calls Tryz.prog 25 #[.pointer (some ⟨n, 0, none⟩), insV op d a b (S v) aq rl p q] w fun e w' => AskPost (accE h op a v) e ∧ Below w.heap.size w w' := by
  have hn := H.lt
  have HN := Lib.hid (And.intro H hn)
  have HA0 : Hid (AskAt (w.heap.size + 1) ((w.alloc (.cells #[.int .i64 op, .int .i64 (d : Int), .int .i64 (a : Int), .int .i64 (b : Int), .int .i64 (S v), .bool aq, .bool rl, .int .i64 p, .int .i64 q] 34)).alloc (.cells #[.int .i64 0, .int .u64 0, .int .u64 0, .int .i64 0, .bool false, .bool false, .int .i64 0, .int .i64 0] 37))) := Lib.hid (by have := AskAt.new (w.alloc (.cells #[.int .i64 op, .int .i64 (d : Int), .int .i64 (a : Int), .int .i64 (b : Int), .int .i64 (S v), .bool aq, .bool rl, .int .i64 p, .int .i64 q] 34)) 0 0 0 0 false false 0 0; simpa using this)
  have HC := Lib.hid (fun w H => access_any op d a b ha hb' v aq rl p q n h w H)
  cases hx : accE h op a v with
  | none =>
    rw [hx] at HC
    clear hx
    go_enter Tryz.func25, Tryz.ntmps25
    go_wp2_with (first | (go_at_call 41; (with_reducible refine (Form_is op _ hf _).mono ?_); rintro e w1 ⟨rfl, hb⟩; obtain ⟨hc1, hf1⟩ := bcell hb; have hz1 : w.heap.size + 1 < w1.heap.size := (by have := hb.size; simp at this; omega); have hn1 : n < w1.heap.size := (by have := HN.out.2; omega); have HA1 : Hid (AskAt (w.heap.size + 1) w1) := Lib.hid (HA0.out.below hb (by simp)); have HB0 : Hid (Below w.heap.size w w1) := Lib.hid ((((Below.refl _ _).alloc (Nat.le_refl _) _).alloc (by simp) _).trans (hb.mono (by simp; omega))); have HH1 : Hid (HAt 48 h n w1) := Lib.hid (((HN.out.1.alloc _).alloc _).below hb (by have := HN.out.2; simp; omega)); clear hb) | (go_at_call 42; (with_reducible refine (HC.out _ HH1.out).mono ?_); rintro e w2 ⟨⟨u, ⟨cs, hcs, hc1', rfl⟩, rfl⟩, hb⟩; have HB2 : Hid (Below w.heap.size w w2) := Lib.hid (HB0.out.trans (hb.mono (by omega))); have HA2 : Hid (AskAt (w.heap.size + 1) w2) := Lib.hid (HA1.out.below hb (by omega)); have HS := Lib.hid (And.intro hcs hc1'); have hz3 := hb.size; clear hb hcs hc1') | (refine store_ask (n := w.heap.size + 1) HA2.out HS.out.1 HS.out.2 rfl _ _ rfl rfl rfl ?_; intro w3 ha3 hb3; have HA3 := Lib.hid ha3; have HB3 : Hid (Below w.heap.size w w3) := Lib.hid (HB2.out.trans (hb3.mono (by omega))); clear ha3 hb3))
    (try simp only [Exit.inBlock, Exit.then])
    exact ask_ret (n := w.heap.size + 1) HA3.out rfl rfl rfl fun u hu => ⟨⟨u, hu, rfl⟩, HB3.out⟩
  | some z =>
    obtain ⟨how, c⟩ := z
    rw [hx] at HC
    clear hx
    go_enter Tryz.func25, Tryz.ntmps25
    go_wp2_with (first | (go_at_call 41; (with_reducible refine (Form_is op _ hf _).mono ?_); rintro e w1 ⟨rfl, hb⟩; obtain ⟨hc1, hf1⟩ := bcell hb; have hz1 : w.heap.size + 1 < w1.heap.size := (by have := hb.size; simp at this; omega); have hn1 : n < w1.heap.size := (by have := HN.out.2; omega); have HA1 : Hid (AskAt (w.heap.size + 1) w1) := Lib.hid (HA0.out.below hb (by simp)); have HB0 : Hid (Below w.heap.size w w1) := Lib.hid ((((Below.refl _ _).alloc (Nat.le_refl _) _).alloc (by simp) _).trans (hb.mono (by simp; omega))); have HH1 : Hid (HAt 48 h n w1) := Lib.hid (((HN.out.1.alloc _).alloc _).below hb (by have := HN.out.2; simp; omega)); clear hb) | (go_at_call 42; (with_reducible refine (HC.out _ HH1.out).mono ?_); rintro e w2 ⟨rfl, hb⟩; have HB2 : Hid (Below w.heap.size w w2) := Lib.hid (HB0.out.trans (hb.mono (by omega))); clear hb))
    refine ⟨rfl, rfl, ?_⟩
    exact HB2.out

set_option maxHeartbeats 2000000 in
set_option maxRecDepth 100000 in
theorem ask_f12 (op : Int) (d a b : Nat) (ha : a < 32) (hb' : b < 32) (v : BitVec 64) (aq rl : Bool) (p q : Int) (n : Nat) (h : Ha) (w : World) (H : HAt 48 h n w) (hf : Hid (formOf op = 12)) :
    Calls Tryz.prog 25 #[.pointer (some ⟨n, 0, none⟩), insV op d a b (S v) aq rl p q] w fun e w' => AskPost (accE h op a v) e ∧ Below w.heap.size w w' := by
  have hn := H.lt
  have HN := Lib.hid (And.intro H hn)
  have HA0 : Hid (AskAt (w.heap.size + 1) ((w.alloc (.cells #[.int .i64 op, .int .i64 (d : Int), .int .i64 (a : Int), .int .i64 (b : Int), .int .i64 (S v), .bool aq, .bool rl, .int .i64 p, .int .i64 q] 34)).alloc (.cells #[.int .i64 0, .int .u64 0, .int .u64 0, .int .i64 0, .bool false, .bool false, .int .i64 0, .int .i64 0] 37))) := Lib.hid (by have := AskAt.new (w.alloc (.cells #[.int .i64 op, .int .i64 (d : Int), .int .i64 (a : Int), .int .i64 (b : Int), .int .i64 (S v), .bool aq, .bool rl, .int .i64 p, .int .i64 q] 34)) 0 0 0 0 false false 0 0; simpa using this)
  have HC := Lib.hid (fun w H => access_any op d a b ha hb' v aq rl p q n h w H)
  cases hx : accE h op a v with
  | none =>
    rw [hx] at HC
    clear hx
    go_enter Tryz.func25, Tryz.ntmps25
    go_wp2_with (first | (go_at_call 41; (with_reducible refine (Form_is op _ hf _).mono ?_); rintro e w1 ⟨rfl, hb⟩; obtain ⟨hc1, hf1⟩ := bcell hb; have hz1 : w.heap.size + 1 < w1.heap.size := (by have := hb.size; simp at this; omega); have hn1 : n < w1.heap.size := (by have := HN.out.2; omega); have HA1 : Hid (AskAt (w.heap.size + 1) w1) := Lib.hid (HA0.out.below hb (by simp)); have HB0 : Hid (Below w.heap.size w w1) := Lib.hid ((((Below.refl _ _).alloc (Nat.le_refl _) _).alloc (by simp) _).trans (hb.mono (by simp; omega))); have HH1 : Hid (HAt 48 h n w1) := Lib.hid (((HN.out.1.alloc _).alloc _).below hb (by have := HN.out.2; simp; omega)); clear hb) | (go_at_call 42; (with_reducible refine (HC.out _ HH1.out).mono ?_); rintro e w2 ⟨⟨u, ⟨cs, hcs, hc1', rfl⟩, rfl⟩, hb⟩; have HB2 : Hid (Below w.heap.size w w2) := Lib.hid (HB0.out.trans (hb.mono (by omega))); have HA2 : Hid (AskAt (w.heap.size + 1) w2) := Lib.hid (HA1.out.below hb (by omega)); have HS := Lib.hid (And.intro hcs hc1'); have hz3 := hb.size; clear hb hcs hc1') | (refine store_ask (n := w.heap.size + 1) HA2.out HS.out.1 HS.out.2 rfl _ _ rfl rfl rfl ?_; intro w3 ha3 hb3; have HA3 := Lib.hid ha3; have HB3 : Hid (Below w.heap.size w w3) := Lib.hid (HB2.out.trans (hb3.mono (by omega))); clear ha3 hb3))
    (try simp only [Exit.inBlock, Exit.then])
    exact ask_ret (n := w.heap.size + 1) HA3.out rfl rfl rfl fun u hu => ⟨⟨u, hu, rfl⟩, HB3.out⟩
  | some z =>
    obtain ⟨how, c⟩ := z
    rw [hx] at HC
    clear hx
    go_enter Tryz.func25, Tryz.ntmps25
    go_wp2_with (first | (go_at_call 41; (with_reducible refine (Form_is op _ hf _).mono ?_); rintro e w1 ⟨rfl, hb⟩; obtain ⟨hc1, hf1⟩ := bcell hb; have hz1 : w.heap.size + 1 < w1.heap.size := (by have := hb.size; simp at this; omega); have hn1 : n < w1.heap.size := (by have := HN.out.2; omega); have HA1 : Hid (AskAt (w.heap.size + 1) w1) := Lib.hid (HA0.out.below hb (by simp)); have HB0 : Hid (Below w.heap.size w w1) := Lib.hid ((((Below.refl _ _).alloc (Nat.le_refl _) _).alloc (by simp) _).trans (hb.mono (by simp; omega))); have HH1 : Hid (HAt 48 h n w1) := Lib.hid (((HN.out.1.alloc _).alloc _).below hb (by have := HN.out.2; simp; omega)); clear hb) | (go_at_call 42; (with_reducible refine (HC.out _ HH1.out).mono ?_); rintro e w2 ⟨rfl, hb⟩; have HB2 : Hid (Below w.heap.size w w2) := Lib.hid (HB0.out.trans (hb.mono (by omega))); clear hb))
    refine ⟨rfl, rfl, ?_⟩
    exact HB2.out

set_option maxHeartbeats 2000000 in
set_option maxRecDepth 100000 in
theorem ask_f10 (op : Int) (d a b : Nat) (ha : a < 32) (hb' : b < 32) (v : BitVec 64) (aq rl : Bool) (p q : Int) (n : Nat) (h : Ha) (w : World) (H : HAt 48 h n w) (hf : Hid (formOf op = 10)) :
    Calls Tryz.prog 25 #[.pointer (some ⟨n, 0, none⟩), insV op d a b (S v) aq rl p q] w fun e w' => AskPost (sysE h op) e ∧ Below w.heap.size w w' := by
  have hn := H.lt
  have HN := Lib.hid (And.intro H hn)
  have HA0 : Hid (AskAt (w.heap.size + 1) ((w.alloc (.cells #[.int .i64 op, .int .i64 (d : Int), .int .i64 (a : Int), .int .i64 (b : Int), .int .i64 (S v), .bool aq, .bool rl, .int .i64 p, .int .i64 q] 34)).alloc (.cells #[.int .i64 0, .int .u64 0, .int .u64 0, .int .i64 0, .bool false, .bool false, .int .i64 0, .int .i64 0] 37))) := Lib.hid (by have := AskAt.new (w.alloc (.cells #[.int .i64 op, .int .i64 (d : Int), .int .i64 (a : Int), .int .i64 (b : Int), .int .i64 (S v), .bool aq, .bool rl, .int .i64 p, .int .i64 q] 34)) 0 0 0 0 false false 0 0; simpa using this)
  have HC := Lib.hid (fun w H => call_any op n h w H)
  cases hx : sysE h op with
  | none =>
    rw [hx] at HC
    clear hx
    go_enter Tryz.func25, Tryz.ntmps25
    go_wp2_with (first | (go_at_call 41; (with_reducible refine (Form_is op _ hf _).mono ?_); rintro e w1 ⟨rfl, hb⟩; obtain ⟨hc1, hf1⟩ := bcell hb; have hz1 : w.heap.size + 1 < w1.heap.size := (by have := hb.size; simp at this; omega); have hn1 : n < w1.heap.size := (by have := HN.out.2; omega); have HA1 : Hid (AskAt (w.heap.size + 1) w1) := Lib.hid (HA0.out.below hb (by simp)); have HB0 : Hid (Below w.heap.size w w1) := Lib.hid ((((Below.refl _ _).alloc (Nat.le_refl _) _).alloc (by simp) _).trans (hb.mono (by simp; omega))); have HH1 : Hid (HAt 48 h n w1) := Lib.hid (((HN.out.1.alloc _).alloc _).below hb (by have := HN.out.2; simp; omega)); clear hb) | (go_at_call 43; (with_reducible refine (HC.out _ HH1.out).mono ?_); rintro e w2 ⟨⟨u, ⟨cs, hcs, hc1', rfl⟩, rfl⟩, hb⟩; have HB2 : Hid (Below w.heap.size w w2) := Lib.hid (HB0.out.trans (hb.mono (by omega))); have HA2 : Hid (AskAt (w.heap.size + 1) w2) := Lib.hid (HA1.out.below hb (by omega)); have HS := Lib.hid (And.intro hcs hc1'); have hz3 := hb.size; clear hb hcs hc1') | (refine store_ask (n := w.heap.size + 1) HA2.out HS.out.1 HS.out.2 rfl _ _ rfl rfl rfl ?_; intro w3 ha3 hb3; have HA3 := Lib.hid ha3; have HB3 : Hid (Below w.heap.size w w3) := Lib.hid (HB2.out.trans (hb3.mono (by omega))); clear ha3 hb3))
    (try simp only [Exit.inBlock, Exit.then])
    exact ask_ret (n := w.heap.size + 1) HA3.out rfl rfl rfl fun u hu => ⟨⟨u, hu, rfl⟩, HB3.out⟩
  | some z =>
    obtain ⟨how, c⟩ := z
    rw [hx] at HC
    clear hx
    go_enter Tryz.func25, Tryz.ntmps25
    go_wp2_with (first | (go_at_call 41; (with_reducible refine (Form_is op _ hf _).mono ?_); rintro e w1 ⟨rfl, hb⟩; obtain ⟨hc1, hf1⟩ := bcell hb; have hz1 : w.heap.size + 1 < w1.heap.size := (by have := hb.size; simp at this; omega); have hn1 : n < w1.heap.size := (by have := HN.out.2; omega); have HA1 : Hid (AskAt (w.heap.size + 1) w1) := Lib.hid (HA0.out.below hb (by simp)); have HB0 : Hid (Below w.heap.size w w1) := Lib.hid ((((Below.refl _ _).alloc (Nat.le_refl _) _).alloc (by simp) _).trans (hb.mono (by simp; omega))); have HH1 : Hid (HAt 48 h n w1) := Lib.hid (((HN.out.1.alloc _).alloc _).below hb (by have := HN.out.2; simp; omega)); clear hb) | (go_at_call 43; (with_reducible refine (HC.out _ HH1.out).mono ?_); rintro e w2 ⟨rfl, hb⟩; have HB2 : Hid (Below w.heap.size w w2) := Lib.hid (HB0.out.trans (hb.mono (by omega))); clear hb))
    refine ⟨rfl, rfl, ?_⟩
    exact HB2.out

set_option maxHeartbeats 2000000 in
set_option maxRecDepth 100000 in
theorem ask_f9 (op : Int) (d a b : Nat) (ha : a < 32) (hb' : b < 32) (v : BitVec 64) (aq rl : Bool) (p q : Int) (n : Nat) (h : Ha) (w : World) (H : HAt 48 h n w) (hf : Hid (formOf op = 9)) :
    Calls Tryz.prog 25 #[.pointer (some ⟨n, 0, none⟩), insV op d a b (S v) aq rl p q] w fun e w' => AskPost (none) e ∧ Below w.heap.size w w' := by
  have hn := H.lt
  have HN := Lib.hid (And.intro H hn)
  have HA0 : Hid (AskAt (w.heap.size + 1) ((w.alloc (.cells #[.int .i64 op, .int .i64 (d : Int), .int .i64 (a : Int), .int .i64 (b : Int), .int .i64 (S v), .bool aq, .bool rl, .int .i64 p, .int .i64 q] 34)).alloc (.cells #[.int .i64 0, .int .u64 0, .int .u64 0, .int .i64 0, .bool false, .bool false, .int .i64 0, .int .i64 0] 37))) := Lib.hid (by have := AskAt.new (w.alloc (.cells #[.int .i64 op, .int .i64 (d : Int), .int .i64 (a : Int), .int .i64 (b : Int), .int .i64 (S v), .bool aq, .bool rl, .int .i64 p, .int .i64 q] 34)) 0 0 0 0 false false 0 0; simpa using this)
  go_enter Tryz.func25, Tryz.ntmps25
  go_wp2_with (first | (go_at_call 41; (with_reducible refine (Form_is op _ hf _).mono ?_); rintro e w1 ⟨rfl, hb⟩; obtain ⟨hc1, hf1⟩ := bcell hb; have hz1 : w.heap.size + 1 < w1.heap.size := (by have := hb.size; simp at this; omega); have hn1 : n < w1.heap.size := (by have := HN.out.2; omega); have HA1 : Hid (AskAt (w.heap.size + 1) w1) := Lib.hid (HA0.out.below hb (by simp)); have HB0 : Hid (Below w.heap.size w w1) := Lib.hid ((((Below.refl _ _).alloc (Nat.le_refl _) _).alloc (by simp) _).trans (hb.mono (by simp; omega))); have HH1 : Hid (HAt 48 h n w1) := Lib.hid (((HN.out.1.alloc _).alloc _).below hb (by have := HN.out.2; simp; omega)); clear hb))
  all_goals
      (try simp only [Exit.inBlock, Exit.then])
      refine ask_ret (n := w.heap.size + 1) ?_ rfl rfl rfl fun u hu => ⟨⟨u, hu, rfl⟩, ?_⟩
      · (repeat first | with_reducible exact HA1.out | with_reducible exact AskAt.new _ _ _ _ _ _ _ _ _ | with_reducible refine AskAt.drew ?_ | with_reducible refine AskAt.alloc ?_ _ | with_reducible refine AskAt.setCell ?_ _ _ (by first | rfl | simp [Value.oneCell']))
      (repeat first | with_reducible exact HB0.out | with_reducible refine Below.drew ?_ | with_reducible refine Below.alloc ?_ (by first | omega | (simp; omega) | simp) _ | with_reducible refine Below.setCell ?_ (by first | omega | (simp; omega) | simp) _)

set_option maxHeartbeats 2000000 in
set_option maxRecDepth 100000 in
theorem ask_o (op : Int) (d a b : Nat) (ha : a < 32) (hb' : b < 32) (v : BitVec 64) (aq rl : Bool) (p q : Int) (n : Nat) (h : Ha) (w : World) (H : HAt 48 h n w) (f : Int) (hf : Hid (formOf op = f)) (m1 : (f == 4) = false) (m2 : (f == 5) = false) (m3 : (f == 11) = false) (m4 : (f == 12) = false) (m5 : (f == 9) = false) (m6 : (f == 10) = false) :
    Calls Tryz.prog 25 #[.pointer (some ⟨n, 0, none⟩), insV op d a b (S v) aq rl p q] w fun e w' => AskPost (none) e ∧ Below w.heap.size w w' := by
  have hn := H.lt
  have HN := Lib.hid (And.intro H hn)
  have HA0 : Hid (AskAt (w.heap.size + 1) ((w.alloc (.cells #[.int .i64 op, .int .i64 (d : Int), .int .i64 (a : Int), .int .i64 (b : Int), .int .i64 (S v), .bool aq, .bool rl, .int .i64 p, .int .i64 q] 34)).alloc (.cells #[.int .i64 0, .int .u64 0, .int .u64 0, .int .i64 0, .bool false, .bool false, .int .i64 0, .int .i64 0] 37))) := Lib.hid (by have := AskAt.new (w.alloc (.cells #[.int .i64 op, .int .i64 (d : Int), .int .i64 (a : Int), .int .i64 (b : Int), .int .i64 (S v), .bool aq, .bool rl, .int .i64 p, .int .i64 q] 34)) 0 0 0 0 false false 0 0; simpa using this)
  have ca := H.cx a ha
  have ia := index_x n a ha
  go_enter Tryz.func25, Tryz.ntmps25
  go_wp2_with (first | (go_at_call 41; (with_reducible refine (Form_is op _ hf _).mono ?_); rintro e w1 ⟨rfl, hb⟩; obtain ⟨hc1, hf1⟩ := bcell hb; have hz1 : w.heap.size + 1 < w1.heap.size := (by have := hb.size; simp at this; omega); have hn1 : n < w1.heap.size := (by have := HN.out.2; omega); have HA1 : Hid (AskAt (w.heap.size + 1) w1) := Lib.hid (HA0.out.below hb (by simp)); have HB0 : Hid (Below w.heap.size w w1) := Lib.hid ((((Below.refl _ _).alloc (Nat.le_refl _) _).alloc (by simp) _).trans (hb.mono (by simp; omega))); have HH1 : Hid (HAt 48 h n w1) := Lib.hid (((HN.out.1.alloc _).alloc _).below hb (by have := HN.out.2; simp; omega)); clear hb))
  all_goals
    first
      | ((try simp only [Exit.inBlock, Exit.then]); refine ask_ret (n := w.heap.size + 1) ?_ rfl rfl rfl fun u hu => ⟨⟨u, hu, rfl⟩, ?_⟩
         · (repeat first | with_reducible exact HA1.out | with_reducible exact AskAt.new _ _ _ _ _ _ _ _ _ | with_reducible refine AskAt.drew ?_ | with_reducible refine AskAt.alloc ?_ _ | with_reducible refine AskAt.setCell ?_ _ _ (by first | rfl | simp [Value.oneCell']))
         (repeat first | with_reducible exact HB0.out | with_reducible refine Below.drew ?_ | with_reducible refine Below.alloc ?_ (by first | omega | (simp; omega) | simp) _ | with_reducible refine Below.setCell ?_ (by first | omega | (simp; omega) | simp) _)
         done)
      | (have hx2 : w1.cell? ⟨w.heap.size, 2, none⟩ = some (.int .i64 (a : Int)) := (by go_simp)
         have hx4 : w1.cell? ⟨w.heap.size, 4, none⟩ = some (.int .i64 (S v)) := (by go_simp)
         have ca1 := HH1.out.cx a ha
         refine wp_region_still_tail 10 (by kernel_rfl) (by kernel_rfl) ?_
         simp only [List.take_succ_cons, List.take_zero, List.drop_succ_cons, List.drop_zero]
         refine wpStill_val (.pointer (some ⟨w.heap.size, 4, none⟩)) (by as_aux_lemma => kernel_rfl) (by as_aux_lemma => kernel_rfl) ?_
         simp only [Act.put, List.setIfInBounds_toArray, List.set_cons_succ, List.set_cons_zero]
         refine wpStill_load 2 (.tmp 42) ⟨w.heap.size, 4, none⟩ (.int .i64 (S v)) (by as_aux_lemma => kernel_rfl) rfl (by as_aux_lemma => kernel_rfl) (Tryz.isAgg2 _) hx4 ?_
         simp only [Act.put, List.setIfInBounds_toArray, List.set_cons_succ, List.set_cons_zero]
         refine wpStill_val (.pointer (some ⟨n, 0, none⟩)) (by as_aux_lemma => kernel_rfl) (by as_aux_lemma => kernel_rfl) ?_
         simp only [Act.put, List.setIfInBounds_toArray, List.set_cons_succ, List.set_cons_zero]
         refine wpStill_val (.pointer (some ⟨w.heap.size, 2, none⟩)) (by as_aux_lemma => kernel_rfl) (by as_aux_lemma => kernel_rfl) ?_
         simp only [Act.put, List.setIfInBounds_toArray, List.set_cons_succ, List.set_cons_zero]
         refine wpStill_load 3 (.tmp 45) ⟨w.heap.size, 2, none⟩ (.int .i64 (a : Int)) (by as_aux_lemma => kernel_rfl) rfl (by as_aux_lemma => kernel_rfl) (Tryz.isAgg3 _) hx2 ?_
         simp only [Act.put, List.setIfInBounds_toArray, List.set_cons_succ, List.set_cons_zero]
         refine wpStill_val (.pointer (some ⟨n, 0, none⟩)) (by as_aux_lemma => kernel_rfl) (by as_aux_lemma => kernel_rfl) ?_
         simp only [Act.put, List.setIfInBounds_toArray, List.set_cons_succ, List.set_cons_zero]
         refine wpStill_val (.pointer (some ⟨n, 1, none⟩)) (by as_aux_lemma => kernel_rfl) (by as_aux_lemma => kernel_rfl) ?_
         simp only [Act.put, List.setIfInBounds_toArray, List.set_cons_succ, List.set_cons_zero]
         refine wpStill_val (.pointer (some ⟨n, 1 + a, none⟩)) (by as_aux_lemma => kernel_rfl) (by go_simp) ?_
         simp only [Act.put, List.setIfInBounds_toArray, List.set_cons_succ, List.set_cons_zero]
         refine wpStill_load 22 (.tmp 49) ⟨n, 1 + a, none⟩ (.int .u64 (U (h.x a))) (by as_aux_lemma => kernel_rfl) rfl (by as_aux_lemma => kernel_rfl) (Tryz.isAgg22 _) ca1 ?_
         simp only [Act.put, List.setIfInBounds_toArray, List.set_cons_succ, List.set_cons_zero]
         refine wpStill_val (.agg #[.int .i64 8, .int .u64 0, .int .u64 (U (h.x a)), .int .i64 (S v), .bool false, .bool false, .int .i64 0, .int .i64 0]) (by as_aux_lemma => kernel_rfl) (by as_aux_lemma => kernel_rfl) ?_
         simp only [Act.put, List.setIfInBounds_toArray, List.set_cons_succ, List.set_cons_zero]
         refine wpStill_nil ?_
         change wpList _ _ _ _ _ (World.drew _)
         all_goals
           go_wp2_with fail
           (try simp only [Exit.inBlock, Exit.then])
           refine ask_ret (n := w.heap.size + 1) ?_ rfl rfl rfl fun u hu => ⟨⟨u, hu, rfl⟩, ?_⟩
           · (repeat first | with_reducible exact HA1.out | with_reducible exact AskAt.new _ _ _ _ _ _ _ _ _ | with_reducible refine AskAt.drew ?_ | with_reducible refine AskAt.alloc ?_ _ | with_reducible refine AskAt.setCell ?_ _ _ (by first | rfl | simp [Value.oneCell']))
           (repeat first | with_reducible exact HB0.out | with_reducible refine Below.drew ?_ | with_reducible refine Below.alloc ?_ (by first | omega | (simp; omega) | simp) _ | with_reducible refine Below.setCell ?_ (by first | omega | (simp; omega) | simp) _))
theorem ask_any (op : Int) (d a b : Nat) (ha : a < 32) (hb : b < 32) (v : BitVec 64) (aq rl : Bool) (p q : Int) (n : Nat) (h : Ha) (w : World) (H : HAt 48 h n w) :
    Calls Tryz.prog 25 #[.pointer (some ⟨n, 0, none⟩), insV op d a b (S v) aq rl p q] w fun e w' => AskPost (askE h op a v) e ∧ Below w.heap.size w w' := by
  unfold askE
  by_cases f4 : formOf op = 4
  · rw [if_pos (Or.inl f4)]; exact ask_f4 op d a b ha hb v aq rl p q n h w H (Lib.hid f4)
  by_cases f5 : formOf op = 5
  · rw [if_pos (Or.inr (Or.inl f5))]; exact ask_f5 op d a b ha hb v aq rl p q n h w H (Lib.hid f5)
  by_cases f11 : formOf op = 11
  · rw [if_pos (Or.inr (Or.inr (Or.inl f11)))]; exact ask_f11 op d a b ha hb v aq rl p q n h w H (Lib.hid f11)
  by_cases f12 : formOf op = 12
  · rw [if_pos (Or.inr (Or.inr (Or.inr f12)))]; exact ask_f12 op d a b ha hb v aq rl p q n h w H (Lib.hid f12)
  rw [if_neg (by omega)]
  by_cases f10 : formOf op = 10
  · rw [if_pos f10]; exact ask_f10 op d a b ha hb v aq rl p q n h w H (Lib.hid f10)
  rw [if_neg f10]
  by_cases f9 : formOf op = 9
  · exact ask_f9 op d a b ha hb v aq rl p q n h w H (Lib.hid f9)
  exact ask_o op d a b ha hb v aq rl p q n h w H _ (Lib.hid rfl) (by simpa using f4) (by simpa using f5) (by simpa using f11) (by simpa using f12) (by simpa using f9) (by simpa using f10)
end Go.Proofs.YtdiacnjkffdegaaGreat
