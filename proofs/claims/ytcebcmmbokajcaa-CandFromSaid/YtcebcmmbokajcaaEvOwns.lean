/-
  Proved here: the kit's OwnEvents answers a row of events of its own; nothing that was there is changed. Condition: at most 60 events.
-/
import Derived.Test.YtcebcmmbokajcaaEvRowWords
namespace Go.Proofs.Ytcebcmmbokajcaa
set_option linter.unusedVariables false
set_option linter.unusedSimpArgs false
open Go.RowKit
attribute [local go_sem ↓] fold_E fold_SE

theorem owns_none (a : Option Addr) (c : Nat) (ev : Nat → Ev) (el : Nat → El) (w : World) : Calls Try.prog 23 #[.slice a 0 c] w fun e w' => OwnsIs w 0 ev el e w' := by
  go_enter Try.func23, Try.ntmps23
  go_wp2
  refine wp_loop_rounds 1 ?_
  rw [rounds_succ]
  go_wp2
  go_ret
  exact ⟨.slice none 0 0, [], rfl, rfl, World.ownsRow_nil _ _ _ _, Cp.nil _ _ _, Below.refl _ _⟩
set_option maxRecDepth 100000 in
set_option maxHeartbeats 4000000 in
theorem owns_row (n b off c : Nat) (ev : Nat → Ev) (el : Nat → El) (w : World) (hn : n ≤ 60) (h : Evs n b off ev el w) :
    Calls Try.prog 23 #[.slice (some ⟨b, off, none⟩) n c] w fun e w' => OwnsIs w n ev el e w' := by
  have HV := Lib.hid h
  clear h
  go_enter Try.func23, Try.ntmps23
  go_wp2
  go_loopw [3, 4] (fun vo vi wr => ∃ (k : Nat) (es : List Ev) (v : Value), v = vo ∧ k ≤ n ∧ vi = .int .i64 k ∧ Hid (es.length = k) ∧ Hid (wr.ownsRow w.heap.size 50 14 vo k (flat es)) ∧ Hid (Cp ev el es wr) ∧ Below w.heap.size w wr) (fun _ vi _ => n - (intOf vi).toNat)
  case atStart => exact ⟨0, [], _, rfl, Nat.zero_le _, rfl, Lib.hid rfl, Lib.hid (World.ownsRow_nil _ _ _ _), Lib.hid (Cp.nil _ _ _), Below.refl _ _⟩
  case round =>
    obtain ⟨k, es, v, rfl, hk, rfl, hlen, hO, hC, hbel⟩ := hrel
    have HL := Lib.hid hbel
    clear hbel
    by_cases hlt : k < n
    · have HE := Lib.hid (HV.out.below HL.out)
      have cl := (HE.out.at_ k hlt).load
      have KO := Lib.hid (ownEvent_any (ev k) (el k) wr (HE.out.reads k hlt) (HE.out.len k hlt))
      have hk1 : k ≤ 1000 := by omega
      go_wp2_with (first
        | (go_at_call 45; (with_reducible refine (KO.out).mono ?_); rintro e' w1 ⟨va, vd, vy, rfl, hd, ht, hb⟩; obtain ⟨a1, c1, rfl⟩ := hd.1.1.len; obtain ⟨a2, c2, rfl⟩ := hd.2.1.1.len; obtain ⟨a3, c3, rfl⟩ := hd.2.2.1.len; have L1 := Lib.hid ((HL.out.trans (hb.mono HL.out.size)).alloc (HL.out.trans (hb.mono HL.out.size)).size (.cells #[.int .i64 ((ev k).lists (.slice a1 (el k).a.length c1) (.slice a2 (el k).d.length c2) (.slice a3 (el k).y.length c3)).hart, .int .i64 ((ev k).lists (.slice a1 (el k).a.length c1) (.slice a2 (el k).d.length c2) (.slice a3 (el k).y.length c3)).pos, .int .i64 ((ev k).lists (.slice a1 (el k).a.length c1) (.slice a2 (el k).d.length c2) (.slice a3 (el k).y.length c3)).kind, .int .u64 ((ev k).lists (.slice a1 (el k).a.length c1) (.slice a2 (el k).d.length c2) (.slice a3 (el k).y.length c3)).addr, .int .u64 ((ev k).lists (.slice a1 (el k).a.length c1) (.slice a2 (el k).d.length c2) (.slice a3 (el k).y.length c3)).load, .int .u64 ((ev k).lists (.slice a1 (el k).a.length c1) (.slice a2 (el k).d.length c2) (.slice a3 (el k).y.length c3)).store, .bool ((ev k).lists (.slice a1 (el k).a.length c1) (.slice a2 (el k).d.length c2) (.slice a3 (el k).y.length c3)).aq, .bool ((ev k).lists (.slice a1 (el k).a.length c1) (.slice a2 (el k).d.length c2) (.slice a3 (el k).y.length c3)).rl, .int .i64 ((ev k).lists (.slice a1 (el k).a.length c1) (.slice a2 (el k).d.length c2) (.slice a3 (el k).y.length c3)).pred, .int .i64 ((ev k).lists (.slice a1 (el k).a.length c1) (.slice a2 (el k).d.length c2) (.slice a3 (el k).y.length c3)).succ, .int .i64 ((ev k).lists (.slice a1 (el k).a.length c1) (.slice a2 (el k).d.length c2) (.slice a3 (el k).y.length c3)).pair, ((ev k).lists (.slice a1 (el k).a.length c1) (.slice a2 (el k).d.length c2) (.slice a3 (el k).y.length c3)).a, ((ev k).lists (.slice a1 (el k).a.length c1) (.slice a2 (el k).d.length c2) (.slice a3 (el k).y.length c3)).d, ((ev k).lists (.slice a1 (el k).a.length c1) (.slice a2 (el k).d.length c2) (.slice a3 (el k).y.length c3)).y] 50)); have O1 := Lib.hid ((own_on hO.out hb).alloc (.cells #[.int .i64 ((ev k).lists (.slice a1 (el k).a.length c1) (.slice a2 (el k).d.length c2) (.slice a3 (el k).y.length c3)).hart, .int .i64 ((ev k).lists (.slice a1 (el k).a.length c1) (.slice a2 (el k).d.length c2) (.slice a3 (el k).y.length c3)).pos, .int .i64 ((ev k).lists (.slice a1 (el k).a.length c1) (.slice a2 (el k).d.length c2) (.slice a3 (el k).y.length c3)).kind, .int .u64 ((ev k).lists (.slice a1 (el k).a.length c1) (.slice a2 (el k).d.length c2) (.slice a3 (el k).y.length c3)).addr, .int .u64 ((ev k).lists (.slice a1 (el k).a.length c1) (.slice a2 (el k).d.length c2) (.slice a3 (el k).y.length c3)).load, .int .u64 ((ev k).lists (.slice a1 (el k).a.length c1) (.slice a2 (el k).d.length c2) (.slice a3 (el k).y.length c3)).store, .bool ((ev k).lists (.slice a1 (el k).a.length c1) (.slice a2 (el k).d.length c2) (.slice a3 (el k).y.length c3)).aq, .bool ((ev k).lists (.slice a1 (el k).a.length c1) (.slice a2 (el k).d.length c2) (.slice a3 (el k).y.length c3)).rl, .int .i64 ((ev k).lists (.slice a1 (el k).a.length c1) (.slice a2 (el k).d.length c2) (.slice a3 (el k).y.length c3)).pred, .int .i64 ((ev k).lists (.slice a1 (el k).a.length c1) (.slice a2 (el k).d.length c2) (.slice a3 (el k).y.length c3)).succ, .int .i64 ((ev k).lists (.slice a1 (el k).a.length c1) (.slice a2 (el k).d.length c2) (.slice a3 (el k).y.length c3)).pair, ((ev k).lists (.slice a1 (el k).a.length c1) (.slice a2 (el k).d.length c2) (.slice a3 (el k).y.length c3)).a, ((ev k).lists (.slice a1 (el k).a.length c1) (.slice a2 (el k).d.length c2) (.slice a3 (el k).y.length c3)).d, ((ev k).lists (.slice a1 (el k).a.length c1) (.slice a2 (el k).d.length c2) (.slice a3 (el k).y.length c3)).y] 50)); have C1 := Lib.hid (((hC.out.on hb).on (box_below w1 (.cells #[.int .i64 ((ev k).lists (.slice a1 (el k).a.length c1) (.slice a2 (el k).d.length c2) (.slice a3 (el k).y.length c3)).hart, .int .i64 ((ev k).lists (.slice a1 (el k).a.length c1) (.slice a2 (el k).d.length c2) (.slice a3 (el k).y.length c3)).pos, .int .i64 ((ev k).lists (.slice a1 (el k).a.length c1) (.slice a2 (el k).d.length c2) (.slice a3 (el k).y.length c3)).kind, .int .u64 ((ev k).lists (.slice a1 (el k).a.length c1) (.slice a2 (el k).d.length c2) (.slice a3 (el k).y.length c3)).addr, .int .u64 ((ev k).lists (.slice a1 (el k).a.length c1) (.slice a2 (el k).d.length c2) (.slice a3 (el k).y.length c3)).load, .int .u64 ((ev k).lists (.slice a1 (el k).a.length c1) (.slice a2 (el k).d.length c2) (.slice a3 (el k).y.length c3)).store, .bool ((ev k).lists (.slice a1 (el k).a.length c1) (.slice a2 (el k).d.length c2) (.slice a3 (el k).y.length c3)).aq, .bool ((ev k).lists (.slice a1 (el k).a.length c1) (.slice a2 (el k).d.length c2) (.slice a3 (el k).y.length c3)).rl, .int .i64 ((ev k).lists (.slice a1 (el k).a.length c1) (.slice a2 (el k).d.length c2) (.slice a3 (el k).y.length c3)).pred, .int .i64 ((ev k).lists (.slice a1 (el k).a.length c1) (.slice a2 (el k).d.length c2) (.slice a3 (el k).y.length c3)).succ, .int .i64 ((ev k).lists (.slice a1 (el k).a.length c1) (.slice a2 (el k).d.length c2) (.slice a3 (el k).y.length c3)).pair, ((ev k).lists (.slice a1 (el k).a.length c1) (.slice a2 (el k).d.length c2) (.slice a3 (el k).y.length c3)).a, ((ev k).lists (.slice a1 (el k).a.length c1) (.slice a2 (el k).d.length c2) (.slice a3 (el k).y.length c3)).d, ((ev k).lists (.slice a1 (el k).a.length c1) (.slice a2 (el k).d.length c2) (.slice a3 (el k).y.length c3)).y] 50))).add k hlen.out (EReads.below (w := w1) (e := ((ev k).lists (.slice a1 (el k).a.length c1) (.slice a2 (el k).d.length c2) (.slice a3 (el k).y.length c3))) ⟨hd.1.1, hd.2.1.1, hd.2.2.1⟩ (box_below w1 _)) (ht.on (box_below w1 _))); clear hd ht hb cl)
        | (refine append_ev rfl (.tmp 11) (.tmp 17) rfl w.heap.size v k (flat es) rfl O1.out ((ev k).lists (.slice a1 (el k).a.length c1) (.slice a2 (el k).d.length c2) (.slice a3 (el k).y.length c3)) ⟨rfl, rfl, rfl⟩ w1.heap.size rfl (EvAt.new ((ev k).lists (.slice a1 (el k).a.length c1) (.slice a2 (el k).d.length c2) (.slice a3 (el k).y.length c3)) w1) hk1 L1.out.size ?_; intro v2 w2 hw2 hg2; have L2 := Lib.hid (L1.out.grown hg2 L1.out.size (fun g hg => (O1.out.lt g hg).1)); have C2 := Lib.hid (C1.out.grown O1.out hg2); have O2 := Lib.hid hw2; clear hw2 hg2))
      go_roundw
      case rel => exact ⟨k + 1, es ++ [((ev k).lists (.slice a1 (el k).a.length c1) (.slice a2 (el k).d.length c2) (.slice a3 (el k).y.length c3))], _, rfl, by omega, by go_num, Lib.hid (by rw [List.length_append, hlen.out]; rfl), Lib.hid (by rw [flat_more]; exact O2.out), C2, L2.out⟩
      case measure => simp [intOf]; omega
    · obtain rfl : k = n := by omega
      go_wp2
      go_ret
      exact ⟨_, es, rfl, hlen.out, hO.out, hC.out, HL.out⟩
end Go.Proofs.Ytcebcmmbokajcaa
