/-
  Proved here: the document's own Read (layer 2) at texts of the third chapter's examples. No condition.
-/
import Derived.Test.YtbchecnidiiddaaGreatDoorRef02ReadSt
import Derived.Test.YtbchecnidiiddaaGreatDoorRef02Texts
import Derived.Deep.RegionHeld3
namespace Go.Proofs.YtbchecnidiiddaaGreatDoor
set_option linter.unusedVariables false
open Go.RowKit

theorem r3U : Hid (([106, 97, 108, 32, 120, 49, 44, 32, 50, 48, 52, 56] : List UInt8).takeWhile (fun c => ![32].contains c) = [106, 97, 108] ∧ ([106, 97, 108, 32, 120, 49, 44, 32, 50, 48, 52, 56] : List UInt8).dropWhile (fun c => ![32].contains c) = [32, 120, 49, 44, 32, 50, 48, 52, 56] ∧ ([106, 97, 108, 32, 120, 49, 44, 32, 50, 48, 52, 56] : List UInt8).length ≤ 10000 ∧ ([32] : List UInt8).length ≤ 10) := Lib.hid (by decide)
theorem r3N0 : Hid (((List.range 88).all (fun j => j == 0 || decide (3 ≤ j) || !(nameOf (j : Nat) == [106, 97, 108])) && (decide (3 = 88) || nameOf (3 : Nat) == [106, 97, 108]) && decide (1 ≤ 3) && decide (3 ≤ 88) && decide ((if 3 < 88 then ((3 : Nat) : Int) else 0) = 3)) = true) := Lib.hid (by decide +kernel)
set_option maxRecDepth 100000 in
set_option maxHeartbeats 8000000 in
theorem read_3 (w : World) : Calls Tryz.prog 20 #[.string ⟨#[106, 97, 108, 32, 120, 49, 44, 32, 50, 48, 52, 56]⟩] w fun e w' => PtOk0 (.tuple #[(⟨3, 1, 0, 0, 2048, false, false, 0, 0⟩ : Ins).V, .int .i64 0]) w e w' := by
  have q0 : (((⟨#[106, 97, 108]⟩ : ByteArray).extract 3 3).toList == []) = true := by rw [ext_toList, lit_list]; decide
  have p0 : (⟨#[106, 97, 108]⟩ : ByteArray).extract 0 3 = ⟨#[106, 97, 108]⟩ := lit_of (by rw [ext_toList, lit_list]; decide)
  have HN := Lib.hid (show InsAt (Ins.none 0) w.heap.size (w.alloc (.cells #[.int .i64 0, .int .i64 0, .int .i64 0, .int .i64 0, .int .i64 0, .bool false, .bool false, .int .i64 0, .int .i64 0] 23)) from heap_new w _)
  have HB0 := Lib.hid (one_box w (.cells #[.int .i64 0, .int .i64 0, .int .i64 0, .int .i64 0, .int .i64 0, .bool false, .bool false, .int .i64 0, .int .i64 0] 23))
  have HE0 := Lib.hid (eat_new [106, 97, 108, 32, 120, 49, 44, 32, 50, 48, 52, 56] w)
  have HN1 := Lib.hid (HN.out.below (one_box _ (.cells #[.string ⟨#[106, 97, 108, 32, 120, 49, 44, 32, 50, 48, 52, 56]⟩, .bool false] 96)) HN.out.facts.1)
  have HB1 := Lib.hid (HB0.out.trans ((one_box _ (.cells #[.string ⟨#[106, 97, 108, 32, 120, 49, 44, 32, 50, 48, 52, 56]⟩, .bool false] 96)).mono HB0.out.size))
  clear HN HB0
  go_enter Tryz.func20, Tryz.ntmps20
  go_wp2_with (go_at_call 34; (with_reducible refine (upTo_lit (w.heap.size + 1) _ _ _ _ r3U _ HE0.out).mono ?_); rintro e wa ⟨rfl, hE, hO⟩; have HS := Lib.hid (rst_start [32, 120, 49, 44, 32, 50, 48, 52, 56] (HN1.out.oth hO (by omega)) hE (HB1.out.trans (hO.below (by omega) HB1.out.size))); clear hE hO HE0 HN1 HB1)
  obtain ⟨W, hW⟩ : ∃ W, Hid ((wa.alloc (.cells #[.int .i64 0, .int .i64 0, .int .i64 0, .int .i64 0, .int .i64 0, .bool false, .bool false, .int .i64 0, .int .i64 0] 23)).alloc (.cells #[.string ⟨#[]⟩, .string ⟨#[46, 97, 113]⟩, .string ⟨#[46, 114, 108]⟩, .string ⟨#[46, 97, 113, 114, 108]⟩] 9) = W) := ⟨_, Lib.hid rfl⟩
  rw [hW.out] at HS ⊢
  obtain ⟨y, hy⟩ : ∃ y, Hid (wa.heap.size = y) := ⟨_, Lib.hid rfl⟩
  rw [hy.out] at HS ⊢
  clear hW hy
  go_loopw [8] (fun x wr => RdWay y (y + 1) [32, 120, 49, 44, 32, 50, 48, 52, 56] (fun k : Nat => if k ≤ 0 then Ins.none 0 else ⟨3, 0, 0, 0, 0, false, false, 0, 0⟩) w x wr) (fun x _ => 4 - (intOf x).toNat)
  case atStart => exact .inl ⟨rfl, HS.out⟩
  case round =>
    clear HS
    obtain ⟨rfl, hS⟩ | ⟨rfl, hS⟩ | ⟨rfl, hS⟩ | ⟨rfl, hS⟩ | ⟨rfl, hS⟩ := hrel
    · have S1 := Lib.hid (hS.is (j := Ins.none 0) rfl)
      clear hS
      obtain ⟨hg, e0, e1, e2, e3⟩ := S1.out.cells
      go_wp2
      go_region_held3 (fun w' => w'.cell? ⟨y + 1, 0, none⟩ = some (.string ⟨#[]⟩))
        (first | exact e0)
        ((go_at_call 35; (with_reducible refine (named_lit [106, 97, 108] 3 3 r3N0 _).mono ?_); rintro e w1 ⟨rfl, hb⟩; have S2 := Lib.hid (S1.out.drew.below hb); clear hb e0 e1 e2 e3; obtain ⟨hg, e0, e1, e2, e3⟩ := S2.out.cells))
      go_wp2_with ((go_at_call 35; (with_reducible refine (named_lit [106, 97, 108] 3 3 r3N0 _).mono ?_); rintro e w2 ⟨rfl, hb⟩; have S3 := Lib.hid (S2.out.below hb); clear hb e0 e1 e2 e3; obtain ⟨⟨c0, c1, c2, c3, c4, c5, c6, c7, c8⟩, fz, -, eb⟩ := S3.out.facts; have f0 := fz 0; have f1 := fz 1; have f2 := fz 2; have f3 := fz 3; have f4 := fz 4; have f5 := fz 5; have f6 := fz 6; have f7 := fz 7; have f8 := fz 8; clear fz; (try dsimp only [Ins.none] at c0 c1 c2 c3 c4 c5 c6 c7 c8)))
      go_roundw
      case rel => exact .inr <| .inl ⟨rfl, (S3.out.op3 _ _ _).is rfl⟩
      case measure => simp [intOf]
    · have S1 := Lib.hid (hS.is (j := ⟨3, 0, 0, 0, 0, false, false, 0, 0⟩) rfl)
      clear hS
      obtain ⟨hg, e0, e1, e2, e3⟩ := S1.out.cells
      go_wp2
      go_quiet (fail)
      go_wp2
      go_roundw
      case rel => first | exact .inr <| .inr <| .inl ⟨rfl, (S1.out.drewN _).is rfl⟩ | exact .inr <| .inr <| .inl ⟨rfl, S1.out.is rfl⟩
      case measure => simp [intOf]
    · have S1 := Lib.hid (hS.is (j := ⟨3, 0, 0, 0, 0, false, false, 0, 0⟩) rfl)
      clear hS
      obtain ⟨hg, e0, e1, e2, e3⟩ := S1.out.cells
      go_wp2
      go_quiet (fail)
      go_wp2
      go_roundw
      case rel => first | exact .inr <| .inr <| .inr <| .inl ⟨rfl, (S1.out.drewN _).is rfl⟩ | exact .inr <| .inr <| .inr <| .inl ⟨rfl, S1.out.is rfl⟩
      case measure => simp [intOf]
    · have S1 := Lib.hid (hS.is (j := ⟨3, 0, 0, 0, 0, false, false, 0, 0⟩) rfl)
      clear hS
      obtain ⟨hg, e0, e1, e2, e3⟩ := S1.out.cells
      go_wp2
      go_quiet (fail)
      go_wp2
      go_roundw
      case rel => first | exact .inr <| .inr <| .inr <| .inr ⟨rfl, (S1.out.drewN _).is rfl⟩ | exact .inr <| .inr <| .inr <| .inr ⟨rfl, S1.out.is rfl⟩
      case measure => simp [intOf]
    · have S1 := Lib.hid (hS.is (j := ⟨3, 0, 0, 0, 0, false, false, 0, 0⟩) rfl)
      clear hS
      obtain ⟨⟨c0, c1, c2, c3, c4, c5, c6, c7, c8⟩, fz, -, eb⟩ := S1.out.facts; have f0 := fz 0; have f1 := fz 1; have f2 := fz 2; have f3 := fz 3; have f4 := fz 4; have f5 := fz 5; have f6 := fz 6; have f7 := fz 7; have f8 := fz 8; clear fz; (try dsimp only [Ins.none] at c0 c1 c2 c3 c4 c5 c6 c7 c8)
      go_wp2_with (first
        | (go_at_call 37; (with_reducible refine (eat_lit (w.heap.size + 1) [32, 120, 49, 44, 32, 50, 48, 52, 56] [32] [120, 49, 44, 32, 50, 48, 52, 56] (Lib.hid (by decide)) _ S1.out.eat).mono ?_); rintro e v0 ⟨rfl, hE, hO⟩; have E0 := Lib.hid (S1.out.next hE hO); clear hE hO S1; clear c0 c1 c2 c3 c4 c5 c6 c7 c8 f0 f1 f2 f3 f4 f5 f6 f7 f8 eb; obtain ⟨⟨c0, c1, c2, c3, c4, c5, c6, c7, c8⟩, fz, -, eb⟩ := E0.out.facts; have f0 := fz 0; have f1 := fz 1; have f2 := fz 2; have f3 := fz 3; have f4 := fz 4; have f5 := fz 5; have f6 := fz 6; have f7 := fz 7; have f8 := fz 8; clear fz; (try dsimp only [Ins.none] at c0 c1 c2 c3 c4 c5 c6 c7 c8))
        | (go_at_call 38; (with_reducible refine (reg_lit (w.heap.size + 1) [49] [44, 32, 50, 48, 52, 56] 1 1 (Lib.hid (by decide)) (Lib.hid (by decide +kernel)) _ [120, 49, 44, 32, 50, 48, 52, 56] (Lib.hid (by decide)) E0.out.eat).mono ?_); rintro e v1 ⟨rfl, hE, hO⟩; have E1a := Lib.hid (E0.out.next hE hO); clear hE hO E0; clear c0 c1 c2 c3 c4 c5 c6 c7 c8 f0 f1 f2 f3 f4 f5 f6 f7 f8 eb; obtain ⟨⟨c0, c1, c2, c3, c4, c5, c6, c7, c8⟩, fz, -, eb⟩ := E1a.out.facts; have f0 := fz 0; have f1 := fz 1; have f2 := fz 2; have f3 := fz 3; have f4 := fz 4; have f5 := fz 5; have f6 := fz 6; have f7 := fz 7; have f8 := fz 8; clear fz; (try dsimp only [Ins.none] at c0 c1 c2 c3 c4 c5 c6 c7 c8); have E1 := Lib.hid (E1a.out.rd 1); clear E1a)
        | (go_at_call 37; (with_reducible refine (eat_lit (w.heap.size + 1) [44, 32, 50, 48, 52, 56] [44, 32] [50, 48, 52, 56] (Lib.hid (by decide)) _ E1.out.eat).mono ?_); rintro e v2 ⟨rfl, hE, hO⟩; have E2 := Lib.hid (E1.out.next hE hO); clear hE hO E1; clear c0 c1 c2 c3 c4 c5 c6 c7 c8 f0 f1 f2 f3 f4 f5 f6 f7 f8 eb; obtain ⟨⟨c0, c1, c2, c3, c4, c5, c6, c7, c8⟩, fz, -, eb⟩ := E2.out.facts; have f0 := fz 0; have f1 := fz 1; have f2 := fz 2; have f3 := fz 3; have f4 := fz 4; have f5 := fz 5; have f6 := fz 6; have f7 := fz 7; have f8 := fz 8; clear fz; (try dsimp only [Ins.none] at c0 c1 c2 c3 c4 c5 c6 c7 c8))
        | (go_at_call 39; (with_reducible refine (immp_lit (w.heap.size + 1) [50, 48, 52, 56] [] 2048 2048 (Lib.hid (by decide)) (Lib.hid (by decide +kernel)) _ [50, 48, 52, 56] (Lib.hid (by decide)) E2.out.eat).mono ?_); rintro e v3 ⟨rfl, hE, hO⟩; have E3a := Lib.hid (E2.out.next hE hO); clear hE hO E2; clear c0 c1 c2 c3 c4 c5 c6 c7 c8 f0 f1 f2 f3 f4 f5 f6 f7 f8 eb; obtain ⟨⟨c0, c1, c2, c3, c4, c5, c6, c7, c8⟩, fz, -, eb⟩ := E3a.out.facts; have f0 := fz 0; have f1 := fz 1; have f2 := fz 2; have f3 := fz 3; have f4 := fz 4; have f5 := fz 5; have f6 := fz 6; have f7 := fz 7; have f8 := fz 8; clear fz; (try dsimp only [Ins.none] at c0 c1 c2 c3 c4 c5 c6 c7 c8); have E3 := Lib.hid (E3a.out.imm 2048); clear E3a)
        | (go_at_call 36; (with_reducible refine (form_lit 3 2 t3F _).mono ?_); rintro e wq ⟨rfl, rfl⟩)
        | (go_at_call 41; (with_reducible refine (text_3 _).mono ?_); rintro e wt ⟨rfl, hb⟩; have ET := Lib.hid (E3.out.below hb); clear hb E3; clear c0 c1 c2 c3 c4 c5 c6 c7 c8 f0 f1 f2 f3 f4 f5 f6 f7 f8 eb; obtain ⟨⟨c0, c1, c2, c3, c4, c5, c6, c7, c8⟩, fz, -, eb⟩ := ET.out.facts; have f0 := fz 0; have f1 := fz 1; have f2 := fz 2; have f3 := fz 3; have f4 := fz 4; have f5 := fz 5; have f6 := fz 6; have f7 := fz 7; have f8 := fz 8; clear fz; (try dsimp only [Ins.none] at c0 c1 c2 c3 c4 c5 c6 c7 c8); obtain ⟨hr0, r0, r1, r2, r3, r4, r5, r6, r7, r8⟩ := ET.out.res.facts; have hrf := loose_of ET.out.res; dsimp only [Ins.none] at r0 r1 r2 r3 r4 r5 r6 r7 r8))
      refine bodyPost_ret (results_cell_tmp rfl rfl (ins_load (ins_stored ET.out.res ⟨3, 1, 0, 0, 2048, false, false, 0, 0⟩))) rfl ⟨rfl, ?_⟩
      exact ET.out.bel.trans ((oth_stored' w.heap.size wt ⟨3, 1, 0, 0, 2048, false, false, 0, 0⟩).below (Nat.le_refl _) ET.out.bel.size)
end Go.Proofs.YtbchecnidiiddaaGreatDoor
