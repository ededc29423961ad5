/-
  Proved here: package code's Dump of the example's two words, Bytes of the example's word; nothing that was there is changed. Condition: the tables of Go's library as it lays them.
  (With it: Proved here: the contract of word.Bytes: it makes one new block of the bytes and hands it back. No condition.)
-/
import Derived.Test.YtbchecnidiiddaaGreatDoorInsnShape
import Derived.Laws.BytesArg
import Derived.Test.YtbchecnidiiddaaGreatDoorCodeText
import Derived.Test.YtbchecnidiiddaaGreatDoorCodePublic
import Derived.Laws.AppendOwn
namespace Go.Proofs.YtbchecnidiiddaaGreatDoor
open Go.RowKit

theorem clamp_hid {n h r : Int} (H : Hid (cl n h = r)) (w : World) : Calls Tryz.prog 17 #[.int .i64 n, .int .i64 h] w fun e w' => e = .returned (.int .i64 r) ∧ w = w' :=
  H.out ▸ clamp_any n h w
theorem cl_is (n : Int) (h : Nat) : ∃ k : Nat, cl n (h : Int) = (k : Int) ∧ k ≤ h := by
  have h0 := cl_lo n (h : Int) (by omega)
  have h1 := cl_hi n (h : Int) (by omega)
  exact ⟨(cl n h).toNat, by omega, by omega⟩
/-- byte i of x, in the walk's spelling -/
def byteI (x : Int) (i : Nat) : Int := x / 2 ^ (i * 8) % 256
def rowA (x : Int) (k j : Nat) : Array Value := ((List.range k).map fun i => Value.int .u8 (if i < j then byteI x i else 0)).toArray
theorem info5 : (Tryz.prog.info? 5).map (fun i => (i.zero, i.size, i.bytes)) = some (some (.int .u8 0), 1, 1) := by kernel_rfl
theorem rowA_get (x : Int) (k j : Nat) (h : j < k) : (rowA x k j)[j]? = some (.int .u8 0) := by
  unfold rowA; simp [h]

theorem made_row (x : Int) (k : Nat) : madeCells #[.int .u8 0] k = rowA x k 0 := by
  unfold madeCells rowA
  apply Array.ext
  · simp
  · intro i h1 h2
    simp [Nat.mod_one]
theorem make_row (x : Int) (k : Nat) (hk : k ≤ 8) (w : World) : (Instr.makeSlice 31 (.int .i64 (k : Int)) (.int .i64 (k : Int))).run Tryz.prog w =
    .ok (.slice (some ⟨w.heap.size, 0, none⟩) k k) (w.alloc (.cells (rowA x k 0) 5)) := by
  obtain ⟨i0, hi, hz0, hz1, hz2⟩ := info_parts info5
  have h := run_make (P := Tryz.prog) w 31 5 i0 (.int .u8 0) Tryz.underlying31 hi hz0 .i64 .i64 (k : Int) (k : Int) (by omega) (by omega) (by rw [hz2]; omega) (by omega)
  rw [h, hz1, Int.toNat_natCast, Nat.mul_one]
  show Result.ok _ (w.alloc (.cells (madeCells #[.int .u8 0] k) _)) = _
  rw [made_row x k]
theorem row_set (x : Int) (k j : Nat) : (rowA x k j).setIfInBounds j (.int .u8 (byteI x j)) = rowA x k (j + 1) := by
  unfold rowA
  apply Array.ext
  · simp
  · intro i h1 h2
    simp
    by_cases e : j = i
    · subst e; simp
    · have : (i < j) ↔ (i < j + 1) := by omega
      simp [e, this]

set_option maxHeartbeats 1000000 in
theorem Bytes_any (x n : Int) (w : World) : Calls Tryz.prog 13 #[.int .u64 x, .int .i64 n] w fun e w' =>
    e = .returned (.slice (some ⟨w.heap.size, 0, none⟩) (cl n 8).toNat (cl n 8).toNat) ∧ w' = w.alloc (.cells (rowA x (cl n 8).toNat (cl n 8).toNat) 5) := by
  obtain ⟨k, hk, hk8⟩ := cl_is n 8
  have HK := Lib.hid (show cl n 8 = (k : Int) from hk)
  have hk' : (cl n 8).toNat = k := by rw [HK.out, Int.toNat_natCast]
  rw [hk']
  clear hk hk'
  have hmk := make_row x k hk8
  have HR := Lib.hid (row_set x k)
  go_enter Tryz.func13, Tryz.ntmps13
  go_wp2_with (go_at_call 17; (with_reducible refine (clamp_hid HK _).mono ?_); rintro e w' ⟨rfl, rfl⟩)
  go_loopw [6, 12] (fun _ i wr => ∃ j : Nat, j ≤ k ∧ i = .int .i64 j ∧ wr = w.alloc (.cells (rowA x k j) 5)) (fun _ i _ => k - (intOf i).toNat)
  case atStart => exact ⟨0, by omega, rfl, rfl⟩
  case round =>
    obtain ⟨j, hj, rfl, rfl⟩ := hrel
    clear hmk
    by_cases hlt : j < k
    · have hg := rowA_get x k j hlt
      go_wp2_with (fail)
      go_roundw
      case rel => exact ⟨j + 1, by omega, by go_num, by rw [← HR.out]; rfl⟩
      case measure => simp [intOf]; omega
    · go_wp2_with (fail)
      go_ret
      obtain rfl : j = k := by omega
      exact ⟨rfl, rfl⟩

end Go.Proofs.YtbchecnidiiddaaGreatDoor
namespace Go.Proofs.YtbchecnidiiddaaGreatDoor
set_option linter.unusedVariables false
set_option linter.unusedSimpArgs false
open Go.RowKit

theorem infoStr : (Tryz.prog.info? 9).map (fun i => (i.zero, i.size, i.bytes)) = some (some (.string ⟨#[]⟩), 1, 16) := by kernel_rfl
theorem news_at {w : World} {X : Nat} {cs : Array Value} {t : TypeId} (hr : w.heap[X]? = some (.cells cs t (0, 0))) (j : Nat) (u : Value) (hu : cs.toList[j]? = some u) : w.cell? ((⟨X, 0, none⟩ : Addr).add j) = some u := by
  have ha : (⟨X, 0, none⟩ : Addr).add j = ⟨X, j, none⟩ := by unfold Addr.add; split <;> simp_all
  rw [ha, cell_of_row w X j _ _ _ hr]
  simpa using hu
theorem append_str {ops : Array Oper} {rest : List Oper} {o : Oper} {a : Act} {w : World} {Q : Exit → Act → World → Prop} (hgd : o.guard = none) (sx x : Operand)
    (ho : o.op = .call { callee := .builtin .append, args := #[sx, x], argTypes := #[32, 32] }) (base : Nat) (v : Value) (n : Nat) (xs : List Value) (hs : a.eval sx = v) (hown : w.ownsRow base 9 1 v n xs)
    (s : ByteArray) (X : Nat) (hx : a.eval x = .slice (some ⟨X, 0, none⟩) 1 1) (hr : w.heap[X]? = some (.cells #[.string s] 9 (0, 0))) (hn : n ≤ 1000) (hbase : base ≤ w.heap.size)
    (h : ∀ v' w', w'.ownsRow base 9 1 v' (n + 1) (xs ++ [.string s]) → w.grownBy w' v.ownBlock → wpList Tryz.prog ops Q rest (a.put o.dst v') w') : wpList Tryz.prog ops Q (o :: rest) a w := by
  obtain ⟨i0, hi, hz0, hz1, hz2⟩ := info_parts infoStr
  refine wpList_append_own w hgd sx x _ ho base 9 i0 (.string ⟨#[]⟩) 1 16 Tryz.underlying32 hi hz0 hz1 hz2 rfl (by decide) v n xs hs hown ⟨X, 0, none⟩ 1 1 [.string s] hx rfl ?_ ?_ (by unfold maxLen; omega) (by omega) hbase (fun v' w' h5 h6 _ => h v' w' h5 h6)
  · intro j u hu
    exact news_at hr j u (by simpa using hu)
  · intro u hu
    rw [List.mem_singleton] at hu
    subst hu; rfl
theorem append_four {ops : Array Oper} {rest : List Oper} {o : Oper} {a : Act} {w : World} {Q : Exit → Act → World → Prop} (hgd : o.guard = none) (sx x : Operand)
    (ho : o.op = .call { callee := .builtin .append, args := #[sx, x], argTypes := #[31, 31] }) (base : Nat) (v : Value) (hs : a.eval sx = v) (hown : w.ownsRow base 5 1 v 0 [])
    (X : Nat) (b0 b1 b2 b3 : Int) (hx : a.eval x = .slice (some ⟨X, 0, none⟩) 4 4) (hr : w.heap[X]? = some (.cells #[.int .u8 b0, .int .u8 b1, .int .u8 b2, .int .u8 b3] 5 (0, 0))) (hbase : base ≤ w.heap.size)
    (h : ∀ v' w', w'.ownsRow base 5 1 v' 4 [.int .u8 b0, .int .u8 b1, .int .u8 b2, .int .u8 b3] → w.grownBy w' v.ownBlock → wpList Tryz.prog ops Q rest (a.put o.dst v') w') : wpList Tryz.prog ops Q (o :: rest) a w := by
  obtain ⟨i0, hi, hz0, hz1, hz2⟩ := info_parts info5
  refine wpList_append_own w hgd sx x _ ho base 5 i0 (.int .u8 0) 1 1 Tryz.underlying31 hi hz0 hz1 hz2 rfl (by decide) v 0 [] hs hown ⟨X, 0, none⟩ 4 4 [.int .u8 b0, .int .u8 b1, .int .u8 b2, .int .u8 b3] hx rfl ?_ ?_ (by unfold maxLen; omega) (by omega) hbase (fun v' w' h5 h6 _ => h v' w' (by simpa using h5) h6)
  · intro j u hu
    exact news_at hr j u (by simpa using hu)
  · intro u hu
    simp only [List.mem_cons, List.not_mem_nil, or_false] at hu
    rcases hu with rfl | rfl | rfl | rfl <;> rfl
theorem own_on {w w' : World} {base size n : Nat} {e : TypeId} {v : Value} {xs : List Value} (h : w.ownsRow base e size v n xs) (hb : Below w.heap.size w w') : w'.ownsRow base e size v n xs := by
  refine ⟨h.1, ?_⟩
  rcases h.2 with hn | ⟨g, cap, cur, rfl, hb1, hgg, rest⟩
  · exact .inl hn
  · exact .inr ⟨g, cap, cur, rfl, hb1, (hb.block g (Array.getElem?_eq_some_iff.1 hgg).1).trans hgg, rest⟩
theorem own_oth {w w' : World} {base size n r : Nat} {e : TypeId} {v : Value} {xs : List Value} (h : w.ownsRow base e size v n xs) (ho : Oth r w w') (hr : r < base) : w'.ownsRow base e size v n xs := by
  refine ⟨h.1, ?_⟩
  rcases h.2 with hn | ⟨g, cap, cur, rfl, hb1, hgg, rest⟩
  · exact .inl hn
  · exact .inr ⟨g, cap, cur, rfl, hb1, (ho.2.2.2.2 g (Array.getElem?_eq_some_iff.1 hgg).1 (by omega)).trans hgg, rest⟩
/-- a book under what an append changed -/
theorem BookOk.grown {n base k : Nat} {w w' : World} {e : TypeId} {v : Value} {xs : List Value} (h : BookOk n w) (hown : w.ownsRow base e 1 v k xs) (hg : w.grownBy w' v.ownBlock) (hn : n < base) : BookOk n w' := by
  rcases hown.2 with ⟨rfl, _⟩ | ⟨r, cap, cur, rfl, hb1, hgg, _⟩
  · exact h.below ⟨hg.os, hg.tape, hg.output, hg.size, fun j hj => hg.block j hj (by simp [Value.ownBlock])⟩
  · have ho : Oth r w w' := ⟨hg.os, hg.tape, hg.output, hg.size, fun j hj hne => hg.block j hj (by simp [Value.ownBlock]; exact hne)⟩
    refine h.oth ho (by omega) (fun m hm => map_ne hm.2.1 hgg)
/-- the book, the row of texts so far, the words -/
structure Dm (g : Nat) (A : Obj) (v : Value) (k : Nat) (ss : List Value) (w W : World) : Prop where
  book : BookOk w.heap.size W
  own : W.ownsRow (w.heap.size + 1) 9 1 v k ss
  tab : TabB w.heap.size W
  below : Below w.heap.size w W
  args : W.heap[g]? = some A
  old : g < w.heap.size
theorem Dm.oth {g : Nat} {A : Obj} {v : Value} {k : Nat} {ss : List Value} {w W W2 : World} (h : Dm g A v k ss w W) (hb : BookOk w.heap.size W2) (ho : Oth w.heap.size W W2) : Dm g A v k ss w W2 :=
  ⟨hb, own_oth h.own ho (Nat.lt_succ_self _), h.tab.oth (Nat.le_refl _) ho, h.below.trans (ho.below (Nat.le_refl _) h.below.size), (ho.2.2.2.2 g (Array.getElem?_eq_some_iff.1 h.args).1 (by have := h.old; omega)).trans h.args, h.old⟩
theorem Dm.on {g : Nat} {A : Obj} {v : Value} {k : Nat} {ss : List Value} {w W W2 : World} (h : Dm g A v k ss w W) (hb : Below W.heap.size W W2) : Dm g A v k ss w W2 :=
  ⟨h.book.below hb, own_on h.own hb, h.tab.on (hb.mono h.below.size), h.below.trans (hb.mono h.below.size), (hb.block g (Array.getElem?_eq_some_iff.1 h.args).1).trans h.args, h.old⟩
theorem Dm.grown {g : Nat} {A : Obj} {v v2 : Value} {k : Nat} {ss : List Value} {w W W2 : World} (h : Dm g A v k ss w W) {k2 : Nat} {ss2 : List Value} (ho : W2.ownsRow (w.heap.size + 1) 9 1 v2 k2 ss2) (hg : W.grownBy W2 v.ownBlock) : Dm g A v2 k2 ss2 w W2 := by
  have hB : Below w.heap.size W W2 := ⟨hg.os, hg.tape, hg.output, hg.size, fun j hj => hg.block j (Nat.lt_of_lt_of_le hj h.below.size) (fun e => by have := (h.own.lt j e.symm).1; omega)⟩
  exact ⟨h.book.grown h.own hg (Nat.lt_succ_self _), ho, h.tab.on hB, h.below.trans hB, (hB.block g h.old).trans h.args, h.old⟩
theorem line_115 : lineS 115#64 = ⟨#[101, 99, 97, 108, 108]⟩ := by decide +kernel
theorem line_ff : lineS 4294967295#64 = ⟨#[46, 102, 102, 102, 102, 102, 102, 102, 102]⟩ := by decide +kernel
abbrev dumpV : List Value := [.string ⟨#[101, 99, 97, 108, 108]⟩, .string ⟨#[46, 102, 102, 102, 102, 102, 102, 102, 102]⟩]
def DumpIs (w : World) (e : Ending) (w' : World) : Prop := ∃ g2 cap, e = .returned (.slice (some ⟨g2, 0, none⟩) 2 cap) ∧ w'.cell? ⟨g2, 0, none⟩ = some (.string ⟨#[101, 99, 97, 108, 108]⟩) ∧ w'.cell? ⟨g2, 1, none⟩ = some (.string ⟨#[46, 102, 102, 102, 102, 102, 102, 102, 102]⟩) ∧ g2 < w'.heap.size ∧ Below w.heap.size w w'
set_option maxRecDepth 100000 in
set_option maxHeartbeats 4000000 in
theorem dump_two (g : Nat) (w : World) (hg : w.heap[g]? = some (.cells #[.int .u32 115, .int .u32 4294967295] 27 (0, 0))) (hT : TabB w.heap.size w) : Calls Tryz.prog 6 #[.slice (some ⟨g, 0, none⟩) 2 2] w fun e w' => DumpIs w e w' := by
  have hlt := (Array.getElem?_eq_some_iff.1 hg).1
  have hmk : ∀ W, (Instr.makeSlice 32 (.int .i64 0) (.int .i64 2)).run Tryz.prog W = .ok (.slice (some ⟨W.heap.size, 0, none⟩) 0 2) (W.alloc (.cells #[.string ⟨#[]⟩, .string ⟨#[]⟩] 9)) := fun _ => by kernel_rfl
  have K1 : Hid (∀ W, BookOk w.heap.size W → TabB w.heap.size W → Calls Tryz.prog 11 #[.pointer (some ⟨w.heap.size, 0, none⟩), .int .u32 115] W fun e w' => LineOk w.heap.size ⟨#[101, 99, 97, 108, 108]⟩ W e w') := Lib.hid (fun W hb hT => by rw [← line_115]; exact line_any w.heap.size w.heap.size 115#64 (by decide) W hb hT (Nat.le_refl _))
  have K2 : Hid (∀ W, BookOk w.heap.size W → TabB w.heap.size W → Calls Tryz.prog 11 #[.pointer (some ⟨w.heap.size, 0, none⟩), .int .u32 4294967295] W fun e w' => LineOk w.heap.size ⟨#[46, 102, 102, 102, 102, 102, 102, 102, 102]⟩ W e w') := Lib.hid (fun W hb hT => by rw [← line_ff]; exact line_any w.heap.size w.heap.size 4294967295#64 (by decide) W hb hT (Nat.le_refl _))
  have S0 : Hid (Dm g (.cells #[.int .u32 115, .int .u32 4294967295] 27 (0, 0)) (.slice (some ⟨w.heap.size + 1, 0, none⟩) 0 2) 0 [] w ((w.alloc ZB).alloc (.cells #[.string ⟨#[]⟩, .string ⟨#[]⟩] 9))) := Lib.hid (by
    have hb1 := one_box w ZB
    have hb2 := one_box (w.alloc ZB) (.cells #[.string ⟨#[]⟩, .string ⟨#[]⟩] 9)
    have ho := World.ownsRow_made (base := w.heap.size + 1) (e := 9) (size := 1) (w.alloc ZB) #[.string ⟨#[]⟩, .string ⟨#[]⟩] 2 (by simp) (by unfold maxLen; omega) (by simp)
    simp only [World.size_alloc] at ho
    have hbook : BookOk w.heap.size (w.alloc ZB) := .inl ⟨_, heap_new w ZB⟩
    exact ⟨hbook.below hb2, ho, (hT.on hb1).on (hb2.mono (by simp)), hb1.trans (hb2.mono (by simp)), (hb2.block g (by simp; omega)).trans ((hb1.block g hlt).trans hg), hlt⟩)
  clear hT hg
  have c0 : ((w.alloc ZB).alloc (.cells #[.string ⟨#[]⟩, .string ⟨#[]⟩] 9)).cell? ⟨g, 0, none⟩ = some (.int .u32 115) := by rw [cell_of_row _ g 0 _ _ _ S0.out.args]; rfl
  go_enter Tryz.func6, Tryz.ntmps6
  go_wp2
  refine wp_loop_rounds 3 ?_
  rw [rounds_succ]
  go_wp2_with (first
    | (go_at_call 11; (with_reducible refine (K1.out _ S0.out.book S0.out.tab).mono ?_); rintro e w1 ⟨rfl, hb1, hO1⟩; have S1 := Lib.hid ((S0.out.oth hb1 hO1).on (one_box w1 (.cells #[.string ⟨#[101, 99, 97, 108, 108]⟩] 9))); clear hb1 hO1 c0)
    | (refine append_str rfl (.tmp 13) (.tmp 18) rfl (w.heap.size + 1) _ 0 [] rfl S1.out.own ⟨#[101, 99, 97, 108, 108]⟩ w1.heap.size rfl (heap_new w1 _) (by omega) (by have := S1.out.below.size; have := S1.out.book.lt; omega) ?_; intro v2 w2 hw2 hg2; have S2 := Lib.hid (S1.out.grown hw2 hg2); clear hw2 hg2; have c1 : w2.cell? ⟨g, 1, none⟩ = some (.int .u32 4294967295) := by (rw [cell_of_row _ g 1 _ _ _ S2.out.args]; rfl)))
  rw [rounds_succ]
  go_wp2_with (first
    | (go_at_call 11; (with_reducible refine (K2.out _ S2.out.book S2.out.tab).mono ?_); rintro e w3 ⟨rfl, hb1, hO1⟩; have S3 := Lib.hid ((S2.out.oth hb1 hO1).on (one_box w3 (.cells #[.string ⟨#[46, 102, 102, 102, 102, 102, 102, 102, 102]⟩] 9))); clear hb1 hO1 c1)
    | (refine append_str rfl (.tmp 13) (.tmp 18) rfl (w.heap.size + 1) v2 1 [.string ⟨#[101, 99, 97, 108, 108]⟩] rfl S3.out.own ⟨#[46, 102, 102, 102, 102, 102, 102, 102, 102]⟩ w3.heap.size rfl (heap_new w3 _) (by omega) (by have := S3.out.below.size; have := S3.out.book.lt; omega) ?_; intro v4 w4 hw4 hg4; have S4 := Lib.hid (S3.out.grown hw4 hg4); clear hw4 hg4))
  rw [rounds_succ]
  go_wp2
  go_ret
  rcases S4.out.own.2 with ⟨_, h0⟩ | ⟨g2, cap, cur, rfl, hb2, hgg, _⟩
  · cases h0
  · have q0 := S4.out.own.cells (g := g2) (by simp [Value.ownBlock]) 0 (.string ⟨#[101, 99, 97, 108, 108]⟩) rfl
    have q1 := S4.out.own.cells (g := g2) (by simp [Value.ownBlock]) 1 (.string ⟨#[46, 102, 102, 102, 102, 102, 102, 102, 102]⟩) rfl
    rw [Addr.add_lit] at q0 q1
    exact ⟨g2, cap, rfl, q0, q1, (Array.getElem?_eq_some_iff.1 hgg).1, S4.out.below⟩
def BytesIs (w : World) (e : Ending) (w' : World) : Prop := ∃ g2 cap, e = .returned (.slice (some ⟨g2, 0, none⟩) 4 cap) ∧ (convert 31 9 (.slice (some ⟨g2, 0, none⟩) 4 cap)).run Tryz.prog w' = .ok (.string ⟨#[1, 2, 3, 4]⟩) w' ∧ Below w.heap.size w w'
theorem row_1234 : rowA 67305985 4 4 = #[.int .u8 1, .int .u8 2, .int .u8 3, .int .u8 4] := by kernel_rfl
theorem wordBytes_any (w : World) : Calls Tryz.prog 13 #[.int .u64 67305985, .int .i64 4] w fun e w' => e = .returned (.slice (some ⟨w.heap.size, 0, none⟩) 4 4) ∧ w.alloc (.cells #[.int .u8 1, .int .u8 2, .int .u8 3, .int .u8 4] 5) = w' := by
  refine (Bytes_any 67305985 4 w).mono fun e w' h => ?_
  rw [show (cl 4 8).toNat = 4 from rfl, row_1234] at h
  exact ⟨h.1, h.2.symm⟩
set_option maxRecDepth 100000 in
set_option maxHeartbeats 4000000 in
theorem bytes_one (g : Nat) (w : World) (hg : w.heap[g]? = some (.cells #[.int .u32 67305985] 27 (0, 0))) : Calls Tryz.prog 8 #[.slice (some ⟨g, 0, none⟩) 1 1] w fun e w' => BytesIs w e w' := by
  have hlt := (Array.getElem?_eq_some_iff.1 hg).1
  have hmk : ∀ W, (Instr.makeSlice 31 (.int .i64 0) (.int .i64 4)).run Tryz.prog W = .ok (.slice (some ⟨W.heap.size, 0, none⟩) 0 4) (W.alloc (.cells #[.int .u8 0, .int .u8 0, .int .u8 0, .int .u8 0] 5)) := fun _ => by kernel_rfl
  have c0 : (w.alloc (.cells #[.int .u8 0, .int .u8 0, .int .u8 0, .int .u8 0] 5)).cell? ⟨g, 0, none⟩ = some (.int .u32 67305985) := by
    rw [cell_of_row _ g 0 _ _ _ (((one_box w (.cells #[.int .u8 0, .int .u8 0, .int .u8 0, .int .u8 0] 5)).block g hlt).trans hg)]; rfl
  have HO := Lib.hid (World.ownsRow_made (base := w.heap.size) (e := 5) (size := 1) w #[.int .u8 0, .int .u8 0, .int .u8 0, .int .u8 0] 4 (Nat.le_refl _) (by unfold maxLen; omega) (by simp))
  have HB := Lib.hid (one_box w (.cells #[.int .u8 0, .int .u8 0, .int .u8 0, .int .u8 0] 5))
  have HO2 := Lib.hid (own_on HO.out (one_box (w.alloc (.cells #[.int .u8 0, .int .u8 0, .int .u8 0, .int .u8 0] 5)) (.cells #[.int .u8 1, .int .u8 2, .int .u8 3, .int .u8 4] 5)))
  have HB2 := Lib.hid (HB.out.alloc HB.out.size (.cells #[.int .u8 1, .int .u8 2, .int .u8 3, .int .u8 4] 5))
  have HN : Hid (((w.alloc (.cells #[.int .u8 0, .int .u8 0, .int .u8 0, .int .u8 0] 5)).alloc (.cells #[.int .u8 1, .int .u8 2, .int .u8 3, .int .u8 4] 5)).heap[w.heap.size + 1]? = some (.cells #[.int .u8 1, .int .u8 2, .int .u8 3, .int .u8 4] 5 (0, 0))) := Lib.hid (by
    have := heap_new (w.alloc (.cells #[.int .u8 0, .int .u8 0, .int .u8 0, .int .u8 0] 5)) (.cells #[.int .u8 1, .int .u8 2, .int .u8 3, .int .u8 4] 5)
    simp only [World.size_alloc] at this
    exact this)
  go_enter Tryz.func8, Tryz.ntmps8
  go_wp2
  refine wp_loop_rounds 2 ?_
  rw [rounds_succ]
  go_wp2_with (first
    | (go_at_call 13; (with_reducible refine (wordBytes_any _).mono ?_); rintro e w1 ⟨rfl, rfl⟩)
    | (refine append_four rfl (.tmp 13) (.tmp 18) rfl w.heap.size _ rfl HO2.out (w.heap.size + 1) 1 2 3 4 rfl HN.out HB2.out.size ?_; intro v2 w2 hw2 hg2; have S2 := Lib.hid hw2; have L2 := Lib.hid (HB2.out.grown hg2 HB2.out.size (fun k hk => (HO2.out.lt k hk).1)); clear hw2 hg2))
  rw [rounds_succ]
  go_wp2
  go_ret
  rcases S2.out.2 with ⟨_, h0⟩ | ⟨g2, cap, cur, rfl, hb2, hgg, _⟩
  · cases h0
  · refine ⟨g2, cap, rfl, ?_, L2.out⟩
    exact run_convert_bytes_back (P := Tryz.prog) w2 31 9 5 ⟨g2, 0, none⟩ cap [1, 2, 3, 4] Tryz.underlying31 Tryz.underlying5 Tryz.underlying9 (fun j hj => by
      have hj4 : j < 4 := hj
      have h4 : j = 0 ∨ j = 1 ∨ j = 2 ∨ j = 3 := by omega
      rcases h4 with rfl | rfl | rfl | rfl
      · exact S2.out.cells (g := g2) (by simp [Value.ownBlock]) 0 _ rfl
      · exact S2.out.cells (g := g2) (by simp [Value.ownBlock]) 1 _ rfl
      · exact S2.out.cells (g := g2) (by simp [Value.ownBlock]) 2 _ rfl
      · exact S2.out.cells (g := g2) (by simp [Value.ownBlock]) 3 _ rfl)
end Go.Proofs.YtbchecnidiiddaaGreatDoor
