/-
  Proved here: seats are compared field by field; kit's Same tells that two rows of the same seats are the same. No condition.
-/
import Derived.Test.YthkakikigccaaaaDtLives
import Derived.Test.YthkakikigccaaaaDtSeek
import Derived.Laws.StructEq
import Derived.Deep.QuietTactic
namespace Go.Proofs.Ythkakikigccaaaa
open Go.RowKit Go.Lib
set_option linter.unusedVariables false
set_option linter.unusedSimpArgs false

theorem eqP9 (nm : ByteArray) (sz ht : Int) (w : World) : (Op.equalIn 9999 32 (.agg #[.string nm, .int .i64 sz, .int .i64 ht]) (.agg #[.string nm, .int .i64 sz, .int .i64 ht])).run Try.prog w = .ok true w := by
  have hS : Try.prog.underlying 32 = some (.struct (Try.prog.fieldsOf 32)) := by kernel_rfl
  have hp : Try.prog.stoodInHeld 32 = false := by kernel_rfl
  have u3 := Try.underlying3
  have a3 := Try.isAgg3
  have z3 := Try.sizeOf3
  have u9 := Try.underlying9
  have a9 := Try.isAgg9
  have z9 := Try.sizeOf9
  rw [show (9999 : Nat) = 9998 + 1 from rfl, run_equalIn_agg w 9998 32 _ _ hS hp]
  simp only [Program.fieldsOf, Try.underlying32]
  go_simp
theorem eqS_run (s : Se) (w : World) : (binOp .eql 34 (.agg #[.string s.p.name, .int .i64 s.p.size, .int .i64 s.p.hart, .int .u64 s.addr]) (.agg #[.string s.p.name, .int .i64 s.p.size, .int .i64 s.p.hart, .int .u64 s.addr])).run Try.prog w = .ok (.bool true) w := by
  have hS : Try.prog.underlying 34 = some (.struct (Try.prog.fieldsOf 34)) := by kernel_rfl
  have hp : Try.prog.stoodInHeld 34 = false := by kernel_rfl
  have u8 := Try.underlying28
  have a8 := Try.isAgg28
  have z8 := Try.sizeOf28
  have a2 := Try.isAgg32
  have z2 := Try.sizeOf32
  have e9 := eqP9 s.p.name s.p.size s.p.hart
  rw [run_eql_struct, show (10000 : Nat) = 9999 + 1 from rfl, run_equalIn_agg w 9999 34 _ _ hS hp]
  simp only [Program.fieldsOf, Try.underlying34]
  go_simp
theorem neqS_run (s : Se) (w : World) : (binOp .neq 34 (.agg #[.string s.p.name, .int .i64 s.p.size, .int .i64 s.p.hart, .int .u64 s.addr]) (.agg #[.string s.p.name, .int .i64 s.p.size, .int .i64 s.p.hart, .int .u64 s.addr])).run Try.prog w = .ok (.bool false) w := by
  have h := eqS_run s w
  rw [run_eql_struct] at h
  rw [run_neq_struct]
  go_simp
theorem below_drewS {B : Nat} {a w : World} (h : Below B a w) (n : Nat) : Below B a (w.drewN n) := ⟨h.os, h.tape, h.output, h.size, h.block⟩
set_option maxHeartbeats 1000000 in
theorem Same_any (a a2 : Option Addr) (c c2 : Nat) (l : List Se) (w : World) (hn : l.length ≤ 1000) (h1 : Sm w a l) (h2 : Sm w a2 l) :
    Calls Try.prog 21 #[.slice a l.length c, .slice a2 l.length c2] w fun e w' => e = .returned (.bool true) ∧ Below w.heap.size w w' := by
  have H1 := Lib.hid h1
  have H2 := Lib.hid h2
  have mixed : Try.prog.follows .mixedOrders = true := by kernel_rfl
  clear h1 h2
  go_enter Try.func21, Try.ntmps21
  go_wp2
  go_loopw [5] (fun vi wr => ∃ k : Nat, k ≤ l.length ∧ vi = .int .i64 k ∧ Hid (Below w.heap.size w wr)) (fun vi _ => l.length - (intOf vi).toNat)
  case atStart => exact ⟨0, Nat.zero_le _, rfl, Lib.hid (Below.refl _ _)⟩
  case round =>
    obtain ⟨k, hk, rfl, HB⟩ := hrel
    by_cases hlt : k < l.length
    · have hlz : (k : Int) < (l.length : Int) := by omega
      obtain ⟨b, off, ha, hbl, hP⟩ := Sm.at_ (H1.out.below HB.out) hlt
      obtain ⟨b2, off2, ha2, hbl2, hP2⟩ := Sm.at_ (H2.out.below HB.out) hlt
      subst ha ha2
      obtain ⟨s, hs⟩ : ∃ s, s = l[k] := ⟨_, rfl⟩
      rw [← hs] at hP hP2
      clear hs
      obtain ⟨⟨n1, n2, n3⟩, n4⟩ := hP
      obtain ⟨⟨m1, m2, m3⟩, m4⟩ := hP2
      have nq' := fun W => neqS_run s W
      go_wp2_with fail
      go_quiet (fail)
      go_wp2
      go_roundw
      case rel => exact ⟨k + 1, by omega, by go_num, Lib.hid (below_drewS HB.out nq)⟩
      case measure => simp [intOf]; omega
    · obtain rfl : k = l.length := by omega
      go_wp2
      go_ret
      exact ⟨rfl, HB.out⟩
theorem seatsL_snoc (Y : List Pc) (p : Pc) : seatsL (Y ++ [p]) = seatsL Y ++ [⟨p, plI (sumS Y)⟩] := by
  unfold seatsL
  rw [List.length_append, List.length_singleton, List.range_succ, List.map_append]
  congr 1
  · apply List.map_congr_left
    intro i hi
    have hi' : i < Y.length := List.mem_range.1 hi
    unfold seatAt
    rw [List.take_append_of_le_length (by omega)]
    congr 1
    simp [hi', List.getElem?_append_left hi']
  · unfold seatAt
    simp
theorem seatsL_len (Y : List Pc) : (seatsL Y).length = Y.length := by simp [seatsL]
theorem flatS_snoc (l : List Se) (s : Se) : flatS (l ++ [s]) = flatS l ++ seV s := by unfold flatS; rw [List.flatMap_append]; simp
/-- append of one seat -/
theorem append_seat {ops : Array Oper} {rest : List Oper} {o : Oper} {a : Act} {w : World} {Q : Exit → Act → World → Prop} (hgd : o.guard = none) (s x : Operand)
    (ho : o.op = .call { callee := .builtin .append, args := #[s, x], argTypes := #[22, 22] }) (base : Nat) (v : Value) (n : Nat) (xs : List Value) (hs : a.eval s = v) (hown : w.ownsRow base 34 4 v n xs)
    (b : Nat) (t : Se) (hx : a.eval x = .slice (some ⟨b, 0, none⟩) 1 1) (hr : ∀ j u, (seV t)[j]? = some u → w.cell? ⟨b, j, none⟩ = some u) (hn : n ≤ 1000) (hbase : base ≤ w.heap.size)
    (h : ∀ v' w', w'.ownsRow base 34 4 v' (n + 1) (xs ++ seV t) → w.grownBy w' v.ownBlock → wpList Try.prog ops Q rest (a.put o.dst v') w') : wpList Try.prog ops Q (o :: rest) a w := by
  obtain ⟨i0, hi, hz0, hz1, hz2⟩ := info_parts infoS
  refine wpList_append_own w hgd s x _ ho base 34 i0 (.agg #[.string ⟨#[]⟩, .int .i64 0, .int .i64 0, .int .u64 0]) 4 40 Try.underlying22 hi hz0 hz1 hz2 (by kernel_rfl) (by decide) v n xs hs hown ⟨b, 0, none⟩ 1 1 (seV t) hx (by rfl) ?_ (seV_one t) (by unfold maxLen; omega) (by omega) hbase fun v' w' h5 h6 _ => h v' w' h5 h6
  intro j u hu
  rw [Addr.add_lit, Nat.zero_add]
  exact hr j u hu
/-- a row of the call's own as a slice of seats -/
theorem ss_of_own {base : Nat} {w : World} {v : Value} {l : List Se} (h : w.ownsRow base 34 4 v l.length (flatS l)) : ∃ (a : Option Addr) (c : Nat), v = .slice a l.length c ∧ Sm w a l := by
  have ho := h
  rcases h.2 with ⟨rfl, h0⟩ | ⟨g, cap, cur, rfl, hb, hgg, hcc, hm2, hs, ht⟩
  · have : l = [] := List.eq_nil_of_length_eq_zero h0
    subst this
    exact ⟨none, 0, rfl, .inl rfl⟩
  · refine ⟨some ⟨g, 0, none⟩, cap, rfl, .inr ⟨g, 0, rfl, ⟨fun k hk => ?_, (Array.getElem?_eq_some_iff.1 hgg).1⟩⟩⟩
    have at_ : ∀ r u, r < 4 → (seV l[k])[r]? = some u → w.cell? ⟨g, 0 + k * 4 + r, none⟩ = some u := by
      intro r u hr hu
      have hx : (flatS l)[k * 4 + r]? = some u := by rw [← hu]; exact flat_at (enc := seV) (k := 4) (fun _ => rfl) l k r hk hr
      have := ho.cells (g := g) (by simp [Value.ownBlock]) (k * 4 + r) u hx
      rw [Addr.add_lit] at this
      rw [← this]; congr 2; omega
    exact ⟨⟨at_ 0 _ (by omega) rfl, at_ 1 _ (by omega) rfl, at_ 2 _ (by omega) rfl⟩, at_ 3 _ (by omega) rfl⟩
end Go.Proofs.Ythkakikigccaaaa
