/-
  Proved here: the document's Copy: deps in new lists, which lie in rows of ints; nothing that was there is changed. Condition: lists of at most 100,000 numbers.
-/
import Derived.Test.YtokhnjcbcpmmjaaGreatEvMakesWords
import Derived.Deep.RegionLaw
import Derived.Deep.RegionLawGrows
namespace Go.Proofs.YtokhnjcbcpmmjaaGreat
set_option linter.unusedVariables false
set_option linter.unusedSimpArgs false
open Go.RowKit
attribute [local go_sem ↓] fold_E fold_SE fold_SD

/-- append to an empty row of the call's own, at a step of a region that draws its order: new memory alone -/
theorem step_append_empty {ops : Array Oper} {o : Oper} {a : Act} {w : World} {K : Act → World → Prop} {Q : Exit → Act → World → Prop} {E : Prop} (hgd : o.guard = none) (s x : Operand)
    (ho : o.op = .call { callee := .builtin .append, args := #[s, x], argTypes := #[24, 24] }) (g : Nat) (zs : List Int) (hs : a.eval s = .slice (some ⟨g, 0, none⟩) 0 0) (hblk : w.heap[g]? = some (.cells #[] 3 (0, 0)))
    (vx : Value) (hx : a.eval x = vx) (hr : ReadsI w vx zs) (hlen : zs.length ≤ 1000000) (B : Nat) (hB : B ≤ g) (hBw : B ≤ w.heap.size)
    (h : ∀ v' w', ReadsN B w' v' zs → TypedI w' v' → Below w.heap.size w w' → K (a.put o.dst v') w') :
    if Region.wanted o (yielded ops a.tmps) = true then Oper.wp Tryz.prog o a w K Q else E := by
  obtain ⟨i0, hi, hz0, hz1, hz2⟩ := info_parts infoInt
  have hw : Region.wanted o (yielded ops a.tmps) = true := by simp [Region.wanted, hgd]
  have hown : w.ownsRow B 3 1 (.slice (some ⟨g, 0, none⟩) 0 0) ([] : List Int).length (([] : List Int).map (Value.int .i64)) :=
    ⟨by simp, .inr ⟨g, 0, #[], rfl, hB, hblk, by simp, by unfold maxLen; omega, by simp, by simp⟩⟩
  have hself : ReadsN B w (.slice (some ⟨g, 0, none⟩) 0 0) [] ∧ TypedI w (.slice (some ⟨g, 0, none⟩) 0 0) := ⟨readsN_of_own hown, typed_of_own hown⟩
  have hkept : Below w.heap.size w (w.setRow g #[]) := ⟨rfl, rfl, rfl, by simp, fun j hj => by
    by_cases e : j = g
    · subst e; rw [setRow_heap _ _ _ _ _ _ hblk, hblk]
    · exact setRow_other _ _ _ _ e⟩
  have hzero : ∀ ad c, zs = [] → a.eval x = .slice (some ad) 0 c → (if Region.wanted o (yielded ops a.tmps) = true then Oper.wp Tryz.prog o a w K Q else E) := fun ad c hz hx2 => by
    subst hz
    rw [if_pos hw]
    have hrun := run_append_room (P := Tryz.prog) w 24 o.type 3 i0 Tryz.underlying24 hi g 0 0 #[] hblk ad 0 c [] (by simp) (fun j u hu => by simp at hu) (fun u hu => by simp at hu) (by simp) (by simp)
    simp only [Nat.zero_mul, List.take_zero, List.nil_append, List.length_nil, Nat.add_zero, List.drop_zero, List.append_nil] at hrun
    unfold Oper.wp
    simp [execOp, ho, resolve, invoke, builtin, hs, hx2, hrun, Result.andThen]
    exact h _ _ (hself.1.on hkept) (hself.2.on hkept) hkept
  rcases hr with ⟨⟨ad, c, rfl, hc0⟩, rfl⟩ | ⟨b, off, c, rfl, h1, h2, h3, h4⟩
  · cases ad with
    | none =>
      obtain rfl := hc0 rfl
      have hrun := run_append_owned_none (P := Tryz.prog) (w := w) B 24 o.type 3 i0 1 Tryz.underlying24 hi _ _ _ hown
      have hx2 : a.eval x = .slice none 0 0 := hx
      rw [if_pos hw]
      unfold Oper.wp
      simp [execOp, ho, resolve, invoke, builtin, hs, hx2, hrun, Result.andThen]
      exact h _ w hself.1 hself.2 (Below.refl _ _)
    | some ad => exact hzero ad c rfl hx
  · by_cases h0 : zs.length = 0
    · obtain rfl := List.length_eq_zero_iff.1 h0
      exact hzero _ c rfl hx
    · refine step_append_grows hgd s x 24 ho 3 i0 (.int .i64 0) 1 8 Tryz.underlying24 hi hz0 hz1 hz2 rfl (by decide) (some ⟨g, 0, none⟩) 0 0 [] hs (by simp) (by simp) (by simp) ⟨b, off, none⟩ zs.length c (zs.map (Value.int .i64)) hx (by simp) ?_ (ints_oneCell .i64 zs) (by omega) (by unfold maxLen; omega) (by omega) ?_
      · intro j u hu
        have hj : j < zs.length := by
          have := (List.getElem?_eq_some_iff.1 hu).1
          simpa using this
        have ha : (⟨b, off, none⟩ : Addr).add j = ⟨b, off + j, none⟩ := by unfold Addr.add; split <;> simp_all
        rw [ha, h4 j hj]
        rw [← hu]
        simp [atI, hj]
      · intro v' w' h5 h6
        have h5' : w'.ownsRow w.heap.size 3 1 v' zs.length (zs.map (Value.int .i64)) := by simpa using h5
        exact h v' w' ((readsN_of_own h5').mono hBw) (typed_of_own h5') ((Below.refl w.heap.size w).grown h6 (Nat.le_refl _) (fun k hk => by cases hk))
theorem blk_new {W : World} {g : Nat} (h : g = W.heap.size) : (W.alloc (.cells #[] 3)).heap[g]? = some (.cells #[] 3 (0, 0)) := by subst h; exact Array.getElem?_push_size
theorem blk_old {W : World} {g : Nat} {X : Obj} (o : Obj) (h : W.heap[g]? = some X) : (W.alloc o).heap[g]? = some X := (Below.heap_alloc W o g (Array.getElem?_eq_some_iff.1 h).1).trans h
theorem blk_drew {W : World} {g : Nat} {X : Obj} (h : W.heap[g]? = some X) : W.drew.heap[g]? = some X := h
def Kept (W w : World) : Prop := ∀ (g : Nat) (X : Obj), W.heap[g]? = some X → w.heap[g]? = some X
theorem Kept.of {W w : World} (hb : Below W.heap.size W w) : Kept W w := fun g X hX => (hb.block g (Array.getElem?_eq_some_iff.1 hX).1).trans hX
theorem Kept.use {W w : World} {g : Nat} {X : Obj} (h : Kept W w) (hX : W.heap[g]? = some X) : w.heap[g]? = some X := h g X hX
theorem blw_alloc {w W : World} (o : Obj) (h : Below w.heap.size w W) : Below w.heap.size w (W.alloc o) := h.alloc h.size o
theorem blw_drew {w W : World} (h : Below w.heap.size w W) : Below w.heap.size w W.drew := h.drew
theorem Ow.alloc {a d y : Value} {al dl yl : List Int} {n : Nat} {w W : World} (h : Ow a d y al dl yl n w W) (o : Obj) : Ow a d y al dl yl n w (W.alloc o) := h.on (box_below W o)
set_option maxRecDepth 100000 in
set_option maxHeartbeats 8000000 in
theorem copy_any (a d y : Value) (al dl yl : List Int) (w : World) (ha : ReadsI w a al) (hd : ReadsI w d dl) (hy : ReadsI w y yl) (na : al.length ≤ 100000) (nd : dl.length ≤ 100000) (ny : yl.length ≤ 100000) :
    Calls Tryz.prog 59 #[.agg #[a, d, y]] w fun e w' => DepsT w al dl yl e w' := by
  have S0 := Lib.hid (Ow.start a d y al dl yl w ha hd hy)
  have NA := Lib.hid na
  have ND := Lib.hid nd
  have NY := Lib.hid ny
  clear ha hd hy na nd ny
  go_enter Tryz.func59, Tryz.ntmps59
  go_upto_region 1 with fail
  obtain ⟨W, hW⟩ : ∃ W, Hid ((w.alloc (.cells #[a, d, y] 58)).alloc (.cells #[.slice none 0 0, .slice none 0 0, .slice none 0 0] 58) = W) := ⟨_, Lib.hid rfl⟩
  rw [hW.out] at S0 ⊢
  clear hW
  have LT := Lib.hid S0.out.lt
  obtain ⟨f0, f1, f2⟩ := S0.out.f3
  go_region_held3 (fun w' => w'.cell? ⟨w.heap.size, 0, none⟩ = some a ∧ w'.cell? ⟨w.heap.size, 1, none⟩ = some d ∧ w'.cell? ⟨w.heap.size, 2, none⟩ = some y)
    (first | exact S0.out.drew.f3 | exact S3.out.f3set _ | exact (S0.out.on (by repeat (first | with_reducible exact L3.out | with_reducible exact L2.out | with_reducible exact L1.out | with_reducible exact Below.refl _ _ | with_reducible refine blw_drew ?_ | with_reducible refine blw_alloc _ ?_))).f3)
    ((first
      | (refine step_append_empty (by rfl) (.tmp 3) (.tmp 5) (by rfl) _ al (by rfl) (by repeat (first | with_reducible refine blk_drew ?_ | exact blk_new rfl | (with_reducible refine blk_new ?_; simp only [World.size_alloc]; done) | with_reducible refine blk_old _ ?_ | with_reducible refine Kept.use G2.out ?_ | with_reducible refine Kept.use G1.out ?_)) _ (by rfl) (ReadsI.below S0.out.ra (by repeat (first | with_reducible exact Below.refl _ _ | with_reducible refine blw_drew ?_ | with_reducible refine blw_alloc _ ?_))) (by have := NA.out; omega) W.heap.size (by have := LT.out; (try have := Z1.out); (try have := Z2.out); (try simp only [World.size_alloc, World.drew]); omega) (by have := LT.out; (try have := Z1.out); (try have := Z2.out); (try simp only [World.size_alloc, World.drew]); omega) ?_; intro v1 w1 hd ht hb; have L1 : Hid (Below W.heap.size W w1) := Lib.hid (Below.trans (by repeat (first | with_reducible exact Below.refl _ _ | with_reducible refine blw_drew ?_ | with_reducible refine blw_alloc _ ?_)) (hb.mono (by have := LT.out; (try have := Z1.out); (try have := Z2.out); (try simp only [World.size_alloc, World.drew]); omega))); have G1 := Lib.hid (Kept.of hb); obtain ⟨a1, c1, rfl⟩ := hd.1.len; have V1 := Lib.hid hd; have T1 := Lib.hid ht; have Z1 : Hid (W.heap.size ≤ w1.heap.size) := Lib.hid L1.out.size; clear hd ht hb)
      | (refine step_append_empty (by rfl) (.tmp 7) (.tmp 9) (by rfl) _ dl (by rfl) (by repeat (first | with_reducible refine blk_drew ?_ | exact blk_new rfl | (with_reducible refine blk_new ?_; simp only [World.size_alloc]; done) | with_reducible refine blk_old _ ?_ | with_reducible refine Kept.use G2.out ?_ | with_reducible refine Kept.use G1.out ?_)) _ (by rfl) (ReadsI.below S0.out.rd (by repeat (first | with_reducible exact L1.out | with_reducible exact Below.refl _ _ | with_reducible refine blw_drew ?_ | with_reducible refine blw_alloc _ ?_))) (by have := ND.out; omega) W.heap.size (by have := LT.out; (try have := Z1.out); (try have := Z2.out); (try simp only [World.size_alloc, World.drew]); omega) (by have := LT.out; (try have := Z1.out); (try have := Z2.out); (try simp only [World.size_alloc, World.drew]); omega) ?_; intro v2 w2 hd ht hb; have L2 : Hid (Below W.heap.size W w2) := Lib.hid (Below.trans (by repeat (first | with_reducible exact L1.out | with_reducible exact Below.refl _ _ | with_reducible refine blw_drew ?_ | with_reducible refine blw_alloc _ ?_)) (hb.mono (by have := LT.out; (try have := Z1.out); (try have := Z2.out); (try simp only [World.size_alloc, World.drew]); omega))); have G2 := Lib.hid (Kept.of hb); obtain ⟨a2, c2, rfl⟩ := hd.1.len; have V2 := Lib.hid hd; have T2 := Lib.hid ht; have Z2 : Hid (W.heap.size ≤ w2.heap.size) := Lib.hid L2.out.size; have M12 : Hid (Below w1.heap.size w1 w2) := Lib.hid (Below.trans (by repeat (first | with_reducible exact Below.refl _ _ | with_reducible refine blw_drew ?_ | with_reducible refine blw_alloc _ ?_)) (hb.mono (by (try simp only [World.size_alloc, World.drew]); omega))); have V12 := Lib.hid (V1.out.on M12.out); have T12 := Lib.hid (T1.out.on M12.out); clear hd ht hb)
      | (refine step_append_empty (by rfl) (.tmp 11) (.tmp 13) (by rfl) _ yl (by rfl) (by repeat (first | with_reducible refine blk_drew ?_ | exact blk_new rfl | (with_reducible refine blk_new ?_; simp only [World.size_alloc]; done) | with_reducible refine blk_old _ ?_ | with_reducible refine Kept.use G2.out ?_ | with_reducible refine Kept.use G1.out ?_)) _ (by rfl) (ReadsI.below S0.out.ry (by repeat (first | with_reducible exact L2.out | with_reducible exact L1.out | with_reducible exact Below.refl _ _ | with_reducible refine blw_drew ?_ | with_reducible refine blw_alloc _ ?_))) (by have := NY.out; omega) W.heap.size (by have := LT.out; (try have := Z1.out); (try have := Z2.out); (try simp only [World.size_alloc, World.drew]); omega) (by have := LT.out; (try have := Z1.out); (try have := Z2.out); (try simp only [World.size_alloc, World.drew]); omega) ?_; intro v3 w3 hd ht hb; have L3 : Hid (Below W.heap.size W w3) := Lib.hid (Below.trans (by repeat (first | with_reducible exact L2.out | with_reducible exact L1.out | with_reducible exact Below.refl _ _ | with_reducible refine blw_drew ?_ | with_reducible refine blw_alloc _ ?_)) (hb.mono (by have := LT.out; (try have := Z1.out); (try have := Z2.out); (try simp only [World.size_alloc, World.drew]); omega))); have G3 := Lib.hid (Kept.of hb); obtain ⟨a3, c3, rfl⟩ := hd.1.len; have V3 := Lib.hid hd; have T3 := Lib.hid ht; have Z3 : Hid (W.heap.size ≤ w3.heap.size) := Lib.hid L3.out.size; have M23 : Hid (Below w2.heap.size w2 w3) := Lib.hid (Below.trans (by repeat (first | with_reducible exact Below.refl _ _ | with_reducible refine blw_drew ?_ | with_reducible refine blw_alloc _ ?_)) (hb.mono (by (try simp only [World.size_alloc, World.drew]); omega))); have V13 := Lib.hid (V12.out.on M23.out); have T13 := Lib.hid (T12.out.on M23.out); have V23 := Lib.hid (V2.out.on M23.out); have T23 := Lib.hid (T2.out.on M23.out); have S3 := Lib.hid (S0.out.on L3.out); have run1 := run_StoreD S3.out.res V13.out.one V23.out.one V3.out.one; clear hd ht hb)))
  all_goals
    have LT2 : w.heap.size + 1 < W.heap.size := by have := LT.out; omega
    have hst := Lib.hid (S3.out.done ⟨V13.out.mono LT.out, V23.out.mono LT.out, V3.out.mono LT.out⟩)
    have hty := Lib.hid (show TypedD (w3.setRow (w.heap.size + 1) #[.slice a1 al.length c1, .slice a2 dl.length c2, .slice a3 yl.length c3]) (.slice a1 al.length c1) (.slice a2 dl.length c2) (.slice a3 yl.length c3) from ⟨typed_row T13.out V13.out LT2, typed_row T23.out V23.out LT2, typed_row T3.out V3.out LT2⟩)
    go_wp2
    refine bodyPost_ret (deps_end rfl rfl hst.out.2) rfl ?_
    obtain ⟨x1, x2, x3, he, hN, hB⟩ := hst.out.1
    refine ⟨_, _, _, rfl, ?_, hty.out, hB⟩
    simp only [Ending.returned.injEq, Value.agg.injEq, Array.mk.injEq, List.cons.injEq, and_true] at he
    obtain ⟨rfl, rfl, rfl⟩ := he
    exact hN
end Go.Proofs.YtokhnjcbcpmmjaaGreat
