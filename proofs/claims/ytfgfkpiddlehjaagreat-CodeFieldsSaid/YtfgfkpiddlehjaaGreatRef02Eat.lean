/-
  Proved here: the document's own eater (layer 2) takes what stands there, and tells what stands ahead of a sign. Condition: a text has at most 10000 bytes.
-/
import Derived.Test.YtfgfkpiddlehjaaGreatCodeWord
import Derived.Test.YtfgfkpiddlehjaaGreatRef02Check
import Derived.Deep.QuietTactic
import Derived.BigQuiet
import Derived.LoopTactic
import Derived.StillTailTactics
namespace Go.Proofs.YtfgfkpiddlehjaaGreat
set_option linter.unusedVariables false
open Go.RowKit

def EatAt (n : Nat) (s : ByteArray) (b : Bool) (w : World) : Prop := w.heap[n]? = some (.cells #[.string s, .bool b] 72 (0, 0))
theorem EatAt.facts {n : Nat} {s : ByteArray} {b : Bool} {w : World} (h : EatAt n s b w) : n < w.heap.size ∧ w.cell? ⟨n, 0, none⟩ = some (.string s) ∧ w.cell? ⟨n, 1, none⟩ = some (.bool b) ∧ w.frozen? ⟨n, 0, none⟩ = false ∧ w.frozen? ⟨n, 1, none⟩ = false := by
  unfold EatAt at h
  exact ⟨(Array.getElem?_eq_some_iff.1 h).1, by simp [World.cell?, h], by simp [World.cell?, h], by simp [World.frozen?, h], by simp [World.frozen?, h]⟩
theorem EatAt.oth {n r : Nat} {s : ByteArray} {b : Bool} {w w' : World} (h : EatAt n s b w) (ho : Oth r w w') (hn : n ≠ r) : EatAt n s b w' := (ho.2.2.2.2 n h.facts.1 hn).trans h
theorem EatAt.below {n : Nat} {s : ByteArray} {b : Bool} {w w' : World} (h : EatAt n s b w) (hb : Below w.heap.size w w') : EatAt n s b w' := (hb.block n h.facts.1).trans h
theorem EatAt.text {n : Nat} {s : ByteArray} {b : Bool} {w : World} (h : EatAt n s b w) (t : ByteArray) : EatAt n t b (w.setCell ⟨n, 0, none⟩ (.string t)) := heap_set _ h
theorem EatAt.bad {n : Nat} {s : ByteArray} {b : Bool} {w : World} (h : EatAt n s b w) (c : Bool) : EatAt n s c (w.setCell ⟨n, 1, none⟩ (.bool c)) := heap_set _ h
theorem ext_toList (s : ByteArray) (i j : Nat) : (s.extract i j).toList = (s.toList.take j).drop i := by
  rw [ByteArray.toList_eq, ByteArray.toList_eq, ByteArray.data_extract, Array.toList_extract, List.extract_eq_take_drop, List.drop_take]
/-- just that, where it stands there -/
def AteOk (n : Nat) (r : List UInt8) (b : Bool) (w : World) (e : Ending) (w' : World) : Prop := ∃ R : ByteArray, e = .returned (.tuple #[]) ∧ R.toList = r ∧ EatAt n R b w' ∧ Oth n w w'
set_option maxRecDepth 100000 in
set_option maxHeartbeats 1000000 in
theorem eat_yes (n : Nat) (S p : ByteArray) (b : Bool) (r : List UInt8) (w : World) (h : EatAt n S b w) (hs : Hid (S.toList = p.toList ++ r)) (hl : S.size ≤ 10000) :
    Calls Tryz.prog 26 #[.pointer (some ⟨n, 0, none⟩), .string p] w fun e w' => AteOk n r b w e w' := by
  have hsz : S.size = p.size + r.length := by
    have := congrArg List.length hs.out
    rw [List.length_append, ByteArray.toList_eq, ByteArray.toList_eq] at this
    exact this
  have d1 : decide ((S.size : Int) < (p.size : Int)) = false := by simp; omega
  have d2 : (S.extract 0 p.size).toList = p.toList := by
    rw [ext_toList, hs.out]
    have : p.size = p.toList.length := by rw [ByteArray.toList_eq]; rfl
    rw [this]; simp
  have d3 : ((S.extract 0 p.size).toList == p.toList) = true := by rw [d2]; simp
  have HQ : Hid ((S.extract p.size S.size).toList = r) := Lib.hid (by
    rw [ext_toList, hs.out]
    have h1 : p.size = p.toList.length := by rw [ByteArray.toList_eq]; rfl
    have h2 : S.size = (p.toList ++ r).length := by rw [← hs.out, ByteArray.toList_eq]; rfl
    rw [h1, h2, List.take_length, List.drop_left])
  obtain ⟨hz, c0, c1, f0, f1⟩ := h.facts
  have H := Lib.hid h
  have hp : p.size ≤ S.size := by omega
  clear h d2 hsz
  go_enter Tryz.func26, Tryz.ntmps26
  go_wp2
  go_end0
  exact ⟨_, rfl, HQ.out, H.out.text _, Oth.setCell n 0 w _⟩
/-! ### up to a sign -/
def inG (G : ByteArray) (c : UInt8) : Bool := G.toList.contains c
theorem getE (S : ByteArray) (k : Nat) (h : k < S.size) : S.toList[k]? = some S[k] := by
  rw [ByteArray.toList_eq]
  show S.data.toList[k]? = _
  rw [Array.getElem?_toList, Array.getElem?_eq_getElem h]
  rfl
def UpWay (n : Nat) (S G : ByteArray) (b : Bool) (w : World) (x : Value) (wr : World) : Prop := ∃ i : Nat, i ≤ S.size ∧ x = .int .i64 i ∧ (∀ j, ∀ hj : j < S.size, j < i → inG G S[j] = false) ∧ EatAt n S b wr ∧ Oth n w wr
def UpIn (n : Nat) (S G : ByteArray) (i : Nat) (hi : i < S.size) (b : Bool) (w : World) (y : Value) (wr : World) : Prop := ∃ k : Nat, k ≤ G.size ∧ y = .int .i64 k ∧ (∀ j, ∀ hj : j < G.size, j < k → G[j] ≠ S[i]) ∧ EatAt n S b wr ∧ Oth n w wr
def UpOk (n : Nat) (S G : ByteArray) (b : Bool) (w : World) (e : Ending) (w' : World) : Prop :=
  ∃ P R : ByteArray, e = .returned (.string P) ∧ P.toList = S.toList.takeWhile (fun c => !inG G c) ∧ R.toList = S.toList.dropWhile (fun c => !inG G c) ∧ EatAt n R b w' ∧ Oth n w w'
theorem span_at (S G : ByteArray) (i : Nat) (hi : i < S.size) (h : ∀ j, ∀ hj : j < S.size, j < i → inG G S[j] = false) (hc : inG G S[i] = true) :
    (S.extract 0 i).toList = S.toList.takeWhile (fun c => !inG G c) ∧ (S.extract i S.size).toList = S.toList.dropWhile (fun c => !inG G c) := by
  have hl : S.toList.length = S.size := by rw [ByteArray.toList_eq]; rfl
  have e : S.toList = S.toList.take i ++ S.toList.drop i := (List.take_append_drop i _).symm
  have hall : ∀ c ∈ S.toList.take i, (!inG G c) = true := by
    intro c hc
    obtain ⟨j, hj, rfl⟩ := List.getElem_of_mem hc
    have hj2 : j < i := by rw [List.length_take] at hj; omega
    have : (S.toList.take i)[j] = S[j]'(by omega) := by
      rw [List.getElem_take]
      have := getE S j (by omega)
      rw [List.getElem?_eq_getElem (by omega)] at this
      exact Option.some.inj this
    rw [this, h j (by omega) hj2]; rfl
  have hd : S.toList.drop i = S[i] :: S.toList.drop (i + 1) := by
    have := getE S i hi
    rw [List.drop_eq_getElem_cons (by omega)]
    rw [List.getElem?_eq_getElem (by omega)] at this
    rw [Option.some.inj this]
  have h1 : S.toList.takeWhile (fun c => !inG G c) = S.toList.take i := by
    conv => lhs; rw [e]
    rw [List.takeWhile_append_of_pos hall, hd, List.takeWhile_cons, hc]; simp
  have h2 : S.toList.dropWhile (fun c => !inG G c) = S.toList.drop i := by
    conv => lhs; rw [e]
    rw [List.dropWhile_append_of_pos hall, hd, List.dropWhile_cons, hc]; simp
  rw [h1, h2, ext_toList, ext_toList]
  refine ⟨by simp, ?_⟩
  rw [← hl, List.take_length]
theorem span_no (S G : ByteArray) (h : ∀ j, ∀ hj : j < S.size, inG G S[j] = false) :
    S.toList = S.toList.takeWhile (fun c => !inG G c) ∧ (⟨#[]⟩ : ByteArray).toList = S.toList.dropWhile (fun c => !inG G c) := by
  have hl : S.toList.length = S.size := by rw [ByteArray.toList_eq]; rfl
  have hall : ∀ c ∈ S.toList, (!inG G c) = true := by
    intro c hc
    obtain ⟨j, hj, rfl⟩ := List.getElem_of_mem hc
    have := getE S j (by omega)
    rw [List.getElem?_eq_getElem hj] at this
    rw [Option.some.inj this, h j (by omega)]; rfl
  have h1 := List.takeWhile_append_of_pos (l₂ := []) hall
  have h2 := List.dropWhile_append_of_pos (l₂ := []) hall
  rw [List.append_nil, List.takeWhile_nil, List.append_nil] at h1
  rw [List.append_nil, List.dropWhile_nil] at h2
  refine ⟨h1.symm, ?_⟩
  rw [h2, ByteArray.toList_eq]
set_option maxRecDepth 100000 in
set_option maxHeartbeats 2000000 in
theorem eatTo_any (n : Nat) (S G : ByteArray) (b : Bool) (w : World) (h : EatAt n S b w) (hl : S.size ≤ 10000) (hg : G.size ≤ 10) :
    Calls Tryz.prog 24 #[.pointer (some ⟨n, 0, none⟩), .string G] w fun e w' => UpOk n S G b w e w' := by
  have H0 := Lib.hid h
  clear h
  go_enter Tryz.func24, Tryz.ntmps24
  go_wp2
  go_loopw [5] (fun x wr => UpWay n S G b w x wr) (fun x _ => S.size - (intOf x).toNat)
  case atStart => exact ⟨0, Nat.zero_le _, rfl, fun j _ h => absurd h (Nat.not_lt_zero _), H0.out, Oth.refl _ _⟩
  case round =>
    obtain ⟨i, hi, rfl, hn, hE, hO⟩ := hrel
    have E1 := Lib.hid hE
    have O1 := Lib.hid hO
    have N1 := Lib.hid hn
    obtain ⟨hz, c0, c1, f0, f1⟩ := hE.facts
    clear hE hO hn
    by_cases hlt : i < S.size
    · go_wp2
      clear hz c0 c1 f0 f1
      go_loopw [6] (fun y wr => UpIn n S G i hlt b w y wr) (fun y _ => G.size - (intOf y).toNat)
      case atStart => exact ⟨0, Nat.zero_le _, rfl, fun j _ h => absurd h (Nat.not_lt_zero _), E1.out, O1.out⟩
      case round =>
        obtain ⟨k, hk, rfl, hm, hE, hO⟩ := hrel
        have E2 := Lib.hid hE
        have O2 := Lib.hid hO
        have N2 := Lib.hid hm
        obtain ⟨hz, c0, c1, f0, f1⟩ := hE.facts
        clear hE hO hm
        by_cases hkt : k < G.size
        · by_cases hc : ((S[i].toNat : Int) == (G[k].toNat : Int)) = true
          · have HC : Hid (inG G S[i] = true) := Lib.hid (by
              have e : S[i] = G[k] := UInt8.toNat_inj.1 (by have := eq_of_beq hc; omega)
              unfold inG; rw [e]
              have := List.mem_of_getElem? (getE G k hkt)
              simpa using this)
            have HS := Lib.hid (span_at S G i hlt N1.out HC.out)
            go_wp2
            go_quiet (fail)
            go_wp2
            go_ret
            exact ⟨_, _, rfl, HS.out.1, HS.out.2, E2.out.text _, O2.out.trans (Oth.setCell n 0 wr _)⟩
          · have hc2 : ((S[i].toNat : Int) == (G[k].toNat : Int)) = false := by simpa using hc
            have HC : Hid (G[k] ≠ S[i]) := Lib.hid (fun h => hc (by rw [h]; simp))
            clear hc
            go_wp2
            go_quiet (fail)
            go_wp2
            go_roundw
            case rel =>
              refine ⟨k + 1, by omega, by go_num, ?_, E2.out, O2.out⟩
              intro j hj hjk
              by_cases e : j = k
              · subst e; exact HC.out
              · exact N2.out j hj (by omega)
            case measure => simp [intOf]; omega
        · have HC : Hid (inG G S[i] = false) := Lib.hid (by
            unfold inG
            rw [Bool.eq_false_iff]
            intro hh
            have hm : S[i] ∈ G.toList := by simpa using hh
            obtain ⟨j, hj, e⟩ := List.getElem_of_mem hm
            have hjs : j < G.size := by have : G.toList.length = G.size := (by rw [ByteArray.toList_eq]; rfl); omega
            have h2 := getE G j hjs
            rw [List.getElem?_eq_getElem hj] at h2
            exact N2.out j hjs (by omega) ((Option.some.inj h2).symm.trans e))
          go_wp2
          go_roundw
          case rel =>
            refine ⟨i + 1, by omega, by go_num, ?_, E2.out, O2.out⟩
            intro j hj hjk
            by_cases e : j = i
            · subst e; exact HC.out
            · exact N1.out j hj (by omega)
          case measure => simp [intOf]; omega
    · have HS := Lib.hid (span_no S G (fun j hj => N1.out j hj (by omega)))
      go_wp2
      go_ret
      exact ⟨_, _, rfl, HS.out.1, HS.out.2, E1.out.text _, O1.out.trans (Oth.setCell n 0 _ _)⟩
end Go.Proofs.YtfgfkpiddlehjaaGreat
