/-
  Proved here: the law EventMakes answers true; nothing that was there is changed. Condition: numbers of 64 bits; the tables of strconv and math/bits as the library lays them.
-/
import Derived.Test.YtjdfhohchicgbaaDoorEvMakes1
import Derived.Test.YtjdfhohchicgbaaDoorEvMakes2
import Derived.Test.YtjdfhohchicgbaaDoorEvMakes3
import Derived.Test.YtjdfhohchicgbaaDoorEvMakes4
import Derived.Test.YtjdfhohchicgbaaDoorEvMakes5
import Derived.Test.YtjdfhohchicgbaaDoorEvMakes6
import Derived.Test.YtjdfhohchicgbaaDoorEvMakesSkip
namespace Go.Proofs.YtjdfhohchicgbaaDoor
open Go.RowKit

theorem makes_any (hart pos found : Int) (q : Aq) (a1 a2 a3 : Option Addr) (c1 c2 c3 : Nat) (al dl yl : List Int) (w : World) (hT : TabB w) (hfit : Fit hart pos found q)
    (hr : ReadsI w (.slice a1 al.length c1) al ∧ ReadsI w (.slice a2 dl.length c2) dl ∧ ReadsI w (.slice a3 yl.length c3) yl) :
    Calls Tryd.prog 4 #[.int .i64 hart, .int .i64 pos, q.V, .int .u64 found, .agg #[.slice a1 al.length c1, .slice a2 dl.length c2, .slice a3 yl.length c3]] w fun e w' => SameOk w true e w' := by
  cases hL : (decide (al.length ≤ 60) && (decide (dl.length ≤ 60) && decide (yl.length ≤ 60))) with
  | false => exact skip_heavy hart pos found q a1 a2 a3 c1 c2 c3 al dl yl w hT hfit hr hL
  | true =>
    simp only [Bool.and_eq_true, decide_eq_true_eq] at hL
    obtain ⟨na, nd, ny⟩ := hL
    by_cases h1 : q.kind < 1
    · exact skip_low hart pos found q a1 a2 a3 c1 c2 c3 al dl yl w hT hfit hr na nd ny h1
    by_cases h6 : 6 < q.kind
    · exact skip_high hart pos found q a1 a2 a3 c1 c2 c3 al dl yl w hT hfit hr na nd ny h6
    have hk : 1 ≤ q.kind ∧ q.kind ≤ 6 := by omega
    by_cases h8 : q.addr % 8 = 0
    · cases hA : aheadB (1 + pickI pos 1000) al with
      | false => exact skip_badA hart pos found q a1 a2 a3 c1 c2 c3 al dl yl w hT hfit hr na nd ny hk h8 hA
      | true =>
        cases hD : aheadB (1 + pickI pos 1000) dl with
        | false => exact skip_badD hart pos found q a1 a2 a3 c1 c2 c3 al dl yl w hT hfit hr na nd ny hk h8 hA hD
        | true =>
          cases hY : aheadB (1 + pickI pos 1000) yl with
          | false => exact skip_badY hart pos found q a1 a2 a3 c1 c2 c3 al dl yl w hT hfit hr na nd ny hk h8 hA hD hY
          | true =>
            have hc : q.kind = 1 ∨ q.kind = 2 ∨ q.kind = 3 ∨ q.kind = 4 ∨ q.kind = 5 ∨ q.kind = 6 := by omega
            rcases hc with hq | hq | hq | hq | hq | hq
            · exact makes_1 hart pos found q a1 a2 a3 c1 c2 c3 al dl yl w hT hfit hr na nd ny hq h8 hA hD hY
            · exact makes_2 hart pos found q a1 a2 a3 c1 c2 c3 al dl yl w hT hfit hr na nd ny hq h8 hA hD hY
            · exact makes_3 hart pos found q a1 a2 a3 c1 c2 c3 al dl yl w hT hfit hr na nd ny hq h8 hA hD hY
            · exact makes_4 hart pos found q a1 a2 a3 c1 c2 c3 al dl yl w hT hfit hr na nd ny hq h8 hA hD hY
            · rcases amE_is q.op with hE | hE
              · exact makes_5 hart pos found q a1 a2 a3 c1 c2 c3 al dl yl w hT hfit hr na nd ny hq h8 hA hD hY hE
              · exact makes_5b hart pos found q a1 a2 a3 c1 c2 c3 al dl yl w hT hfit hr na nd ny hq h8 hA hD hY hE
            · exact makes_6 hart pos found q a1 a2 a3 c1 c2 c3 al dl yl w hT hfit hr na nd ny hq h8 hA hD hY
    · exact skip_odd hart pos found q a1 a2 a3 c1 c2 c3 al dl yl w hT hfit hr na nd ny hk h8
end Go.Proofs.YtjdfhohchicgbaaDoor
