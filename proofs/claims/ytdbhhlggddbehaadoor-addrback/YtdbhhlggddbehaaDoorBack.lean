/- The walk of the statement AddrBack, whole. -/
import Derived.Test.YtdbhhlggddbehaaDoorBack1
import Derived.Test.YtdbhhlggddbehaaDoorBack2
import Derived.Test.YtdbhhlggddbehaaDoorBack3
namespace Go.Proofs.YtdbhhlggddbehaaDoor
open Go.RowKit Go.Shelf

theorem back_walk (a b : List Int) (n : Int) (s : ByteArray) (w : World) (hA : LaidA w) (hP : Pow10 w) (hla : a.length = 8) :
    Calls Tryd.prog 3 #[six a, six b, .int .i64 n, .string s] w fun e w' => e = .returned (.bool true) ∧ Below w.heap.size w w' := by
  by_cases hn : n < 0 ∨ 4294967295 < n
  · cases hz : AM.parseF s.data.toList with
    | none =>
      by_cases ha : Ok6 a
      · by_cases hb : Ok6 b
        · exact back_yes00 a b n s w hA hP ha hla hb hn hz
        · exact back_half00 a b n s w hA hP ha hla hb hn hz
      · exact back_bad00 a b n s w hA hP ha hn hz
    | some z =>
      by_cases ha : Ok6 a
      · by_cases hb : Ok6 b
        · exact back_yes01 a b n s w hA hP ha hla hb hn z hz
        · exact back_half01 a b n s w hA hP ha hla hb hn z hz
      · exact back_bad01 a b n s w hA hP ha hn z hz
  · have hn2 : 0 ≤ n ∧ n ≤ 4294967295 := by omega
    cases hz : AM.parseF s.data.toList with
    | none =>
      by_cases ha : Ok6 a
      · by_cases hb : Ok6 b
        · exact back_yes10 a b n s w hA hP ha hla hb hn2 hz
        · exact back_half10 a b n s w hA hP ha hla hb hn2 hz
      · exact back_bad10 a b n s w hA hP ha hn2 hz
    | some z =>
      by_cases ha : Ok6 a
      · by_cases hb : Ok6 b
        · exact back_yes11 a b n s w hA hP ha hla hb hn2 z hz
        · exact back_half11 a b n s w hA hP ha hla hb hn2 z hz
      · exact back_bad11 a b n s w hA hP ha hn2 z hz
end Go.Proofs.YtdbhhlggddbehaaDoor
