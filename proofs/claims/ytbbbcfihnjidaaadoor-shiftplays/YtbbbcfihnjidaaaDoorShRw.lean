/- The document's own Word. -/
import Derived.Test.YtbbbcfihnjidaaaDoorShOk
namespace Go.Proofs.YtbbbcfihnjidaaaDoor
open Go.RowKit
def Word (n : Int) : Prop := 0 ≤ n ∧ n ≤ 65535
theorem word_yes (n : Int) (w : World) (h : Word n) : Calls Tryd.prog 23 #[.int .i64 n] w fun e w' => e = .returned (.bool true) ∧ w' = w := by
  obtain ⟨h1, h2⟩ := h
  go_enter Tryd.func23, Tryd.ntmps23
  go_wp2
  go_ret
  exact ⟨rfl, rfl⟩
theorem word_no (n : Int) (w : World) (h : ¬ Word n) : Calls Tryd.prog 23 #[.int .i64 n] w fun e w' => e = .returned (.bool false) ∧ w' = w := by
  by_cases h1 : 0 ≤ n
  · have h2 : ¬ n ≤ 65535 := fun h2 => h ⟨h1, h2⟩
    clear h
    go_enter Tryd.func23, Tryd.ntmps23
    go_wp2
    go_ret
    exact ⟨rfl, rfl⟩
  · clear h
    go_enter Tryd.func23, Tryd.ntmps23
    go_wp2
    go_ret
    exact ⟨rfl, rfl⟩
theorem word_any (n : Int) (w : World) : Calls Tryd.prog 23 #[.int .i64 n] w fun e w' => e = .returned (.bool (up 65535 n)) ∧ w' = w := by
  by_cases h : 0 ≤ n ∧ n ≤ 65535
  · rw [show up 65535 n = true from decide_eq_true h]; exact word_yes n w h
  · rw [show up 65535 n = false from decide_eq_false h]; exact word_no n w h
end Go.Proofs.YtbbbcfihnjidaaaDoor
