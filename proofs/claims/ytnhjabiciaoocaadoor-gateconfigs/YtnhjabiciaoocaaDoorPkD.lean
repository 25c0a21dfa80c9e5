/- Word, SixFault, IsFour and FlowFault of the document's own. -/
import Derived.Test.YtnhjabiciaoocaaDoorJS6Own
import Derived.Test.YtnhjabiciaoocaaDoorJSgEnc
import Derived.Test.YtnhjabiciaoocaaDoorJPkF
import Derived.Below
import Derived.OpenShut
import Derived.Test.YtnhjabiciaoocaaDoorProg
import Derived.WalkKit
import Derived.LaidEql
import Derived.BigQuiet
import Derived.Laws.AppendOwnNone
import Derived.Laws.MakeOwn
import Derived.Deep.RegionLaw
import Derived.Lib.Bytes
import Derived.Deep.MidRow
import Derived.Laws.ResultCell
import Derived.Deep.CutBlock
import Derived.Deep.QuietTactic
import Derived.OwnWalk
import Derived.Deep.RegionHeld3
import Derived.Deep.DrawnRows
import Derived.Maps.AppendAt
import Derived.Laws.StructEq
namespace Go.Proofs.YtnhjabiciaoocaaDoor
open Go.RowKit
theorem word_yes (n : Int) (w : World) (h : Word n) : Calls Tryd.prog 11 #[.int .i64 n] w fun e w' => e = .returned (.bool true) ∧ w' = w := by
  obtain ⟨h1, h2⟩ := h
  go_enter Tryd.func11, Tryd.ntmps11
  go_wp2
  go_ret
  exact ⟨rfl, rfl⟩
theorem word_no (n : Int) (w : World) (h : ¬ Word n) : Calls Tryd.prog 11 #[.int .i64 n] w fun e w' => e = .returned (.bool false) ∧ w' = w := by
  by_cases h1 : 0 ≤ n
  · have h2 : ¬ n ≤ 65535 := fun h2 => h ⟨h1, h2⟩
    clear h
    go_enter Tryd.func11, Tryd.ntmps11
    go_wp2
    go_ret
    exact ⟨rfl, rfl⟩
  · clear h
    go_enter Tryd.func11, Tryd.ntmps11
    go_wp2
    go_ret
    exact ⟨rfl, rfl⟩
set_option maxHeartbeats 1000000 in
theorem fault_any (z : List Int) (w : World) : Calls Tryd.prog 10 #[six z] w fun e w' => ((Ok6 z ∧ e = .returned (.int .i64 0)) ∨ (¬ Ok6 z ∧ e = .returned (.int .i64 1))) ∧ Below w.heap.size w w' := by
  have hS := six_new z w
  have hB : Below w.heap.size w (w.alloc (.cells #[.int .i64 (el z 0), .int .i64 (el z 1), .int .i64 (el z 2), .int .i64 (el z 3), .int .i64 (el z 4), .int .i64 (el z 5), .int .i64 (el z 6), .int .i64 (el z 7)] 23)) := (Below.refl _ _).alloc (Nat.le_refl _) _
  unfold six
  go_enter Tryd.func10, Tryd.ntmps10
  go_wp2
  generalize w.alloc (.cells #[.int .i64 (el z 0), .int .i64 (el z 1), .int .i64 (el z 2), .int .i64 (el z 3), .int .i64 (el z 4), .int .i64 (el z 5), .int .i64 (el z 6), .int .i64 (el z 7)] 23) = W at hS hB ⊢
  go_loop [3] (fun t => ∃ k : Nat, k ≤ 8 ∧ (∀ j, j < k → Word (el z j)) ∧ t = .int .i64 k) (fun t => 8 - (intOf t).toNat)
  case atStart => exact ⟨0, by omega, fun i hi => absurd hi (by omega), rfl⟩
  case round =>
    obtain ⟨k, hk, hin, rfl⟩ := hrel
    have HI := hide hin
    clear hin
    by_cases hlt : k < 8
    · have hc := (hS.facts k hlt).1
      by_cases hx : Word (el z k)
      · have HX := hide hx
        generalize el z k = x at hc hx
        go_wp2_with (go_at_call 11; refine (word_yes _ _ hx).mono ?_; rintro e w' ⟨rfl, rfl⟩)
        go_round
        case rel => exact ⟨k + 1, by omega, fun i hi => if h : i = k then by subst h; exact HX.out else HI.out i (by omega), by go_num⟩
        case measure => simp [intOf]; omega
      · have HX := hide hx
        generalize el z k = x at hc hx
        go_wp2_with (go_at_call 11; refine (word_no _ _ hx).mono ?_; rintro e w' ⟨rfl, rfl⟩)
        go_ret
        exact ⟨.inr ⟨fun h => HX.out (h k hlt), rfl⟩, hB⟩
    · go_wp2
      go_ret
      obtain rfl : k = 8 := by omega
      exact ⟨.inl ⟨HI.out, rfl⟩, hB⟩
theorem fault_ok (z : List Int) (w : World) (h : Ok6 z) : Calls Tryd.prog 10 #[.agg (sixC z)] w fun e w' => e = .returned (.int .i64 0) ∧ Below w.heap.size w w' :=
  (fault_any z w).mono fun e w' ⟨hh, hb⟩ => by
    rcases hh with ⟨_, he⟩ | ⟨hn, _⟩
    · exact ⟨he, hb⟩
    · exact absurd h hn
theorem fault_bad (z : List Int) (w : World) (h : ¬ Ok6 z) : Calls Tryd.prog 10 #[.agg (sixC z)] w fun e w' => e = .returned (.int .i64 1) ∧ Below w.heap.size w w' :=
  (fault_any z w).mono fun e w' ⟨hh, hb⟩ => by
    rcases hh with ⟨hn, _⟩ | ⟨_, he⟩
    · exact absurd hn h
    · exact ⟨he, hb⟩
theorem word_any (n : Int) (w : World) : Calls Tryd.prog 11 #[.int .i64 n] w fun e w' => e = .returned (.bool (wd n)) ∧ w' = w := by
  cases h : wd n
  · exact word_no n w (fun h' => by rw [(wd_iff n).2 h'] at h; cases h)
  · exact word_yes n w ((wd_iff n).1 h)
theorem six_any (z : List Int) (w : World) : Calls Tryd.prog 10 #[.agg (sixC z)] w fun e w' => e = .returned (.int .i64 (fe (s6 z))) ∧ Below w.heap.size w w' := by
  cases h : s6 z
  · exact fault_bad z w (fun h' => by rw [(s6_iff z).2 h'] at h; cases h)
  · exact fault_ok z w ((s6_iff z).1 h)
set_option maxRecDepth 100000 in
theorem four_any (n : Int) (w : World) : Calls Tryd.prog 13 #[.int .i64 n] w fun e w' => e = .returned (.bool (fr n)) ∧ w' = w := by
  unfold fr
  by_cases h : 0 ≤ n
  · have hd : decide (0 ≤ n) = true := decide_eq_true h
    rw [hd]
    go_enter Tryd.func13, Tryd.ntmps13
    go_wp2
    go_ret
    exact ⟨by simp, rfl⟩
  · have hd : decide (0 ≤ n) = false := decide_eq_false h
    rw [hd]
    go_enter Tryd.func13, Tryd.ntmps13
    go_wp2
    go_ret
    exact ⟨rfl, rfl⟩
attribute [local go_sem ↓] hload_shut
end Go.Proofs.YtnhjabiciaoocaaDoor
