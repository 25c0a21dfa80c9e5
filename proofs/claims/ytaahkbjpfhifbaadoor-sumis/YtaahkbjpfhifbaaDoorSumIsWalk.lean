/- The walk of the statement SumIs: whatever the bytes and the numbers, the Go text returns true and writes nothing that was there. -/
import Derived.Test.YtaahkbjpfhifbaaDoorSumRef
import Derived.Test.YtaahkbjpfhifbaaDoorTold
import Derived.Deep.RegionWith
namespace Go.Proofs.YtaahkbjpfhifbaaDoor
open Go.RowKit

theorem sumIs_far (a : Option Addr) (len cap : Nat) (x y z : Int) (w : World) (h : 3000 < len) (hm : len ≤ 9223372036854775807) :
    Calls Tryd.prog 3 #[.slice a len cap, .int .i64 x, .int .i64 y, .int .i64 z] w fun e w' => e = .returned (.bool true) ∧ Below w.heap.size w w' := by
  go_enter Tryd.func3, Tryd.ntmps3
  go_wp2
  go_ret
  exact ⟨rfl, Below.refl _ _⟩

theorem bt {a b c : World} (h1 : Below a.heap.size a b) (h2 : Below b.heap.size b c) : Below a.heap.size a c := h1.trans (h2.mono h1.size)

theorem swap_ok2 (x y z : Int) (w : World) (h : Word x ∧ Word y ∧ Word z) : Calls Tryd.prog 12 #[.int .i64 x, .int .i64 y, .int .i64 z] w fun e w' => e = .returned (.tuple #[.int .i64 (65535 - SM.fold (SM.fold (65535 - x + 65535 - y) + z)), .nilIface]) ∧ Below w.heap.size w w' := by
  have := swap_ok x y z w h
  rw [show 65535 - x + (65535 - y) = 65535 - x + 65535 - y from by omega] at this
  exact this

set_option maxHeartbeats 4000000 in
theorem sumIs_near (a : Option Addr) (len cap : Nat) (zs : List Int) (x y z : Int) (w : World) (hg : Laid0 w) (w0 : Row8 w a len cap zs) (h3 : len ≤ 3000) :
    Calls Tryd.prog 3 #[.slice a len cap, .int .i64 x, .int .i64 y, .int .i64 z] w fun e w' => e = .returned (.bool true) ∧ Below w.heap.size w w' := by
  have hB : Below w.heap.size w w := Below.refl _ _
  by_cases h : len ≤ 2000 <;> by_cases hx : Word x <;> by_cases hy : Word y <;> by_cases hz : Word z
  all_goals
    first
    | have hxy : Word x ∧ Word y := ⟨hx, hy⟩
    | have hxy : ¬ (Word x ∧ Word y) := fun hh => by first | exact hx hh.1 | exact hy hh.2
    first
    | have hxyz : Word x ∧ Word y ∧ Word z := ⟨hx, hy, hz⟩
    | have hxyz : ¬ (Word x ∧ Word y ∧ Word z) := fun hh => by first | exact hx hh.1 | exact hy hh.2.1 | exact hz hh.2.2
    try have hx1 : 0 ≤ x := hx.1
    try have hx2 : x ≤ 65535 := hx.2
    try have hy1 : 0 ≤ y := hy.1
    try have hy2 : y ≤ 65535 := hy.2
    try have hz1 : 0 ≤ z := hz.1
    try have hz2 : z ≤ 65535 := hz.2
    try have hf1 := SM.fold_bd (65535 - x + 65535 - y) (by omega)
    try have hf2 := SM.fold_bd (SM.fold (65535 - x + 65535 - y) + z) (by omega)
    go_enter Tryd.func3, Tryd.ntmps3
    go_wp2_with (first
      | (go_at_call 5; refine (rsumof_any _ _ _ zs _ w0 h).mono ?_; rintro e w' ⟨rfl, rfl⟩)
      | (go_at_call 6; refine (of_ok _ _ _ zs _ w0 h).mono ?_; rintro e w' ⟨rfl, rfl⟩)
      | (go_at_call 6; refine (of_big _ _ _ _ (by omega) (by omega)).mono ?_; rintro e w' ⟨rfl, rfl⟩)
      | (go_at_call_of 7 Value.nilIface; refine (error_nil _).mono ?_; rintro e w' ⟨rfl, rfl⟩)
      | (go_at_call 7; refine (error_err _ _ hg).mono ?_; rintro e w' ⟨rfl, hb⟩; replace hg := Laid0.below hg hb; replace hB := bt hB hb; clear hb)
      | (go_at_call 8; refine (word_yes _ _ (by assumption)).mono ?_; rintro e w' ⟨rfl, rfl⟩)
      | (go_at_call 8; refine (word_no _ _ (by assumption)).mono ?_; rintro e w' ⟨rfl, rfl⟩)
      | (go_at_call 9; refine (rfold_any _ _ (by omega) (by omega)).mono ?_; rintro e w' ⟨rfl, rfl⟩)
      | (go_at_call 10; refine (add_ok _ _ _ (by assumption)).mono ?_; rintro e w' ⟨rfl, hb⟩; replace hg := Laid0.below hg hb; replace hB := bt hB hb; clear hb)
      | (go_at_call 10; refine (add_bad _ _ _ (by assumption)).mono ?_; rintro e w' ⟨rfl, hb⟩; replace hg := Laid0.below hg hb; replace hB := bt hB hb; clear hb)
      | (go_at_call 11; refine (not_ok _ _ (by assumption)).mono ?_; rintro e w' ⟨rfl, hb⟩; replace hg := Laid0.below hg hb; replace hB := bt hB hb; clear hb)
      | (go_at_call 11; refine (not_bad _ _ (by assumption)).mono ?_; rintro e w' ⟨rfl, hb⟩; replace hg := Laid0.below hg hb; replace hB := bt hB hb; clear hb)
      | (go_at_call 12; refine (swap_ok2 _ _ _ _ (by assumption)).mono ?_; rintro e w' ⟨rfl, hb⟩; replace hg := Laid0.below hg hb; replace hB := bt hB hb; clear hb)
      | (go_at_call 12; refine (swap_bad _ _ _ _ (by assumption)).mono ?_; rintro e w' ⟨rfl, hb⟩; replace hg := Laid0.below hg hb; replace hB := bt hB hb; clear hb))
    go_ret
    exact ⟨rfl, hB⟩

theorem sumIs_walk (a : Option Addr) (len cap : Nat) (zs : List Int) (x y z : Int) (w : World) (hg : Laid0 w) (w0 : Row8 w a len cap zs) :
    Calls Tryd.prog 3 #[.slice a len cap, .int .i64 x, .int .i64 y, .int .i64 z] w fun e w' => e = .returned (.bool true) ∧ Below w.heap.size w w' := by
  by_cases h3 : len ≤ 3000
  · exact sumIs_near a len cap zs x y z w hg w0 h3
  · have hm := w0.2.1
    exact sumIs_far a len cap x y z w (by omega) (by unfold maxLen at hm; omega)
end Go.Proofs.YtaahkbjpfhifbaaDoor
