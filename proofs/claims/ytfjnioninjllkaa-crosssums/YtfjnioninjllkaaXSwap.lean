/- sum.Swap by a contract. -/
import Derived.Test.YtfjnioninjllkaaSgSum
namespace Go.Proofs.Ytfjnioninjllkaa
open Go.RowKit
theorem allIn3 (x y z : Int) : AllIn [x, y, z] 3 ↔ Word x ∧ Word y ∧ Word z :=
  ⟨fun h => ⟨h 0 (by omega), h 1 (by omega), h 2 (by omega)⟩, fun ⟨h1, h2, h3⟩ i hi => by
    rcases (by omega : i = 0 ∨ i = 1 ∨ i = 2) with rfl | rfl | rfl
    · exact h1
    · exact h2
    · exact h3⟩
theorem cells3 (x y z : Int) (w : World) : ∀ i, i < 3 → (w.alloc (.cells #[.int .i64 x, .int .i64 y, .int .i64 z] 3)).cell? ⟨w.heap.size, i, none⟩ = some (.int .i64 ([x, y, z].getD i 0)) := by
  intro i hi
  rcases (by omega : i = 0 ∨ i = 1 ∨ i = 2) with rfl | rfl | rfl <;> simp
theorem swap_ok (x y z : Int) (w : World) (h : Word x ∧ Word y ∧ Word z) : Calls Try.prog 4 #[.int .i64 x, .int .i64 y, .int .i64 z] w fun e w' => e = .returned (.tuple #[.int .i64 (65535 - SM.fold (SM.fold (65535 - x + (65535 - y)) + z)), .nilIface]) ∧ Below w.heap.size w w' := by
  have hc := cells3 x y z w
  have H := hide (check16_ok _ 3 _ _ (by omega) hc ((allIn3 x y z).2 h))
  obtain ⟨⟨h1, h2⟩, ⟨h3, h4⟩, h5, h6⟩ := h
  have hb1 := SM.fold_bd (65535 - x + (65535 - y)) (by omega)
  have hb2 := SM.fold_bd (SM.fold (65535 - x + (65535 - y)) + z) (by omega)
  clear hc
  go_enter Try.func4, Try.ntmps4
  go_wp2_with (first | (go_at_call 6; refine (unhide H).mono ?_; rintro e w' ⟨rfl, rfl⟩) | (go_at_call 7; refine (fold_any _ _ (by omega) (by omega)).mono ?_; rintro e w' ⟨rfl, rfl⟩))
  go_ret2
  exact ⟨rfl, (Below.refl _ _).alloc (Nat.le_refl _) _⟩
end Go.Proofs.Ytfjnioninjllkaa
