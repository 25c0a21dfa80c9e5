/- Which segments may be. -/
import Derived.Test.YtbbbcfihnjidaaaDoorShChk
namespace Go.Proofs.YtbbbcfihnjidaaaDoor
open Go.RowKit
theorem up_iff (m n : Int) : up m n = true ↔ 0 ≤ n ∧ n ≤ m := by unfold up; simp
theorem ups2 (m x y : Int) : ups m [x, y] = true ↔ (0 ≤ x ∧ x ≤ m) ∧ (0 ≤ y ∧ y ≤ m) := by simp [ups, up_iff]
theorem ups4 (m x y u v : Int) : ups m [x, y, u, v] = true ↔ (0 ≤ x ∧ x ≤ m) ∧ (0 ≤ y ∧ y ≤ m) ∧ (0 ≤ u ∧ u ≤ m) ∧ (0 ≤ v ∧ v ≤ m) := by simp [ups, up_iff]
theorem os_iff (z : List Int) : os z = true ↔ ((0 ≤ el z 3 ∧ el z 3 ≤ 4294967295) ∧ (0 ≤ el z 4 ∧ el z 4 ≤ 4294967295)) ∧ (0 ≤ el z 5 ∧ el z 5 ≤ 31) ∧ (0 ≤ el z 6 ∧ el z 6 ≤ 65535) := by
  unfold os
  simp only [Bool.and_eq_true, ups2, up_iff, and_assoc]
theorem kn_iff (k : Int) : kn k = true ↔ k = 6 ∨ k = 17 := by simp [kn]
/-- what a segment that may be is. -/
def Okg (z : List Int) (len : Nat) : Prop := (0 ≤ el z 1 ∧ el z 1 ≤ 65535) ∧ (0 ≤ el z 2 ∧ el z 2 ≤ 65535) ∧ len ≤ 300 ∧
  ((el z 0 = 6 ∧ (0 ≤ el z 3 ∧ el z 3 ≤ 4294967295) ∧ (0 ≤ el z 4 ∧ el z 4 ≤ 4294967295) ∧ (0 ≤ el z 5 ∧ el z 5 ≤ 31) ∧ (0 ≤ el z 6 ∧ el z 6 ≤ 65535)) ∨
   (el z 0 = 17 ∧ el z 3 = 0 ∧ el z 4 = 0 ∧ el z 5 = 0 ∧ el z 6 = 0))
theorem sf_iff (z : List Int) (len : Nat) : sf z len = 0 ↔ Okg z len := by
  unfold sf Okg
  by_cases h1 : kn (el z 0) = true ∧ ups 65535 [el z 1, el z 2] = true
  · rw [if_neg (by simp [h1])]
    have hk := (kn_iff _).1 h1.1
    have hu := (ups2 _ _ _).1 h1.2
    by_cases h6 : el z 0 = 6
    · rw [if_pos h6]
      have ho := os_iff z
      cases hos : os z
      · rw [hos] at ho
        simp only [if_true]
        refine ⟨fun h => by omega, fun ⟨_, _, _, h⟩ => ?_⟩
        rcases h with ⟨_, a, b, c, d⟩ | ⟨e, _⟩
        · exact absurd (ho.2 ⟨⟨a, b⟩, c, d⟩) (by decide)
        · omega
      · have ho' := ho.1 hos
        simp only [Bool.true_eq_false, if_false]
        split <;> omega
    · rw [if_neg h6]
      have hn := ups4 0 (el z 3) (el z 4) (el z 5) (el z 6)
      cases hun : ups 0 [el z 3, el z 4, el z 5, el z 6]
      · rw [hun] at hn
        simp only [if_true]
        refine ⟨fun h => by omega, fun ⟨_, _, _, h⟩ => ?_⟩
        rcases h with ⟨e, _⟩ | ⟨_, a, b, c, d⟩
        · exact absurd e h6
        · exact absurd (hn.2 (by omega)) (by decide)
      · have hn' := hn.1 hun
        simp only [Bool.true_eq_false, if_false]
        split <;> omega
  · rw [if_pos (by
      cases h2 : kn (el z 0)
      · rfl
      · cases h3 : ups 65535 [el z 1, el z 2]
        · rfl
        · exact absurd ⟨h2, h3⟩ h1)]
    refine ⟨fun h => by omega, fun ⟨a, b, _, h⟩ => absurd ⟨(kn_iff _).2 (by omega), (ups2 _ _ _).2 ⟨a, b⟩⟩ h1⟩
/-- a new segment of noughts. -/
def zero7 : Array Value := #[.int .i64 0, .int .i64 0, .int .i64 0, .int .i64 0, .int .i64 0, .int .i64 0, .int .i64 0, .slice none 0 0]
theorem zero_new (w : World) : SgIn w.heap.size [] none 0 0 (w.alloc (.cells zero7 36)) := sg_new w [] none 0 0
theorem new_below {w w' : World} (o : Obj) (h : Only w.heap.size (w.alloc o) w') : Below w.heap.size w w' := h.below (al_below w o) (Nat.le_refl _)
theorem row_no (w : World) : Row8 w none 0 0 [] := ⟨rfl, by simp [maxLen], SM.oct_nil, fun _ => ⟨rfl, rfl⟩, fun h => by omega⟩
end Go.Proofs.YtbbbcfihnjidaaaDoor
