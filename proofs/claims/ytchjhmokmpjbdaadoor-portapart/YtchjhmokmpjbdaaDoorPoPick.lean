/- The statements' own Pick of a number below another, by a contract. -/
import Derived.Test.YtchjhmokmpjbdaaDoorPoOpen
namespace Go.Proofs.YtchjhmokmpjbdaaDoor
open Go.RowKit

theorem pick_any (c : Int) (n : Nat) (hc : I64 c) (hn : 0 < n) (hm : n ≤ 1000) : ∃ k : Nat, k < n ∧ ∀ w : World, Calls Tryd.prog 20 #[.int .i64 c, .int .i64 n] w fun e w' => e = .returned (.int .i64 k) ∧ w' = w := by
  obtain ⟨h1, h2⟩ := hc
  have hn' : (n : Int) ≤ 1000 := by omega
  have hn0 : (0 : Int) < (n : Int) := by omega
  have hnz : ¬ (n : Int) = 0 := by omega
  by_cases h : c < 0
  · have hd := Int.emod_nonneg (-(c + 1)) hnz
    have hl := Int.emod_lt_of_pos (-(c + 1)) hn0
    obtain ⟨k, hk⟩ : ∃ k : Nat, (-(c + 1)) % (n : Int) = k := ⟨((-(c + 1)) % (n : Int)).toNat, by omega⟩
    refine ⟨k, by omega, fun w => ?_⟩
    have q : (-(c + 1)).tmod (n : Int) = (k : Int) := by rw [Int.tmod_eq_emod_of_nonneg (by omega)]; exact hk
    have q1 : IntKind.i64.wrap (c + 1) = c + 1 := by rw [IntKind.wrap_i64]; omega
    have q2 : IntKind.i64.wrap (-(c + 1)) = -(c + 1) := by rw [IntKind.wrap_i64]; omega
    clear hd hl
    have HK := hide hk
    clear hk
    go_enter Tryd.func20, Tryd.ntmps20
    go_wp2
    go_ret
    exact ⟨by first | rfl | (rw [← HK.out]; rfl) | (rw [← HK.out]; simp) | (simp [q]), rfl⟩
  · have h0 : 0 ≤ c := by omega
    have hd := Int.emod_nonneg c hnz
    have hl := Int.emod_lt_of_pos c hn0
    obtain ⟨k, hk⟩ : ∃ k : Nat, c % (n : Int) = k := ⟨(c % (n : Int)).toNat, by omega⟩
    refine ⟨k, by omega, fun w => ?_⟩
    have q : c.tmod (n : Int) = (k : Int) := by rw [Int.tmod_eq_emod_of_nonneg h0]; exact hk
    clear hd hl
    have HK := hide hk
    clear hk
    go_enter Tryd.func20, Tryd.ntmps20
    go_wp2
    go_ret
    exact ⟨by first | rfl | (rw [← HK.out]; rfl) | (rw [← HK.out]; simp) | (simp [q]), rfl⟩
end Go.Proofs.YtchjhmokmpjbdaaDoor
