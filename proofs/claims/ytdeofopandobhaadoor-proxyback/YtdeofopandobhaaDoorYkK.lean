/- The statement's own Pick. -/
import Derived.Test.YtdeofopandobhaaDoorPkF
namespace Go.Proofs.YtdeofopandobhaaDoor
open Go.RowKit
theorem pick_any (c : Int) (n : Nat) (w : World) (h0 : -9223372036854775808 ≤ c) (h1 : c ≤ 9223372036854775807) (hn : 0 < n) (hm : n ≤ 1000) :
    Calls Tryd.prog 11 #[.int .i64 c, .int .i64 n] w fun e w' => ∃ m : Nat, m < n ∧ e = .returned (.int .i64 m) ∧ w' = w := by
  have hz : ((n : Int) == 0) = false := by rw [beq_eq_false_iff_ne]; omega
  have hn1 : (n : Int) ≠ -1 := by omega
  have hn0 : ¬ (n : Int) = 0 := by omega
  by_cases hc : c < 0
  · have e1 : IntKind.i64.wrap (c + 1) = c + 1 := by rw [IntKind.wrap_i64]; omega
    have e2 : IntKind.i64.wrap (-(c + 1)) = -(c + 1) := by rw [IntKind.wrap_i64]; omega
    obtain ⟨q, hq⟩ := Int.eq_ofNat_of_zero_le (show 0 ≤ -(c + 1) by omega)
    have e3 : (-(c + 1)).tmod (n : Int) = ((q % n : Nat) : Int) := by rw [hq, Int.tmod_eq_emod_of_nonneg (by omega)]; omega
    have hlt : q % n < n := Nat.mod_lt _ hn
    have HL := hide hlt
    generalize q % n = m at e3 HL
    clear hq hlt
    go_enter Tryd.func11, Tryd.ntmps11
    go_wp2
    go_ret
    exact ⟨m, HL.out, rfl, rfl⟩
  · obtain ⟨q, rfl⟩ := Int.eq_ofNat_of_zero_le (show 0 ≤ c by omega)
    have e3 : (q : Int).tmod (n : Int) = ((q % n : Nat) : Int) := by rw [Int.tmod_eq_emod_of_nonneg (by omega)]; omega
    have hlt : q % n < n := Nat.mod_lt _ hn
    have HL := hide hlt
    generalize q % n = m at e3 HL
    clear hlt
    go_enter Tryd.func11, Tryd.ntmps11
    go_wp2
    go_ret
    exact ⟨m, HL.out, rfl, rfl⟩
end Go.Proofs.YtdeofopandobhaaDoor
