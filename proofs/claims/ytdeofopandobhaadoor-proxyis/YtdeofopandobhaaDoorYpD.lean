/- Package proxy: number, kindOf and read, by contracts. -/
import Derived.Test.YtdeofopandobhaaDoorYpC
import Derived.Test.YtdeofopandobhaaDoorYkP
namespace Go.Proofs.YtdeofopandobhaaDoor
open Go.RowKit

/-- the kind of a code. -/
def kc (c : Int) : Int := if c = 33 then 6 else if c = 34 then 17 else 0
theorem kindof_any (c : Int) (w : World) : Calls Tryd.prog 25 #[.int .u8 c] w fun e w' => e = .returned (.int .i64 (kc c)) ∧ w' = w := by
  by_cases h : c = 33
  · subst h
    go_enter Tryd.func25, Tryd.ntmps25
    go_wp2
    go_ret
    exact ⟨rfl, rfl⟩
  · by_cases h2 : c = 34
    · subst h2
      go_enter Tryd.func25, Tryd.ntmps25
      go_wp2
      go_ret
      exact ⟨rfl, rfl⟩
    · have HR := hide (show kc c = 0 by unfold kc; rw [if_neg h, if_neg h2])
      have d1 : (c == 33) = false := by simpa using h
      have d2 : (c == 34) = false := by simpa using h2
      rw [HR.out]
      clear HR
      go_enter Tryd.func25, Tryd.ntmps25
      go_wp2
      go_ret
      exact ⟨rfl, rfl⟩
set_option maxHeartbeats 1000000 in
theorem number_at (g off len cap : Nat) (zs : List Int) (w : World) (k : Nat) (K : Int) (hK : K = (k : Int)) (hk : k + 1 < len) (hr : Row8 w (some ⟨g, off, none⟩) len cap zs) :
    Calls Tryd.prog 26 #[.slice (some ⟨g, off, none⟩) len cap, .int .i64 K] w fun e w' => e = .returned (.int .i64 (zs.getD k 0 * 256 + zs.getD (k + 1) 0)) ∧ Below w.heap.size w w' := by
  subst hK
  have hm := hr.2.1
  unfold maxLen at hm
  obtain ⟨b, o, e, hc⟩ := hr.2.2.2.2 (by omega)
  cases e
  have c1 := hc k (by omega)
  have c2 := hc (k + 1) (by omega)
  obtain ⟨hx0, hx1⟩ := hr.2.2.1 k
  obtain ⟨hy0, hy1⟩ := hr.2.2.1 (k + 1)
  generalize zs.getD k 0 = x at c1 hx0 hx1 ⊢
  generalize zs.getD (k + 1) 0 = y at c2 hy0 hy1 ⊢
  have HB := hide ((Below.refl w.heap.size w).drew)
  clear hc hr
  have gx : IntKind.i64.wrap x = x := by rw [IntKind.wrap_i64]; omega
  have gy : IntKind.i64.wrap y = y := by rw [IntKind.wrap_i64]; omega
  have gs : IntKind.i64.wrap (x * 256) = x * 256 := by rw [IntKind.wrap_i64]; omega
  have ga : IntKind.i64.wrap ((k : Int) + 1) = (k : Int) + 1 := by rw [IntKind.wrap_i64]; omega
  have go' := or_lo x y hx0 (by omega) hy0 (by omega)
  have i0 : (0 : Int) ≤ (k : Int) := by omega
  have i1 : (k : Int) < (len : Int) := by omega
  have i2 : (0 : Int) ≤ (k : Int) + 1 := by omega
  have i3 : (k : Int) + 1 < (len : Int) := by omega
  have i4 : ((k : Int) + 1).toNat = k + 1 := by omega
  go_enter Tryd.func26, Tryd.ntmps26
  go_upto_region 1 with fail
  go_region
  go_wp2
  go_ret
  exact ⟨rfl, HB.out⟩
end Go.Proofs.YtdeofopandobhaaDoor
