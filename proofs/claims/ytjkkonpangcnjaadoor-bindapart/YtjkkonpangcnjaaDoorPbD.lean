/- The program's find, Owner and Give of a port, by contracts. -/
import Derived.Test.YtjkkonpangcnjaaDoorPbC
namespace Go.Proofs.YtjkkonpangcnjaaDoor
open Go.RowKit

set_option maxRecDepth 100000 in
set_option maxHeartbeats 1000000 in
theorem find_out (B BB m : Nat) (ow : Nat → List Int) (ts : Nat → Bool) (p : Int) (w : World) (h : BP B BB m ow ts w) (hm : m ≤ 16) (hp : p < 1024 ∨ 1024 + ((8 * m : Nat) : Int) ≤ p) :
    Calls Tryd.prog 59 #[.pointer (some ⟨B, 0, none⟩), .int .i64 p] w fun e w' => e = .returned (.tuple #[.pointer none, .int .i64 0]) ∧ w' = w := by
  have l1 := h.row
  clear h
  have hm' : (m : Int) ≤ 16 := by omega
  rcases hp with h1 | h1
  · go_enter Tryd.func59, Tryd.ntmps59
    go_wp2
    go_ret2
    exact ⟨rfl, rfl⟩
  · have h2 : ¬ p < 1024 := by omega
    have h3 : 1024 + (m : Int) * 8 ≤ p := by omega
    clear h1
    go_enter Tryd.func59, Tryd.ntmps59
    go_wp2
    go_ret2
    exact ⟨rfl, rfl⟩
set_option maxRecDepth 100000 in
set_option maxHeartbeats 1000000 in
theorem find_in (B BB m : Nat) (ow : Nat → List Int) (ts : Nat → Bool) (k j : Nat) (w : World) (h : BP B BB m ow ts w) (hm : m ≤ 16) (hk : k < m) (hj : j < 8) :
    Calls Tryd.prog 59 #[.pointer (some ⟨B, 0, none⟩), .int .i64 (1024 + ((8 * k + j : Nat) : Int))] w fun e w' => e = .returned (if ts (8 * k + j) = true then .tuple #[.pointer (some ⟨BB, 16 * k, none⟩), .int .i64 j] else .tuple #[.pointer none, .int .i64 0]) ∧ w' = w := by
  have l1 := h.row
  have c1 := (h.2.bit k hk j hj).1
  clear h
  have hm' : (m : Int) ≤ 16 := by omega
  obtain ⟨x, hx⟩ : ∃ x : Int, x = ((8 * k + j : Nat) : Int) := ⟨_, rfl⟩
  rw [← hx]
  have j1 : x.tdiv 8 = (k : Int) := by rw [Int.tdiv_eq_ediv_of_nonneg (by omega)]; omega
  have j2 : x.tmod 8 = (j : Int) := by rw [Int.tmod_eq_emod_of_nonneg (by omega)]; omega
  have j3 : IntKind.i64.wrap (1024 + x - 1024) = x := by rw [IntKind.wrap_i64]; omega
  have j4 : ¬ 1024 + x < 1024 := by omega
  have j5 : ¬ 1024 + (m : Int) * 8 ≤ 1024 + x := by omega
  have j6 : (k : Int) < (m : Int) := by omega
  have j7 : (j : Int) < 8 := by omega
  have e16 : k * 16 = 16 * k := by omega
  have HX := hide hx
  clear hx
  cases ht : ts (8 * k + j)
  · rw [ht] at c1
    clear ht
    go_enter Tryd.func59, Tryd.ntmps59
    go_wp2
    go_ret2
    exact ⟨rfl, rfl⟩
  · rw [ht] at c1
    clear ht
    go_enter Tryd.func59, Tryd.ntmps59
    go_wp2
    go_ret2
    exact ⟨rfl, rfl⟩
end Go.Proofs.YtjkkonpangcnjaaDoor
