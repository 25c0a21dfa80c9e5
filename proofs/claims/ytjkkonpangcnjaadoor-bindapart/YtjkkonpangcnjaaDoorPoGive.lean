/- The document's own Give, Free and Blocks of ports, by contracts. -/
import Derived.Test.YtjkkonpangcnjaaDoorPoHas
namespace Go.Proofs.YtjkkonpangcnjaaDoor
open Go.RowKit

set_option maxRecDepth 100000 in
set_option maxHeartbeats 1000000 in
theorem rgive_no (B BW BT n : Nat) (ws : Nat → List Int) (ts : Nat → Bool) (p : Int) (w : World) (h : RP B BW BT n ws ts w) (hn : n ≤ 128) (hp : hs ts n p = false) :
    Calls Tryd.prog 34 #[.pointer (some ⟨B, 0, none⟩), .int .i64 p] w fun e w' => e = .returned (.int .i64 4) ∧ w' = w := by
  have H := hide (rhas_any B BW BT n ws ts p w h hn)
  rw [hp] at H
  clear h hp
  go_enter Tryd.func34, Tryd.ntmps34
  go_wp2_with (go_at_call 44; refine H.out.mono ?_; rintro e w' ⟨rfl, rfl⟩)
  go_ret
  exact ⟨rfl, rfl⟩
set_option maxRecDepth 100000 in
set_option maxHeartbeats 1000000 in
theorem rgive_yes (B BW BT n : Nat) (ws : Nat → List Int) (ts : Nat → Bool) (i : Nat) (w : World) (h : RP B BW BT n ws ts w) (hn : n ≤ 128) (hi : i < n) (ht : ts i = true) :
    Calls Tryd.prog 34 #[.pointer (some ⟨B, 0, none⟩), .int .i64 (1024 + (i : Int))] w fun e w' => e = .returned (.int .i64 0) ∧ RP B BW BT n ws (upd ts i false) w' ∧ Fr (fun g => g = BT) w w' := by
  have H := hide (rhas_any B BW BT n ws ts (1024 + (i : Int)) w h hn)
  rw [hs_in i hi, ht] at H
  have l1 := h.taken
  obtain ⟨c1, c2⟩ := h.2.2.cell i hi
  have HS := hide (h.setT i false)
  have HF := hide (setCell_fr w BT i (.bool false))
  have hn' : (n : Int) ≤ 128 := by omega
  have j1 : (i : Int) < (n : Int) := by omega
  have j4 : IntKind.i64.wrap ((1024 : Int) + (i : Int) - 1024) = (i : Int) := by rw [IntKind.wrap_i64]; omega
  clear h ht
  go_enter Tryd.func34, Tryd.ntmps34
  go_wp2_with (go_at_call 44; refine H.out.mono ?_; rintro e w' ⟨rfl, rfl⟩)
  go_ret
  exact ⟨rfl, HS.out, HF.out⟩
/-- how many of the first ports are not taken. -/
def cf (ts : Nat → Bool) : Nat → Nat
  | 0 => 0
  | k + 1 => cf ts k + (if ts k = true then 0 else 1)
theorem cf_le (ts : Nat → Bool) (k : Nat) : cf ts k ≤ k := by
  induction k with
  | zero => exact Nat.le_refl _
  | succ k ih => simp only [cf]; split <;> omega
end Go.Proofs.YtjkkonpangcnjaaDoor
