/- The document's own Give, Free and Blocks of ports, by contracts. -/
import Derived.Test.YtchjhmokmpjbdaaDoorPoHas
namespace Go.Proofs.YtchjhmokmpjbdaaDoor
open Go.RowKit

set_option maxRecDepth 100000 in
set_option maxHeartbeats 1000000 in
theorem rgive_no (B BW BT n : Nat) (ws : Nat → List Int) (ts : Nat → Bool) (p : Int) (w : World) (h : RP B BW BT n ws ts w) (hn : n ≤ 128) (hp : hs ts n p = false) :
    Calls Tryd.prog 10 #[.pointer (some ⟨B, 0, none⟩), .int .i64 p] w fun e w' => e = .returned (.int .i64 4) ∧ w' = w := by
  have H := hide (rhas_any B BW BT n ws ts p w h hn)
  rw [hp] at H
  clear h hp
  go_enter Tryd.func10, Tryd.ntmps10
  go_wp2_with (go_at_call 14; refine H.out.mono ?_; rintro e w' ⟨rfl, rfl⟩)
  go_ret
  exact ⟨rfl, rfl⟩
set_option maxRecDepth 100000 in
set_option maxHeartbeats 1000000 in
theorem rgive_yes (B BW BT n : Nat) (ws : Nat → List Int) (ts : Nat → Bool) (i : Nat) (w : World) (h : RP B BW BT n ws ts w) (hn : n ≤ 128) (hi : i < n) (ht : ts i = true) :
    Calls Tryd.prog 10 #[.pointer (some ⟨B, 0, none⟩), .int .i64 (1024 + (i : Int))] w fun e w' => e = .returned (.int .i64 0) ∧ RP B BW BT n ws (upd ts i false) w' ∧ Fr (fun g => g = BT) w w' := by
  have H := hide (rhas_any B BW BT n ws ts (1024 + (i : Int)) w h hn)
  rw [hs_in i hi, ht] at H
  have l1 := h.taken
  obtain ⟨c1, c2⟩ := h.2.2.cell i hi
  have HS := hide (h.setT i false)
  have HF := hide (setCell_fr w BT i (.bool false))
  have hn' : (n : Int) ≤ 128 := by omega
  have j1 : (i : Int) < (n : Int) := by omega
  have j4 : IntKind.i64.wrap ((1024 : Int) + (i : Int) - 1024) = (i : Int) := by rw [IntKind.wrap_i64]; omega
  clear h ht
  go_enter Tryd.func10, Tryd.ntmps10
  go_wp2_with (go_at_call 14; refine H.out.mono ?_; rintro e w' ⟨rfl, rfl⟩)
  go_ret
  exact ⟨rfl, HS.out, HF.out⟩
/-- how many of the first ports are not taken. -/
def cf (ts : Nat → Bool) : Nat → Nat
  | 0 => 0
  | k + 1 => cf ts k + (if ts k = true then 0 else 1)
theorem cf_le (ts : Nat → Bool) (k : Nat) : cf ts k ≤ k := by
  induction k with
  | zero => exact Nat.le_refl _
  | succ k ih => simp only [cf]; split <;> omega
set_option maxRecDepth 100000 in
set_option maxHeartbeats 1000000 in
theorem rfree_any (B BW BT n : Nat) (ws : Nat → List Int) (ts : Nat → Bool) (w : World) (h : RP B BW BT n ws ts w) (hn : n ≤ 128) :
    Calls Tryd.prog 13 #[.pointer (some ⟨B, 0, none⟩)] w fun e w' => e = .returned (.int .i64 (cf ts n)) ∧ w' = w := by
  have l1 := h.taken
  have HC := hide h.2.2
  have hn' : (n : Int) ≤ 128 := by omega
  clear h
  go_enter Tryd.func13, Tryd.ntmps13
  go_wp2
  go_loop [3, 4] (fun t i => ∃ k : Nat, k ≤ n ∧ t = .int .i64 (cf ts k) ∧ i = .int .i64 k) (fun _ i => n - (intOf i).toNat)
  case atStart => exact ⟨0, by omega, rfl, rfl⟩
  case round =>
    obtain ⟨k, hk, rfl, rfl⟩ := hrel
    by_cases hlt : k < n
    · obtain ⟨c1, c2⟩ := HC.out.cell k hlt
      have j1 : (k : Int) < (n : Int) := by omega
      have hc := cf_le ts k
      have HS := hide (show cf ts (k + 1) = cf ts k + (if ts k = true then 0 else 1) from rfl)
      generalize cf ts k = c at hc HS ⊢
      cases ht : ts k
      · rw [ht] at c1 HS
        clear ht
        go_wp2
        go_round
        case rel => exact ⟨k + 1, by omega, by rw [HS.out]; go_num, by go_num⟩
        case measure => simp [intOf]; omega
      · rw [ht] at c1 HS
        clear ht
        go_wp2
        go_round
        case rel => exact ⟨k + 1, by omega, by rw [HS.out]; rfl, by go_num⟩
        case measure => simp [intOf]; omega
    · obtain rfl : n = k := by omega
      go_wp2
      go_ret
      exact ⟨rfl, rfl⟩
end Go.Proofs.YtchjhmokmpjbdaaDoor
