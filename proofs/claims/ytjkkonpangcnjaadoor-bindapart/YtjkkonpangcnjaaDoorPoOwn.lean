/- The document's own owner of a block, by a contract. -/
import Derived.Test.YtjkkonpangcnjaaDoorPoSt
namespace Go.Proofs.YtjkkonpangcnjaaDoor
open Go.RowKit

set_option maxRecDepth 100000 in
set_option maxHeartbeats 2000000 in
theorem rowner_any (B BW BT n : Nat) (ws : Nat → List Int) (ts : Nat → Bool) (k : Nat) (w : World) (h : RP B BW BT n ws ts w) (hn : n ≤ 128) (hk : 8 * k + 8 ≤ n) (R : Option Nat) (hR : fo ts k = R) :
    Calls Tryd.prog 41 #[.pointer (some ⟨B, 0, none⟩), .int .i64 k] w fun e w' => e = .returned (.tuple #[.agg (sixC (ozo ws R)), .bool R.isSome]) ∧ Below w.heap.size w w' := by
  have HB := hide (al_below w (.cells zero6 33))
  have HZ := hide (zero_new w)
  have HP := hide (h.kept HB.out)
  have HR := hide hR
  unfold zero6 at HB HZ HP
  clear h hR
  have hk1 : (k : Int) ≤ 128 := by omega
  have hk0 : (0 : Int) ≤ (k : Int) := by omega
  go_enter Tryd.func41, Tryd.ntmps41
  go_upto_region 1 with fail
  generalize w.alloc _ = W at HB HZ HP ⊢
  go_wp2
  go_loop [6] (fun t => ∃ i : Nat, 8 * k ≤ i ∧ i ≤ 8 * k + 8 ∧ Hid (∀ j, 8 * k ≤ j → j < i → ts j = false) ∧ t = .int .i64 i) (fun t => 8 * k + 8 - (intOf t).toNat)
  case atStart => exact ⟨8 * k, by omega, by omega, fun j h1 h2 => absurd h1 (by omega), by go_num⟩
  case round =>
    obtain ⟨i, hi0, hi1, HI, rfl⟩ := hrel
    have l1 := HP.out.taken
    have l0 := HP.out.who
    by_cases hlt : i < 8 * k + 8
    · obtain ⟨c1, c2⟩ := HP.out.2.2.cell i (by omega)
      have j1 : (i : Int) < (n : Int) := by omega
      have j0 : (0 : Int) ≤ (i : Int) := by omega
      have j2 : (i : Int) < ((k : Int) + 1) * 8 := by omega
      cases ht : ts i
      · rw [ht] at c1
        go_wp2
        go_round
        case rel => exact ⟨i + 1, by omega, by omega, fun j h1 h2 => if e : j = i then by rw [e]; exact ht else HI.out j h1 (by omega), by go_num⟩
        case measure => simp [intOf]; omega
      · rw [ht] at c1
        have HE := hide (show R = some i from HR.out.symm.trans (fo_some hi0 (by omega) ht HI.out))
        clear ht
        go_wp2_with (first
          | (refine at_row6 rfl (.tmp 28) rfl i _ rfl (by omega) (by omega) HP.out.2.1 ?_)
          | (refine at_store6 rfl (.tmp 4) (.tmp 29) rfl rfl HZ.out (ws i) rfl ?_; intro w5 p5 on5; have HB5 := hide (on5.below HB.out (Nat.le_refl _)); replace p5 := hide p5; clear on5))
        try simp only [Exit.inBlock, Exit.then]
        refine bodyPost_ret (results_six rfl _ _ w.heap.size (ws i) rfl p5.out) rfl ?_
        rw [HE.out]
        exact ⟨rfl, HB5.out⟩
    · have j2 : ¬ (i : Int) < ((k : Int) + 1) * 8 := by omega
      have HE := hide (show R = none from HR.out.symm.trans (fo_none (fun j h1 h2 => HI.out j h1 (by omega))))
      clear hlt
      go_wp2_with (refine at_store6 rfl (.tmp 4) (.tmp 30) rfl rfl HZ.out [] rfl ?_; intro w5 p5 on5; have HB5 := hide (on5.below HB.out (Nat.le_refl _)); replace p5 := hide p5; clear on5)
      try simp only [Exit.inBlock, Exit.then]
      refine bodyPost_ret (results_six rfl _ _ w.heap.size [] rfl p5.out) rfl ?_
      rw [HE.out]
      exact ⟨rfl, HB5.out⟩
end Go.Proofs.YtjkkonpangcnjaaDoor
