/- The document's own arithmetic on sums (Word, Fold, SumOf), as the statements call it, by contracts. -/
import Derived.Test.YtaahkbjpfhifbaaDoorSum
import Derived.BigQuiet
namespace Go.Proofs.YtaahkbjpfhifbaaDoor
open Go.RowKit

theorem word_yes (n : Int) (w : World) (h : Word n) : Calls Tryd.prog 8 #[.int .i64 n] w fun e w' => e = .returned (.bool true) ∧ w' = w := by
  obtain ⟨h1, h2⟩ := h
  go_enter Tryd.func8, Tryd.ntmps8
  go_wp2
  go_ret
  exact ⟨rfl, rfl⟩
theorem word_no (n : Int) (w : World) (h : ¬ Word n) : Calls Tryd.prog 8 #[.int .i64 n] w fun e w' => e = .returned (.bool false) ∧ w' = w := by
  by_cases h1 : 0 ≤ n
  · have h2 : ¬ n ≤ 65535 := fun h2 => h ⟨h1, h2⟩
    clear h
    go_enter Tryd.func8, Tryd.ntmps8
    go_wp2
    go_ret
    exact ⟨rfl, rfl⟩
  · clear h
    go_enter Tryd.func8, Tryd.ntmps8
    go_wp2
    go_ret
    exact ⟨rfl, rfl⟩

theorem rfold_any (n : Int) (w : World) (h0 : 0 ≤ n) (h1 : n ≤ 1000000000000) : Calls Tryd.prog 9 #[.int .i64 n] w fun e w' => e = .returned (.int .i64 (SM.fold n)) ∧ w' = w := by
  by_cases h : n = 0
  · subst h
    go_enter Tryd.func9, Tryd.ntmps9
    go_wp2
    go_ret
    exact ⟨rfl, rfl⟩
  · have hb : (n == 0) = false := by simpa using h
    have hf : Hid (SM.fold n = (n - 1) % 65535 + 1) := by unfold SM.fold; rw [if_neg h]; exact rfl
    go_enter Tryd.func9, Tryd.ntmps9
    go_wp2
    go_ret
    exact ⟨ret_int hf.out.symm, rfl⟩

set_option maxHeartbeats 400000 in
theorem rsumof_any (a : Option Addr) (len cap : Nat) (zs : List Int) (w : World) (w0 : Row8 w a len cap zs) (h : len ≤ 2000) :
    Calls Tryd.prog 5 #[.slice a len cap] w fun e w' => e = .returned (.int .i64 (SM.fold (SM.tot zs len))) ∧ w' = w := by
  obtain ⟨hz, hm, hoct, _, hcs⟩ := w0
  by_cases hp : 0 < len
  · obtain ⟨b, off, rfl, hcell⟩ := hcs hp
    clear hcs
    go_enter Tryd.func5, Tryd.ntmps5
    go_wp2
    go_loop [3, 4] (fun t i => ∃ k : Nat, k ≤ len + 1 ∧ (k ≤ len ∨ len % 2 = 1) ∧ k % 2 = 0 ∧ t = .int .i64 (SM.tot zs (if k ≤ len then k else len)) ∧ i = .int .i64 k) (fun _ i => len + 1 - (intOf i).toNat)
    case atStart => exact ⟨0, by omega, by omega, rfl, by simp [SM.tot], rfl⟩
    case round =>
      obtain ⟨k, hk, hko, hpar, rfl, rfl⟩ := hrel
      by_cases hlt : k < len
      · have hb := SM.tot_bd zs hoct k
        have hck := hcell k (by omega)
        have hok := hoct k
        have HE := hide (SM.tot_even zs k hpar)
        rw [if_pos (by omega : k ≤ len)]
        by_cases hnx : k + 1 < len
        · have hck1 := hcell (k + 1) (by omega)
          have hok1 := hoct (k + 1)
          have HO := hide (SM.tot_odd zs (k + 1) (by omega))
          clear hcell hoct
          generalize zs.getD k 0 = z at hck hok HE
          generalize zs.getD (k + 1) 0 = z1 at hck1 hok1 HO
          generalize SM.tot zs k = t at hb HE ⊢
          go_wp2
          go_round
          case rel => exact ⟨k + 2, by omega, by omega, by omega, by rw [if_pos (by omega : k + 2 ≤ len), HO.out, HE.out]; exact congrArg _ (by omega), by go_num⟩
          case measure => simp [intOf]; omega
        · obtain rfl : len = k + 1 := by omega
          clear hcell hoct
          generalize zs.getD k 0 = z at hck hok HE
          generalize SM.tot zs k = t at hb HE ⊢
          go_wp2
          go_round
          case rel => exact ⟨k + 2, by omega, by omega, by omega, by rw [if_neg (by omega : ¬ k + 2 ≤ k + 1), HE.out]; exact congrArg _ (by omega), by go_num⟩
          case measure => simp [intOf]; omega
      · have hb := SM.tot_bd zs hoct len
        have e : (if k ≤ len then k else len) = len := by split <;> omega
        rw [e]
        clear e
        go_wp2_with (go_at_call 9; refine (rfold_any _ _ (by omega) (by omega)).mono ?_; rintro e w' ⟨rfl, rfl⟩)
        go_ret
        exact ⟨rfl, rfl⟩
  · obtain rfl : len = 0 := by omega
    go_enter Tryd.func5, Tryd.ntmps5
    go_wp2
    refine wp_loop_rounds 1 ?_
    rw [rounds_succ]
    go_wp2_with (go_at_call 9; refine (rfold_any _ _ (by omega) (by omega)).mono ?_; rintro e w' ⟨rfl, rfl⟩)
    go_ret
    exact ⟨rfl, rfl⟩
end Go.Proofs.YtaahkbjpfhifbaaDoor
