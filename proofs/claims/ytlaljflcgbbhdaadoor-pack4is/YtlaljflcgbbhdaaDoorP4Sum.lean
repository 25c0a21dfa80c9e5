/- What package ip4 needs of package sum: fold, check16, Of and Not, by contracts. -/
import Derived.Test.YtlaljflcgbbhdaaDoorProg
import Derived.Test.YtlaljflcgbbhdaaDoorSumMath
import Derived.WalkKit
import Derived.LaidEql
namespace Go.Proofs.YtlaljflcgbbhdaaDoor
open Go.RowKit

theorem hide {p : Prop} (h : p) : Hid p := h
theorem unhide {p : Prop} (h : Hid p) : p := h.out
theorem i64_and65535 (n : Int) : bits .and .i64 n 65535 = n % 65536 := by
  have h : (BitVec.ofInt 64 65535).toNat = 2 ^ 16 - 1 := by decide
  have key : (BitVec.ofInt 64 n &&& BitVec.ofInt 64 65535).toNat = (n % ((2 ^ 64 : Nat) : Int)).toNat % 2 ^ 16 := by
    rw [BitVec.toNat_and, BitVec.toNat_ofInt, h, Nat.and_two_pow_sub_one_eq_mod]
  show IntKind.i64.wrap ((BitVec.ofInt 64 n &&& BitVec.ofInt 64 65535).toNat : Nat) = n % 65536
  rw [key, IntKind.wrap_i64]
  omega
theorem ret_int {k : IntKind} {a b : Int} (h : a = b) : Ending.returned (.int k a) = .returned (.int k b) := by rw [h]
set_option maxHeartbeats 400000 in
theorem fold_any (n : Int) (w : World) (h0 : 0 ≤ n) (h1 : n ≤ 1000000000000) :
    Calls Tryd.prog 37 #[.int .i64 n] w fun e w' => e = .returned (.int .i64 (SM.fold n)) ∧ w' = w := by
  go_enter Tryd.func37, Tryd.ntmps37
  go_wp2
  go_loop [0] (fun t => ∃ m : Int, 0 ≤ m ∧ m ≤ 1000000000000 ∧ SM.fold m = SM.fold n ∧ t = .int .i64 m) (fun t => (intOf t).toNat)
  case atStart => exact ⟨n, h0, h1, rfl, rfl⟩
  case round =>
    obtain ⟨m, hm0, hm1, hm, rfl⟩ := hrel
    have H : Hid (SM.fold m = SM.fold n) := hm
    clear hm
    by_cases hlt : 65535 < m
    · have hs := SM.fold_step m hlt
      have HS : Hid (SM.fold (m / 65536 + m % 65536) = SM.fold m) := hs
      clear hs
      go_wp2
      go_round
      case rel => exact ⟨m / 65536 + m % 65536, by omega, by omega, HS.out.trans H.out, by rw [i64_and65535, IntWalk.wrap64_in _ (by omega)]⟩
      case measure => rw [i64_and65535, IntWalk.wrap64_in _ (by omega)]; simp only [intOf]; omega
    · go_wp2
      go_ret
      exact ⟨ret_int ((SM.fold_small m hm0 (by omega)).symm.trans H.out), rfl⟩
def AllIn (zs : List Int) (n : Nat) : Prop := ∀ i, i < n → 0 ≤ zs.getD i 0 ∧ zs.getD i 0 ≤ 65535
set_option maxHeartbeats 400000 in
theorem check16_any (b n : Nat) (zs : List Int) (w : World) (hn : n ≤ 1000) (hc : ∀ i, i < n → w.cell? ⟨b, i, none⟩ = some (.int .i64 (zs.getD i 0))) :
    Calls Tryd.prog 38 #[.slice (some ⟨b, 0, none⟩) n n] w fun e w' => ((AllIn zs n ∧ e = .returned .nilIface) ∨ (¬ AllIn zs n ∧ e = .returned (.iface 25 (.int .i64 1)))) ∧ w' = w := by
  go_enter Tryd.func38, Tryd.ntmps38
  go_wp2
  go_loop [7] (fun t => ∃ k : Nat, k ≤ n ∧ AllIn zs k ∧ t = .int .i64 k) (fun t => n - (intOf t).toNat)
  case atStart => exact ⟨0, by omega, fun i hi => absurd hi (by omega), rfl⟩
  case round =>
    obtain ⟨k, hk, hin, rfl⟩ := hrel
    have HI : Hid (AllIn zs k) := hin
    clear hin
    by_cases hlt : k < n
    · have hck := hc k hlt
      clear hc
      generalize hzk : zs.getD k 0 = z at hck
      have HZ : Hid (zs.getD k 0 = z) := hzk
      clear hzk
      by_cases hz0 : z < 0
      · go_wp2
        go_ret
        exact ⟨.inr ⟨fun h => absurd (h k hlt).1 (by rw [HZ.out]; omega), rfl⟩, rfl⟩
      · by_cases hz1 : 65535 < z
        · go_wp2
          go_ret
          exact ⟨.inr ⟨fun h => absurd (h k hlt).2 (by rw [HZ.out]; omega), rfl⟩, rfl⟩
        · go_wp2
          go_round
          case rel => exact ⟨k + 1, by omega, fun i hi => if h : i = k then by subst h; rw [HZ.out]; omega else HI.out i (by omega), by go_num⟩
          case measure => simp [intOf]; omega
    · go_wp2
      go_ret
      obtain rfl : k = n := by omega
      exact ⟨.inl ⟨HI.out, rfl⟩, rfl⟩
theorem of_big (a : Option Addr) (len cap : Nat) (w : World) (h : 2000 < len) (hm : len ≤ 1000000000000) :
    Calls Tryd.prog 30 #[.slice a len cap] w fun e w' => e = .returned (.tuple #[.int .i64 0, .iface 25 (.int .i64 3)]) ∧ w' = w := by
  go_enter Tryd.func30, Tryd.ntmps30
  go_wp2
  go_ret2
  exact ⟨rfl, rfl⟩
set_option maxHeartbeats 400000 in
theorem of_ok (a : Option Addr) (len cap : Nat) (zs : List Int) (w : World) (w0 : Row8 w a len cap zs) (h : len ≤ 2000) :
    Calls Tryd.prog 30 #[.slice a len cap] w fun e w' => e = .returned (.tuple #[.int .i64 (SM.fold (SM.tot zs len)), .nilIface]) ∧ w' = w := by
  obtain ⟨hz, hm, hoct, _, hcs⟩ := w0
  by_cases hp : 0 < len
  · obtain ⟨b, off, rfl, hcell⟩ := hcs hp
    clear hcs
    go_enter Tryd.func30, Tryd.ntmps30
    go_wp2
    go_loop [4, 13] (fun t i => ∃ k : Nat, k ≤ len ∧ t = .int .i64 (SM.tot zs k) ∧ i = .int .i64 k) (fun _ i => len - (intOf i).toNat)
    case atStart => exact ⟨0, by omega, rfl, rfl⟩
    case round =>
      obtain ⟨k, hk, rfl, rfl⟩ := hrel
      have hb := SM.tot_bd zs hoct k
      by_cases hlt : k < len
      · have hck := hcell k (by omega)
        have hok := hoct k
        clear hcell
        have he := SM.tot_even zs k
        have ho := SM.tot_odd zs k
        have HE : Hid (k % 2 = 0 → SM.tot zs (k + 1) = SM.tot zs k + zs.getD k 0 * 256) := he
        have HO : Hid (k % 2 = 1 → SM.tot zs (k + 1) = SM.tot zs k + zs.getD k 0) := ho
        clear he ho hoct
        generalize zs.getD k 0 = z at hck hok HE HO
        generalize SM.tot zs k = t at hb HE HO ⊢
        by_cases hpar : k % 2 = 0
        · go_wp2
          go_round
          case rel => exact ⟨k + 1, by omega, by rw [HE.out hpar], by go_num⟩
          case measure => simp [intOf]; omega
        · go_wp2
          go_round
          case rel => exact ⟨k + 1, by omega, by rw [HO.out (by omega)], by go_num⟩
          case measure => simp [intOf]; omega
      · obtain rfl : k = len := by omega
        go_wp2_with (go_at_call 37; refine (fold_any _ _ (by omega) (by omega)).mono ?_; rintro e w' ⟨rfl, rfl⟩)
        go_ret2
        exact ⟨rfl, rfl⟩
  · obtain rfl : len = 0 := by omega
    go_enter Tryd.func30, Tryd.ntmps30
    go_wp2
    refine wp_loop_rounds 1 ?_
    rw [rounds_succ]
    go_wp2_with (go_at_call 37; refine (fold_any _ _ (by omega) (by omega)).mono ?_; rintro e w' ⟨rfl, rfl⟩)
    go_ret2
    exact ⟨rfl, rfl⟩
theorem check16_ok (b n : Nat) (zs : List Int) (w : World) (hn : n ≤ 1000) (hc : ∀ i, i < n → w.cell? ⟨b, i, none⟩ = some (.int .i64 (zs.getD i 0))) (hin : AllIn zs n) :
    Calls Tryd.prog 38 #[.slice (some ⟨b, 0, none⟩) n n] w fun e w' => e = .returned .nilIface ∧ w' = w :=
  (check16_any b n zs w hn hc).mono fun e w' h => by
    rcases h with ⟨⟨_, h⟩ | ⟨h, _⟩, hw⟩
    · exact ⟨h, hw⟩
    · exact absurd hin h
def Word (n : Int) : Prop := 0 ≤ n ∧ n ≤ 65535
theorem allIn1 (x : Int) : AllIn [x] 1 ↔ Word x :=
  ⟨fun h => h 0 (by omega), fun h i hi => by obtain rfl : i = 0 := by omega
                                             exact h⟩
theorem cells1 (x : Int) (w : World) : ∀ i, i < 1 → (w.alloc (.cells #[.int .i64 x] 3)).cell? ⟨w.heap.size, i, none⟩ = some (.int .i64 ([x].getD i 0)) := by
  intro i hi
  obtain rfl : i = 0 := by omega
  simp
theorem not_ok (x : Int) (w : World) (h : Word x) : Calls Tryd.prog 31 #[.int .i64 x] w fun e w' => e = .returned (.tuple #[.int .i64 (65535 - x), .nilIface]) ∧ Below w.heap.size w w' := by
  have hc := cells1 x w
  have HC := check16_ok _ 1 _ _ (by omega) hc ((allIn1 x).2 h)
  have h1 := h.1
  have h2 := h.2
  clear hc
  have H := hide HC
  clear HC
  go_enter Tryd.func31, Tryd.ntmps31
  go_wp2_with (go_at_call 38; refine (unhide H).mono ?_; rintro e w' ⟨rfl, rfl⟩)
  go_ret2
  exact ⟨rfl, (Below.refl _ _).alloc (Nat.le_refl _) _⟩
end Go.Proofs.YtlaljflcgbbhdaaDoor
