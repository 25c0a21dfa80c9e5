/- Package ip4: number, Check, header, checkOf and Encode, by contracts. -/
import Derived.Test.YtlaljflcgbbhdaaDoorIp4a
namespace Go.Proofs.YtlaljflcgbbhdaaDoor
open Go.RowKit

theorem or8 (a x : Nat) (ha : a < 16777216) (hx : x ≤ 255) : bits .or .i64 ((a * 256 : Nat) : Int) (x : Int) = ((a * 256 + x : Nat) : Int) := by
  have e1 : (BitVec.ofInt 64 ((a * 256 : Nat) : Int)).toNat = a * 256 := by rw [BitVec.toNat_ofInt]; omega
  have e2 : (BitVec.ofInt 64 ((x : Nat) : Int)).toNat = x := by rw [BitVec.toNat_ofInt]; omega
  have key : (BitVec.ofInt 64 ((a * 256 : Nat) : Int) ||| BitVec.ofInt 64 ((x : Nat) : Int)).toNat = a * 256 + x := by
    rw [BitVec.toNat_or, e1, e2]
    have := Nat.shiftLeft_add_eq_or_of_lt (show x < 2 ^ 8 by omega) a
    rw [Nat.shiftLeft_eq] at this
    exact this.symm
  show IntKind.i64.wrap (((BitVec.ofInt 64 ((a * 256 : Nat) : Int) ||| BitVec.ofInt 64 ((x : Nat) : Int)).toNat : Nat) : Int) = _
  rw [key, IntKind.wrap_i64]
  omega
/-- a byte laid beneath what ends in eight noughts. -/
theorem or_lo (a x : Int) (ha : 0 ≤ a) (ha2 : a < 16777216) (hx : 0 ≤ x) (hx2 : x < 256) : bits .or .i64 (a * 256) x = a * 256 + x := by
  obtain ⟨m, rfl⟩ := Int.eq_ofNat_of_zero_le ha
  obtain ⟨k, rfl⟩ := Int.eq_ofNat_of_zero_le hx
  have := or8 m k (by omega) (by omega)
  rw [show ((m * 256 : Nat) : Int) = (m : Int) * 256 by omega, show ((m * 256 + k : Nat) : Int) = (m : Int) * 256 + (k : Int) by omega] at this
  exact this

/-- the number that bytes are, the first one the greatest. -/
def num (zs : List Int) : Nat → Int
  | 0 => 0
  | k + 1 => num zs k * 256 + zs.getD k 0
theorem num_bd (zs : List Int) (h : SM.Oct zs) (k : Nat) (hk : k < 4) : 0 ≤ num zs k ∧ num zs k < 16777216 := by
  have h0 := h 0; have h1 := h 1; have h2 := h 2
  rcases (by omega : k = 0 ∨ k = 1 ∨ k = 2 ∨ k = 3) with rfl | rfl | rfl | rfl <;> simp only [num] <;> omega
set_option maxHeartbeats 400000 in
theorem number_any (a : Option Addr) (len cap : Nat) (zs : List Int) (w : World) (hl : len ≤ 4) (hp : 0 < len) (w0 : Row8 w a len cap zs) (r : Int) (hr : num zs len = r) :
    Calls Tryd.prog 32 #[.slice a len cap] w fun e w' => e = .returned (.int .i64 r) ∧ w' = w := by
  obtain ⟨hz, hm, hoct, _, hcs⟩ := w0
  obtain ⟨b, off, rfl, hcell⟩ := hcs hp
  have HR := hide hr
  clear hcs hr
  go_enter Tryd.func32, Tryd.ntmps32
  go_wp2
  go_loop [3, 8] (fun t i => ∃ k : Nat, k ≤ len ∧ t = .int .i64 (num zs k) ∧ i = .int .i64 k) (fun _ i => len - (intOf i).toNat)
  case atStart => exact ⟨0, by omega, rfl, rfl⟩
  case round =>
    obtain ⟨k, hk, rfl, rfl⟩ := hrel
    by_cases hlt : k < len
    · have hb := num_bd zs hoct k (by omega)
      have hck := hcell k hlt
      have hok := hoct k
      clear hcell
      have HS := hide (show num zs (k + 1) = num zs k * 256 + zs.getD k 0 from rfl)
      clear hoct
      generalize zs.getD k 0 = z at hck hok HS
      generalize num zs k = t at hb HS ⊢
      have ho := or_lo t z hb.1 hb.2 hok.1 (by omega)
      go_wp2
      go_round
      case rel => exact ⟨k + 1, by omega, by rw [HS.out], by go_num⟩
      case measure => simp [intOf]; omega
    · obtain rfl : k = len := by omega
      go_wp2
      go_ret
      exact ⟨by rw [HR.out]; rfl, rfl⟩
end Go.Proofs.YtlaljflcgbbhdaaDoor
