/- What Into and Out reckon, in numbers: the four's bytes stand where the document says, and come out again. -/
import Derived.Test.YtkhahbghmdccaaaGreatB17
import Derived.Test.YtkhahbghmdccaaaGreatProg
namespace Go.Proofs.YtkhahbghmdccaaaGreat.Em
open Go.RowKit Go.Shelf
theorem or8 (a x : Nat) (ha : a < 16777216) (hx : x ≤ 255) : bits .or .i64 ((a * 256 : Nat) : Int) (x : Int) = ((a * 256 + x : Nat) : Int) := by
  have e1 : (BitVec.ofInt 64 ((a * 256 : Nat) : Int)).toNat = a * 256 := by rw [BitVec.toNat_ofInt]; omega
  have e2 : (BitVec.ofInt 64 ((x : Nat) : Int)).toNat = x := by rw [BitVec.toNat_ofInt]; omega
  have key : (BitVec.ofInt 64 ((a * 256 : Nat) : Int) ||| BitVec.ofInt 64 ((x : Nat) : Int)).toNat = a * 256 + x := by
    rw [BitVec.toNat_or, e1, e2]
    have := Nat.shiftLeft_add_eq_or_of_lt (show x < 2 ^ 8 by omega) a
    rw [Nat.shiftLeft_eq] at this
    exact this.symm
  show IntKind.i64.wrap (((BitVec.ofInt 64 ((a * 256 : Nat) : Int) ||| BitVec.ofInt 64 ((x : Nat) : Int)).toNat : Nat) : Int) = _
  rw [key, IntKind.wrap_i64]
  omega
theorem or_lo (a x : Int) (ha : 0 ≤ a) (ha2 : a < 16777216) (hx : 0 ≤ x) (hx2 : x < 256) : bits .or .i64 (a * 256) x = a * 256 + x := by
  obtain ⟨m, rfl⟩ := Int.eq_ofNat_of_zero_le ha
  obtain ⟨k, rfl⟩ := Int.eq_ofNat_of_zero_le hx
  have := or8 m k (by omega) (by omega)
  rw [show ((m * 256 : Nat) : Int) = (m : Int) * 256 by omega, show ((m * 256 + k : Nat) : Int) = (m : Int) * 256 + (k : Int) by omega] at this
  exact this
theorem or_zero (y : Int) (hy : 0 ≤ y) (hy2 : y < 65536) : bits .or .i64 0 y = y := by
  obtain ⟨k, rfl⟩ := Int.eq_ofNat_of_zero_le hy
  have e2 : (BitVec.ofInt 64 ((k : Nat) : Int)).toNat = k := by rw [BitVec.toNat_ofInt]; omega
  have key : (BitVec.ofInt 64 0 ||| BitVec.ofInt 64 ((k : Nat) : Int)).toNat = k := by
    rw [BitVec.toNat_or, e2]; simp
  show IntKind.i64.wrap (((BitVec.ofInt 64 0 ||| BitVec.ofInt 64 ((k : Nat) : Int)).toNat : Nat) : Int) = _
  rw [key, IntKind.wrap_i64]
  omega
def gat (z : List Int) (q : Nat) : Int := ((byt z (pos q 0) * 256 + byt z (pos q 1)) * 256 + byt z (pos q 2)) * 256 + byt z (pos q 3)
theorem acc_gat (z : List Int) (q : Nat) (h : Ok6 z) (hq : q ≤ 12) : acc z q four4 = gat z q := by
  have b0 := byt_in z h (pos q 0) (pos_lt hq (by omega))
  have b1 := byt_in z h (pos q 1) (pos_lt hq (by omega))
  have b2 := byt_in z h (pos q 2) (pos_lt hq (by omega))
  have b3 := byt_in z h (pos q 3) (pos_lt hq (by omega))
  show otp z q (otp z q (otp z q (otp z q 0 0) 1) 2) 3 = _
  unfold otp gat
  rw [show ((0 : Fin 4).val) = 0 from rfl, show ((1 : Fin 4).val) = 1 from rfl, show ((2 : Fin 4).val) = 2 from rfl, show ((3 : Fin 4).val) = 3 from rfl]
  generalize byt z (pos q 0) = x0 at b0 ⊢
  generalize byt z (pos q 1) = x1 at b1 ⊢
  generalize byt z (pos q 2) = x2 at b2 ⊢
  generalize byt z (pos q 3) = x3 at b3 ⊢
  have w0 : IntKind.i64.wrap (0 * 256) = 0 := by decide
  rw [w0, or_zero x0 (by omega) (by omega)]
  rw [show IntKind.i64.wrap (x0 * 256) = x0 * 256 by rw [IntKind.wrap_i64]; omega, or_lo x0 x1 (by omega) (by omega) (by omega) (by omega)]
  rw [show IntKind.i64.wrap ((x0 * 256 + x1) * 256) = (x0 * 256 + x1) * 256 by rw [IntKind.wrap_i64]; omega, or_lo (x0 * 256 + x1) x2 (by omega) (by omega) (by omega) (by omega)]
  rw [show IntKind.i64.wrap (((x0 * 256 + x1) * 256 + x2) * 256) = ((x0 * 256 + x1) * 256 + x2) * 256 by rw [IntKind.wrap_i64]; omega, or_lo ((x0 * 256 + x1) * 256 + x2) x3 (by omega) (by omega) (by omega) (by omega)]
end Go.Proofs.YtkhahbghmdccaaaGreat.Em
