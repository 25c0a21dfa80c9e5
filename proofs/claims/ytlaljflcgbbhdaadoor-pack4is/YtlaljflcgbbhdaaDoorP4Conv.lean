/- string(b) of bytes, and parts of slices. -/
import Derived.Test.YtlaljflcgbbhdaaDoorP4Own
import Derived.Test.YtlaljflcgbbhdaaDoorP4Math2
import Derived.Lib.Bytes
namespace Go.Proofs.YtlaljflcgbbhdaaDoor
open Go.RowKit

theorem conv8 {w : World} {a : Option Addr} {len cap : Nat} {zs : List Int} (h : Row8 w a len cap zs) : (convert 22 9 (.slice a len cap)).run Tryd.prog w = .ok (.string (P4.str8 zs)) w := by
  obtain ⟨h1, h2, h3, h4, h5⟩ := h
  by_cases hp : 0 < len
  · obtain ⟨b, off, rfl, hc⟩ := h5 hp
    exact run_convert_bytes_arg w 22 5 Tryd.underlying22 Tryd.underlying5 b off len cap zs h1 hc 9 Tryd.underlying9
  · obtain rfl : len = 0 := by omega
    obtain rfl : zs = [] := List.eq_nil_of_length_eq_zero h1
    cases a with
    | none => exact run_convert_bytes_nil w 22 5 Tryd.underlying22 Tryd.underlying5 0 cap 9 Tryd.underlying9
    | some ad =>
      have := run_convert_bytes_string w 22 9 5 (some ad) 0 cap Tryd.underlying22 Tryd.underlying5 Tryd.underlying9
      rw [this]
      rfl
theorem str8_list (xs : List Int) : (P4.str8 xs).toList = Lib.bytesOf xs := Lib.strOfNums_toList xs
/-- what '==' answers of the letters of bytes. -/
theorem str8_eq {xs ys : List Int} (hx : SM.Oct xs) (hy : SM.Oct ys) (r : Bool) (hr : (xs = ys) ↔ r = true) : ((P4.str8 xs).toList == (P4.str8 ys).toList) = r := by
  rw [str8_list, str8_list]
  cases r
  · have hn : ¬ Lib.bytesOf xs = Lib.bytesOf ys := fun h => by
      have := hr.1 (P4.str8_inj hx hy (by unfold P4.str8; exact congrArg (fun l => ByteArray.mk (List.toArray l)) h))
      cases this
    simpa using hn
  · rw [hr.2 rfl]
    simp
/-- a part of a slice of bytes. -/
theorem Row8.part {w : World} {a : Option Addr} {len cap : Nat} {zs : List Int} (h : Row8 w a len cap zs) (lo hi : Nat) (hlo : lo ≤ hi) (hhi : hi ≤ len) (a' : Option Addr) (cap' : Nat) (ha : ∀ b off, lo < hi → a = some ⟨b, off, none⟩ → a' = some ⟨b, off + lo, none⟩) (hn : a' = none → hi = lo ∧ cap' = 0) : Row8 w a' (hi - lo) cap' ((zs.drop lo).take (hi - lo)) := by
  obtain ⟨h1, h2, h3, h4, h5⟩ := h
  refine ⟨by simp; omega, by omega, SM.oct_take _ (P4.oct_drop _ h3 _) _, fun e => ?_, fun hp => ?_⟩
  · have := hn e
    exact ⟨by omega, this.2⟩
  · obtain ⟨b, off, rfl, hc⟩ := h5 (by omega)
    refine ⟨b, off + lo, ha b off (by omega) rfl, fun i hi' => ?_⟩
    have := hc (lo + i) (by omega)
    rw [P4.getD_take hi', P4.getD_drop, Nat.add_assoc]
    exact this
theorem Row8.congr {w : World} {a : Option Addr} {len cap : Nat} {zs ys : List Int} (h : Row8 w a len cap zs) (e : zs = ys) : Row8 w a len cap ys := e ▸ h
end Go.Proofs.YtlaljflcgbbhdaaDoor
