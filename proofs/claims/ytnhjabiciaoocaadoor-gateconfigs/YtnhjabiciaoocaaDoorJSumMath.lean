/- Plain facts on numbers and lists: what folding to 16 bits leaves, and totals of bytes in pairs. Packets of fours in numbers: the head's twenty bytes, its check, and what a turned bit does to it. Packets of fours in numbers, second part: bytes read as a packet and written again; letters of bytes. -/
import Derived.Test.YtnhjabiciaoocaaDoorProg
import Derived.Below
import Derived.OpenShut
import Derived.WalkKit
import Derived.LaidEql
import Derived.BigQuiet
import Derived.Laws.AppendOwnNone
import Derived.Laws.MakeOwn
import Derived.Deep.RegionLaw
namespace Go.Proofs.YtnhjabiciaoocaaDoor
open Go.RowKit
namespace SM
def fold (n : Int) : Int := if n = 0 then 0 else (n - 1) % 65535 + 1
def tot (zs : List Int) : Nat → Int
  | 0 => 0
  | k + 1 => tot zs k + if k % 2 = 0 then zs.getD k 0 * 256 else zs.getD k 0
def Oct (zs : List Int) : Prop := ∀ k : Nat, 0 ≤ zs.getD k 0 ∧ zs.getD k 0 ≤ 255
theorem tot_bd (zs : List Int) (h : Oct zs) (k : Nat) : 0 ≤ tot zs k ∧ tot zs k ≤ 65280 * (k : Int) := by
  induction k with
  | zero => simp [tot]
  | succ k ih =>
    have hk := h k
    simp only [tot]
    split <;> omega
theorem tot_set (zs : List Int) (i : Nat) (v : Int) (hi : i < zs.length) (k : Nat) : tot (zs.set i v) k = tot zs k + if i < k then (v - zs.getD i 0) * (if i % 2 = 0 then 256 else 1) else 0 := by
  induction k with
  | zero => simp [tot]
  | succ k ih =>
    simp only [tot]
    rw [ih]
    by_cases h : i = k
    · subst h
      have e : (zs.set i v).getD i 0 = v := by simp [hi]
      rw [e, if_neg (show ¬ i < i by omega), if_pos (show i < i + 1 by omega)]
      split <;> omega
    · have e : (zs.set i v).getD k 0 = zs.getD k 0 := by simp [h]
      rw [e]
      by_cases h2 : i < k
      · rw [if_pos h2, if_pos (show i < k + 1 by omega)]; omega
      · rw [if_neg h2, if_neg (show ¬ i < k + 1 by omega)]; omega
theorem oct_nil : Oct [] := fun k => by simp
theorem oct_set (zs : List Int) (h : Oct zs) (i : Nat) (v : Int) (h0 : 0 ≤ v) (h1 : v ≤ 255) : Oct (zs.set i v) := by
  intro k
  have hk := h k
  simp only [List.getD_eq_getElem?_getD, List.getElem?_set] at hk ⊢
  split
  · split <;> simp <;> omega
  · exact hk
theorem oct_take (xs : List Int) (hx : Oct xs) (n : Nat) : Oct (xs.take n) := by
  intro k
  have h1 := hx k
  simp only [List.getD_eq_getElem?_getD, List.getElem?_take] at h1 ⊢
  split
  · exact h1
  · simp
end SM
/-- a slice of bytes that reads as the bytes zs: nothing is said of spare places. -/
def Row8 (w : World) (a : Option Addr) (len cap : Nat) (zs : List Int) : Prop :=
  zs.length = len ∧ len ≤ maxLen ∧ SM.Oct zs ∧ (a = none → len = 0 ∧ cap = 0) ∧ (0 < len → ∃ b off, a = some ⟨b, off, none⟩ ∧ ∀ i, i < len → w.cell? ⟨b, off + i, none⟩ = some (.int .u8 (zs.getD i 0)))
theorem Row8.below {w w' : World} {a : Option Addr} {len cap : Nat} {zs : List Int} (h : Row8 w a len cap zs) (hb : Below w.heap.size w w') : Row8 w' a len cap zs := by
  obtain ⟨h1, h2, h3, h4, h5⟩ := h
  refine ⟨h1, h2, h3, h4, fun hp => ?_⟩
  obtain ⟨b, off, h6, h7⟩ := h5 hp
  refine ⟨b, off, h6, fun i hi => ?_⟩
  have hc := h7 i hi
  have hlt : b < w.heap.size := World.block_lt_of_cell? w _ hc
  rw [hb.cell (p := ⟨b, off + i, none⟩) hlt]; exact hc
theorem Row8.grown {w w' : World} {a : Option Addr} {len cap : Nat} {zs : List Int} {row : Option Nat} (h : Row8 w a len cap zs) (hb : w.grownBy w' row) (hne : ∀ b off, a = some ⟨b, off, none⟩ → some b ≠ row) : Row8 w' a len cap zs := by
  obtain ⟨h1, h2, h3, h4, h5⟩ := h
  refine ⟨h1, h2, h3, h4, fun hp => ?_⟩
  obtain ⟨b, off, h6, h7⟩ := h5 hp
  exact ⟨b, off, h6, fun i hi => hb.cell (h7 i hi) (hne b off h6)⟩
end Go.Proofs.YtnhjabiciaoocaaDoor

namespace Go.Proofs.YtnhjabiciaoocaaDoor
namespace P4
open SM
/-- the head's bytes: source, goal, steps, kind, number, how many bytes there are in all, check. -/
def hd (s d t k i n c : Int) : List Int := [69, 0, n / 256, n % 256, i / 256, i % 256, 64, 0, t, k, c / 256, c % 256, s / 16777216, s / 65536 % 256, s / 256 % 256, s % 256, d / 16777216, d / 65536 % 256, d / 256 % 256, d % 256]
/-- the check of a head. -/
def ck (s d t k i n : Int) : Int := 65535 - fold (tot (hd s d t k i n 0) 20)
/-- two bytes as a number. -/
def wd (z : List Int) (j : Nat) : Int := 256 * z.getD j 0 + z.getD (j + 1) 0
def src (z : List Int) : Int := 65536 * wd z 12 + wd z 14
def dst (z : List Int) : Int := 65536 * wd z 16 + wd z 18
theorem fold_full (T : Int) (h0 : 0 ≤ T) (h : fold T = 65535) : 0 < T ∧ T % 65535 = 0 := by
  unfold fold at h
  split at h <;> omega
/-- with a byte of the head another one the sum is another one. -/
theorem turned (z : List Int) (ho : Oct z) (hl : 20 ≤ z.length) (hz : fold (tot z 20) = 65535) (j : Nat) (hj : j < 20) (v : Int) (hv : 0 ≤ v ∧ v ≤ 255) (hne : v ≠ z.getD j 0) : fold (tot (z.set j v) 20) ≠ 65535 := by
  intro h
  have h1 := fold_full _ (tot_bd z ho 20).1 hz
  have h2 := fold_full _ (tot_bd _ (oct_set z ho j v hv.1 hv.2) 20).1 h
  have h3 := tot_set z j v (by omega) 20
  rw [if_pos hj] at h3
  have hx := ho j
  generalize tot (z.set j v) 20 = T' at h2 h3
  generalize tot z 20 = T at h1 h3
  generalize z.getD j 0 = x at hx hne h3
  split at h3 <;> omega
end P4
end Go.Proofs.YtnhjabiciaoocaaDoor

namespace Go.Proofs.YtnhjabiciaoocaaDoor
namespace P4
open SM
theorem getD_take {xs : List Int} {n j : Nat} (h : j < n) : (xs.take n).getD j 0 = xs.getD j 0 := by
  simp [List.getD_eq_getElem?_getD, h]
theorem getD_drop {xs : List Int} {n j : Nat} : (xs.drop n).getD j 0 = xs.getD (n + j) 0 := by
  simp [List.getD_eq_getElem?_getD, List.getElem?_drop]
theorem oct_drop (xs : List Int) (h : Oct xs) (n : Nat) : Oct (xs.drop n) := fun j => by rw [getD_drop]; exact h _
/-- the check that bytes should have. -/
def ckz (z : List Int) : Int := ck (src z) (dst z) (z.getD 8 0) (z.getD 9 0) (wd z 4) z.length
/-- what is written again of what was read from bytes. -/
def enc (z : List Int) : List Int := hd (src z) (dst z) (z.getD 8 0) (z.getD 9 0) (wd z 4) z.length (ckz z) ++ z.drop 20
end P4
end Go.Proofs.YtnhjabiciaoocaaDoor
