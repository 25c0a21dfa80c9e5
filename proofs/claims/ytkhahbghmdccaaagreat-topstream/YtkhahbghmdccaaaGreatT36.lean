/- A slice of integers that came in. What the statement ShiftSeen asks, in numbers and lists; rows of ints; parts of slices of bytes, held shut. An argument that is an address. -/
import Derived.Test.YtkhahbghmdccaaaGreatT18
import Derived.Test.YtkhahbghmdccaaaGreatProg
import Derived.Below
import Derived.OpenShut
import Derived.RowKit
import Derived.WalkKit
import Derived.LaidEql
import Derived.BigQuiet
import Derived.Laws.AppendOwnNone
import Derived.Laws.MakeOwn
import Derived.Deep.RegionLaw
import Derived.Test.YtkhahbghmdccaaaGreatT12
import Derived.Test.YtkhahbghmdccaaaGreatT23
import Derived.WideShapes
namespace Go.Proofs.YtkhahbghmdccaaaGreat
open Go.RowKit
def IsRow (k : IntKind) (w : World) (a : Option Addr) (len cap : Nat) (zs : List Int) : Prop :=
  (a = none ∧ len = 0 ∧ cap = 0 ∧ zs = []) ∨
  ∃ x, a = some x ∧ len ≤ cap ∧ cap ≤ maxLen ∧ zs.length = cap ∧ (∀ i, i < zs.length → w.cell? (x.add i) = some (.int k (zs.getD i 0))) ∧ ∀ n ∈ zs, (Lit.int k n).wf = true
theorem IsRow.len_le {k : IntKind} {w : World} {a : Option Addr} {len cap : Nat} {zs : List Int} (h : IsRow k w a len cap zs) : len ≤ cap ∧ zs.length = cap := by
  rcases h with ⟨_, rfl, rfl, rfl⟩ | ⟨_, _, h1, _, h2, _, _⟩
  · simp
  · exact ⟨h1, h2⟩
theorem IsRow.oct {w : World} {a : Option Addr} {len cap : Nat} {zs : List Int} (h : IsRow .u8 w a len cap zs) : SM.Oct zs := by
  rcases h with ⟨_, _, _, rfl⟩ | ⟨_, _, _, _, _, _, h⟩
  · intro k; simp
  · intro k
    have := Go.range_u8 h k
    rw [List.getD_eq_getElem?_getD]
    exact this
theorem IsRow.opened {k : IntKind} {w : World} {a : Option Addr} {len cap : Nat} {zs : List Int} (h : IsRow k w a len cap zs) (hp : 0 < len) :
    ∃ b off, a = some ⟨b, off, none⟩ ∧ len ≤ cap ∧ cap ≤ maxLen ∧ zs.length = cap ∧ ∀ i, i < cap → w.cell? ⟨b, off + i, none⟩ = some (.int k (zs.getD i 0)) := by
  rcases h with ⟨_, rfl, _, _⟩ | ⟨x, rfl, h1, h2, h3, hc, _⟩
  · exact absurd hp (by omega)
  · obtain ⟨b, off, spot⟩ := x
    have hc0 := hc 0 (by omega)
    have hspot : spot = none := by simpa [Addr.add] using World.cell?_spot hc0
    subst hspot
    exact ⟨b, off, rfl, h1, h2, h3, fun i hi => by by_cases h0 : i = 0 <;> simpa [Addr.add, h0] using hc i (by omega)⟩
theorem IsRow.below {k : IntKind} {w w' : World} {a : Option Addr} {len cap : Nat} {zs : List Int} (h : IsRow k w a len cap zs) (hb : Below w.heap.size w w') : IsRow k w' a len cap zs := by
  rcases h with h | ⟨x, h0, h1, h2, h3, hc, h4⟩
  · exact .inl h
  · refine .inr ⟨x, h0, h1, h2, h3, fun i hi => ?_, h4⟩
    have hci := hc i hi
    have hlt : (x.add i).block < w.heap.size := by
      rcases Nat.lt_or_ge (x.add i).block w.heap.size with h | h
      · exact h
      · simp [World.cell?, Array.getElem?_eq_none h] at hci
    rw [hb.cell hlt]; exact hci
theorem IsRow.row8 {w : World} {a : Option Addr} {len cap : Nat} {zs : List Int} (h : IsRow .u8 w a len cap zs) : Row8 w a len cap (zs.take len) := by
  have hl := h.len_le
  have ho := h.oct
  refine ⟨by simp; omega, ?_, SM.oct_take _ ho _, ?_, fun hp => ?_⟩
  · rcases h with ⟨_, rfl, _, _⟩ | ⟨_, _, h1, h2, _⟩
    · exact Nat.zero_le _
    · omega
  · rintro rfl
    rcases h with ⟨_, h1, h2, _⟩ | ⟨_, h1, _⟩
    · exact ⟨h1, h2⟩
    · cases h1
  · obtain ⟨b, off, h0, h1, h2, h3, h4⟩ := h.opened hp
    refine ⟨b, off, h0, fun i hi => ?_⟩
    rw [h4 i (by omega)]
    simp [hi]
end Go.Proofs.YtkhahbghmdccaaaGreat

namespace Go.Proofs.YtkhahbghmdccaaaGreat
open Go.RowKit
def Ir (a : Option Addr) (n : Nat) (w : World) : Prop := 0 < n → ∃ g off, a = some ⟨g, off, none⟩ ∧ ∀ k, k < n → ∃ x : Int, w.cell? ⟨g, off + k, none⟩ = some (.int .i64 x)
theorem IsRow.ir {w : World} {a : Option Addr} {len cap : Nat} {zs : List Int} (h : IsRow .i64 w a len cap zs) : Ir a len w ∧ len ≤ maxLen := by
  refine ⟨fun hp => ?_, ?_⟩
  · have hl := h.len_le
    obtain ⟨b, off, h0, h1, h2, h3, h4⟩ := h.opened hp
    exact ⟨b, off, h0, fun k hk => ⟨_, h4 k (by omega)⟩⟩
  · rcases h with ⟨_, rfl, _, _⟩ | ⟨_, _, h1, h2, _⟩
    · exact Nat.zero_le _
    · omega
theorem Ir.below {a : Option Addr} {n : Nat} {w w' : World} (h : Ir a n w) (hb : Below w.heap.size w w') : Ir a n w' := by
  intro hp
  obtain ⟨g, off, e, hx⟩ := h hp
  refine ⟨g, off, e, fun k hk => ?_⟩
  obtain ⟨x, h1⟩ := hx k hk
  exact ⟨x, by rw [hb.cell (p := ⟨g, off + k, none⟩) (cell_lt h1)]; exact h1⟩
end Go.Proofs.YtkhahbghmdccaaaGreat

namespace Go.Proofs.YtkhahbghmdccaaaGreat
open Go.RowKit
set_option maxRecDepth 100000 in
theorem six_open {W : World} {base : Nat} {v : Value} (h : Value.okWide Tryz.prog W .any base 23 v) : ∃ z : List Int, z.length = 8 ∧ v = six z := by
  have hu := Tryz.underlying23
  unfold Value.okWide at h
  rw [hu] at h
  obtain ⟨cs, rfl, hsz, ts, hts, _, hc⟩ := h
  have h8 : Tryz.prog.cellsOf 23 = 8 := by kernel_rfl
  have ht8 : Tryz.prog.cellTypes Tryz.prog.depth 23 = some (List.replicate 8 3) := by kernel_rfl
  rw [h8] at hsz
  obtain rfl := Option.some.inj (hts.symm.trans ht8)
  have hi : ∀ i, i < 8 → ∃ n : Int, cs[i]? = some (.int .i64 n) := by
    intro i hi
    have hcs : cs[i]? = some (cs[i]'(by omega)) := Array.getElem?_eq_getElem (by omega)
    obtain ⟨u, hu, hok⟩ := hc i _ hcs
    have hu3 : u = 3 := by
      rw [List.length_replicate, Nat.mod_eq_of_lt hi, List.getElem?_replicate, if_pos hi] at hu
      exact (Option.some.inj hu).symm
    subst hu3
    have hw : Value.okWide Tryz.prog W .any base 3 (cs[i]'(by omega)) := by
      unfold Value.okWide
      rw [Tryz.underlying3]
      exact hok
    obtain ⟨n, hn⟩ := WideShapes.okWide_int Tryz.underlying3 hw
    exact ⟨n, by rw [hcs, hn]⟩
  obtain ⟨a0, e0⟩ := hi 0 (by omega); obtain ⟨a1, e1⟩ := hi 1 (by omega); obtain ⟨a2, e2⟩ := hi 2 (by omega); obtain ⟨a3, e3⟩ := hi 3 (by omega)
  obtain ⟨a4, e4⟩ := hi 4 (by omega); obtain ⟨a5, e5⟩ := hi 5 (by omega); obtain ⟨a6, e6⟩ := hi 6 (by omega); obtain ⟨a7, e7⟩ := hi 7 (by omega)
  refine ⟨[a0, a1, a2, a3, a4, a5, a6, a7], rfl, ?_⟩
  show Value.agg cs = Value.agg #[.int .i64 a0, .int .i64 a1, .int .i64 a2, .int .i64 a3, .int .i64 a4, .int .i64 a5, .int .i64 a6, .int .i64 a7]
  congr 1
  apply Array.ext_getElem?
  intro i
  by_cases h : i < 8
  · rcases (by omega : i = 0 ∨ i = 1 ∨ i = 2 ∨ i = 3 ∨ i = 4 ∨ i = 5 ∨ i = 6 ∨ i = 7) with rfl | rfl | rfl | rfl | rfl | rfl | rfl | rfl
    · rw [e0]; rfl
    · rw [e1]; rfl
    · rw [e2]; rfl
    · rw [e3]; rfl
    · rw [e4]; rfl
    · rw [e5]; rfl
    · rw [e6]; rfl
    · rw [e7]; rfl
  · rw [Array.getElem?_eq_none (by omega), Array.getElem?_eq_none (by simp; omega)]
end Go.Proofs.YtkhahbghmdccaaaGreat
