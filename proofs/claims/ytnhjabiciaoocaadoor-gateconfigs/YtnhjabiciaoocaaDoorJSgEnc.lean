/- Package seg: checkOf and Encode, by contracts. Package seg: number and read, by contracts. Package seg: alike, by contracts. What Decode answers, in two ways; what stands over a packet's segment; cross.under by contracts. Package ip6: six, by a contract; the document's own SixAt. Bytes at a place; bytes kept where another block has turned. Streams with a head as they lie in the heap; numbers of streams; shift's wrap, ahead, own, check and sooner, by contracts. Package shift: New, Begun, Heard, begin and first, by contracts. Addresses loaded; one block that has turned. -/
import Derived.Test.YtnhjabiciaoocaaDoorJS6Own
import Derived.Below
import Derived.OpenShut
import Derived.Test.YtnhjabiciaoocaaDoorProg
import Derived.WalkKit
import Derived.LaidEql
import Derived.BigQuiet
import Derived.Laws.AppendOwnNone
import Derived.Laws.MakeOwn
import Derived.Deep.RegionLaw
import Derived.Lib.Bytes
import Derived.Deep.MidRow
import Derived.Laws.ResultCell
import Derived.Deep.CutBlock
import Derived.Deep.QuietTactic
import Derived.OwnWalk
import Derived.Deep.RegionHeld3
import Derived.Deep.DrawnRows
import Derived.Lib.SliceRun
import Derived.Lib.AppendZerosOnto
import Derived.Lib.AppendZeros
import Derived.Test.YtnhjabiciaoocaaDoorS6Six
import Derived.Maps.AppendAt
namespace Go.Proofs.YtnhjabiciaoocaaDoor
open Go.RowKit
attribute [local go_sem ↓] Go.wp_at_zero Go.wp_at_succ
theorem Own.set {base : Nat} {w : World} {g n c : Nat} {zs : List Int} (h : Own base w (.slice (some ⟨g, 0, none⟩) n c) zs) (j : Nat) (v : Int) (hv : 0 ≤ v ∧ v ≤ 255) : Own base (w.setCell ⟨g, j, none⟩ (.int .u8 v)) (.slice (some ⟨g, 0, none⟩) n c) (zs.set j v) := by
  refine ⟨SM.oct_set _ h.1 j v hv.1 hv.2, by simp, ?_⟩
  rcases h.2.2 with ⟨e, _⟩ | ⟨g', cap, cur, e, hb, hg, h1, h2, h3, h4⟩
  · cases e
  · injection e with e1 e2 e3
    cases e1
    subst e3
    refine .inr ⟨g, c, cur.setIfInBounds j (.int .u8 v), by rw [e2, List.length_set], hb, ?_, by rw [List.length_set]; exact h1, h2, by simpa using h3, ?_⟩
    · rw [setCell_eq_setRow w g j _ 5 (0, 0) (.int .u8 v) hg, setRow_heap w g _ _ 5 (0, 0) hg]
    · rw [List.length_set, Array.toList_setIfInBounds, List.map_set, ← h4, List.take_set]
theorem Own.cell {base : Nat} {w : World} {g n c : Nat} {zs : List Int} (h : Own base w (.slice (some ⟨g, 0, none⟩) n c) zs) (j : Nat) (hj : j < n) : w.cell? ⟨g, j, none⟩ = some (.int .u8 (zs.getD j 0)) ∧ w.frozen? ⟨g, j, none⟩ = false := by
  constructor
  · obtain ⟨_, _, _, _, h5⟩ := h.toRow
    obtain ⟨b, o, e, hc⟩ := h5 (by omega)
    cases e
    have := hc j hj
    rwa [Nat.zero_add] at this
  · rcases h.2.2 with ⟨e, _⟩ | ⟨g', cap, cur, e, hb, hg, h1, h2, h3, h4⟩
    · cases e
    · injection e with e1 e2 e3
      cases e1
      simp [World.frozen?, hg]
end Go.Proofs.YtnhjabiciaoocaaDoor

namespace Go.Proofs.YtnhjabiciaoocaaDoor
open Go.RowKit
attribute [local go_sem ↓] Go.wp_at_zero Go.wp_at_succ
theorem Own.only {B base : Nat} {w w' : World} (h : Only B w w') {v : Value} {zs : List Int} (o : Own base w v zs) (hB : v.ownBlock ≠ some B) : Own base w' v zs := by
  refine ⟨o.1, o.2.1, ?_⟩
  rcases o.2.2 with h2 | ⟨g, cap, cur, rfl, hb', hg, rest⟩
  · exact .inl h2
  · exact .inr ⟨g, cap, cur, rfl, hb', by rw [h.2.2.2.2 g (fun e => hB (by rw [e]; rfl))]; exact hg, rest⟩
end Go.Proofs.YtnhjabiciaoocaaDoor

namespace Go.Proofs.YtnhjabiciaoocaaDoor
open Go.RowKit
/-- the part behind a place, at whatever address the language gives it. -/
theorem Row8.behind {w : World} {g off len cap : Nat} {zs : List Int} (h : Row8 w (some ⟨g, off, none⟩) len cap zs) (n : Nat) (hn : n ≤ len) (hc : len ≤ cap) (ao : Option Addr) (hao : (if cap = n then some (⟨g, off, none⟩ : Addr) else some ⟨g, off + n, none⟩) = ao) : Row8 w ao (len - n) (cap - n) (zs.drop n) := by
  have := h.part n len hn (Nat.le_refl _) ao (cap - n) (fun b o hlt e => by cases e; rw [← hao, if_neg (by omega)]) (fun e => by rw [e] at hao; split at hao <;> cases hao)
  exact this.congr (List.take_of_length_le (by rw [List.length_drop, h.1]; exact Nat.le_refl _))
end Go.Proofs.YtnhjabiciaoocaaDoor

namespace Go.Proofs.YtnhjabiciaoocaaDoor
open Go.RowKit
theorem new_below {w w' : World} (o : Obj) (h : Only w.heap.size (w.alloc o) w') : Below w.heap.size w w' := h.below (al_below w o) (Nat.le_refl _)
end Go.Proofs.YtnhjabiciaoocaaDoor

namespace Go.Proofs.YtnhjabiciaoocaaDoor
open Go.RowKit
attribute [local go_sem ↓] Go.wp_at_zero Go.wp_at_succ
/-- the address that sixteen bytes are. -/
def adr (zs : List Int) (o : Nat) : List Int := (List.range 8).map fun j => zs.getD (o + 2 * j) 0 * 256 + zs.getD (o + (2 * j + 1)) 0
end Go.Proofs.YtnhjabiciaoocaaDoor

namespace Go.Proofs.YtnhjabiciaoocaaDoor
open Go.RowKit
theorem Only.row {B : Nat} {w w' : World} (h : Only B w w') {g off len cap : Nat} {zs : List Int} (r : Row8 w (some ⟨g, off, none⟩) len cap zs) (hg : g ≠ B) : Row8 w' (some ⟨g, off, none⟩) len cap zs := by
  obtain ⟨h1, h2, h3, h4, h5⟩ := r
  refine ⟨h1, h2, h3, h4, fun hp => ?_⟩
  obtain ⟨b, o, e, hc⟩ := h5 hp
  cases e
  exact ⟨g, off, rfl, fun i hi => (World.cell?_of_block (a := ⟨g, off + i, none⟩) (h.2.2.2.2 g hg)).trans (hc i hi)⟩
end Go.Proofs.YtnhjabiciaoocaaDoor

namespace Go.Proofs.YtnhjabiciaoocaaDoor
open Go.RowKit
theorem cell_lt {w : World} {g j : Nat} {v : Value} (h : w.cell? ⟨g, j, none⟩ = some v) : g < w.heap.size := by
  by_cases hg : g < w.heap.size
  · exact hg
  · exfalso
    have : w.heap[g]? = none := Array.getElem?_eq_none (by omega)
    simp [World.cell?, this] at h
end Go.Proofs.YtnhjabiciaoocaaDoor

namespace Go.Proofs.YtnhjabiciaoocaaDoor
open Go.RowKit
/-- whether it was heard, behind another beginning. -/
def hh (b h : Bool) (s t : Int) : Bool := b && decide (s = t) && h
end Go.Proofs.YtnhjabiciaoocaaDoor

namespace Go.Proofs.YtnhjabiciaoocaaDoor
open Go.RowKit
theorem sixC_at (z : List Int) (j : Nat) (hj : j < 8) : (sixC z)[j]? = some (.int .i64 (el z j)) := by
  rcases (by omega : j = 0 ∨ j = 1 ∨ j = 2 ∨ j = 3 ∨ j = 4 ∨ j = 5 ∨ j = 6 ∨ j = 7) with rfl | rfl | rfl | rfl | rfl | rfl | rfl | rfl <;> rfl
end Go.Proofs.YtnhjabiciaoocaaDoor
