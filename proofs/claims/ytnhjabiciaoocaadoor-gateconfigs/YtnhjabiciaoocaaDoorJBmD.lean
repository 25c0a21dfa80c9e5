/- The program's table of binds as it lies in the heap: its ports, a map by flows, a map by ports; New. Use. -/
import Derived.Test.YtnhjabiciaoocaaDoorJBdH
import Derived.Test.YtnhjabiciaoocaaDoorJPbB
import Derived.Test.YtnhjabiciaoocaaDoorJBmA
import Derived.Deep.MidRow
import Derived.Laws.ResultCell
import Derived.Deep.CutBlock
import Derived.Deep.QuietTactic
import Derived.OwnWalk
import Derived.Deep.RegionHeld3
import Derived.Deep.DrawnRows
import Derived.Laws.StructEq
import Derived.Laws.AppendOwnNone
import Derived.Maps.AppendAt
import Derived.Maps.RangeWalk
import Derived.Test.YtnhjabiciaoocaaDoorProg
import Derived.WalkKit
import Derived.LaidEql
import Derived.Stop.Asserts
import Derived.RowKitTokens
import Derived.BigQuiet
import Derived.Below
import Derived.Laws.MakeOwn
import Derived.Deep.RegionLaw
import Derived.Test.YtnhjabiciaoocaaDoorJBdB
namespace Go.Proofs.YtnhjabiciaoocaaDoor
open Go.RowKit
/-- a bind's entry by its flow, and by its port. -/
def fE (b : List Int) : Value × Value := (.agg (flC b), .agg (bdC b))
def pE (b : List Int) : Value × Value := (.int .i64 (el b 19), .agg (flC b))
/-- the table's block. -/
def TBl (T P F N : Nat) (w : World) : Prop := w.heap[T]? = some (.cells #[.pointer (some ⟨P, 0, none⟩), .map (some F), .map (some N)] 82 (0, 0))
theorem TBl.lt {T P F N : Nat} {w : World} (h : TBl T P F N w) : T < w.heap.size := (Array.getElem?_eq_some_iff.1 h).1
theorem TBl.c0 {T P F N : Nat} {w : World} (h : TBl T P F N w) : w.cell? ⟨T, 0, none⟩ = some (.pointer (some ⟨P, 0, none⟩)) := cell_of_row w T 0 _ _ _ h
theorem TBl.c1 {T P F N : Nat} {w : World} (h : TBl T P F N w) : w.cell? ⟨T, 1, none⟩ = some (.map (some F)) := cell_of_row w T 1 _ _ _ h
theorem TBl.c2 {T P F N : Nat} {w : World} (h : TBl T P F N w) : w.cell? ⟨T, 2, none⟩ = some (.map (some N)) := cell_of_row w T 2 _ _ _ h
/-- the table. -/
def TC (T P BB F N m : Nat) (ow : Nat → List Int) (ts : Nat → Bool) (bs : List (List Int)) (w : World) : Prop := TBl T P F N w ∧ BP P BB m ow ts w ∧ MP isF F (bs.map fE) w ∧ MP isI N (bs.map pE) w ∧ F ≠ N
theorem TC.same {T P BB F N m : Nat} {ow : Nat → List Int} {ts : Nat → Bool} {bs : List (List Int)} {w w' : World} (h : TC T P BB F N m ow ts bs w) (hs : ∀ g, (g = T ∨ g = P ∨ g = BB ∨ g = F ∨ g = N) → w'.heap[g]? = w.heap[g]?) : TC T P BB F N m ow ts bs w' :=
  ⟨(hs T (.inl rfl)).trans h.1, ⟨(hs P (.inr (.inl rfl))).trans h.2.1.1, h.2.1.2.same (hs BB (.inr (.inr (.inl rfl))))⟩, h.2.2.1.same (hs F (.inr (.inr (.inr (.inl rfl))))), h.2.2.2.1.same (hs N (.inr (.inr (.inr (.inr rfl))))), h.2.2.2.2⟩
theorem TC.lt {T P BB F N m : Nat} {ow : Nat → List Int} {ts : Nat → Bool} {bs : List (List Int)} {w : World} (h : TC T P BB F N m ow ts bs w) (g : Nat) (hg : g = T ∨ g = P ∨ g = BB ∨ g = F ∨ g = N) : g < w.heap.size := by
  rcases hg with rfl | rfl | rfl | rfl | rfl
  · exact h.1.lt
  · exact h.2.1.lt
  · exact h.2.1.2.lt
  · exact h.2.2.1.lt
  · exact h.2.2.2.1.lt
theorem TC.kept {T P BB F N m : Nat} {ow : Nat → List Int} {ts : Nat → Bool} {bs : List (List Int)} {w w' : World} (h : TC T P BB F N m ow ts bs w) (hb : Below w.heap.size w w') : TC T P BB F N m ow ts bs w' := h.same fun g hg => hb.block g (h.lt g hg)
/-- the table as it is asked for. -/
def TB (v : Value) (m : Nat) (ws : Nat → List Int) (ts : Nat → Bool) (bs : List (List Int)) (O : Nat → Prop) (w : World) : Prop := ∃ T P BB F N ow, v = .pointer (some ⟨T, 0, none⟩) ∧ TC T P BB F N m ow ts bs w ∧ Ag ws ow ts m ∧ O = fun g => g = T ∨ g = P ∨ g = BB ∨ g = F ∨ g = N
/-- looks, held shut for a walk. -/
def flk (m x : Value) (c : Bool) : Sem Value := Instr.lookup 79 m x c
theorem flk_shut (m x : Value) (c : Bool) : Instr.lookup 79 m x c = flk m x c := rfl
def plk (m x : Value) (c : Bool) : Sem Value := Instr.lookup 80 m x c
theorem plk_shut (m x : Value) (c : Bool) : Instr.lookup 80 m x c = plk m x c := rfl
set_option maxRecDepth 100000 in
set_option maxHeartbeats 1000000 in
theorem bnew_any (m : Nat) (w : World) (h1 : 1 ≤ m) (hm : m ≤ 16) : Calls Tryd.prog 23 #[.int .i64 m] w fun e w' => ∃ T P BB F N, e = .returned (.tuple #[.pointer (some ⟨T, 0, none⟩), .nilIface]) ∧ TC T P BB F N m (fun _ => []) (fun _ => false) [] w' ∧ (w.heap.size ≤ T ∧ w.heap.size ≤ P ∧ w.heap.size ≤ BB ∧ w.heap.size ≤ F ∧ w.heap.size ≤ N) ∧ Below w.heap.size w w' := by
  have HN := hide (pnew_any m w h1 hm)
  clear h1 hm
  go_enter Tryd.func23, Tryd.ntmps23
  have hmm := @run_makeMap Tryd.prog
  go_wp2_with (go_at_call 35; refine HN.out.mono ?_; rintro e w1 ⟨P, BB, rfl, hp, h1, h2, hb⟩; replace hp := hide hp; replace h1 := hide (And.intro h1 h2); replace hb := hide hb; clear h2)
  go_ret2
  have b1 := al_below w1 (.map #[] 0)
  have b2 := al_below (w1.alloc (.map #[] 0)) (.map #[] 0)
  have b3 := al_below ((w1.alloc (.map #[] 0)).alloc (.map #[] 0)) (.cells #[.pointer (some ⟨P, 0, none⟩), .map (some w1.heap.size), .map (some (w1.heap.size + 1))] 82)
  have m1 := mp_new isF w1
  have m2 := mp_new isI (w1.alloc (.map #[] 0))
  rw [World.size_alloc] at m2
  have t1 : TBl (w1.heap.size + 1 + 1) P w1.heap.size (w1.heap.size + 1) (((w1.alloc (.map #[] 0)).alloc (.map #[] 0)).alloc (.cells #[.pointer (some ⟨P, 0, none⟩), .map (some w1.heap.size), .map (some (w1.heap.size + 1))] 82)) := by
    have := heap_alloc_new ((w1.alloc (.map #[] 0)).alloc (.map #[] 0)) (.cells #[.pointer (some ⟨P, 0, none⟩), .map (some w1.heap.size), .map (some (w1.heap.size + 1))] 82)
    rw [World.size_alloc, World.size_alloc] at this
    exact this
  have hs := hb.out.size
  exact ⟨w1.heap.size + 1 + 1, P, BB, w1.heap.size, w1.heap.size + 1, rfl, ⟨t1, ((hp.out.kept b1).kept b2).kept b3, (m1.same (b2.block _ m1.lt)).same (b3.block _ (Nat.lt_of_lt_of_le m1.lt b2.size)), m2.same (b3.block _ m2.lt), by omega⟩, ⟨by omega, h1.out.1, h1.out.2, hs, by omega⟩, bt (bt (bt hb.out b1) b2) b3⟩
end Go.Proofs.YtnhjabiciaoocaaDoor

namespace Go.Proofs.YtnhjabiciaoocaaDoor
open Go.RowKit
theorem BdIn.set22 {D : Nat} {b : List Int} {w : World} (p : BdIn D b w) (now : Int) : BdIn D (usd b now) (w.setCell ⟨D, 22, none⟩ (.int .i64 now)) ∧ Only D w (w.setCell ⟨D, 22, none⟩ (.int .i64 now)) := by
  rw [setCell_eq_setRow w D 22 _ 87 (0, 0) (.int .i64 now) p]
  exact ⟨setRow_heap w D _ _ 87 (0, 0) p, only_setRow _ _ _⟩
/-- a store by a flow, by a port, held shut for a walk. -/
def fup (m k v : Value) : Sem Unit := Instr.mapUpdate 79 m k v
theorem fup_shut (m k v : Value) : Instr.mapUpdate 79 m k v = fup m k v := rfl
attribute [local go_sem ↓] fload_shut bload_shut flk_shut plk_shut bstore_shut fup_shut
end Go.Proofs.YtnhjabiciaoocaaDoor
