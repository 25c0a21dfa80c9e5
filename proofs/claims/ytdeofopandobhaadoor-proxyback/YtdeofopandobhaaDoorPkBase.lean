/- Addresses loaded; one block that has turned. -/
import Derived.Test.YtdeofopandobhaaDoorS6Own
import Derived.Deep.MidRow
import Derived.Laws.ResultCell
import Derived.Deep.CutBlock
import Derived.Deep.QuietTactic
import Derived.OwnWalk
import Derived.Deep.RegionHeld3
import Derived.Deep.DrawnRows
import Derived.Maps.AppendAt
namespace Go.Proofs.YtdeofopandobhaaDoor
open Go.RowKit
theorem al_below (w : World) (o : Obj) : Below w.heap.size w (w.alloc o) := (Below.refl _ _).alloc (Nat.le_refl _) _
/-- an address's load, held shut for a walk. -/
def hload (x : Value) : Sem Value := Instr.loadAt 23 x
theorem hload_shut (x : Value) : Instr.loadAt 23 x = hload x := rfl
theorem SixIn.hl {B : Nat} {z : List Int} {w : World} (p : SixIn B z w) : (hload (.pointer (some ⟨B, 0, none⟩))).run Tryd.prog w = .ok (.agg (sixC z)) w :=
  run_loadAt_mid w B 0 23 (sixC z).toList _ (fun j v hv => by
    rw [Nat.zero_add]
    have hj : j < 8 := (List.getElem?_eq_some_iff.1 hv).1
    rw [(p.facts j hj).1]
    rcases (by omega : j = 0 ∨ j = 1 ∨ j = 2 ∨ j = 3 ∨ j = 4 ∨ j = 5 ∨ j = 6 ∨ j = 7) with rfl | rfl | rfl | rfl | rfl | rfl | rfl | rfl <;> exact hv) Tryd.underlying23 rfl (by kernel_rfl)
theorem sixC_size (z : List Int) : (sixC z).size = 8 := rfl
theorem sixC_at (z : List Int) (j : Nat) (hj : j < 8) : (sixC z)[j]? = some (.int .i64 (el z j)) := by
  rcases (by omega : j = 0 ∨ j = 1 ∨ j = 2 ∨ j = 3 ∨ j = 4 ∨ j = 5 ∨ j = 6 ∨ j = 7) with rfl | rfl | rfl | rfl | rfl | rfl | rfl | rfl <;> rfl
/-- an address stored into a block of its own. -/
def Only (B : Nat) (w w' : World) : Prop := w'.os = w.os ∧ w'.tape = w.tape ∧ w'.output = w.output ∧ w'.heap.size = w.heap.size ∧ ∀ g, g ≠ B → w'.heap[g]? = w.heap[g]?
theorem Only.below {B base : Nat} {w0 w w' : World} (h : Only B w w') (hb : Below base w0 w) (hB : base ≤ B) : Below base w0 w' :=
  ⟨h.1.trans hb.os, h.2.1.trans hb.tape, h.2.2.1.trans hb.output, by rw [h.2.2.2.1]; exact hb.size, fun g hg => (h.2.2.2.2 g (by omega)).trans (hb.block g hg)⟩
theorem only_setRow (w : World) (B : Nat) (cs : Array Value) : Only B w (w.setRow B cs) := ⟨rfl, rfl, rfl, setRow_size w B cs, fun g hg => setRow_other w B g cs hg⟩
theorem new_below {w w' : World} (o : Obj) (h : Only w.heap.size (w.alloc o) w') : Below w.heap.size w w' := h.below (al_below w o) (Nat.le_refl _)
end Go.Proofs.YtdeofopandobhaaDoor
