/- The document's own Take of a port, by contracts. The document's own NewPorts, by a contract. -/
import Derived.Test.YtnhjabiciaoocaaDoorJEmStarts
import Derived.Test.YtnhjabiciaoocaaDoorProg
import Derived.Deep.MidRow
import Derived.Laws.ResultCell
import Derived.Deep.CutBlock
import Derived.Deep.QuietTactic
import Derived.OwnWalk
import Derived.Deep.RegionHeld3
import Derived.Deep.DrawnRows
import Derived.WalkKit
import Derived.LaidEql
import Derived.BigQuiet
import Derived.Below
import Derived.Laws.AppendOwnNone
import Derived.Laws.MakeOwn
import Derived.Deep.RegionLaw
namespace Go.Proofs.YtnhjabiciaoocaaDoor
open Go.RowKit
theorem Only.fr {B : Nat} {w w' : World} (h : Only B w w') {O : Nat → Prop} (hO : O B) : Fr O w w' := ⟨h.1, h.2.1, h.2.2.1, by rw [h.2.2.2.1]; exact Nat.le_refl _, fun g _ hg => h.2.2.2.2 g (fun e => hg (e ▸ hO))⟩
attribute [local go_sem ↓] hload_shut qstore_shut
end Go.Proofs.YtnhjabiciaoocaaDoor

namespace Go.Proofs.YtnhjabiciaoocaaDoor
open Go.RowKit
def mkSl (t : TypeId) (l c : Value) : Sem Value := Instr.makeSlice t l c
theorem mkSl_shut (t : TypeId) (l c : Value) : Instr.makeSlice t l c = mkSl t l c := rfl
theorem made_at (z : Array Value) (n j : Nat) (hj : j < n) : (madeCells z n)[j]? = some (z[j % z.size]!) := by
  unfold madeCells
  simp [hj]
attribute [local go_sem ↓] mkSl_shut
end Go.Proofs.YtnhjabiciaoocaaDoor
