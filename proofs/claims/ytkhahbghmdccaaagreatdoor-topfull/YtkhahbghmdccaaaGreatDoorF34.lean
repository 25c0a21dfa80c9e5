/- The document's own words and Encoded6, by contracts. The document's own words and FourBytes of a packet's head, by contracts. The document's own FourBytes and Bytes4, by contracts. -/
import Derived.Test.YtkhahbghmdccaaaGreatDoorProg
import Derived.WalkKit
import Derived.LaidEql
import Derived.BigQuiet
import Derived.Below
import Derived.Laws.AppendOwnNone
import Derived.Laws.MakeOwn
import Derived.Deep.RegionLaw
import Derived.Test.YtkhahbghmdccaaaGreatDoorF10
namespace Go.Proofs.YtkhahbghmdccaaaGreatDoor.V6
open Go.RowKit
attribute [local go_sem ↓] Go.wp_at_zero Go.wp_at_succ
def wb (l : List Int) : Nat → List Int
  | 0 => []
  | k + 1 => wb l k ++ [l.getD k 0 / 256, l.getD k 0 % 256]
end Go.Proofs.YtkhahbghmdccaaaGreatDoor.V6

namespace Go.Proofs.YtkhahbghmdccaaaGreatDoor.V4
open Go.RowKit
attribute [local go_sem ↓] Go.wp_at_zero Go.wp_at_succ
def wb (l : List Int) : Nat → List Int
  | 0 => []
  | k + 1 => wb l k ++ [l.getD k 0 / 256, l.getD k 0 % 256]
end Go.Proofs.YtkhahbghmdccaaaGreatDoor.V4

namespace Go.Proofs.YtkhahbghmdccaaaGreatDoor.V4
open Go.RowKit
theorem al_below (w : World) (o : Obj) : Below w.heap.size w (w.alloc o) := (Below.refl _ _).alloc (Nat.le_refl _) _
end Go.Proofs.YtkhahbghmdccaaaGreatDoor.V4
