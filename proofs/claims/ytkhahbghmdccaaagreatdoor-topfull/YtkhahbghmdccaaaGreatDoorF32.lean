/- cross.To4 by contracts: one for each way out. cross.To4 of whatever packet: it tells of an error, or what crosses is this. -/
import Derived.Test.YtkhahbghmdccaaaGreatDoorF06
import Derived.Below
import Derived.OpenShut
import Derived.Test.YtkhahbghmdccaaaGreatDoorProg
import Derived.WalkKit
import Derived.LaidEql
import Derived.BigQuiet
import Derived.Laws.AppendOwnNone
import Derived.Laws.MakeOwn
import Derived.Deep.RegionLaw
import Derived.Lib.Bytes
import Derived.Deep.MidRow
import Derived.Laws.ResultCell
import Derived.Deep.CutBlock
import Derived.Deep.QuietTactic
import Derived.OwnWalk
import Derived.Deep.RegionHeld3
import Derived.Deep.DrawnRows
import Derived.Test.YtkhahbghmdccaaaGreatDoorF03
namespace Go.Proofs.YtkhahbghmdccaaaGreatDoor
open Go.RowKit
theorem Row8.only {B : Nat} {w w' : World} (h : Only B w w') {g n c : Nat} {zs : List Int} (hg : g ≠ B) (r : Row8 w (some ⟨g, 0, none⟩) n c zs) : Row8 w' (some ⟨g, 0, none⟩) n c zs := by
  refine ⟨r.1, r.2.1, r.2.2.1, r.2.2.2.1, fun hp => ?_⟩
  obtain ⟨b, off, e, hc⟩ := r.2.2.2.2 hp
  refine ⟨b, off, e, fun i hi => ?_⟩
  injection e with e; injection e with e1 e2
  have := hc i hi
  rw [← this]
  unfold World.cell?
  rw [h.2.2.2.2 b (by rw [← e1]; exact hg)]
end Go.Proofs.YtkhahbghmdccaaaGreatDoor

namespace Go.Proofs.YtkhahbghmdccaaaGreatDoor
open Go.RowKit
theorem hn_pos (k : Int) : 8 ≤ hn k := by unfold hn; split <;> omega
end Go.Proofs.YtkhahbghmdccaaaGreatDoor
