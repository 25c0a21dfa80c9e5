/- cross.To4 by contracts: one for each way out. cross.To4 of whatever packet: it tells of an error, or what crosses is this. -/
import Derived.Test.YtgcojnlngchllaaGreatDoorK04
namespace Go.Proofs.YtgcojnlngchllaaGreatDoor
open Go.RowKit
set_option linter.unusedVariables false
section
theorem Row8.only {B:Nat} {w w':World} (h:Only B w w') {g n c:Nat} {zs:List Int} (hg:g≠B) (r:Row8 w (some ⟨g,0,none⟩) n c zs):Row8 w' (some ⟨g,0,none⟩) n c zs:=by
 refine ⟨r.1,r.2.1,r.2.2.1,r.2.2.2.1,fun hp=>?_⟩
 obtain ⟨b,a,e,hc⟩:=r.2.2.2.2 hp
 refine ⟨b,a,e,fun i hi=>?_⟩
 injection e with e;injection e with e1 e2
 have:=hc i hi
 rw[← this]
 unfold World.cell?
 rw[h.2.2.2.2 b (by rw[← e1];exact hg)]
end
section
theorem hn_pos (k:Int):8≤hn k:=by unfold hn;split <;> omega
end
end Go.Proofs.YtgcojnlngchllaaGreatDoor
