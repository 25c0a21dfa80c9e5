/-
  DERIVED. GIVEN WITH THE SEED: THE CARDS: each row of YtkhahbghmdccaaaGreatDoorRows.lean that lists a variable, with what it lists TIED to the program's text (the seventh form; the later family's looks); each row that meets fmt, with fmt's text TOLD by the authors' own Lean function (tested against real Go, not proved from fmt's source: count such statements apart). THE CARD IS WHAT COUNTS. Prove the row's statement (the work); the ties are given (YtkhahbghmdccaaaGreatDoorTie.lean); close each card by the builder's one call (the guide's Derived/Test/ToyasCard.lean, 'card_holds'). Laid BY PROGRAM, IN A SANDBOX (cutbox-door.mjs). By AI agents, Wed Nov 11 2026. No macro, syntax, notation, axiom, sorry.
-/
import Derived.Test.YtkhahbghmdccaaaGreatDoorRows
import GoSem.ClaimSeven
namespace Go.Proofs.YtkhahbghmdccaaaGreatDoor
namespace Rows

/-- THE TIED CARD OF 'gangplanklaw3.GatePlays'. -/
def gatePlaysCard : Claim7 := { stood := { row := gatePlaysRow, standIns := [], harness := (true, "47ec7da0d2ee1399995aa79ed039aa56ccb928b884b9a17eeeee84f175fc1f92"), looks := true }, kinds := [], alts := [], laidByText := true, laidKinds := [.handle], laidTests := true, laidLooks := .later }
def GatePlaysCardSaid : Prop := Claim7.holds Tryz.pinned (.plain (OpenSpec.ofChange gatePlaysSpec)) gatePlaysCard

/-- THE TIED CARD OF 'gangplanklaw3.GateStays'. -/
def gateStaysCard : Claim7 := { stood := { row := gateStaysRow, standIns := [], harness := (true, "47ec7da0d2ee1399995aa79ed039aa56ccb928b884b9a17eeeee84f175fc1f92"), looks := true }, kinds := [], alts := [], laidByText := true, laidKinds := [.handle], laidTests := true, laidLooks := .later }
def GateStaysCardSaid : Prop := Claim7.holds Tryz.pinned (.plain (OpenSpec.ofChange gateStaysSpec)) gateStaysCard

/-- THE TIED CARD OF 'gangplanklaw3.GateRefuses'. -/
def gateRefusesCard : Claim7 := { stood := { row := gateRefusesRow, standIns := [], harness := (true, "47ec7da0d2ee1399995aa79ed039aa56ccb928b884b9a17eeeee84f175fc1f92"), looks := true }, kinds := [], alts := [], laidByText := true, laidKinds := [.handle], laidTests := true, laidLooks := .later }
def GateRefusesCardSaid : Prop := Claim7.holds Tryz.pinned (.plain (OpenSpec.ofChange gateRefusesSpec)) gateRefusesCard

/-- THE TIED CARD OF 'gangplanktop.TopFull'. -/
def topFullCard : Claim7 := { stood := { row := topFullRow, standIns := [], harness := (true, "47ec7da0d2ee1399995aa79ed039aa56ccb928b884b9a17eeeee84f175fc1f92"), looks := true }, kinds := [], alts := [], laidByText := true, laidKinds := [.handle], laidTests := true, laidLooks := .later }
def TopFullCardSaid : Prop := Claim7.holds Tryz.pinned (.plain (OpenSpec.ofChange topFullSpec)) topFullCard

/-- THE SECOND FORM's CARD OF 'gangplanklaw3.GatePlays'. -/
def gatePlaysUptoCard : Claim7 := { stood := { row := gatePlaysUptoRow, standIns := [], harness := (true, "47ec7da0d2ee1399995aa79ed039aa56ccb928b884b9a17eeeee84f175fc1f92"), looks := true }, kinds := [], alts := [], laidByText := true, laidKinds := [.handle], laidTests := true, laidLooks := .later }
def GatePlaysUptoCardSaid : Prop := Claim7.holds Tryz.pinned (.plain (OpenSpec.upto gatePlaysSpec)) gatePlaysUptoCard

/-- THE SECOND FORM's CARD OF 'gangplanklaw3.GateStays'. -/
def gateStaysUptoCard : Claim7 := { stood := { row := gateStaysUptoRow, standIns := [], harness := (true, "47ec7da0d2ee1399995aa79ed039aa56ccb928b884b9a17eeeee84f175fc1f92"), looks := true }, kinds := [], alts := [], laidByText := true, laidKinds := [.handle], laidTests := true, laidLooks := .later }
def GateStaysUptoCardSaid : Prop := Claim7.holds Tryz.pinned (.plain (OpenSpec.upto gateStaysSpec)) gateStaysUptoCard

/-- THE SECOND FORM's CARD OF 'gangplanklaw3.GateRefuses'. -/
def gateRefusesUptoCard : Claim7 := { stood := { row := gateRefusesUptoRow, standIns := [], harness := (true, "47ec7da0d2ee1399995aa79ed039aa56ccb928b884b9a17eeeee84f175fc1f92"), looks := true }, kinds := [], alts := [], laidByText := true, laidKinds := [.handle], laidTests := true, laidLooks := .later }
def GateRefusesUptoCardSaid : Prop := Claim7.holds Tryz.pinned (.plain (OpenSpec.upto gateRefusesSpec)) gateRefusesUptoCard

/-- THE SECOND FORM's CARD OF 'gangplanktop.TopFull'. -/
def topFullUptoCard : Claim7 := { stood := { row := topFullUptoRow, standIns := [], harness := (true, "47ec7da0d2ee1399995aa79ed039aa56ccb928b884b9a17eeeee84f175fc1f92"), looks := true }, kinds := [], alts := [], laidByText := true, laidKinds := [.handle], laidTests := true, laidLooks := .later }
def TopFullUptoCardSaid : Prop := Claim7.holds Tryz.pinned (.plain (OpenSpec.upto topFullSpec)) topFullUptoCard
end Rows
end Go.Proofs.YtkhahbghmdccaaaGreatDoor
