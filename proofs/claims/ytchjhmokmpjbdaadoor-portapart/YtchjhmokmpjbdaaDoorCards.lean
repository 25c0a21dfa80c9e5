/-
  DERIVED. GIVEN WITH THE SEED: THE CARDS: each row of YtchjhmokmpjbdaaDoorRows.lean that lists a variable, with what it lists TIED to the program's text (the seventh form; the later family's looks); each row that meets fmt, with fmt's text TOLD by the authors' own Lean function (tested against real Go, not proved from fmt's source: count such statements apart). THE CARD IS WHAT COUNTS. Prove the row's statement (the work); the ties are given (YtchjhmokmpjbdaaDoorTie.lean); close each card by the builder's one call (the guide's Derived/Test/ToyasCard.lean, 'card_holds'). Laid BY PROGRAM, IN A SANDBOX (cutbox-door.mjs). By AI agents, Wed Nov 11 2026. No macro, syntax, notation, axiom, sorry.
-/
import Derived.Test.YtchjhmokmpjbdaaDoorRows
import GoSem.ClaimSeven
namespace Go.Proofs.YtchjhmokmpjbdaaDoor
namespace Rows

/-- THE TIED CARD OF 'gangplanklaw2.PortPlays'. -/
def portPlaysCard : Claim7 := { stood := { row := portPlaysRow, standIns := [], harness := (true, "795a172ea7afe352263a90734c92f0b8269937eb2f41257ed8470c621bf52eeb"), looks := true }, kinds := [], alts := [], laidByText := true, laidKinds := [.handle], laidTests := true, laidLooks := .later }
def PortPlaysCardSaid : Prop := Claim7.holds Tryd.pinned (.plain (OpenSpec.ofChange portPlaysSpec)) portPlaysCard

/-- THE TIED CARD OF 'gangplanklaw2.PortApart'. -/
def portApartCard : Claim7 := { stood := { row := portApartRow, standIns := [], harness := (true, "795a172ea7afe352263a90734c92f0b8269937eb2f41257ed8470c621bf52eeb"), looks := true }, kinds := [], alts := [], laidByText := true, laidKinds := [.handle], laidTests := true, laidLooks := .later }
def PortApartCardSaid : Prop := Claim7.holds Tryd.pinned (.plain (OpenSpec.ofChange portApartSpec)) portApartCard

/-- THE SECOND FORM's CARD OF 'gangplanklaw2.PortPlays'. -/
def portPlaysUptoCard : Claim7 := { stood := { row := portPlaysUptoRow, standIns := [], harness := (true, "795a172ea7afe352263a90734c92f0b8269937eb2f41257ed8470c621bf52eeb"), looks := true }, kinds := [], alts := [], laidByText := true, laidKinds := [.handle], laidTests := true, laidLooks := .later }
def PortPlaysUptoCardSaid : Prop := Claim7.holds Tryd.pinned (.plain (OpenSpec.upto portPlaysSpec)) portPlaysUptoCard

/-- THE SECOND FORM's CARD OF 'gangplanklaw2.PortApart'. -/
def portApartUptoCard : Claim7 := { stood := { row := portApartUptoRow, standIns := [], harness := (true, "795a172ea7afe352263a90734c92f0b8269937eb2f41257ed8470c621bf52eeb"), looks := true }, kinds := [], alts := [], laidByText := true, laidKinds := [.handle], laidTests := true, laidLooks := .later }
def PortApartUptoCardSaid : Prop := Claim7.holds Tryd.pinned (.plain (OpenSpec.upto portApartSpec)) portApartUptoCard
end Rows
end Go.Proofs.YtchjhmokmpjbdaaDoor
