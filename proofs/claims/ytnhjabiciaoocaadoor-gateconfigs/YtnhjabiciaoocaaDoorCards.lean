/-
  DERIVED. GIVEN WITH THE SEED: THE CARDS: each row of YtnhjabiciaoocaaDoorRows.lean that lists a variable, with what it lists TIED to the program's text (the seventh form; the later family's looks); each row that meets fmt, with fmt's text TOLD by the authors' own Lean function (tested against real Go, not proved from fmt's source: count such statements apart). THE CARD IS WHAT COUNTS. Prove the row's statement (the work); the ties are given (YtnhjabiciaoocaaDoorTie.lean); close each card by the builder's one call (the guide's Derived/Test/ToyasCard.lean, 'card_holds'). Laid BY PROGRAM, IN A SANDBOX (cutbox-door.mjs). By AI agents, Wed Nov 11 2026. No macro, syntax, notation, axiom, sorry.
-/
import Derived.Test.YtnhjabiciaoocaaDoorRows
import GoSem.ClaimSeven
namespace Go.Proofs.YtnhjabiciaoocaaDoor
namespace Rows

/-- THE TIED CARD OF 'gangplanklaw3.GateConfigs'. -/
def gateConfigsCard : Claim7 := { stood := { row := gateConfigsRow, standIns := [], harness := (true, "b9f3cfcdd552447a88335e4b45847bf19941fd483dcc7a971f7ea9492eaf52b1"), looks := true }, kinds := [], alts := [], laidByText := true, laidKinds := [.handle], laidTests := true, laidLooks := .later }
def GateConfigsCardSaid : Prop := Claim7.holds Tryd.pinned (.plain (OpenSpec.ofChange gateConfigsSpec)) gateConfigsCard

/-- THE SECOND FORM's CARD OF 'gangplanklaw3.GateConfigs'. -/
def gateConfigsUptoCard : Claim7 := { stood := { row := gateConfigsUptoRow, standIns := [], harness := (true, "b9f3cfcdd552447a88335e4b45847bf19941fd483dcc7a971f7ea9492eaf52b1"), looks := true }, kinds := [], alts := [], laidByText := true, laidKinds := [.handle], laidTests := true, laidLooks := .later }
def GateConfigsUptoCardSaid : Prop := Claim7.holds Tryd.pinned (.plain (OpenSpec.upto gateConfigsSpec)) gateConfigsUptoCard
end Rows
end Go.Proofs.YtnhjabiciaoocaaDoor
