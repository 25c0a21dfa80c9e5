/-
  DERIVED. GIVEN WITH THE SEED: THE CARDS: each row of YtjjbfgcdlglcbaaDoorRows.lean that lists a variable, with what it lists TIED to the program's text (the seventh form; the later family's looks); each row that meets fmt, with fmt's text TOLD by the authors' own Lean function (tested against real Go, not proved from fmt's source: count such statements apart). THE CARD IS WHAT COUNTS. Prove the row's statement (the work); the ties are given (YtjjbfgcdlglcbaaDoorTie.lean); close each card by the builder's one call (the guide's Derived/Test/ToyasCard.lean, 'card_holds'). Laid BY PROGRAM, IN A SANDBOX (cutbox-door.mjs). By AI agents, Wed Nov 11 2026. No macro, syntax, notation, axiom, sorry.
-/
import Derived.Test.YtjjbfgcdlglcbaaDoorRows
import GoSem.ClaimSeven
namespace Go.Proofs.YtjjbfgcdlglcbaaDoor
namespace Rows

/-- THE TIED CARD OF 'gangplanklaw1.SumIs'. -/
def sumIsCard : Claim7 := { stood := { row := sumIsRow, standIns := [], harness := (true, "b4535a9e5607ed5edbb138b50fc8b5a908258dbb463287e96f6509149b25d44f"), looks := true }, kinds := [], alts := [], laidByText := true, laidKinds := [.handle], laidTests := true, laidLooks := .later }
def SumIsCardSaid : Prop := Claim7.holds Tryd.pinned (.plain (OpenSpec.ofChange sumIsSpec)) sumIsCard

/-- THE SECOND FORM's CARD OF 'gangplanklaw1.SumIs'. -/
def sumIsUptoCard : Claim7 := { stood := { row := sumIsUptoRow, standIns := [], harness := (true, "b4535a9e5607ed5edbb138b50fc8b5a908258dbb463287e96f6509149b25d44f"), looks := true }, kinds := [], alts := [], laidByText := true, laidKinds := [.handle], laidTests := true, laidLooks := .later }
def SumIsUptoCardSaid : Prop := Claim7.holds Tryd.pinned (.plain (OpenSpec.upto sumIsSpec)) sumIsUptoCard
end Rows
end Go.Proofs.YtjjbfgcdlglcbaaDoor
