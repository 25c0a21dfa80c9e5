/-
  DERIVED. GIVEN WITH THE SEED: THE CARDS: each row of YtdnfpekcipigbaaDoorRows.lean that lists a variable, with what it lists TIED to the program's text (the seventh form; the later family's looks); each row that meets fmt, with fmt's text TOLD by the authors' own Lean function (tested against real Go, not proved from fmt's source: count such statements apart). THE CARD IS WHAT COUNTS. Prove the row's statement (the work); the ties are given (YtdnfpekcipigbaaDoorTie.lean); close each card by the builder's one call (the guide's Derived/Test/ToyasCard.lean, 'card_holds'). Laid BY PROGRAM, IN A SANDBOX (cutbox-door.mjs). By AI agents, Wed Nov 11 2026. No macro, syntax, notation, axiom, sorry.
-/
import Derived.Test.YtdnfpekcipigbaaDoorRows
import GoSem.ClaimSeven
namespace Go.Proofs.YtdnfpekcipigbaaDoor
namespace Rows

/-- THE TIED CARD OF 'gangplanklaw2.PickIs'. -/
def pickIsCard : Claim7 := { stood := { row := pickIsRow, standIns := [], harness := (true, "1d5e4231733bda240b7be4b5bac11a8fd4068489e193cdf9829d321fe0727c2d"), looks := true }, kinds := [], alts := [], laidByText := true, laidKinds := [.handle], laidTests := true, laidLooks := .later }
def PickIsCardSaid : Prop := Claim7.holds Tryd.pinned (.plain (OpenSpec.ofChange pickIsSpec)) pickIsCard

/-- THE SECOND FORM's CARD OF 'gangplanklaw2.PickIs'. -/
def pickIsUptoCard : Claim7 := { stood := { row := pickIsUptoRow, standIns := [], harness := (true, "1d5e4231733bda240b7be4b5bac11a8fd4068489e193cdf9829d321fe0727c2d"), looks := true }, kinds := [], alts := [], laidByText := true, laidKinds := [.handle], laidTests := true, laidLooks := .later }
def PickIsUptoCardSaid : Prop := Claim7.holds Tryd.pinned (.plain (OpenSpec.upto pickIsSpec)) pickIsUptoCard
end Rows
end Go.Proofs.YtdnfpekcipigbaaDoor
