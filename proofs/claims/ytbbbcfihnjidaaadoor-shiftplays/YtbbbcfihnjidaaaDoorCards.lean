/-
  DERIVED. GIVEN WITH THE SEED: THE CARDS: each row of YtbbbcfihnjidaaaDoorRows.lean that lists a variable, with what it lists TIED to the program's text (the seventh form; the later family's looks); each row that meets fmt, with fmt's text TOLD by the authors' own Lean function (tested against real Go, not proved from fmt's source: count such statements apart). THE CARD IS WHAT COUNTS. Prove the row's statement (the work); the ties are given (YtbbbcfihnjidaaaDoorTie.lean); close each card by the builder's one call (the guide's Derived/Test/ToyasCard.lean, 'card_holds'). Laid BY PROGRAM, IN A SANDBOX (cutbox-door.mjs). By AI agents, Wed Nov 11 2026. No macro, syntax, notation, axiom, sorry.
-/
import Derived.Test.YtbbbcfihnjidaaaDoorRows
import GoSem.ClaimSeven
namespace Go.Proofs.YtbbbcfihnjidaaaDoor
namespace Rows

/-- THE TIED CARD OF 'gangplanklaw2.ShiftPlays'. -/
def shiftPlaysCard : Claim7 := { stood := { row := shiftPlaysRow, standIns := [], harness := (true, "d72c9be0c8ed5814beddf2877b42fc6582bd1e8ca5dc24e395e16fa7176f4513"), looks := true }, kinds := [], alts := [], laidByText := true, laidKinds := [.handle], laidTests := true, laidLooks := .later }
def ShiftPlaysCardSaid : Prop := Claim7.holds Tryd.pinned (.plain (OpenSpec.ofChange shiftPlaysSpec)) shiftPlaysCard

/-- THE SECOND FORM's CARD OF 'gangplanklaw2.ShiftPlays'. -/
def shiftPlaysUptoCard : Claim7 := { stood := { row := shiftPlaysUptoRow, standIns := [], harness := (true, "d72c9be0c8ed5814beddf2877b42fc6582bd1e8ca5dc24e395e16fa7176f4513"), looks := true }, kinds := [], alts := [], laidByText := true, laidKinds := [.handle], laidTests := true, laidLooks := .later }
def ShiftPlaysUptoCardSaid : Prop := Claim7.holds Tryd.pinned (.plain (OpenSpec.upto shiftPlaysSpec)) shiftPlaysUptoCard
end Rows
end Go.Proofs.YtbbbcfihnjidaaaDoor
