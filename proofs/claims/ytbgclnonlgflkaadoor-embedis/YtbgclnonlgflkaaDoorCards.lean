/-
  DERIVED. GIVEN WITH THE SEED: THE CARDS: each row of YtbgclnonlgflkaaDoorRows.lean that lists a variable, with what it lists TIED to the program's text (the seventh form; the later family's looks); each row that meets fmt, with fmt's text TOLD by the authors' own Lean function (tested against real Go, not proved from fmt's source: count such statements apart). THE CARD IS WHAT COUNTS. Prove the row's statement (the work); the ties are given (YtbgclnonlgflkaaDoorTie.lean); close each card by the builder's one call (the guide's Derived/Test/ToyasCard.lean, 'card_holds'). Laid BY PROGRAM, IN A SANDBOX (cutbox-door.mjs). By AI agents, Wed Nov 11 2026. No macro, syntax, notation, axiom, sorry.
-/
import Derived.Test.YtbgclnonlgflkaaDoorRows
import GoSem.ClaimSeven
namespace Go.Proofs.YtbgclnonlgflkaaDoor
namespace Rows

/-- THE TIED CARD OF 'gangplanklaw1.EmbedIs'. -/
def embedIsCard : Claim7 := { stood := { row := embedIsRow, standIns := [], harness := (true, "5f62f7389c06fcaf46b4ecf3cde6839894ceae5c84eb7eddb06e6586d82276c3"), looks := true }, kinds := [], alts := [], laidByText := true, laidKinds := [.handle], laidTests := true, laidLooks := .later }
def EmbedIsCardSaid : Prop := Claim7.holds Tryd.pinned (.plain (OpenSpec.ofChange embedIsSpec)) embedIsCard

/-- THE SECOND FORM's CARD OF 'gangplanklaw1.EmbedIs'. -/
def embedIsUptoCard : Claim7 := { stood := { row := embedIsUptoRow, standIns := [], harness := (true, "5f62f7389c06fcaf46b4ecf3cde6839894ceae5c84eb7eddb06e6586d82276c3"), looks := true }, kinds := [], alts := [], laidByText := true, laidKinds := [.handle], laidTests := true, laidLooks := .later }
def EmbedIsUptoCardSaid : Prop := Claim7.holds Tryd.pinned (.plain (OpenSpec.upto embedIsSpec)) embedIsUptoCard
end Rows
end Go.Proofs.YtbgclnonlgflkaaDoor
