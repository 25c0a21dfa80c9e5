/-
  DERIVED. GIVEN WITH THE SEED: THE CARDS: each row of YtfjnioninjllkaaDoorRows.lean that lists a variable, with what it lists TIED to the program's text (the seventh form; the later family's looks); each row that meets fmt, with fmt's text TOLD by the authors' own Lean function (tested against real Go, not proved from fmt's source: count such statements apart). THE CARD IS WHAT COUNTS. Prove the row's statement (the work); the ties are given (YtfjnioninjllkaaDoorTie.lean); close each card by the builder's one call (the guide's Derived/Test/ToyasCard.lean, 'card_holds'). Laid BY PROGRAM, IN A SANDBOX (cutbox-door.mjs). By AI agents, Wed Nov 11 2026. No macro, syntax, notation, axiom, sorry.
-/
import Derived.Test.YtfjnioninjllkaaDoorRows
import GoSem.ClaimSeven
namespace Go.Proofs.YtfjnioninjllkaaDoor
namespace Rows

/-- THE TIED CARD OF 'gangplanklaw1.CrossIs'. -/
def crossIsCard : Claim7 := { stood := { row := crossIsRow, standIns := [], harness := (true, "60dd6e1986a101dfd7bb5d82f295f4605bd5c96bf8cf55ecc0835fc68f41eca3"), looks := true }, kinds := [], alts := [], laidByText := true, laidKinds := [.handle], laidTests := true, laidLooks := .later }
def CrossIsCardSaid : Prop := Claim7.holds Tryd.pinned (.plain (OpenSpec.ofChange crossIsSpec)) crossIsCard

/-- THE TIED CARD OF 'gangplanklaw1.CrossBack'. -/
def crossBackCard : Claim7 := { stood := { row := crossBackRow, standIns := [], harness := (true, "60dd6e1986a101dfd7bb5d82f295f4605bd5c96bf8cf55ecc0835fc68f41eca3"), looks := true }, kinds := [], alts := [], laidByText := true, laidKinds := [.handle], laidTests := true, laidLooks := .later }
def CrossBackCardSaid : Prop := Claim7.holds Tryd.pinned (.plain (OpenSpec.ofChange crossBackSpec)) crossBackCard

/-- THE SECOND FORM's CARD OF 'gangplanklaw1.CrossIs'. -/
def crossIsUptoCard : Claim7 := { stood := { row := crossIsUptoRow, standIns := [], harness := (true, "60dd6e1986a101dfd7bb5d82f295f4605bd5c96bf8cf55ecc0835fc68f41eca3"), looks := true }, kinds := [], alts := [], laidByText := true, laidKinds := [.handle], laidTests := true, laidLooks := .later }
def CrossIsUptoCardSaid : Prop := Claim7.holds Tryd.pinned (.plain (OpenSpec.upto crossIsSpec)) crossIsUptoCard

/-- THE SECOND FORM's CARD OF 'gangplanklaw1.CrossBack'. -/
def crossBackUptoCard : Claim7 := { stood := { row := crossBackUptoRow, standIns := [], harness := (true, "60dd6e1986a101dfd7bb5d82f295f4605bd5c96bf8cf55ecc0835fc68f41eca3"), looks := true }, kinds := [], alts := [], laidByText := true, laidKinds := [.handle], laidTests := true, laidLooks := .later }
def CrossBackUptoCardSaid : Prop := Claim7.holds Tryd.pinned (.plain (OpenSpec.upto crossBackSpec)) crossBackUptoCard
end Rows
end Go.Proofs.YtfjnioninjllkaaDoor
