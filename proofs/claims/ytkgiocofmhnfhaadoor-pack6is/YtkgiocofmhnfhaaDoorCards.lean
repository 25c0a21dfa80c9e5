/-
  DERIVED. GIVEN WITH THE SEED: THE CARDS: each row of YtkgiocofmhnfhaaDoorRows.lean that lists a variable, with what it lists TIED to the program's text (the seventh form; the later family's looks); each row that meets fmt, with fmt's text TOLD by the authors' own Lean function (tested against real Go, not proved from fmt's source: count such statements apart). THE CARD IS WHAT COUNTS. Prove the row's statement (the work); the ties are given (YtkgiocofmhnfhaaDoorTie.lean); close each card by the builder's one call (the guide's Derived/Test/ToyasCard.lean, 'card_holds'). Laid BY PROGRAM, IN A SANDBOX (cutbox-door.mjs). By AI agents, Wed Nov 11 2026. No macro, syntax, notation, axiom, sorry.
-/
import Derived.Test.YtkgiocofmhnfhaaDoorRows
import GoSem.ClaimSeven
namespace Go.Proofs.YtkgiocofmhnfhaaDoor
namespace Rows

/-- THE TIED CARD OF 'gangplanklaw1.Pack6Is'. -/
def pack6IsCard : Claim7 := { stood := { row := pack6IsRow, standIns := [], harness := (true, "279adaaab8b543557a432776d842986a72c1bf7867a011b8151c3834ec9931f7"), looks := true }, kinds := [], alts := [], laidByText := true, laidKinds := [.handle], laidTests := true, laidLooks := .later }
def Pack6IsCardSaid : Prop := Claim7.holds Tryd.pinned (.plain (OpenSpec.ofChange pack6IsSpec)) pack6IsCard

/-- THE TIED CARD OF 'gangplanklaw1.Pack6Back'. -/
def pack6BackCard : Claim7 := { stood := { row := pack6BackRow, standIns := [], harness := (true, "279adaaab8b543557a432776d842986a72c1bf7867a011b8151c3834ec9931f7"), looks := true }, kinds := [], alts := [], laidByText := true, laidKinds := [.handle], laidTests := true, laidLooks := .later }
def Pack6BackCardSaid : Prop := Claim7.holds Tryd.pinned (.plain (OpenSpec.ofChange pack6BackSpec)) pack6BackCard

/-- THE SECOND FORM's CARD OF 'gangplanklaw1.Pack6Is'. -/
def pack6IsUptoCard : Claim7 := { stood := { row := pack6IsUptoRow, standIns := [], harness := (true, "279adaaab8b543557a432776d842986a72c1bf7867a011b8151c3834ec9931f7"), looks := true }, kinds := [], alts := [], laidByText := true, laidKinds := [.handle], laidTests := true, laidLooks := .later }
def Pack6IsUptoCardSaid : Prop := Claim7.holds Tryd.pinned (.plain (OpenSpec.upto pack6IsSpec)) pack6IsUptoCard

/-- THE SECOND FORM's CARD OF 'gangplanklaw1.Pack6Back'. -/
def pack6BackUptoCard : Claim7 := { stood := { row := pack6BackUptoRow, standIns := [], harness := (true, "279adaaab8b543557a432776d842986a72c1bf7867a011b8151c3834ec9931f7"), looks := true }, kinds := [], alts := [], laidByText := true, laidKinds := [.handle], laidTests := true, laidLooks := .later }
def Pack6BackUptoCardSaid : Prop := Claim7.holds Tryd.pinned (.plain (OpenSpec.upto pack6BackSpec)) pack6BackUptoCard
end Rows
end Go.Proofs.YtkgiocofmhnfhaaDoor
