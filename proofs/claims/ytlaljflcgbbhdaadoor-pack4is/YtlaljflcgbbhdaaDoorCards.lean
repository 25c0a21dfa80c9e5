/-
  DERIVED. GIVEN WITH THE SEED: THE CARDS: each row of YtlaljflcgbbhdaaDoorRows.lean that lists a variable, with what it lists TIED to the program's text (the seventh form; the later family's looks); each row that meets fmt, with fmt's text TOLD by the authors' own Lean function (tested against real Go, not proved from fmt's source: count such statements apart). THE CARD IS WHAT COUNTS. Prove the row's statement (the work); the ties are given (YtlaljflcgbbhdaaDoorTie.lean); close each card by the builder's one call (the guide's Derived/Test/ToyasCard.lean, 'card_holds'). Laid BY PROGRAM, IN A SANDBOX (cutbox-door.mjs). By AI agents, Wed Nov 11 2026. No macro, syntax, notation, axiom, sorry.
-/
import Derived.Test.YtlaljflcgbbhdaaDoorRows
import GoSem.ClaimSeven
namespace Go.Proofs.YtlaljflcgbbhdaaDoor
namespace Rows

/-- THE TIED CARD OF 'gangplanklaw1.Pack4Is'. -/
def pack4IsCard : Claim7 := { stood := { row := pack4IsRow, standIns := [], harness := (true, "085efb129f343c0a8bfd1f523f98437e4ce7cdbc701c49605fe39fdf3f313df8"), looks := true }, kinds := [], alts := [], laidByText := true, laidKinds := [.handle], laidTests := true, laidLooks := .later }
def Pack4IsCardSaid : Prop := Claim7.holds Tryd.pinned (.plain (OpenSpec.ofChange pack4IsSpec)) pack4IsCard

/-- THE SECOND FORM's CARD OF 'gangplanklaw1.Pack4Is'. -/
def pack4IsUptoCard : Claim7 := { stood := { row := pack4IsUptoRow, standIns := [], harness := (true, "085efb129f343c0a8bfd1f523f98437e4ce7cdbc701c49605fe39fdf3f313df8"), looks := true }, kinds := [], alts := [], laidByText := true, laidKinds := [.handle], laidTests := true, laidLooks := .later }
def Pack4IsUptoCardSaid : Prop := Claim7.holds Tryd.pinned (.plain (OpenSpec.upto pack4IsSpec)) pack4IsUptoCard
end Rows
end Go.Proofs.YtlaljflcgbbhdaaDoor
