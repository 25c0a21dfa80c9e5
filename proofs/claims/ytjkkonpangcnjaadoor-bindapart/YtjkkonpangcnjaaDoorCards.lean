/-
  DERIVED. GIVEN WITH THE SEED: THE CARDS: each row of YtjkkonpangcnjaaDoorRows.lean that lists a variable, with what it lists TIED to the program's text (the seventh form; the later family's looks); each row that meets fmt, with fmt's text TOLD by the authors' own Lean function (tested against real Go, not proved from fmt's source: count such statements apart). THE CARD IS WHAT COUNTS. Prove the row's statement (the work); the ties are given (YtjkkonpangcnjaaDoorTie.lean); close each card by the builder's one call (the guide's Derived/Test/ToyasCard.lean, 'card_holds'). Laid BY PROGRAM, IN A SANDBOX (cutbox-door.mjs). By AI agents, Wed Nov 11 2026. No macro, syntax, notation, axiom, sorry.
-/
import Derived.Test.YtjkkonpangcnjaaDoorRows
import GoSem.ClaimSeven
namespace Go.Proofs.YtjkkonpangcnjaaDoor
namespace Rows

/-- THE TIED CARD OF 'gangplanklaw2.BindPlays'. -/
def bindPlaysCard : Claim7 := { stood := { row := bindPlaysRow, standIns := [], harness := (true, "903ddc71d5c3ddd8342b89be6e4f413016f35a14013143624b4ac081bf57d6e0"), looks := true }, kinds := [], alts := [], laidByText := true, laidKinds := [.handle], laidTests := true, laidLooks := .later }
def BindPlaysCardSaid : Prop := Claim7.holds Tryd.pinned (.plain (OpenSpec.ofChange bindPlaysSpec)) bindPlaysCard

/-- THE TIED CARD OF 'gangplanklaw2.BindApart'. -/
def bindApartCard : Claim7 := { stood := { row := bindApartRow, standIns := [], harness := (true, "903ddc71d5c3ddd8342b89be6e4f413016f35a14013143624b4ac081bf57d6e0"), looks := true }, kinds := [], alts := [], laidByText := true, laidKinds := [.handle], laidTests := true, laidLooks := .later }
def BindApartCardSaid : Prop := Claim7.holds Tryd.pinned (.plain (OpenSpec.ofChange bindApartSpec)) bindApartCard

/-- THE SECOND FORM's CARD OF 'gangplanklaw2.BindPlays'. -/
def bindPlaysUptoCard : Claim7 := { stood := { row := bindPlaysUptoRow, standIns := [], harness := (true, "903ddc71d5c3ddd8342b89be6e4f413016f35a14013143624b4ac081bf57d6e0"), looks := true }, kinds := [], alts := [], laidByText := true, laidKinds := [.handle], laidTests := true, laidLooks := .later }
def BindPlaysUptoCardSaid : Prop := Claim7.holds Tryd.pinned (.plain (OpenSpec.upto bindPlaysSpec)) bindPlaysUptoCard

/-- THE SECOND FORM's CARD OF 'gangplanklaw2.BindApart'. -/
def bindApartUptoCard : Claim7 := { stood := { row := bindApartUptoRow, standIns := [], harness := (true, "903ddc71d5c3ddd8342b89be6e4f413016f35a14013143624b4ac081bf57d6e0"), looks := true }, kinds := [], alts := [], laidByText := true, laidKinds := [.handle], laidTests := true, laidLooks := .later }
def BindApartUptoCardSaid : Prop := Claim7.holds Tryd.pinned (.plain (OpenSpec.upto bindApartSpec)) bindApartUptoCard
end Rows
end Go.Proofs.YtjkkonpangcnjaaDoor
