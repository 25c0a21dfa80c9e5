/-
  DERIVED. GIVEN WITH THE SEED: THE CARDS: each row of YtdeofopandobhaaDoorRows.lean that lists a variable, with what it lists TIED to the program's text (the seventh form; the later family's looks); each row that meets fmt, with fmt's text TOLD by the authors' own Lean function (tested against real Go, not proved from fmt's source: count such statements apart). THE CARD IS WHAT COUNTS. Prove the row's statement (the work); the ties are given (YtdeofopandobhaaDoorTie.lean); close each card by the builder's one call (the guide's Derived/Test/ToyasCard.lean, 'card_holds'). Laid BY PROGRAM, IN A SANDBOX (cutbox-door.mjs). By AI agents, Wed Nov 11 2026. No macro, syntax, notation, axiom, sorry.
-/
import Derived.Test.YtdeofopandobhaaDoorRows
import GoSem.ClaimSeven
namespace Go.Proofs.YtdeofopandobhaaDoor
namespace Rows

/-- THE TIED CARD OF 'gangplanklaw2.ProxyIs'. -/
def proxyIsCard : Claim7 := { stood := { row := proxyIsRow, standIns := [], harness := (true, "0a6754bb1de881b107b18adfece2d1b4dbd660394ae172941b2f2e4894439417"), looks := true }, kinds := [], alts := [], laidByText := true, laidKinds := [.handle], laidTests := true, laidLooks := .later }
def ProxyIsCardSaid : Prop := Claim7.holds Tryd.pinned (.plain (OpenSpec.ofChange proxyIsSpec)) proxyIsCard

/-- THE TIED CARD OF 'gangplanklaw2.ProxyBack'. -/
def proxyBackCard : Claim7 := { stood := { row := proxyBackRow, standIns := [], harness := (true, "0a6754bb1de881b107b18adfece2d1b4dbd660394ae172941b2f2e4894439417"), looks := true }, kinds := [], alts := [], laidByText := true, laidKinds := [.handle], laidTests := true, laidLooks := .later }
def ProxyBackCardSaid : Prop := Claim7.holds Tryd.pinned (.plain (OpenSpec.ofChange proxyBackSpec)) proxyBackCard

/-- THE SECOND FORM's CARD OF 'gangplanklaw2.ProxyIs'. -/
def proxyIsUptoCard : Claim7 := { stood := { row := proxyIsUptoRow, standIns := [], harness := (true, "0a6754bb1de881b107b18adfece2d1b4dbd660394ae172941b2f2e4894439417"), looks := true }, kinds := [], alts := [], laidByText := true, laidKinds := [.handle], laidTests := true, laidLooks := .later }
def ProxyIsUptoCardSaid : Prop := Claim7.holds Tryd.pinned (.plain (OpenSpec.upto proxyIsSpec)) proxyIsUptoCard

/-- THE SECOND FORM's CARD OF 'gangplanklaw2.ProxyBack'. -/
def proxyBackUptoCard : Claim7 := { stood := { row := proxyBackUptoRow, standIns := [], harness := (true, "0a6754bb1de881b107b18adfece2d1b4dbd660394ae172941b2f2e4894439417"), looks := true }, kinds := [], alts := [], laidByText := true, laidKinds := [.handle], laidTests := true, laidLooks := .later }
def ProxyBackUptoCardSaid : Prop := Claim7.holds Tryd.pinned (.plain (OpenSpec.upto proxyBackSpec)) proxyBackUptoCard
end Rows
end Go.Proofs.YtdeofopandobhaaDoor
