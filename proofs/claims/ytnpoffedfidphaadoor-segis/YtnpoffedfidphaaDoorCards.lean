/-
  DERIVED. GIVEN WITH THE SEED: THE CARDS: each row of YtnpoffedfidphaaDoorRows.lean that lists a variable, with what it lists TIED to the program's text (the seventh form; the later family's looks); each row that meets fmt, with fmt's text TOLD by the authors' own Lean function (tested against real Go, not proved from fmt's source: count such statements apart). THE CARD IS WHAT COUNTS. Prove the row's statement (the work); the ties are given (YtnpoffedfidphaaDoorTie.lean); close each card by the builder's one call (the guide's Derived/Test/ToyasCard.lean, 'card_holds'). Laid BY PROGRAM, IN A SANDBOX (cutbox-door.mjs). By AI agents, Wed Nov 11 2026. No macro, syntax, notation, axiom, sorry.
-/
import Derived.Test.YtnpoffedfidphaaDoorRows
import GoSem.ClaimSeven
namespace Go.Proofs.YtnpoffedfidphaaDoor
namespace Rows

/-- THE TIED CARD OF 'gangplanklaw1.SegIs'. -/
def segIsCard : Claim7 := { stood := { row := segIsRow, standIns := [], harness := (true, "96a714cfbd8788dfa174589dd30c356dc823b59348210f9f1376a344e18796de"), looks := true }, kinds := [], alts := [], laidByText := true, laidKinds := [.handle], laidTests := true, laidLooks := .later }
def SegIsCardSaid : Prop := Claim7.holds Tryd.pinned (.plain (OpenSpec.ofChange segIsSpec)) segIsCard

/-- THE TIED CARD OF 'gangplanklaw1.SegOver'. -/
def segOverCard : Claim7 := { stood := { row := segOverRow, standIns := [], harness := (true, "96a714cfbd8788dfa174589dd30c356dc823b59348210f9f1376a344e18796de"), looks := true }, kinds := [], alts := [], laidByText := true, laidKinds := [.handle], laidTests := true, laidLooks := .later }
def SegOverCardSaid : Prop := Claim7.holds Tryd.pinned (.plain (OpenSpec.ofChange segOverSpec)) segOverCard

/-- THE TIED CARD OF 'gangplanklaw1.SegBack'. -/
def segBackCard : Claim7 := { stood := { row := segBackRow, standIns := [], harness := (true, "96a714cfbd8788dfa174589dd30c356dc823b59348210f9f1376a344e18796de"), looks := true }, kinds := [], alts := [], laidByText := true, laidKinds := [.handle], laidTests := true, laidLooks := .later }
def SegBackCardSaid : Prop := Claim7.holds Tryd.pinned (.plain (OpenSpec.ofChange segBackSpec)) segBackCard

/-- THE SECOND FORM's CARD OF 'gangplanklaw1.SegIs'. -/
def segIsUptoCard : Claim7 := { stood := { row := segIsUptoRow, standIns := [], harness := (true, "96a714cfbd8788dfa174589dd30c356dc823b59348210f9f1376a344e18796de"), looks := true }, kinds := [], alts := [], laidByText := true, laidKinds := [.handle], laidTests := true, laidLooks := .later }
def SegIsUptoCardSaid : Prop := Claim7.holds Tryd.pinned (.plain (OpenSpec.upto segIsSpec)) segIsUptoCard

/-- THE SECOND FORM's CARD OF 'gangplanklaw1.SegOver'. -/
def segOverUptoCard : Claim7 := { stood := { row := segOverUptoRow, standIns := [], harness := (true, "96a714cfbd8788dfa174589dd30c356dc823b59348210f9f1376a344e18796de"), looks := true }, kinds := [], alts := [], laidByText := true, laidKinds := [.handle], laidTests := true, laidLooks := .later }
def SegOverUptoCardSaid : Prop := Claim7.holds Tryd.pinned (.plain (OpenSpec.upto segOverSpec)) segOverUptoCard

/-- THE SECOND FORM's CARD OF 'gangplanklaw1.SegBack'. -/
def segBackUptoCard : Claim7 := { stood := { row := segBackUptoRow, standIns := [], harness := (true, "96a714cfbd8788dfa174589dd30c356dc823b59348210f9f1376a344e18796de"), looks := true }, kinds := [], alts := [], laidByText := true, laidKinds := [.handle], laidTests := true, laidLooks := .later }
def SegBackUptoCardSaid : Prop := Claim7.holds Tryd.pinned (.plain (OpenSpec.upto segBackSpec)) segBackUptoCard
end Rows
end Go.Proofs.YtnpoffedfidphaaDoor
