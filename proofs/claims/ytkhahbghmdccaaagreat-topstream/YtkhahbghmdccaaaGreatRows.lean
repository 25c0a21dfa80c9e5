/-
  No cell of these rows narrows 'for every input' (looked for: loops, veiled, ifaces, maps, wideKeys, modest, calm, conditions, laid).
  DERIVED. THE GIVEN ROWS OF THIS SEAT. 9 by the template 'for every input the law returns true; each argument reads behind the call as it read before'; 0 by the template 'total and deterministic' (their statements: YtkhahbghmdccaaaGreatTotals.lean).
  GIVEN WITH THE SEED: the statements are not yours to turn. If you find one false, say at which input.
  Laid BY PROGRAM, IN A SANDBOX (cutbox-rows.mjs): the forced cells as the released guide's own fill.sh prints them over the translation 0aa14696bdd2a796… (all of the seat's roots in one cut). By AI agents, Wed Nov 11 2026. No macro, syntax, notation, axiom, sorry.
-/
import Derived.Test.YtkhahbghmdccaaaGreatChecked
import GoSem.Claim
import GoSem.ClaimJoined
import GoSem.ClaimMapViews
import Derived.JoinedTies
import Derived.KernelRfl
namespace Go.Proofs.YtkhahbghmdccaaaGreat
/- THE CELL 'sum', in the pinned program and in every row, IS THE sha256 OF THE DUMP (.gsa) THAT YtkhahbghmdccaaaGreatProg.lean LOADS. Nothing in Lean hashes anything: it is a label: what it is worth is what the hold of that sum in a sandbox is worth. -/
noncomputable def Tryz.pinned : Pinned := { name := "ytkhahbghmdccaaagreat", sum := "0aa14696bdd2a796afd1df9706c81124579eb28330b97f43e92560d687ea6686", checked := Tryz.checked }
namespace Rows
def none {H : Type} : Left H := { results := [], args := [] }

/-- 'gangplanklaw3.GateBack': WHATEVER THE INPUT: true; the input reads as it did. -/
def gateBackSpec : ChangeSpec := { name := "gateBack", fn := fun _ => fun
  | [d1, d2, d3, d4] => { results := [.lit (.bool true)], args := [d1, d2, d3, d4] }
  | _ => none }
def gateBackRow : OpenClaim := { program := "ytkhahbghmdccaaagreat", sum := "0aa14696bdd2a796afd1df9706c81124579eb28330b97f43e92560d687ea6686", func := "gangplank/gangplanklaw3.GateBack", spec := "gateBack", unfollowed := true, recurses := true, plainKeys := false, apart := false }
def GateBackSaid : Prop := gateBackRow.holds Tryz.pinned (OpenSpec.ofChange gateBackSpec)

/-- ITS FALSE NEIGHBOUR: 'it returns false'. Refute it at one input. -/
def gateBackWrong : ChangeSpec := { name := "gateBack", fn := fun _ => fun
  | [d1, d2, d3, d4] => { results := [.lit (.bool false)], args := [d1, d2, d3, d4] }
  | _ => none }
def GateBackWrongFalsely : Prop := gateBackRow.holds Tryz.pinned (OpenSpec.ofChange gateBackWrong)

/-- 'gangplanklaw3.GateApart': WHATEVER THE INPUT: true; the input reads as it did. -/
def gateApartSpec : ChangeSpec := { name := "gateApart", fn := fun _ => fun
  | [d1, d2] => { results := [.lit (.bool true)], args := [d1, d2] }
  | _ => none }
def gateApartRow : OpenClaim := { program := "ytkhahbghmdccaaagreat", sum := "0aa14696bdd2a796afd1df9706c81124579eb28330b97f43e92560d687ea6686", func := "gangplank/gangplanklaw3.GateApart", spec := "gateApart", unfollowed := true, recurses := true, plainKeys := false, apart := false }
def GateApartSaid : Prop := gateApartRow.holds Tryz.pinned (OpenSpec.ofChange gateApartSpec)

/-- ITS FALSE NEIGHBOUR: 'it returns false'. Refute it at one input. -/
def gateApartWrong : ChangeSpec := { name := "gateApart", fn := fun _ => fun
  | [d1, d2] => { results := [.lit (.bool false)], args := [d1, d2] }
  | _ => none }
def GateApartWrongFalsely : Prop := gateApartRow.holds Tryz.pinned (OpenSpec.ofChange gateApartWrong)

/-- 'gangplanklaw3.GateCrosses': WHATEVER THE INPUT: true; the input reads as it did. -/
def gateCrossesSpec : ChangeSpec := { name := "gateCrosses", fn := fun _ => fun
  | [d1, d2] => { results := [.lit (.bool true)], args := [d1, d2] }
  | _ => none }
def gateCrossesRow : OpenClaim := { program := "ytkhahbghmdccaaagreat", sum := "0aa14696bdd2a796afd1df9706c81124579eb28330b97f43e92560d687ea6686", func := "gangplank/gangplanklaw3.GateCrosses", spec := "gateCrosses", unfollowed := true, recurses := true, plainKeys := false, apart := false }
def GateCrossesSaid : Prop := gateCrossesRow.holds Tryz.pinned (OpenSpec.ofChange gateCrossesSpec)

/-- ITS FALSE NEIGHBOUR: 'it returns false'. Refute it at one input. -/
def gateCrossesWrong : ChangeSpec := { name := "gateCrosses", fn := fun _ => fun
  | [d1, d2] => { results := [.lit (.bool false)], args := [d1, d2] }
  | _ => none }
def GateCrossesWrongFalsely : Prop := gateCrossesRow.holds Tryz.pinned (OpenSpec.ofChange gateCrossesWrong)

/-- 'gangplanklaw3.GateFirst': WHATEVER THE INPUT: true; the input reads as it did. -/
def gateFirstSpec : ChangeSpec := { name := "gateFirst", fn := fun _ => fun
  | [d1, d2] => { results := [.lit (.bool true)], args := [d1, d2] }
  | _ => none }
def gateFirstRow : OpenClaim := { program := "ytkhahbghmdccaaagreat", sum := "0aa14696bdd2a796afd1df9706c81124579eb28330b97f43e92560d687ea6686", func := "gangplank/gangplanklaw3.GateFirst", spec := "gateFirst", unfollowed := true, recurses := true, plainKeys := false, apart := false }
def GateFirstSaid : Prop := gateFirstRow.holds Tryz.pinned (OpenSpec.ofChange gateFirstSpec)

/-- ITS FALSE NEIGHBOUR: 'it returns false'. Refute it at one input. -/
def gateFirstWrong : ChangeSpec := { name := "gateFirst", fn := fun _ => fun
  | [d1, d2] => { results := [.lit (.bool false)], args := [d1, d2] }
  | _ => none }
def GateFirstWrongFalsely : Prop := gateFirstRow.holds Tryz.pinned (OpenSpec.ofChange gateFirstWrong)

/-- 'gangplanktop.TopSums': WHATEVER THE INPUT: true; the input reads as it did. -/
def topSumsSpec : ChangeSpec := { name := "topSums", fn := fun _ => fun
  | [d1, d2, d3] => { results := [.lit (.bool true)], args := [d1, d2, d3] }
  | _ => none }
def topSumsRow : OpenClaim := { program := "ytkhahbghmdccaaagreat", sum := "0aa14696bdd2a796afd1df9706c81124579eb28330b97f43e92560d687ea6686", func := "gangplank/gangplanktop.TopSums", spec := "topSums", unfollowed := true, recurses := true, plainKeys := false, apart := false }
def TopSumsSaid : Prop := topSumsRow.holds Tryz.pinned (OpenSpec.ofChange topSumsSpec)

/-- ITS FALSE NEIGHBOUR: 'it returns false'. Refute it at one input. -/
def topSumsWrong : ChangeSpec := { name := "topSums", fn := fun _ => fun
  | [d1, d2, d3] => { results := [.lit (.bool false)], args := [d1, d2, d3] }
  | _ => none }
def TopSumsWrongFalsely : Prop := topSumsRow.holds Tryz.pinned (OpenSpec.ofChange topSumsWrong)

/-- 'gangplanktop.TopStream': WHATEVER THE INPUT: true; the input reads as it did. -/
def topStreamSpec : ChangeSpec := { name := "topStream", fn := fun _ => fun
  | [d1, d2, d3, d4, d5, d6] => { results := [.lit (.bool true)], args := [d1, d2, d3, d4, d5, d6] }
  | _ => none }
def topStreamRow : OpenClaim := { program := "ytkhahbghmdccaaagreat", sum := "0aa14696bdd2a796afd1df9706c81124579eb28330b97f43e92560d687ea6686", func := "gangplank/gangplanktop.TopStream", spec := "topStream", unfollowed := true, recurses := true, plainKeys := false, apart := false }
def TopStreamSaid : Prop := topStreamRow.holds Tryz.pinned (OpenSpec.ofChange topStreamSpec)

/-- ITS FALSE NEIGHBOUR: 'it returns false'. Refute it at one input. -/
def topStreamWrong : ChangeSpec := { name := "topStream", fn := fun _ => fun
  | [d1, d2, d3, d4, d5, d6] => { results := [.lit (.bool false)], args := [d1, d2, d3, d4, d5, d6] }
  | _ => none }
def TopStreamWrongFalsely : Prop := topStreamRow.holds Tryz.pinned (OpenSpec.ofChange topStreamWrong)

/-- 'gangplanktop.TopPlain': WHATEVER THE INPUT: true; the input reads as it did. -/
def topPlainSpec : ChangeSpec := { name := "topPlain", fn := fun _ => fun
  | [d1, d2, d3, d4, d5, d6] => { results := [.lit (.bool true)], args := [d1, d2, d3, d4, d5, d6] }
  | _ => none }
def topPlainRow : OpenClaim := { program := "ytkhahbghmdccaaagreat", sum := "0aa14696bdd2a796afd1df9706c81124579eb28330b97f43e92560d687ea6686", func := "gangplank/gangplanktop.TopPlain", spec := "topPlain", unfollowed := true, recurses := true, plainKeys := false, apart := false }
def TopPlainSaid : Prop := topPlainRow.holds Tryz.pinned (OpenSpec.ofChange topPlainSpec)

/-- ITS FALSE NEIGHBOUR: 'it returns false'. Refute it at one input. -/
def topPlainWrong : ChangeSpec := { name := "topPlain", fn := fun _ => fun
  | [d1, d2, d3, d4, d5, d6] => { results := [.lit (.bool false)], args := [d1, d2, d3, d4, d5, d6] }
  | _ => none }
def TopPlainWrongFalsely : Prop := topPlainRow.holds Tryz.pinned (OpenSpec.ofChange topPlainWrong)

/-- 'gangplanktop.TopMoves': WHATEVER THE INPUT: true; the input reads as it did. -/
def topMovesSpec : ChangeSpec := { name := "topMoves", fn := fun _ => fun
  | [d1, d2, d3, d4] => { results := [.lit (.bool true)], args := [d1, d2, d3, d4] }
  | _ => none }
def topMovesRow : OpenClaim := { program := "ytkhahbghmdccaaagreat", sum := "0aa14696bdd2a796afd1df9706c81124579eb28330b97f43e92560d687ea6686", func := "gangplank/gangplanktop.TopMoves", spec := "topMoves", unfollowed := true, recurses := true, plainKeys := false, apart := false }
def TopMovesSaid : Prop := topMovesRow.holds Tryz.pinned (OpenSpec.ofChange topMovesSpec)

/-- ITS FALSE NEIGHBOUR: 'it returns false'. Refute it at one input. -/
def topMovesWrong : ChangeSpec := { name := "topMoves", fn := fun _ => fun
  | [d1, d2, d3, d4] => { results := [.lit (.bool false)], args := [d1, d2, d3, d4] }
  | _ => none }
def TopMovesWrongFalsely : Prop := topMovesRow.holds Tryz.pinned (OpenSpec.ofChange topMovesWrong)

/-- 'gangplanktop.TopTwice': WHATEVER THE INPUT: true; the input reads as it did. -/
def topTwiceSpec : ChangeSpec := { name := "topTwice", fn := fun _ => fun
  | [d1, d2, d3, d4, d5, d6] => { results := [.lit (.bool true)], args := [d1, d2, d3, d4, d5, d6] }
  | _ => none }
def topTwiceRow : OpenClaim := { program := "ytkhahbghmdccaaagreat", sum := "0aa14696bdd2a796afd1df9706c81124579eb28330b97f43e92560d687ea6686", func := "gangplank/gangplanktop.TopTwice", spec := "topTwice", unfollowed := true, recurses := true, plainKeys := false, apart := false }
def TopTwiceSaid : Prop := topTwiceRow.holds Tryz.pinned (OpenSpec.ofChange topTwiceSpec)

/-- ITS FALSE NEIGHBOUR: 'it returns false'. Refute it at one input. -/
def topTwiceWrong : ChangeSpec := { name := "topTwice", fn := fun _ => fun
  | [d1, d2, d3, d4, d5, d6] => { results := [.lit (.bool false)], args := [d1, d2, d3, d4, d5, d6] }
  | _ => none }
def TopTwiceWrongFalsely : Prop := topTwiceRow.holds Tryz.pinned (OpenSpec.ofChange topTwiceWrong)

/- THE SECOND FORM. 'bulk': how many values and letters a reading holds, each counted each time it is reached (what is shared counts as often as it is met; a slice's spare places count too). A statement '..UptoSaid' is the law's where the arguments, and the package variables that the reading takes, are together of bulk at most 1048576: NARROWER than '..Said'. Prove '..Said' where nothing that the law and all that it calls make is longer than what came in: it says more and counts as full. Else prove '..UptoSaid'. A law counts once. -/
mutual
def uptoBulk {H : Type} : DataW H → Nat
  | .lit (.string bytes) => bytes.length + 1
  | .lit _ => 1
  | .nil => 1
  | .ptr d => uptoBulk d + 1
  | .slice elems spare => uptoBulkAll elems + uptoBulkAll spare + 1
  | .agg parts => uptoBulkAll parts + 1
  | .iface _ d => uptoBulk d + 1
  | .map entries => uptoBulkEntries entries + 1
  | .held _ => 1
def uptoBulkAll {H : Type} : List (DataW H) → Nat
  | [] => 0
  | d :: r => uptoBulk d + uptoBulkAll r
def uptoBulkEntries {H : Type} : List (Lit × DataW H) → Nat
  | [] => 0
  | x :: r => uptoBulkEntry x + uptoBulkEntries r
def uptoBulkEntry {H : Type} : Lit × DataW H → Nat
  | (.string bytes, d) => bytes.length + uptoBulk d + 1
  | (_, d) => uptoBulk d + 1
 end
def uptoSmall : (H : Type) → List (DataW H) → Bool := fun _ ds => decide (uptoBulkAll ds ≤ 1048576)
def OpenSpec.upto (s : _root_.Go.ChangeSpec) : _root_.Go.OpenSpec := { _root_.Go.OpenSpec.ofChange s with cond := some uptoSmall }

/-- 'gangplanklaw3.GateBack', WHERE WHAT IT READS IS OF BULK AT MOST 1048576: true; the input reads as it did. -/
def gateBackUptoRow : OpenClaim := { program := "ytkhahbghmdccaaagreat", sum := "0aa14696bdd2a796afd1df9706c81124579eb28330b97f43e92560d687ea6686", func := "gangplank/gangplanklaw3.GateBack", spec := "gateBack", unfollowed := true, recurses := true, plainKeys := false, apart := false, narrowed := true }
def GateBackUptoSaid : Prop := gateBackUptoRow.holds Tryz.pinned (OpenSpec.upto gateBackSpec)

/-- 'gangplanklaw3.GateApart', WHERE WHAT IT READS IS OF BULK AT MOST 1048576: true; the input reads as it did. -/
def gateApartUptoRow : OpenClaim := { program := "ytkhahbghmdccaaagreat", sum := "0aa14696bdd2a796afd1df9706c81124579eb28330b97f43e92560d687ea6686", func := "gangplank/gangplanklaw3.GateApart", spec := "gateApart", unfollowed := true, recurses := true, plainKeys := false, apart := false, narrowed := true }
def GateApartUptoSaid : Prop := gateApartUptoRow.holds Tryz.pinned (OpenSpec.upto gateApartSpec)

/-- 'gangplanklaw3.GateCrosses', WHERE WHAT IT READS IS OF BULK AT MOST 1048576: true; the input reads as it did. -/
def gateCrossesUptoRow : OpenClaim := { program := "ytkhahbghmdccaaagreat", sum := "0aa14696bdd2a796afd1df9706c81124579eb28330b97f43e92560d687ea6686", func := "gangplank/gangplanklaw3.GateCrosses", spec := "gateCrosses", unfollowed := true, recurses := true, plainKeys := false, apart := false, narrowed := true }
def GateCrossesUptoSaid : Prop := gateCrossesUptoRow.holds Tryz.pinned (OpenSpec.upto gateCrossesSpec)

/-- 'gangplanklaw3.GateFirst', WHERE WHAT IT READS IS OF BULK AT MOST 1048576: true; the input reads as it did. -/
def gateFirstUptoRow : OpenClaim := { program := "ytkhahbghmdccaaagreat", sum := "0aa14696bdd2a796afd1df9706c81124579eb28330b97f43e92560d687ea6686", func := "gangplank/gangplanklaw3.GateFirst", spec := "gateFirst", unfollowed := true, recurses := true, plainKeys := false, apart := false, narrowed := true }
def GateFirstUptoSaid : Prop := gateFirstUptoRow.holds Tryz.pinned (OpenSpec.upto gateFirstSpec)

/-- 'gangplanktop.TopSums', WHERE WHAT IT READS IS OF BULK AT MOST 1048576: true; the input reads as it did. -/
def topSumsUptoRow : OpenClaim := { program := "ytkhahbghmdccaaagreat", sum := "0aa14696bdd2a796afd1df9706c81124579eb28330b97f43e92560d687ea6686", func := "gangplank/gangplanktop.TopSums", spec := "topSums", unfollowed := true, recurses := true, plainKeys := false, apart := false, narrowed := true }
def TopSumsUptoSaid : Prop := topSumsUptoRow.holds Tryz.pinned (OpenSpec.upto topSumsSpec)

/-- 'gangplanktop.TopStream', WHERE WHAT IT READS IS OF BULK AT MOST 1048576: true; the input reads as it did. -/
def topStreamUptoRow : OpenClaim := { program := "ytkhahbghmdccaaagreat", sum := "0aa14696bdd2a796afd1df9706c81124579eb28330b97f43e92560d687ea6686", func := "gangplank/gangplanktop.TopStream", spec := "topStream", unfollowed := true, recurses := true, plainKeys := false, apart := false, narrowed := true }
def TopStreamUptoSaid : Prop := topStreamUptoRow.holds Tryz.pinned (OpenSpec.upto topStreamSpec)

/-- 'gangplanktop.TopPlain', WHERE WHAT IT READS IS OF BULK AT MOST 1048576: true; the input reads as it did. -/
def topPlainUptoRow : OpenClaim := { program := "ytkhahbghmdccaaagreat", sum := "0aa14696bdd2a796afd1df9706c81124579eb28330b97f43e92560d687ea6686", func := "gangplank/gangplanktop.TopPlain", spec := "topPlain", unfollowed := true, recurses := true, plainKeys := false, apart := false, narrowed := true }
def TopPlainUptoSaid : Prop := topPlainUptoRow.holds Tryz.pinned (OpenSpec.upto topPlainSpec)

/-- 'gangplanktop.TopMoves', WHERE WHAT IT READS IS OF BULK AT MOST 1048576: true; the input reads as it did. -/
def topMovesUptoRow : OpenClaim := { program := "ytkhahbghmdccaaagreat", sum := "0aa14696bdd2a796afd1df9706c81124579eb28330b97f43e92560d687ea6686", func := "gangplank/gangplanktop.TopMoves", spec := "topMoves", unfollowed := true, recurses := true, plainKeys := false, apart := false, narrowed := true }
def TopMovesUptoSaid : Prop := topMovesUptoRow.holds Tryz.pinned (OpenSpec.upto topMovesSpec)

/-- 'gangplanktop.TopTwice', WHERE WHAT IT READS IS OF BULK AT MOST 1048576: true; the input reads as it did. -/
def topTwiceUptoRow : OpenClaim := { program := "ytkhahbghmdccaaagreat", sum := "0aa14696bdd2a796afd1df9706c81124579eb28330b97f43e92560d687ea6686", func := "gangplank/gangplanktop.TopTwice", spec := "topTwice", unfollowed := true, recurses := true, plainKeys := false, apart := false, narrowed := true }
def TopTwiceUptoSaid : Prop := topTwiceUptoRow.holds Tryz.pinned (OpenSpec.upto topTwiceSpec)

end Rows
end Go.Proofs.YtkhahbghmdccaaaGreat
