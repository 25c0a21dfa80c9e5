/- What is asked of package pick, whatever it is made of. -/
import Derived.Test.YtdnfpekcipigbaaDoorPkS
import Derived.Test.YtdnfpekcipigbaaDoorPkErr
namespace Go.Proofs.YtdnfpekcipigbaaDoor
open Go.RowKit

def JKc : Prop := ∀ (a : Option Addr) (cap : Nat) (bs : List (List Int)) (w : World), Bks a bs w → bs.length ≤ maxLen → bs.length ≤ cap →
  Calls Tryd.prog 5 #[.slice a bs.length cap] w fun e w' => e = .returned (.tuple #[.int .i64 (bf bs).1, ev (bf bs).2]) ∧ Below w.heap.size w w'
def JKs : Prop := ∀ (seed : Int) (f : List Int) (id : Int) (w : World),
  Calls Tryd.prog 8 #[.int .i64 seed, .agg (flC f), .int .i64 id] w fun e w' => e = .returned (.tuple #[.int .i64 (sv seed f id), ev (fe (sok seed f id))]) ∧ Below w.heap.size w w'
def JKp : Prop := ∀ (seed : Int) (f : List Int) (a : Option Addr) (cap : Nat) (bs : List (List Int)) (w : World), Bks a bs w → bs.length ≤ maxLen → bs.length ≤ cap →
  Calls Tryd.prog 10 #[.int .i64 seed, .agg (flC f), .slice a bs.length cap] w fun e w' => e = .returned (.tuple #[.agg (bkC (pko seed f bs).1), ev (pko seed f bs).2]) ∧ Below w.heap.size w w'
end Go.Proofs.YtdnfpekcipigbaaDoor
