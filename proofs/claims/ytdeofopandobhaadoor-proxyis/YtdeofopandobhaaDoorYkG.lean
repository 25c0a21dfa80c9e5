/- What is asked of package proxy, whatever it is made of. -/
import Derived.Test.YtdeofopandobhaaDoorYkM
import Derived.Test.YtdeofopandobhaaDoorPkErr
namespace Go.Proofs.YtdeofopandobhaaDoor
open Go.RowKit

def JYe : Prop := ∀ (f : List Int) (w : World), Calls Tryd.prog 7 #[.agg (flC f)] w fun e w' => ∃ v, e = .returned (.tuple #[v, ev (fe (okf f))]) ∧ (okf f = true → Own w.heap.size w' v (hb f)) ∧ (okf f = false → v = .slice none 0 0) ∧ Below w.heap.size w w'
def JYd : Prop := ∀ (a : Option Addr) (len cap : Nat) (zs : List Int) (w : World), Row8 w a len cap zs → len ≤ cap → cap ≤ maxLen →
  Calls Tryd.prog 10 #[.slice a len cap] w fun e w' => e = .returned (.tuple #[.agg (flC (ydo zs).1), .int .i64 (ydo zs).2.1, ev (ydo zs).2.2]) ∧ Below w.heap.size w w'
end Go.Proofs.YtdeofopandobhaaDoor
