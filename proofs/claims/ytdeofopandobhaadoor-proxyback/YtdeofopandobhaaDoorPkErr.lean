/- An error's value. -/
import Derived.Test.YtdeofopandobhaaDoorPkF
namespace Go.Proofs.YtdeofopandobhaaDoor
open Go.RowKit
/-- an error's value. -/
def err (n : Int) : Value := .iface 27 (.int .i64 n)
/-- an error's value: nil, or the number. -/
def ev (n : Int) : Value := if n = 0 then .nilIface else err n
end Go.Proofs.YtdeofopandobhaaDoor
