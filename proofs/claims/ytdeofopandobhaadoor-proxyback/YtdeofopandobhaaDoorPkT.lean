/- What the question on an error answers. -/
import Derived.Test.YtdeofopandobhaaDoorPkErr
import Derived.Test.YtdeofopandobhaaDoorTold
namespace Go.Proofs.YtdeofopandobhaaDoor
open Go.RowKit
/-- what the statement's question answers of an error and the number told. -/
def Tells (ev : Value) (e : Int) : Prop := ∀ W, Laid0 W → Calls Tryd.prog 8 #[ev, .int .i64 e] W fun r W' => r = .returned (.bool true) ∧ Below W.heap.size W W'
theorem tells_nil : Tells .nilIface 0 := fun W _ => (error_nil W).mono fun e W' ⟨h1, h2⟩ => ⟨h1, by rw [h2]; exact Below.refl _ _⟩
theorem tells_err (e : Int) : Tells (err e) e := fun W h => error_err e W h
theorem tells_ev (e : Int) : Tells (ev e) e := by
  unfold ev
  split
  · rename_i h; rw [h]; exact tells_nil
  · exact tells_err e
end Go.Proofs.YtdeofopandobhaaDoor
