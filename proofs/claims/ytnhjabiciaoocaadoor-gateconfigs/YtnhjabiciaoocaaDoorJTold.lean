/- plain.Told, and the statements' own question whether an error is the one told, by contracts: of nil it is 0, of an Errno it is that number; nothing that was there turns. What the question on an error answers. Flows and binds as values: 19 numbers, and 23; when two are one. -/
import Derived.Test.YtnhjabiciaoocaaDoorAs
import Derived.Test.YtnhjabiciaoocaaDoorProg
import Derived.WalkKit
import Derived.LaidEql
import Derived.Stop.Asserts
import Derived.RowKitTokens
import Derived.BigQuiet
import Derived.Below
import Derived.Laws.AppendOwnNone
import Derived.Laws.MakeOwn
import Derived.Deep.RegionLaw
import Derived.OpenShut
import Derived.Lib.Bytes
import Derived.Deep.MidRow
import Derived.Laws.ResultCell
import Derived.Deep.CutBlock
import Derived.Deep.QuietTactic
import Derived.OwnWalk
import Derived.Deep.RegionHeld3
import Derived.Deep.DrawnRows
import Derived.Maps.AppendAt
import Derived.Laws.StructEq
import Derived.Test.YtnhjabiciaoocaaDoorS6Six
namespace Go.Proofs.YtnhjabiciaoocaaDoor
open Go.RowKit
/-- plain.Told of nil. -/
theorem told_nil (w : World) : Calls Tryd.prog 16 #[.nilIface] w fun e w' => e = .returned (.int .i64 0) ∧ w' = w := by
  go_enter Tryd.func16, Tryd.ntmps16
  go_wp2
  go_ret
  exact ⟨rfl, rfl⟩
set_option maxHeartbeats 1000000 in
/-- plain.Told of an Errno. -/
theorem told_err (e : Int) (w : World) (hg : Laid0 w) : Calls Tryd.prog 16 #[.iface 27 (.int .i64 e)] w fun ev w' => ev = .returned (.int .i64 e) ∧ Below w.heap.size w w' := by
  have hb : Below w.heap.size w (w.alloc (.cells #[.int .i64 0] 27)) := (Below.refl _ _).alloc (Nat.le_refl _) _
  have hgA := hg.below hb
  have htA : (w.alloc (.cells #[.int .i64 0] 27)).cell? ⟨w.heap.size, 0, none⟩ = some (.int .i64 0) := by simp
  have hfA : (w.alloc (.cells #[.int .i64 0] 27)).frozen? ⟨w.heap.size, 0, none⟩ = false := by simp
  go_enter Tryd.func16, Tryd.ntmps16
  go_wp2_with (go_at_call 28; refine (as_hit e _ (.int .i64 0) _ hgA htA hfA).mono ?_; rintro e w' ⟨rfl, rfl⟩)
  go_ret
  exact ⟨rfl, (((((Below.refl _ _).alloc (Nat.le_refl _) _).alloc (by simp) _).alloc (by simp <;> omega) _).alloc (by simp <;> omega) _).alloc (by simp <;> omega) _⟩
/-- the statements' own question, of nil: is it OK? -/
theorem error_nil (w : World) : Calls Tryd.prog 5 #[.nilIface, .int .i64 0] w fun ev w' => ev = .returned (.bool true) ∧ w' = w := by
  go_enter Tryd.func5, Tryd.ntmps5
  go_wp2_with (go_at_call 16; refine (told_nil _).mono ?_; rintro e w' ⟨rfl, rfl⟩)
  go_ret
  exact ⟨rfl, rfl⟩
/-- the statements' own question, of an Errno: is it that one? -/
theorem error_err (e : Int) (w : World) (hg : Laid0 w) : Calls Tryd.prog 5 #[.iface 27 (.int .i64 e), .int .i64 e] w fun ev w' => ev = .returned (.bool true) ∧ Below w.heap.size w w' := by
  have hee : (e == e) = true := by simp
  go_enter Tryd.func5, Tryd.ntmps5
  go_wp2_with (go_at_call 16; refine (told_err e _ hg).mono ?_; rintro e w' ⟨rfl, hb⟩)
  go_ret
  exact ⟨rfl, hb⟩
end Go.Proofs.YtnhjabiciaoocaaDoor

namespace Go.Proofs.YtnhjabiciaoocaaDoor
open Go.RowKit
/-- what the statement's question answers of an error and the number told. -/
def Tells (ev : Value) (e : Int) : Prop := ∀ W, Laid0 W → Calls Tryd.prog 5 #[ev, .int .i64 e] W fun r W' => r = .returned (.bool true) ∧ Below W.heap.size W W'
theorem tells_nil : Tells .nilIface 0 := fun W _ => (error_nil W).mono fun e W' ⟨h1, h2⟩ => ⟨h1, by rw [h2]; exact Below.refl _ _⟩
theorem tells_err (e : Int) : Tells (err e) e := fun W h => error_err e W h
theorem tells_ev (e : Int) : Tells (ev e) e := by
  unfold ev
  split
  · rename_i h; rw [h]; exact tells_nil
  · exact tells_err e
end Go.Proofs.YtnhjabiciaoocaaDoor

namespace Go.Proofs.YtnhjabiciaoocaaDoor
open Go.RowKit
/-- a bind's cells: a flow, the port, where it is led, when it was used last. -/
def bdC (b : List Int) : Array Value := #[.int .i64 (el b 0), .int .i64 (el b 1), .int .i64 (el b 2), .int .i64 (el b 3), .int .i64 (el b 4), .int .i64 (el b 5), .int .i64 (el b 6), .int .i64 (el b 7), .int .i64 (el b 8), .int .i64 (el b 9), .int .i64 (el b 10), .int .i64 (el b 11), .int .i64 (el b 12), .int .i64 (el b 13), .int .i64 (el b 14), .int .i64 (el b 15), .int .i64 (el b 16), .int .i64 (el b 17), .int .i64 (el b 18), .int .i64 (el b 19), .int .i64 (el b 20), .int .i64 (el b 21), .int .i64 (el b 22)]
set_option maxRecDepth 10000 in
theorem bdC_at (b : List Int) (j : Nat) (hj : j < 23) : (bdC b)[j]? = some (.int .i64 (el b j)) := by
  rcases (by omega : j = 0 ∨ j = 1 ∨ j = 2 ∨ j = 3 ∨ j = 4 ∨ j = 5 ∨ j = 6 ∨ j = 7 ∨ j = 8 ∨ j = 9 ∨ j = 10 ∨ j = 11 ∨ j = 12 ∨ j = 13 ∨ j = 14 ∨ j = 15 ∨ j = 16 ∨ j = 17 ∨ j = 18 ∨ j = 19 ∨ j = 20 ∨ j = 21 ∨ j = 22) with rfl | rfl | rfl | rfl | rfl | rfl | rfl | rfl | rfl | rfl | rfl | rfl | rfl | rfl | rfl | rfl | rfl | rfl | rfl | rfl | rfl | rfl | rfl <;> rfl
def beq (x y : Value) : Sem Bool := Op.equalIn 10000 87 x y
theorem beq_shut (x y : Value) : Op.equalIn 10000 87 x y = beq x y := rfl
end Go.Proofs.YtnhjabiciaoocaaDoor
