/- A gate as it lies in the heap; frames: which blocks may have turned, and that none of them holds bytes; a flow of a packet. -/
import Derived.Test.YtnhjabiciaoocaaDoorJSgEnc
import Derived.Test.YtnhjabiciaoocaaDoorJPoTake2
import Derived.Deep.MidRow
import Derived.Laws.ResultCell
import Derived.Deep.CutBlock
import Derived.Deep.QuietTactic
import Derived.OwnWalk
import Derived.Deep.RegionHeld3
import Derived.Deep.DrawnRows
import Derived.Laws.StructEq
import Derived.Laws.AppendOwnNone
import Derived.Maps.AppendAt
import Derived.Maps.RangeWalk
import Derived.Test.YtnhjabiciaoocaaDoorProg
import Derived.WalkKit
import Derived.LaidEql
import Derived.Stop.Asserts
import Derived.RowKitTokens
import Derived.Test.YtnhjabiciaoocaaDoorShelf
import Derived.Shelf.Abstract
import Derived.Below
import Derived.OpenShut
import Derived.BigQuiet
import Derived.Laws.MakeOwn
import Derived.Deep.RegionLaw
import Derived.Lib.Bytes
import Derived.Lib.SliceRun
import Derived.Lib.AppendZerosOnto
import Derived.Lib.AppendZeros
namespace Go.Proofs.YtnhjabiciaoocaaDoor
open Go.RowKit
/-- a gate's cells: the config's numbers, whether heads are told, the servers; the table, the streams, the tick. -/
def gtC (c : List Int) (inj : Bool) (a : Option Addr) (n cap : Nat) (tv : Value) (S : Nat) (now : Int) : Array Value := #[.int .i64 (el c 0), .int .i64 (el c 1), .int .i64 (el c 2), .int .i64 (el c 3), .int .i64 (el c 4), .int .i64 (el c 5), .int .i64 (el c 6), .int .i64 (el c 7), .int .i64 (el c 8), .int .i64 (el c 9), .int .i64 (el c 10), .int .i64 (el c 11), .int .i64 (el c 12), .int .i64 (el c 13), .int .i64 (el c 14), .int .i64 (el c 15), .int .i64 (el c 16), .int .i64 (el c 17), .int .i64 (el c 18), .int .i64 (el c 19), .int .i64 (el c 20), .bool inj, .slice a n cap, tv, .map (some S), .int .i64 now]
/-- a config's cells. -/
def cfC (c : List Int) (inj : Bool) (a : Option Addr) (n cap : Nat) : Array Value := #[.int .i64 (el c 0), .int .i64 (el c 1), .int .i64 (el c 2), .int .i64 (el c 3), .int .i64 (el c 4), .int .i64 (el c 5), .int .i64 (el c 6), .int .i64 (el c 7), .int .i64 (el c 8), .int .i64 (el c 9), .int .i64 (el c 10), .int .i64 (el c 11), .int .i64 (el c 12), .int .i64 (el c 13), .int .i64 (el c 14), .int .i64 (el c 15), .int .i64 (el c 16), .int .i64 (el c 17), .int .i64 (el c 18), .int .i64 (el c 19), .int .i64 (el c 20), .bool inj, .slice a n cap]
/-- its two addresses. -/
def vip (c : List Int) : List Int := [el c 0, el c 1, el c 2, el c 3, el c 4, el c 5, el c 6, el c 7]
def pfx (c : List Int) : List Int := [el c 9, el c 10, el c 11, el c 12, el c 13, el c 14, el c 15, el c 16]
def GtIn (G : Nat) (c : List Int) (inj : Bool) (a : Option Addr) (n cap : Nat) (tv : Value) (S : Nat) (now : Int) (w : World) : Prop := w.heap[G]? = some (.cells (gtC c inj a n cap tv S now) 63 (0, 0))
theorem GtIn.lt {G : Nat} {c : List Int} {inj : Bool} {a : Option Addr} {n cap : Nat} {tv : Value} {S : Nat} {now : Int} {w : World} (p : GtIn G c inj a n cap tv S now w) : G < w.heap.size := (Array.getElem?_eq_some_iff.1 p).1
theorem GtIn.same {G : Nat} {c : List Int} {inj : Bool} {a : Option Addr} {n cap : Nat} {tv : Value} {S : Nat} {now : Int} {w w' : World} (p : GtIn G c inj a n cap tv S now w) (e : w'.heap[G]? = w.heap[G]?) : GtIn G c inj a n cap tv S now w' := e.trans p
theorem GtIn.kept {G : Nat} {c : List Int} {inj : Bool} {a : Option Addr} {n cap : Nat} {tv : Value} {S : Nat} {now : Int} {w w' : World} (p : GtIn G c inj a n cap tv S now w) (hb : Below w.heap.size w w') : GtIn G c inj a n cap tv S now w' := p.same (hb.block G p.lt)
theorem GtIn.cellAt {G : Nat} {c : List Int} {inj : Bool} {a : Option Addr} {n cap : Nat} {tv : Value} {S : Nat} {now : Int} {w : World} (p : GtIn G c inj a n cap tv S now w) (j : Nat) : w.cell? ⟨G, j, none⟩ = (gtC c inj a n cap tv S now)[j]? := cell_of_row w G j _ _ _ p
theorem GtIn.inj {G : Nat} {c : List Int} {inj : Bool} {a : Option Addr} {n cap : Nat} {tv : Value} {S : Nat} {now : Int} {w : World} (p : GtIn G c inj a n cap tv S now w) : w.cell? ⟨G, 21, none⟩ = some (.bool inj) := p.cellAt 21
theorem GtIn.table {G : Nat} {c : List Int} {inj : Bool} {a : Option Addr} {n cap : Nat} {tv : Value} {S : Nat} {now : Int} {w : World} (p : GtIn G c inj a n cap tv S now w) : w.cell? ⟨G, 23, none⟩ = some tv := p.cellAt 23
theorem GtIn.now {G : Nat} {c : List Int} {inj : Bool} {a : Option Addr} {n cap : Nat} {tv : Value} {S : Nat} {now : Int} {w : World} (p : GtIn G c inj a n cap tv S now w) : w.cell? ⟨G, 25, none⟩ = some (.int .i64 now) := p.cellAt 25
theorem GtIn.frz {G : Nat} {c : List Int} {inj : Bool} {a : Option Addr} {n cap : Nat} {tv : Value} {S : Nat} {now : Int} {w : World} (p : GtIn G c inj a n cap tv S now w) (j : Nat) : w.frozen? ⟨G, j, none⟩ = false := by
  unfold GtIn at p
  simp [World.frozen?, p]
theorem GtIn.hv {G : Nat} {c : List Int} {inj : Bool} {a : Option Addr} {n cap : Nat} {tv : Value} {S : Nat} {now : Int} {w : World} (p : GtIn G c inj a n cap tv S now w) : (hload (.pointer (some ⟨G, 0, none⟩))).run Tryd.prog w = .ok (.agg (sixC (vip c))) w :=
  run_loadAt_mid w G 0 23 _ _ (fun j v hv => by
    have hj : j < 8 := (List.getElem?_eq_some_iff.1 hv).1
    rw [Nat.zero_add, p.cellAt]
    rcases (by omega : j = 0 ∨ j = 1 ∨ j = 2 ∨ j = 3 ∨ j = 4 ∨ j = 5 ∨ j = 6 ∨ j = 7) with rfl | rfl | rfl | rfl | rfl | rfl | rfl | rfl <;> exact hv) Tryd.underlying23 rfl (by kernel_rfl)
theorem GtIn.hp {G : Nat} {c : List Int} {inj : Bool} {a : Option Addr} {n cap : Nat} {tv : Value} {S : Nat} {now : Int} {w : World} (p : GtIn G c inj a n cap tv S now w) : (hload (.pointer (some ⟨G, 9, none⟩))).run Tryd.prog w = .ok (.agg (sixC (pfx c))) w :=
  run_loadAt_mid w G 9 23 _ _ (fun j v hv => by
    have hj : j < 8 := (List.getElem?_eq_some_iff.1 hv).1
    rw [p.cellAt]
    rcases (by omega : j = 0 ∨ j = 1 ∨ j = 2 ∨ j = 3 ∨ j = 4 ∨ j = 5 ∨ j = 6 ∨ j = 7) with rfl | rfl | rfl | rfl | rfl | rfl | rfl | rfl <;> exact hv) Tryd.underlying23 rfl (by kernel_rfl)
/-- none of these blocks holds bytes. -/
def NB (O : Nat → Prop) (w : World) : Prop := ∀ g, O g → ∀ j x, w.cell? ⟨g, j, none⟩ ≠ some (.int .u8 x)
/-- bytes are kept where only such blocks have turned. -/
theorem Row8.fr {O : Nat → Prop} {w w' : World} {a : Option Addr} {n c : Nat} {zs : List Int} (r : Row8 w a n c zs) (f : Fr O w w') (nb : NB O w) : Row8 w' a n c zs := by
  refine ⟨r.1, r.2.1, r.2.2.1, r.2.2.2.1, fun hp => ?_⟩
  obtain ⟨g, off, e, hc⟩ := r.2.2.2.2 hp
  refine ⟨g, off, e, fun i hi => ?_⟩
  have h := hc i hi
  rw [← h]
  exact World.cell?_of_block (f.2.2.2.2 g (cell_lt h) (fun ho => nb g ho _ _ h))
end Go.Proofs.YtnhjabiciaoocaaDoor
