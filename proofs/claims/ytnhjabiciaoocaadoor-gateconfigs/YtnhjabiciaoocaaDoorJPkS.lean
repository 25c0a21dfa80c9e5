/- A server's score for a flow, as a number. What is asked of package pick, whatever it is made of. Flows and fours looked at, by contracts. -/
import Derived.Test.YtnhjabiciaoocaaDoorS6Six
import Derived.Below
import Derived.OpenShut
import Derived.Test.YtnhjabiciaoocaaDoorProg
import Derived.WalkKit
import Derived.LaidEql
import Derived.BigQuiet
import Derived.Laws.AppendOwnNone
import Derived.Laws.MakeOwn
import Derived.Deep.RegionLaw
import Derived.Lib.Bytes
import Derived.Deep.MidRow
import Derived.Laws.ResultCell
import Derived.Deep.CutBlock
import Derived.Deep.QuietTactic
import Derived.OwnWalk
import Derived.Deep.RegionHeld3
import Derived.Deep.DrawnRows
import Derived.Maps.AppendAt
import Derived.Laws.StructEq
import Derived.Test.YtnhjabiciaoocaaDoorJS6Own
import Derived.Test.YtnhjabiciaoocaaDoorJPkF
namespace Go.Proofs.YtnhjabiciaoocaaDoor
open Go.RowKit
/-- the first numbers of a flow; all of them, and the server's. -/
def nl (f : List Int) (n : Nat) : List Int := (List.range n).map (el f)
def nums (f : List Int) (id : Int) : List Int := nl f 19 ++ [id]
/-- a number more is mixed in. -/
def mx (x n : Int) : Int := (x * 69069 + n + 1).tmod 2147483648
def mxs (seed : Int) (l : List Int) : Int := l.foldl mx seed
/-- the score. -/
def sc (seed : Int) (f : List Int) (id : Int) : Int := (mxs seed (nums f id)).tdiv 256
end Go.Proofs.YtnhjabiciaoocaaDoor

namespace Go.Proofs.YtnhjabiciaoocaaDoor
open Go.RowKit
def JKc : Prop := ∀ (a : Option Addr) (cap : Nat) (bs : List (List Int)) (w : World), Bks a bs w → bs.length ≤ maxLen → bs.length ≤ cap →
  Calls Tryd.prog 21 #[.slice a bs.length cap] w fun e w' => e = .returned (.tuple #[.int .i64 (bf bs).1, ev (bf bs).2]) ∧ Below w.heap.size w w'
end Go.Proofs.YtnhjabiciaoocaaDoor

namespace Go.Proofs.YtnhjabiciaoocaaDoor
open Go.RowKit
theorem pcheck_ok (z : List Int) (W : World) (hz : Ok6 z) : Calls Tryd.prog 17 #[.agg (sixC z)] W fun e w' => e = .returned .nilIface ∧ Below W.heap.size W w' :=
  (check_ok z W hz).mono fun e w' ⟨h1, h2⟩ => ⟨h1, by rw [h2]; exact al_below _ _⟩
theorem pcheck_bad (z : List Int) (W : World) (hz : ¬ Ok6 z) : Calls Tryd.prog 17 #[.agg (sixC z)] W fun e w' => e = .returned (.iface 27 (.int .i64 1)) ∧ Below W.heap.size W w' :=
  (check_bad z W hz).mono fun e w' ⟨h1, h2⟩ => ⟨h1, by rw [h2]; exact al_below _ _⟩
/-- from 0 up to m. -/
def um (m x : Int) : Bool := decide (0 ≤ x) && decide (x ≤ m)
theorem um_iff (m x : Int) : um m x = true ↔ 0 ≤ x ∧ x ≤ m := by unfold um; rw [Bool.and_eq_true, decide_eq_true_eq, decide_eq_true_eq]
def bups (m : Int) (l : List Int) : Bool := l.all (um m)
theorem bups_iff (m : Int) (l : List Int) : bups m l = true ↔ ∀ i, i < l.length → um m (l.getD i 0) = true := by
  unfold bups
  rw [List.all_eq_true]
  constructor
  · intro h i hi
    exact h _ (by simp [List.getD_eq_getElem?_getD, hi])
  · intro h x hx
    obtain ⟨i, hi, rfl⟩ := List.mem_iff_getElem.1 hx
    have := h i hi
    simpa [List.getD_eq_getElem?_getD, hi] using this
theorem pck (z : List Int) (W : World) : Calls Tryd.prog 17 #[.agg (sixC z)] W fun e w' => e = .returned (ev (fe (s6 z))) ∧ Below W.heap.size W w' := by
  cases h : s6 z
  · exact pcheck_bad z W (fun h' => by rw [(s6_iff z).2 h'] at h; cases h)
  · exact pcheck_ok z W ((s6_iff z).1 h)
theorem bc4_any (a : Int) (w : World) : Calls Tryd.prog 20 #[.int .i64 a] w fun e w' => e = .returned (ev (fe (fr a))) ∧ w' = w := by
  unfold fr
  by_cases h0 : a < 0
  · have hd : decide (0 ≤ a) = false := decide_eq_false (by omega)
    rw [hd]
    go_enter Tryd.func20, Tryd.ntmps20
    go_wp2
    go_ret
    exact ⟨rfl, rfl⟩
  · have hd : decide (0 ≤ a) = true := decide_eq_true (by omega)
    rw [hd]
    by_cases h1 : 4294967295 < a
    · have hd1 : decide (a ≤ 4294967295) = false := decide_eq_false (by omega)
      rw [hd1]
      go_enter Tryd.func20, Tryd.ntmps20
      go_wp2
      go_ret
      exact ⟨rfl, rfl⟩
    · have hd1 : decide (a ≤ 4294967295) = true := decide_eq_true (by omega)
      rw [hd1]
      go_enter Tryd.func20, Tryd.ntmps20
      go_wp2
      go_ret
      exact ⟨rfl, rfl⟩
attribute [local go_sem ↓] hload_shut
end Go.Proofs.YtnhjabiciaoocaaDoor
