/- Flows as values, and which may be. -/
import Derived.Test.YtdeofopandobhaaDoorPkBase
import Derived.Laws.StructEq
namespace Go.Proofs.YtdeofopandobhaaDoor
open Go.RowKit
/-- a flow's cells: a kind, a client, its port, an address, its door. -/
def flC (f : List Int) : Array Value := #[.int .i64 (el f 0), .int .i64 (el f 1), .int .i64 (el f 2), .int .i64 (el f 3), .int .i64 (el f 4), .int .i64 (el f 5), .int .i64 (el f 6), .int .i64 (el f 7), .int .i64 (el f 8), .int .i64 (el f 9), .int .i64 (el f 10), .int .i64 (el f 11), .int .i64 (el f 12), .int .i64 (el f 13), .int .i64 (el f 14), .int .i64 (el f 15), .int .i64 (el f 16), .int .i64 (el f 17), .int .i64 (el f 18)]
set_option maxRecDepth 10000 in
theorem flC_at (f : List Int) (j : Nat) (hj : j < 19) : (flC f)[j]? = some (.int .i64 (el f j)) := by
  rcases (by omega : j = 0 ∨ j = 1 ∨ j = 2 ∨ j = 3 ∨ j = 4 ∨ j = 5 ∨ j = 6 ∨ j = 7 ∨ j = 8 ∨ j = 9 ∨ j = 10 ∨ j = 11 ∨ j = 12 ∨ j = 13 ∨ j = 14 ∨ j = 15 ∨ j = 16 ∨ j = 17 ∨ j = 18) with rfl | rfl | rfl | rfl | rfl | rfl | rfl | rfl | rfl | rfl | rfl | rfl | rfl | rfl | rfl | rfl | rfl | rfl | rfl <;> rfl
/-- a flow's client, and its address. -/
def cli (f : List Int) : List Int := [el f 1, el f 2, el f 3, el f 4, el f 5, el f 6, el f 7, el f 8]
def dst (f : List Int) : List Int := [el f 10, el f 11, el f 12, el f 13, el f 14, el f 15, el f 16, el f 17]
theorem cli_el (f : List Int) (j : Nat) (hj : j < 8) : el (cli f) j = el f (1 + j) := by
  rcases (by omega : j = 0 ∨ j = 1 ∨ j = 2 ∨ j = 3 ∨ j = 4 ∨ j = 5 ∨ j = 6 ∨ j = 7) with rfl | rfl | rfl | rfl | rfl | rfl | rfl | rfl <;> rfl
theorem dst_el (f : List Int) (j : Nat) (hj : j < 8) : el (dst f) j = el f (10 + j) := by
  rcases (by omega : j = 0 ∨ j = 1 ∨ j = 2 ∨ j = 3 ∨ j = 4 ∨ j = 5 ∨ j = 6 ∨ j = 7) with rfl | rfl | rfl | rfl | rfl | rfl | rfl | rfl <;> rfl
def FlIn (B : Nat) (f : List Int) (w : World) : Prop := w.heap[B]? = some (.cells (flC f) 25 (0, 0))
theorem FlIn.lt {B : Nat} {b : List Int} {w : World} (p : FlIn B b w) : B < w.heap.size := (Array.getElem?_eq_some_iff.1 p).1
theorem FlIn.kept {B : Nat} {b : List Int} {w w' : World} (p : FlIn B b w) (hb : Below w.heap.size w w') : FlIn B b w' := (hb.block B p.lt).trans p
theorem fl_new (f : List Int) (w : World) : FlIn w.heap.size f (w.alloc (.cells (flC f) 25)) := heap_alloc_new w _
theorem FlIn.cell {B : Nat} {f : List Int} {w : World} (p : FlIn B f w) (j : Nat) (hj : j < 19) : w.cell? ⟨B, j, none⟩ = some (.int .i64 (el f j)) := (cell_of_row w B j _ _ _ p).trans (flC_at f j hj)
theorem FlIn.cli {B : Nat} {f : List Int} {w : World} (p : FlIn B f w) : w.rangeAt B 1 (sixC (cli f)).toList := by
  intro j v hv
  have hj : j < 8 := (List.getElem?_eq_some_iff.1 hv).1
  rw [p.cell (1 + j) (by omega), ← cli_el f j hj, ← sixC_at _ j hj]
  simpa using hv
theorem FlIn.dst {B : Nat} {f : List Int} {w : World} (p : FlIn B f w) : w.rangeAt B 10 (sixC (dst f)).toList := by
  intro j v hv
  have hj : j < 8 := (List.getElem?_eq_some_iff.1 hv).1
  rw [p.cell (10 + j) (by omega), ← dst_el f j hj, ← sixC_at _ j hj]
  simpa using hv
theorem FlIn.hc {B : Nat} {f : List Int} {w : World} (p : FlIn B f w) : (hload (.pointer (some ⟨B, 1, none⟩))).run Tryd.prog w = .ok (.agg (sixC (Go.Proofs.YtdeofopandobhaaDoor.cli f))) w := run_loadAt_mid w B 1 23 _ _ p.cli Tryd.underlying23 rfl (by kernel_rfl)
theorem FlIn.hd {B : Nat} {f : List Int} {w : World} (p : FlIn B f w) : (hload (.pointer (some ⟨B, 10, none⟩))).run Tryd.prog w = .ok (.agg (sixC (Go.Proofs.YtdeofopandobhaaDoor.dst f))) w := run_loadAt_mid w B 10 23 _ _ p.dst Tryd.underlying23 rfl (by kernel_rfl)
def fload (x : Value) : Sem Value := Instr.loadAt 25 x
theorem fload_shut (x : Value) : Instr.loadAt 25 x = fload x := rfl
theorem FlIn.fl {B : Nat} {f : List Int} {w : World} (p : FlIn B f w) : (fload (.pointer (some ⟨B, 0, none⟩))).run Tryd.prog w = .ok (.agg (flC f)) w :=
  run_loadAt_mid w B 0 25 (flC f).toList _ (fun j v hv => by rw [Nat.zero_add, cell_of_row w B j _ _ _ p]; simpa using hv) Tryd.underlying25 rfl (by kernel_rfl)
/-- may a number be a port, a four, a tick? -/
def wd (n : Int) : Bool := decide (0 ≤ n) && decide (n ≤ 65535)
def fr (n : Int) : Bool := decide (0 ≤ n) && decide (n ≤ 4294967295)
theorem wd_iff (n : Int) : wd n = true ↔ Word n := by unfold wd Word; rw [Bool.and_eq_true, decide_eq_true_eq, decide_eq_true_eq]
def s6 (z : List Int) : Bool := wd (el z 0) && wd (el z 1) && wd (el z 2) && wd (el z 3) && wd (el z 4) && wd (el z 5) && wd (el z 6) && wd (el z 7)
theorem s6_iff (z : List Int) : s6 z = true ↔ Ok6 z := by
  unfold s6 Ok6
  simp only [Bool.and_eq_true, wd_iff]
  refine ⟨fun ⟨⟨⟨⟨⟨⟨⟨h0, h1⟩, h2⟩, h3⟩, h4⟩, h5⟩, h6⟩, h7⟩ j hj => ?_, fun h => ⟨⟨⟨⟨⟨⟨⟨h 0 (by omega), h 1 (by omega)⟩, h 2 (by omega)⟩, h 3 (by omega)⟩, h 4 (by omega)⟩, h 5 (by omega)⟩, h 6 (by omega)⟩, h 7 (by omega)⟩⟩
  rcases (by omega : j = 0 ∨ j = 1 ∨ j = 2 ∨ j = 3 ∨ j = 4 ∨ j = 5 ∨ j = 6 ∨ j = 7) with rfl | rfl | rfl | rfl | rfl | rfl | rfl | rfl <;> assumption
/-- a fault's number. -/
def fe (b : Bool) : Int := if b = true then 0 else 1
/-- may a flow be? -/
def okf (f : List Int) : Bool := ((el f 0 == 6) || (el f 0 == 17)) && s6 (cli f) && s6 (dst f) && wd (el f 9) && wd (el f 18)
end Go.Proofs.YtdeofopandobhaaDoor
