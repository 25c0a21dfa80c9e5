/- A packet of fours as a value and in its block. -/
import Derived.Test.YtfjnioninjllkaaSgSum
namespace Go.Proofs.Ytfjnioninjllkaa.V4
open Go.RowKit
/-- a packet as a value. -/
def pk (s d t k i : Int) (a : Option Addr) (len cap : Nat) : Value := .agg #[.int .i64 s, .int .i64 d, .int .i64 t, .int .i64 k, .int .i64 i, .slice a len cap]
/-- a packet's block. -/
def PkIn (B : Nat) (s d t k i : Int) (a : Option Addr) (len cap : Nat) (w : World) : Prop := w.heap[B]? = some (.cells #[.int .i64 s, .int .i64 d, .int .i64 t, .int .i64 k, .int .i64 i, .slice a len cap] 32 (0, 0))
theorem PkIn.lt {B : Nat} {s d t k i : Int} {a : Option Addr} {len cap : Nat} {w : World} (h : PkIn B s d t k i a len cap w) : B < w.heap.size := (Array.getElem?_eq_some_iff.1 h).1
theorem PkIn.kept {B : Nat} {s d t k i : Int} {a : Option Addr} {len cap : Nat} {w w' : World} (h : PkIn B s d t k i a len cap w) (hb : Below w.heap.size w w') : PkIn B s d t k i a len cap w' := (hb.block B h.lt).trans h
theorem PkIn.other {B : Nat} {s d t k i : Int} {a : Option Addr} {len cap : Nat} {w : World} (h : PkIn B s d t k i a len cap w) (p : Addr) (hp : B ≠ p.block) (v : Value) : PkIn B s d t k i a len cap (w.setCell p v) := (Below.heap_setCell w p v B hp).trans h
theorem pk_new (w : World) (s d t k i : Int) (a : Option Addr) (len cap : Nat) : PkIn w.heap.size s d t k i a len cap (w.alloc (.cells #[.int .i64 s, .int .i64 d, .int .i64 t, .int .i64 k, .int .i64 i, .slice a len cap] 32)) := heap_alloc_new w _
theorem PkIn.all {B : Nat} {s d t k i : Int} {a : Option Addr} {len cap : Nat} {w : World} (h : PkIn B s d t k i a len cap w) :
    w.cell? ⟨B, 0, none⟩ = some (.int .i64 s) ∧ w.cell? ⟨B, 1, none⟩ = some (.int .i64 d) ∧ w.cell? ⟨B, 2, none⟩ = some (.int .i64 t) ∧ w.cell? ⟨B, 3, none⟩ = some (.int .i64 k) ∧ w.cell? ⟨B, 4, none⟩ = some (.int .i64 i) ∧ w.cell? ⟨B, 5, none⟩ = some (.slice a len cap) := by
  unfold PkIn at h
  refine ⟨?_, ?_, ?_, ?_, ?_, ?_⟩ <;> simp [World.cell?, h]
theorem load_pk {B : Nat} {s d t k i : Int} {a : Option Addr} {len cap : Nat} {w : World} (h : PkIn B s d t k i a len cap w) : (loadVar 32 ⟨B, 0, none⟩).run Try.prog w = .ok (pk s d t k i a len cap) w :=
  run_loadVar_row w B 32 32 _ (0, 0) _ h Try.underlying32 rfl (by kernel_rfl)
theorem results_cr {fn : Func} {p u : Tmp} (h : fn.results = #[.cell p 32, .tmp u]) (tmps : Array Value) (w : World) (B : Nat) (s d t k i : Int) (a : Option Addr) (len cap : Nat)
    (hp : tmps.getD p undef = .pointer (some ⟨B, 0, none⟩)) (hg : PkIn B s d t k i a len cap w) :
    (results fn tmps).run Try.prog w = .ok (.tuple #[pk s d t k i a len cap, tmps.getD u undef]) w := by
  rw [results_cell_tmp h, hp]
  simp [asAddr, load_pk hg]
end Go.Proofs.Ytfjnioninjllkaa.V4
