/- A step of a script as a value, in its block and in a slice; loads and stores of all of it. -/
import Derived.Test.YtjkkonpangcnjaaDoorPoSt
namespace Go.Proofs.YtjkkonpangcnjaaDoor
open Go.RowKit

/-- a step's cells: what, who, a flow, two numbers, a tick. -/
def stC (s : List Int) : Array Value := #[.int .i64 (el s 0), .int .i64 (el s 1), .int .i64 (el s 2), .int .i64 (el s 3), .int .i64 (el s 4), .int .i64 (el s 5), .int .i64 (el s 6), .int .i64 (el s 7), .int .i64 (el s 8), .int .i64 (el s 9), .int .i64 (el s 10), .int .i64 (el s 11), .int .i64 (el s 12), .int .i64 (el s 13), .int .i64 (el s 14), .int .i64 (el s 15), .int .i64 (el s 16), .int .i64 (el s 17), .int .i64 (el s 18), .int .i64 (el s 19), .int .i64 (el s 20), .int .i64 (el s 21), .int .i64 (el s 22), .int .i64 (el s 23), .int .i64 (el s 24), .int .i64 (el s 25), .int .i64 (el s 26), .int .i64 (el s 27), .int .i64 (el s 28), .int .i64 (el s 29), .int .i64 (el s 30)]
theorem stC_size (s : List Int) : (stC s).size = 31 := rfl
set_option maxRecDepth 10000 in
theorem stC_at (s : List Int) (j : Nat) (hj : j < 31) : (stC s)[j]? = some (.int .i64 (el s j)) := by
  rcases (by omega : j = 0 ∨ j = 1 ∨ j = 2 ∨ j = 3 ∨ j = 4 ∨ j = 5 ∨ j = 6 ∨ j = 7 ∨ j = 8 ∨ j = 9 ∨ j = 10 ∨ j = 11 ∨ j = 12 ∨ j = 13 ∨ j = 14 ∨ j = 15 ∨ j = 16 ∨ j = 17 ∨ j = 18 ∨ j = 19 ∨ j = 20 ∨ j = 21 ∨ j = 22 ∨ j = 23 ∨ j = 24 ∨ j = 25 ∨ j = 26 ∨ j = 27 ∨ j = 28 ∨ j = 29 ∨ j = 30) with rfl | rfl | rfl | rfl | rfl | rfl | rfl | rfl | rfl | rfl | rfl | rfl | rfl | rfl | rfl | rfl | rfl | rfl | rfl | rfl | rfl | rfl | rfl | rfl | rfl | rfl | rfl | rfl | rfl | rfl | rfl <;> rfl
/-- whom a step names. -/
def wh (s : List Int) : List Int := [el s 1, el s 2, el s 3, el s 4, el s 5, el s 6, el s 7, el s 8]
/-- a step's block. -/
def StIn (B : Nat) (s : List Int) (w : World) : Prop := w.heap[B]? = some (.cells (stC s) 37 (0, 0))
theorem StIn.lt {B : Nat} {s : List Int} {w : World} (p : StIn B s w) : B < w.heap.size := (Array.getElem?_eq_some_iff.1 p).1
theorem StIn.kept {B : Nat} {s : List Int} {w w' : World} (p : StIn B s w) (hb : Below w.heap.size w w') : StIn B s w' := (hb.block B p.lt).trans p
theorem StIn.same {B : Nat} {s : List Int} {w w' : World} (p : StIn B s w) (e : w'.heap[B]? = w.heap[B]?) : StIn B s w' := e.trans p
theorem StIn.cellAt {B : Nat} {s : List Int} {w : World} (p : StIn B s w) (j : Nat) (hj : j < 31) : w.cell? ⟨B, j, none⟩ = some (.int .i64 (el s j)) := (cell_of_row w B j _ _ _ p).trans (stC_at s j hj)
theorem StIn.what {B : Nat} {s : List Int} {w : World} (p : StIn B s w) : w.cell? ⟨B, 0, none⟩ = some (.int .i64 (el s 0)) := p.cellAt 0 (by omega)
theorem StIn.n {B : Nat} {s : List Int} {w : World} (p : StIn B s w) : w.cell? ⟨B, 28, none⟩ = some (.int .i64 (el s 28)) := p.cellAt 28 (by omega)
theorem StIn.who {B : Nat} {s : List Int} {w : World} (p : StIn B s w) : w.rangeAt B 1 (sixC (wh s)).toList := by
  intro j v hv
  have hj : j < 8 := (List.getElem?_eq_some_iff.1 hv).1
  rw [p.cellAt (1 + j) (by omega)]
  rcases (by omega : j = 0 ∨ j = 1 ∨ j = 2 ∨ j = 3 ∨ j = 4 ∨ j = 5 ∨ j = 6 ∨ j = 7) with rfl | rfl | rfl | rfl | rfl | rfl | rfl | rfl <;> exact hv
theorem at_who {ops : Array Oper} {rest : List Oper} {o : Oper} {f : Act} {w : World} {Q : Exit → Act → World → Prop} (hgd : o.guard = none) (x : Operand) (ho : o.op = .load 33 x)
    {B : Nat} {s : List Int} (hx : f.eval x = .pointer (some ⟨B, 1, none⟩)) (p : StIn B s w)
    (hK : wpList Tryd.prog ops Q rest (f.put o.dst (.agg (sixC (wh s)))) w) : wpList Tryd.prog ops Q (o :: rest) f w :=
  wpList_load_mid hgd 33 x ho B 1 hx (sixC (wh s)).toList _ p.who Tryd.underlying33 rfl (by kernel_rfl) hK
/-- the steps of a script. -/
def Steps (a : Option Addr) (len : Nat) (sts : Nat → List Int) (w : World) : Prop := 0 < len → ∃ b off, a = some ⟨b, off, none⟩ ∧ b < w.heap.size ∧ ∀ i, i < len → w.rangeAt b (off + i * 31) (stC (sts i)).toList
theorem Steps.below {a : Option Addr} {len : Nat} {sts : Nat → List Int} {w w' : World} (h : Steps a len sts w) (hb : Below w.heap.size w w') : Steps a len sts w' := by
  intro hp
  obtain ⟨b, off, e, hlt, hc⟩ := h hp
  refine ⟨b, off, e, Nat.lt_of_lt_of_le hlt hb.size, fun i hi j v hv => ?_⟩
  rw [hb.cell (p := ⟨b, off + i * 31 + j, none⟩) hlt]
  exact hc i hi j v hv
theorem at_step {ops : Array Oper} {rest : List Oper} {o : Oper} {f : Act} {w : World} {Q : Exit → Act → World → Prop} (hgd : o.guard = none) (x : Operand) (ho : o.op = .load 37 x)
    {b off i : Nat} {s : List Int} (hx : f.eval x = .pointer (some ⟨b, off + i * 31, none⟩)) (p : w.rangeAt b (off + i * 31) (stC s).toList)
    (hK : wpList Tryd.prog ops Q rest (f.put o.dst (.agg (stC s))) w) : wpList Tryd.prog ops Q (o :: rest) f w :=
  wpList_load_mid hgd 37 x ho b (off + i * 31) hx (stC s).toList _ p Tryd.underlying37 rfl (by kernel_rfl) hK
def zero31 : Array Value := #[.int .i64 0, .int .i64 0, .int .i64 0, .int .i64 0, .int .i64 0, .int .i64 0, .int .i64 0, .int .i64 0, .int .i64 0, .int .i64 0, .int .i64 0, .int .i64 0, .int .i64 0, .int .i64 0, .int .i64 0, .int .i64 0, .int .i64 0, .int .i64 0, .int .i64 0, .int .i64 0, .int .i64 0, .int .i64 0, .int .i64 0, .int .i64 0, .int .i64 0, .int .i64 0, .int .i64 0, .int .i64 0, .int .i64 0, .int .i64 0, .int .i64 0]
theorem step_new (w : World) : StIn w.heap.size [] (w.alloc (.cells zero31 37)) := heap_alloc_new w _
theorem StIn.stored {B : Nat} {s0 : List Int} {w : World} (p : StIn B s0 w) (s : List Int) : StIn B s (w.setRow B (stC s)) := setRow_heap w B _ _ _ (0, 0) p
theorem at_stores {ops : Array Oper} {rest : List Oper} {o : Oper} {f : Act} {w : World} {Q : Exit → Act → World → Prop} (hgd : o.guard = none) (x y : Operand) (ho : o.op = .store 37 x y)
    {B : Nat} {s0 : List Int} (hx : f.eval x = .pointer (some ⟨B, 0, none⟩)) (p : StIn B s0 w) (s : List Int) (hy : f.eval y = .agg (stC s))
    (hK : ∀ w', StIn B s w' → Only B w w' → wpList Tryd.prog ops Q rest (f.put o.dst undef) w') : wpList Tryd.prog ops Q (o :: rest) f w :=
  wpList_store_row hgd 37 x y ho B _ hx hy 37 _ p (by kernel_rfl) rfl (by unfold stC; simp [Value.oneCell']) (hK _ (p.stored s) (only_setRow _ _ _))
end Go.Proofs.YtjkkonpangcnjaaDoor
