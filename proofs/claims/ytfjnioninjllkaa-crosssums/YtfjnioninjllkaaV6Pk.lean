/- A packet of sixes as a value and in its block; loads and stores of all of it, of its addresses and of its numbers, as equations that a walk takes. -/
import Derived.Test.YtfjnioninjllkaaXOver6
import Derived.Deep.MidRow
import Derived.Laws.ResultCell
namespace Go.Proofs.Ytfjnioninjllkaa.V6
open Go.RowKit

/-- a packet's cells. -/
def pkC (s d : List Int) (h k : Int) (a : Option Addr) (len cap : Nat) : Array Value := #[.int .i64 (el s 0), .int .i64 (el s 1), .int .i64 (el s 2), .int .i64 (el s 3), .int .i64 (el s 4), .int .i64 (el s 5), .int .i64 (el s 6), .int .i64 (el s 7), .int .i64 (el d 0), .int .i64 (el d 1), .int .i64 (el d 2), .int .i64 (el d 3), .int .i64 (el d 4), .int .i64 (el d 5), .int .i64 (el d 6), .int .i64 (el d 7), .int .i64 h, .int .i64 k, .slice a len cap]
/-- a packet as a value. -/
def pk (s d : List Int) (h k : Int) (a : Option Addr) (len cap : Nat) : Value := .agg (pkC s d h k a len cap)
theorem pkC_size (s d : List Int) (h k : Int) (a : Option Addr) (len cap : Nat) : (pkC s d h k a len cap).size = 19 := rfl
/-- a packet's block. -/
def PkIn (B : Nat) (s d : List Int) (h k : Int) (a : Option Addr) (len cap : Nat) (w : World) : Prop := w.heap[B]? = some (.cells (pkC s d h k a len cap) 26 (0, 0))
theorem PkIn.lt {B : Nat} {s d : List Int} {h k : Int} {a : Option Addr} {len cap : Nat} {w : World} (p : PkIn B s d h k a len cap w) : B < w.heap.size := (Array.getElem?_eq_some_iff.1 p).1
theorem PkIn.kept {B : Nat} {s d : List Int} {h k : Int} {a : Option Addr} {len cap : Nat} {w w' : World} (p : PkIn B s d h k a len cap w) (hb : Below w.heap.size w w') : PkIn B s d h k a len cap w' := (hb.block B p.lt).trans p
theorem PkIn.other {B : Nat} {s d : List Int} {h k : Int} {a : Option Addr} {len cap : Nat} {w : World} (p : PkIn B s d h k a len cap w) (q : Addr) (hq : B ≠ q.block) (v : Value) : PkIn B s d h k a len cap (w.setCell q v) := (Below.heap_setCell w q v B hq).trans p
theorem PkIn.grown {B : Nat} {s d : List Int} {h k : Int} {a : Option Addr} {len cap : Nat} {w w' : World} (p : PkIn B s d h k a len cap w) {r : Option Nat} (hg : w.grownBy w' r) (hr : some B ≠ r) : PkIn B s d h k a len cap w' := (hg.block _ p.lt hr).trans p
theorem pk_new (w : World) (s d : List Int) (h k : Int) (a : Option Addr) (len cap : Nat) : PkIn w.heap.size s d h k a len cap (w.alloc (.cells (pkC s d h k a len cap) 26)) := heap_alloc_new w _
theorem PkIn.cellAt {B : Nat} {s d : List Int} {h k : Int} {a : Option Addr} {len cap : Nat} {w : World} (p : PkIn B s d h k a len cap w) (j : Nat) : w.cell? ⟨B, j, none⟩ = (pkC s d h k a len cap)[j]? := cell_of_row w B j _ _ _ p
/-- the whole packet. -/
theorem PkIn.load {B : Nat} {s d : List Int} {h k : Int} {a : Option Addr} {len cap : Nat} {w : World} (p : PkIn B s d h k a len cap w) : (loadCellsFrom ⟨B, 0, none⟩ 0 19 #[]).run Try.prog w = .ok (pkC s d h k a len cap) w :=
  run_loadCells_list (P := Try.prog) w ⟨B, 0, none⟩ (pkC s d h k a len cap).toList (fun j v hv => by
    rw [add_at, Nat.zero_add, p.cellAt]
    simpa using hv)
/-- its source. -/
theorem PkIn.src {B : Nat} {s d : List Int} {h k : Int} {a : Option Addr} {len cap : Nat} {w : World} (p : PkIn B s d h k a len cap w) : (loadCellsFrom ⟨B, 0, none⟩ 0 8 #[]).run Try.prog w = .ok (sixC s) w :=
  run_loadCells_list (P := Try.prog) w ⟨B, 0, none⟩ (sixC s).toList (fun j v hv => by
    rw [add_at, Nat.zero_add, p.cellAt]
    have hj : j < 8 := (List.getElem?_eq_some_iff.1 hv).1
    rcases (by omega : j = 0 ∨ j = 1 ∨ j = 2 ∨ j = 3 ∨ j = 4 ∨ j = 5 ∨ j = 6 ∨ j = 7) with rfl | rfl | rfl | rfl | rfl | rfl | rfl | rfl <;> exact hv)
/-- its goal. -/
theorem PkIn.dst {B : Nat} {s d : List Int} {h k : Int} {a : Option Addr} {len cap : Nat} {w : World} (p : PkIn B s d h k a len cap w) : (loadCellsFrom ⟨B, 8, none⟩ 0 8 #[]).run Try.prog w = .ok (sixC d) w :=
  run_loadCells_list (P := Try.prog) w ⟨B, 8, none⟩ (sixC d).toList (fun j v hv => by
    rw [add_at, p.cellAt]
    have hj : j < 8 := (List.getElem?_eq_some_iff.1 hv).1
    rcases (by omega : j = 0 ∨ j = 1 ∨ j = 2 ∨ j = 3 ∨ j = 4 ∨ j = 5 ∨ j = 6 ∨ j = 7) with rfl | rfl | rfl | rfl | rfl | rfl | rfl | rfl <;> exact hv)
theorem PkIn.hop {B : Nat} {s d : List Int} {h k : Int} {a : Option Addr} {len cap : Nat} {w : World} (p : PkIn B s d h k a len cap w) : w.cell? ⟨B, 16, none⟩ = some (.int .i64 h) := p.cellAt 16
theorem PkIn.kind {B : Nat} {s d : List Int} {h k : Int} {a : Option Addr} {len cap : Nat} {w : World} (p : PkIn B s d h k a len cap w) : w.cell? ⟨B, 17, none⟩ = some (.int .i64 k) := p.cellAt 17
theorem PkIn.body {B : Nat} {s d : List Int} {h k : Int} {a : Option Addr} {len cap : Nat} {w : World} (p : PkIn B s d h k a len cap w) : w.cell? ⟨B, 18, none⟩ = some (.slice a len cap) := p.cellAt 18
/-- a packet stored. -/
theorem PkIn.store {B : Nat} {s0 d0 : List Int} {h0 k0 : Int} {a0 : Option Addr} {len0 cap0 : Nat} {w : World} (p : PkIn B s0 d0 h0 k0 a0 len0 cap0 w) (s d : List Int) (h k : Int) (a : Option Addr) (len cap : Nat) : (storeCells ⟨B, 0, none⟩ (pkC s d h k a len cap).toList 0).run Try.prog w = .ok () (w.setRow B (pkC s d h k a len cap)) := by
  have := run_storeVar_row (P := Try.prog) w B 26 26 _ (pkC s d h k a len cap) p (by kernel_rfl) rfl (by unfold pkC; simp [Value.oneCell'])
  have hi : (Try.prog.info? 26).map (·.size) = some 19 := by kernel_rfl
  cases hq : Try.prog.info? 26 with
  | none => rw [hq] at hi; cases hi
  | some i =>
    have hs : (pkC s d h k a len cap).size = i.size := by rw [hq] at hi; simp at hi; rw [hi]; rfl
    simpa [storeVar, sizeOf, typeInfo, hq, Value.cells, hs] using this
theorem PkIn.stored {B : Nat} {s0 d0 : List Int} {h0 k0 : Int} {a0 : Option Addr} {len0 cap0 : Nat} {w : World} (p : PkIn B s0 d0 h0 k0 a0 len0 cap0 w) (s d : List Int) (h k : Int) (a : Option Addr) (len cap : Nat) : PkIn B s d h k a len cap (w.setRow B (pkC s d h k a len cap)) := setRow_heap w B _ _ _ (0, 0) p
/-- a packet loaded, at a plain region's list. -/
theorem at_load {ops : Array Oper} {rest : List Oper} {o : Oper} {f : Act} {w : World} {Q : Exit → Act → World → Prop} (hgd : o.guard = none) (x : Operand) (ho : o.op = .load 26 x)
    {B : Nat} {s d : List Int} {h k : Int} {a : Option Addr} {len cap : Nat} (hx : f.eval x = .pointer (some ⟨B, 0, none⟩)) (p : PkIn B s d h k a len cap w)
    (hK : wpList Try.prog ops Q rest (f.put o.dst (.agg (pkC s d h k a len cap))) w) : wpList Try.prog ops Q (o :: rest) f w :=
  wpList_load_row hgd 26 x ho B hx 26 _ (0, 0) _ p Try.underlying26 rfl (by kernel_rfl) hK
theorem at_src {ops : Array Oper} {rest : List Oper} {o : Oper} {f : Act} {w : World} {Q : Exit → Act → World → Prop} (hgd : o.guard = none) (x : Operand) (ho : o.op = .load 23 x)
    {B : Nat} {s d : List Int} {h k : Int} {a : Option Addr} {len cap : Nat} (hx : f.eval x = .pointer (some ⟨B, 0, none⟩)) (p : PkIn B s d h k a len cap w)
    (hK : wpList Try.prog ops Q rest (f.put o.dst (.agg (sixC s))) w) : wpList Try.prog ops Q (o :: rest) f w :=
  wpList_load_mid hgd 23 x ho B 0 hx (sixC s).toList _ (fun j v hv => by
    rw [Nat.zero_add, p.cellAt]
    have hj : j < 8 := (List.getElem?_eq_some_iff.1 hv).1
    rcases (by omega : j = 0 ∨ j = 1 ∨ j = 2 ∨ j = 3 ∨ j = 4 ∨ j = 5 ∨ j = 6 ∨ j = 7) with rfl | rfl | rfl | rfl | rfl | rfl | rfl | rfl <;> exact hv) Try.underlying23 rfl (by kernel_rfl) hK
theorem at_dst {ops : Array Oper} {rest : List Oper} {o : Oper} {f : Act} {w : World} {Q : Exit → Act → World → Prop} (hgd : o.guard = none) (x : Operand) (ho : o.op = .load 23 x)
    {B : Nat} {s d : List Int} {h k : Int} {a : Option Addr} {len cap : Nat} (hx : f.eval x = .pointer (some ⟨B, 8, none⟩)) (p : PkIn B s d h k a len cap w)
    (hK : wpList Try.prog ops Q rest (f.put o.dst (.agg (sixC d))) w) : wpList Try.prog ops Q (o :: rest) f w :=
  wpList_load_mid hgd 23 x ho B 8 hx (sixC d).toList _ (fun j v hv => by
    rw [p.cellAt]
    have hj : j < 8 := (List.getElem?_eq_some_iff.1 hv).1
    rcases (by omega : j = 0 ∨ j = 1 ∨ j = 2 ∨ j = 3 ∨ j = 4 ∨ j = 5 ∨ j = 6 ∨ j = 7) with rfl | rfl | rfl | rfl | rfl | rfl | rfl | rfl <;> exact hv) Try.underlying23 rfl (by kernel_rfl) hK
/-- a packet stored, at a plain region's list. -/
theorem at_store {ops : Array Oper} {rest : List Oper} {o : Oper} {f : Act} {w : World} {Q : Exit → Act → World → Prop} (hgd : o.guard = none) (x y : Operand) (ho : o.op = .store 26 x y)
    {B : Nat} {s0 d0 : List Int} {h0 k0 : Int} {a0 : Option Addr} {len0 cap0 : Nat} (hx : f.eval x = .pointer (some ⟨B, 0, none⟩)) (p : PkIn B s0 d0 h0 k0 a0 len0 cap0 w)
    (s d : List Int) (h k : Int) (a : Option Addr) (len cap : Nat) (hy : f.eval y = .agg (pkC s d h k a len cap))
    (hK : ∀ w', PkIn B s d h k a len cap w' → Only B w w' → wpList Try.prog ops Q rest (f.put o.dst undef) w') : wpList Try.prog ops Q (o :: rest) f w :=
  wpList_store_row hgd 26 x y ho B _ hx hy 26 _ p (by kernel_rfl) rfl (by unfold pkC; simp [Value.oneCell']) (hK _ (p.stored s d h k a len cap) (only_setRow _ _ _))
theorem results_pk {fn : Func} {p u : Tmp} (h : fn.results = #[.cell p 26, .tmp u]) (tmps : Array Value) (w : World) (B : Nat) (s d : List Int) (hp k : Int) (a : Option Addr) (len cap : Nat)
    (ht : tmps.getD p undef = .pointer (some ⟨B, 0, none⟩)) (hg : PkIn B s d hp k a len cap w) :
    (results fn tmps).run Try.prog w = .ok (.tuple #[pk s d hp k a len cap, tmps.getD u undef]) w := by
  rw [results_cell_tmp h, ht]
  have hl := run_loadVar_row (P := Try.prog) w B 26 26 _ (0, 0) _ hg Try.underlying26 rfl (by kernel_rfl)
  simp [asAddr, hl, pk]
end Go.Proofs.Ytfjnioninjllkaa.V6
