/- A packet of sixes as a value and in its block; loads and stores of all of it, of its addresses and of its numbers, as equations that a walk takes. Noughts. Two addresses held side by side. The statements' own question whether two packets of sixes are the same. A packet of sixes stored, held shut. -/
import Derived.Test.YtfjnioninjllkaaDoorXOver6
import Derived.Deep.MidRow
import Derived.Laws.ResultCell
namespace Go.Proofs.YtfjnioninjllkaaDoor.V6
open Go.RowKit

/-- a packet's cells. -/
def pkC (s d : List Int) (h k : Int) (a : Option Addr) (len cap : Nat) : Array Value := #[.int .i64 (el s 0), .int .i64 (el s 1), .int .i64 (el s 2), .int .i64 (el s 3), .int .i64 (el s 4), .int .i64 (el s 5), .int .i64 (el s 6), .int .i64 (el s 7), .int .i64 (el d 0), .int .i64 (el d 1), .int .i64 (el d 2), .int .i64 (el d 3), .int .i64 (el d 4), .int .i64 (el d 5), .int .i64 (el d 6), .int .i64 (el d 7), .int .i64 h, .int .i64 k, .slice a len cap]
/-- a packet as a value. -/
def pk (s d : List Int) (h k : Int) (a : Option Addr) (len cap : Nat) : Value := .agg (pkC s d h k a len cap)
theorem pkC_size (s d : List Int) (h k : Int) (a : Option Addr) (len cap : Nat) : (pkC s d h k a len cap).size = 19 := rfl
/-- a packet's block. -/
def PkIn (B : Nat) (s d : List Int) (h k : Int) (a : Option Addr) (len cap : Nat) (w : World) : Prop := w.heap[B]? = some (.cells (pkC s d h k a len cap) 26 (0, 0))
theorem PkIn.lt {B : Nat} {s d : List Int} {h k : Int} {a : Option Addr} {len cap : Nat} {w : World} (p : PkIn B s d h k a len cap w) : B < w.heap.size := (Array.getElem?_eq_some_iff.1 p).1
theorem PkIn.kept {B : Nat} {s d : List Int} {h k : Int} {a : Option Addr} {len cap : Nat} {w w' : World} (p : PkIn B s d h k a len cap w) (hb : Below w.heap.size w w') : PkIn B s d h k a len cap w' := (hb.block B p.lt).trans p
theorem PkIn.other {B : Nat} {s d : List Int} {h k : Int} {a : Option Addr} {len cap : Nat} {w : World} (p : PkIn B s d h k a len cap w) (q : Addr) (hq : B ≠ q.block) (v : Value) : PkIn B s d h k a len cap (w.setCell q v) := (Below.heap_setCell w q v B hq).trans p
theorem PkIn.grown {B : Nat} {s d : List Int} {h k : Int} {a : Option Addr} {len cap : Nat} {w w' : World} (p : PkIn B s d h k a len cap w) {r : Option Nat} (hg : w.grownBy w' r) (hr : some B ≠ r) : PkIn B s d h k a len cap w' := (hg.block _ p.lt hr).trans p
theorem pk_new (w : World) (s d : List Int) (h k : Int) (a : Option Addr) (len cap : Nat) : PkIn w.heap.size s d h k a len cap (w.alloc (.cells (pkC s d h k a len cap) 26)) := heap_alloc_new w _
theorem PkIn.cellAt {B : Nat} {s d : List Int} {h k : Int} {a : Option Addr} {len cap : Nat} {w : World} (p : PkIn B s d h k a len cap w) (j : Nat) : w.cell? ⟨B, j, none⟩ = (pkC s d h k a len cap)[j]? := cell_of_row w B j _ _ _ p
/-- the whole packet. -/
theorem PkIn.load {B : Nat} {s d : List Int} {h k : Int} {a : Option Addr} {len cap : Nat} {w : World} (p : PkIn B s d h k a len cap w) : (loadCellsFrom ⟨B, 0, none⟩ 0 19 #[]).run Tryd.prog w = .ok (pkC s d h k a len cap) w :=
  run_loadCells_list (P := Tryd.prog) w ⟨B, 0, none⟩ (pkC s d h k a len cap).toList (fun j v hv => by
    rw [add_at, Nat.zero_add, p.cellAt]
    simpa using hv)
/-- its source. -/
theorem PkIn.src {B : Nat} {s d : List Int} {h k : Int} {a : Option Addr} {len cap : Nat} {w : World} (p : PkIn B s d h k a len cap w) : (loadCellsFrom ⟨B, 0, none⟩ 0 8 #[]).run Tryd.prog w = .ok (sixC s) w :=
  run_loadCells_list (P := Tryd.prog) w ⟨B, 0, none⟩ (sixC s).toList (fun j v hv => by
    rw [add_at, Nat.zero_add, p.cellAt]
    have hj : j < 8 := (List.getElem?_eq_some_iff.1 hv).1
    rcases (by omega : j = 0 ∨ j = 1 ∨ j = 2 ∨ j = 3 ∨ j = 4 ∨ j = 5 ∨ j = 6 ∨ j = 7) with rfl | rfl | rfl | rfl | rfl | rfl | rfl | rfl <;> exact hv)
/-- its goal. -/
theorem PkIn.dst {B : Nat} {s d : List Int} {h k : Int} {a : Option Addr} {len cap : Nat} {w : World} (p : PkIn B s d h k a len cap w) : (loadCellsFrom ⟨B, 8, none⟩ 0 8 #[]).run Tryd.prog w = .ok (sixC d) w :=
  run_loadCells_list (P := Tryd.prog) w ⟨B, 8, none⟩ (sixC d).toList (fun j v hv => by
    rw [add_at, p.cellAt]
    have hj : j < 8 := (List.getElem?_eq_some_iff.1 hv).1
    rcases (by omega : j = 0 ∨ j = 1 ∨ j = 2 ∨ j = 3 ∨ j = 4 ∨ j = 5 ∨ j = 6 ∨ j = 7) with rfl | rfl | rfl | rfl | rfl | rfl | rfl | rfl <;> exact hv)
theorem PkIn.hop {B : Nat} {s d : List Int} {h k : Int} {a : Option Addr} {len cap : Nat} {w : World} (p : PkIn B s d h k a len cap w) : w.cell? ⟨B, 16, none⟩ = some (.int .i64 h) := p.cellAt 16
theorem PkIn.kind {B : Nat} {s d : List Int} {h k : Int} {a : Option Addr} {len cap : Nat} {w : World} (p : PkIn B s d h k a len cap w) : w.cell? ⟨B, 17, none⟩ = some (.int .i64 k) := p.cellAt 17
theorem PkIn.body {B : Nat} {s d : List Int} {h k : Int} {a : Option Addr} {len cap : Nat} {w : World} (p : PkIn B s d h k a len cap w) : w.cell? ⟨B, 18, none⟩ = some (.slice a len cap) := p.cellAt 18
/-- a packet stored. -/
theorem PkIn.store {B : Nat} {s0 d0 : List Int} {h0 k0 : Int} {a0 : Option Addr} {len0 cap0 : Nat} {w : World} (p : PkIn B s0 d0 h0 k0 a0 len0 cap0 w) (s d : List Int) (h k : Int) (a : Option Addr) (len cap : Nat) : (storeCells ⟨B, 0, none⟩ (pkC s d h k a len cap).toList 0).run Tryd.prog w = .ok () (w.setRow B (pkC s d h k a len cap)) := by
  have := run_storeVar_row (P := Tryd.prog) w B 26 26 _ (pkC s d h k a len cap) p (by kernel_rfl) rfl (by unfold pkC; simp [Value.oneCell'])
  have hi : (Tryd.prog.info? 26).map (·.size) = some 19 := by kernel_rfl
  cases hq : Tryd.prog.info? 26 with
  | none => rw [hq] at hi; cases hi
  | some i =>
    have hs : (pkC s d h k a len cap).size = i.size := by rw [hq] at hi; simp at hi; rw [hi]; rfl
    simpa [storeVar, sizeOf, typeInfo, hq, Value.cells, hs] using this
theorem PkIn.stored {B : Nat} {s0 d0 : List Int} {h0 k0 : Int} {a0 : Option Addr} {len0 cap0 : Nat} {w : World} (p : PkIn B s0 d0 h0 k0 a0 len0 cap0 w) (s d : List Int) (h k : Int) (a : Option Addr) (len cap : Nat) : PkIn B s d h k a len cap (w.setRow B (pkC s d h k a len cap)) := setRow_heap w B _ _ _ (0, 0) p
/-- a packet loaded, at a plain region's list. -/
theorem at_load {ops : Array Oper} {rest : List Oper} {o : Oper} {f : Act} {w : World} {Q : Exit → Act → World → Prop} (hgd : o.guard = none) (x : Operand) (ho : o.op = .load 26 x)
    {B : Nat} {s d : List Int} {h k : Int} {a : Option Addr} {len cap : Nat} (hx : f.eval x = .pointer (some ⟨B, 0, none⟩)) (p : PkIn B s d h k a len cap w)
    (hK : wpList Tryd.prog ops Q rest (f.put o.dst (.agg (pkC s d h k a len cap))) w) : wpList Tryd.prog ops Q (o :: rest) f w :=
  wpList_load_row hgd 26 x ho B hx 26 _ (0, 0) _ p Tryd.underlying26 rfl (by kernel_rfl) hK
theorem at_src {ops : Array Oper} {rest : List Oper} {o : Oper} {f : Act} {w : World} {Q : Exit → Act → World → Prop} (hgd : o.guard = none) (x : Operand) (ho : o.op = .load 23 x)
    {B : Nat} {s d : List Int} {h k : Int} {a : Option Addr} {len cap : Nat} (hx : f.eval x = .pointer (some ⟨B, 0, none⟩)) (p : PkIn B s d h k a len cap w)
    (hK : wpList Tryd.prog ops Q rest (f.put o.dst (.agg (sixC s))) w) : wpList Tryd.prog ops Q (o :: rest) f w :=
  wpList_load_mid hgd 23 x ho B 0 hx (sixC s).toList _ (fun j v hv => by
    rw [Nat.zero_add, p.cellAt]
    have hj : j < 8 := (List.getElem?_eq_some_iff.1 hv).1
    rcases (by omega : j = 0 ∨ j = 1 ∨ j = 2 ∨ j = 3 ∨ j = 4 ∨ j = 5 ∨ j = 6 ∨ j = 7) with rfl | rfl | rfl | rfl | rfl | rfl | rfl | rfl <;> exact hv) Tryd.underlying23 rfl (by kernel_rfl) hK
theorem at_dst {ops : Array Oper} {rest : List Oper} {o : Oper} {f : Act} {w : World} {Q : Exit → Act → World → Prop} (hgd : o.guard = none) (x : Operand) (ho : o.op = .load 23 x)
    {B : Nat} {s d : List Int} {h k : Int} {a : Option Addr} {len cap : Nat} (hx : f.eval x = .pointer (some ⟨B, 8, none⟩)) (p : PkIn B s d h k a len cap w)
    (hK : wpList Tryd.prog ops Q rest (f.put o.dst (.agg (sixC d))) w) : wpList Tryd.prog ops Q (o :: rest) f w :=
  wpList_load_mid hgd 23 x ho B 8 hx (sixC d).toList _ (fun j v hv => by
    rw [p.cellAt]
    have hj : j < 8 := (List.getElem?_eq_some_iff.1 hv).1
    rcases (by omega : j = 0 ∨ j = 1 ∨ j = 2 ∨ j = 3 ∨ j = 4 ∨ j = 5 ∨ j = 6 ∨ j = 7) with rfl | rfl | rfl | rfl | rfl | rfl | rfl | rfl <;> exact hv) Tryd.underlying23 rfl (by kernel_rfl) hK
/-- a packet stored, at a plain region's list. -/
theorem at_store {ops : Array Oper} {rest : List Oper} {o : Oper} {f : Act} {w : World} {Q : Exit → Act → World → Prop} (hgd : o.guard = none) (x y : Operand) (ho : o.op = .store 26 x y)
    {B : Nat} {s0 d0 : List Int} {h0 k0 : Int} {a0 : Option Addr} {len0 cap0 : Nat} (hx : f.eval x = .pointer (some ⟨B, 0, none⟩)) (p : PkIn B s0 d0 h0 k0 a0 len0 cap0 w)
    (s d : List Int) (h k : Int) (a : Option Addr) (len cap : Nat) (hy : f.eval y = .agg (pkC s d h k a len cap))
    (hK : ∀ w', PkIn B s d h k a len cap w' → Only B w w' → wpList Tryd.prog ops Q rest (f.put o.dst undef) w') : wpList Tryd.prog ops Q (o :: rest) f w :=
  wpList_store_row hgd 26 x y ho B _ hx hy 26 _ p (by kernel_rfl) rfl (by unfold pkC; simp [Value.oneCell']) (hK _ (p.stored s d h k a len cap) (only_setRow _ _ _))
theorem results_pk {fn : Func} {p u : Tmp} (h : fn.results = #[.cell p 26, .tmp u]) (tmps : Array Value) (w : World) (B : Nat) (s d : List Int) (hp k : Int) (a : Option Addr) (len cap : Nat)
    (ht : tmps.getD p undef = .pointer (some ⟨B, 0, none⟩)) (hg : PkIn B s d hp k a len cap w) :
    (results fn tmps).run Tryd.prog w = .ok (.tuple #[pk s d hp k a len cap, tmps.getD u undef]) w := by
  rw [results_cell_tmp h, ht]
  have hl := run_loadVar_row (P := Tryd.prog) w B 26 26 _ (0, 0) _ hg Tryd.underlying26 rfl (by kernel_rfl)
  simp [asAddr, hl, pk]
end Go.Proofs.YtfjnioninjllkaaDoor.V6

namespace Go.Proofs.YtfjnioninjllkaaDoor.V6
open Go.RowKit
/-- a new packet of noughts. -/
def zero6 : Array Value := #[.int .i64 0, .int .i64 0, .int .i64 0, .int .i64 0, .int .i64 0, .int .i64 0, .int .i64 0, .int .i64 0, .int .i64 0, .int .i64 0, .int .i64 0, .int .i64 0, .int .i64 0, .int .i64 0, .int .i64 0, .int .i64 0, .int .i64 0, .int .i64 0, .slice none 0 0]
theorem zero_new (w : World) : PkIn w.heap.size [] [] 0 0 none 0 0 (w.alloc (.cells zero6 26)) := pk_new w [] [] 0 0 none 0 0
end Go.Proofs.YtfjnioninjllkaaDoor.V6

namespace Go.Proofs.YtfjnioninjllkaaDoor.V6
open Go.RowKit
set_option maxHeartbeats 4000000 in
set_option maxRecDepth 100000 in
theorem eq_agg (x0 x1 x2 x3 x4 x5 x6 x7 y0 y1 y2 y3 y4 y5 y6 y7 : Int) (w : World) : (Op.equalIn 10000 23 (.agg #[.int .i64 x0, .int .i64 x1, .int .i64 x2, .int .i64 x3, .int .i64 x4, .int .i64 x5, .int .i64 x6, .int .i64 x7]) (.agg #[.int .i64 y0, .int .i64 y1, .int .i64 y2, .int .i64 y3, .int .i64 y4, .int .i64 y5, .int .i64 y6, .int .i64 y7])).run Tryd.prog w = .ok (x0 == y0 && x1 == y1 && x2 == y2 && x3 == y3 && x4 == y4 && x5 == y5 && x6 == y6 && x7 == y7) w := by
  have u3 := Tryd.underlying3
  have a3 := Tryd.isAgg3
  have z3 := Tryd.sizeOf3
  rw [show (10000 : Nat) = 9999 + 1 from rfl, Op.equalIn]
  simp only [Sem.run_bind, run_underlying Tryd.underlying23, Result.andThen_ok]
  simp only [Std.Legacy.Range.forIn_eq_forIn_range', Std.Legacy.Range.size, Nat.sub_zero, Nat.add_sub_cancel, Nat.div_one, List.range'_succ, List.range'_zero, List.forIn_cons, List.forIn_nil]
  go_simp
  by_cases h0 : x0 = y0
  case neg => simp [h0]
  by_cases h1 : x1 = y1
  case neg => simp [h0, h1]
  by_cases h2 : x2 = y2
  case neg => simp [h0, h1, h2]
  by_cases h3 : x3 = y3
  case neg => simp [h0, h1, h2, h3]
  by_cases h4 : x4 = y4
  case neg => simp [h0, h1, h2, h3, h4]
  by_cases h5 : x5 = y5
  case neg => simp [h0, h1, h2, h3, h4, h5]
  by_cases h6 : x6 = y6
  case neg => simp [h0, h1, h2, h3, h4, h5, h6]
  by_cases h7 : x7 = y7
  case neg => simp [h0, h1, h2, h3, h4, h5, h6, h7]
  simp [h0, h1, h2, h3, h4, h5, h6, h7]
/-- are two addresses one? -/
def eqz (a b : List Int) : Bool := el a 0 == el b 0 && el a 1 == el b 1 && el a 2 == el b 2 && el a 3 == el b 3 && el a 4 == el b 4 && el a 5 == el b 5 && el a 6 == el b 6 && el a 7 == el b 7
theorem eqz_iff (a b : List Int) : eqz a b = true ↔ ∀ j, j < 8 → el a j = el b j := by
  unfold eqz
  simp only [Bool.and_eq_true, beq_iff_eq]
  refine ⟨fun ⟨⟨⟨⟨⟨⟨⟨h0, h1⟩, h2⟩, h3⟩, h4⟩, h5⟩, h6⟩, h7⟩ j hj => ?_, fun h => ⟨⟨⟨⟨⟨⟨⟨h 0 (by omega), h 1 (by omega)⟩, h 2 (by omega)⟩, h 3 (by omega)⟩, h 4 (by omega)⟩, h 5 (by omega)⟩, h 6 (by omega)⟩, h 7 (by omega)⟩⟩
  rcases (by omega : j = 0 ∨ j = 1 ∨ j = 2 ∨ j = 3 ∨ j = 4 ∨ j = 5 ∨ j = 6 ∨ j = 7) with rfl | rfl | rfl | rfl | rfl | rfl | rfl | rfl <;> assumption
theorem eq_six (a b : List Int) (w : World) : (Op.equalIn 10000 23 (.agg #[.int .i64 (el a 0), .int .i64 (el a 1), .int .i64 (el a 2), .int .i64 (el a 3), .int .i64 (el a 4), .int .i64 (el a 5), .int .i64 (el a 6), .int .i64 (el a 7)]) (.agg #[.int .i64 (el b 0), .int .i64 (el b 1), .int .i64 (el b 2), .int .i64 (el b 3), .int .i64 (el b 4), .int .i64 (el b 5), .int .i64 (el b 6), .int .i64 (el b 7)])).run Tryd.prog w = .ok (eqz a b) w := eq_agg _ _ _ _ _ _ _ _ _ _ _ _ _ _ _ _ w
theorem eq_same (z : List Int) (w : World) : (Op.equalIn 10000 23 (.agg (sixC z)) (.agg (sixC z))).run Tryd.prog w = .ok true w := by
  have := eq_six z z w
  rw [(eqz_iff z z).2 (fun _ _ => rfl)] at this
  exact this
theorem PkIn.hsrc {B : Nat} {s d : List Int} {h k : Int} {a : Option Addr} {len cap : Nat} {w : World} (p : PkIn B s d h k a len cap w) : (hload (.pointer (some ⟨B, 0, none⟩))).run Tryd.prog w = .ok (.agg (sixC s)) w :=
  run_loadAt_mid w B 0 23 (sixC s).toList _ (fun j v hv => by
    rw [Nat.zero_add, p.cellAt]
    have hj : j < 8 := (List.getElem?_eq_some_iff.1 hv).1
    rcases (by omega : j = 0 ∨ j = 1 ∨ j = 2 ∨ j = 3 ∨ j = 4 ∨ j = 5 ∨ j = 6 ∨ j = 7) with rfl | rfl | rfl | rfl | rfl | rfl | rfl | rfl <;> exact hv) Tryd.underlying23 rfl (by kernel_rfl)
theorem PkIn.hdst {B : Nat} {s d : List Int} {h k : Int} {a : Option Addr} {len cap : Nat} {w : World} (p : PkIn B s d h k a len cap w) : (hload (.pointer (some ⟨B, 8, none⟩))).run Tryd.prog w = .ok (.agg (sixC d)) w :=
  run_loadAt_mid w B 8 23 (sixC d).toList _ (fun j v hv => by
    rw [p.cellAt]
    have hj : j < 8 := (List.getElem?_eq_some_iff.1 hv).1
    rcases (by omega : j = 0 ∨ j = 1 ∨ j = 2 ∨ j = 3 ∨ j = 4 ∨ j = 5 ∨ j = 6 ∨ j = 7) with rfl | rfl | rfl | rfl | rfl | rfl | rfl | rfl <;> exact hv) Tryd.underlying23 rfl (by kernel_rfl)
end Go.Proofs.YtfjnioninjllkaaDoor.V6

namespace Go.Proofs.YtfjnioninjllkaaDoor.V6
open Go.RowKit
attribute [local go_sem ↓] hload_shut
set_option maxRecDepth 100000 in
set_option maxHeartbeats 2000000 in
theorem pack6s_same (s d : List Int) (h k : Int) (a1 a2 : Option Addr) (l1 l2 c1 c2 : Nat) (body : List Int) (w : World) (r1 : Row8 w a1 l1 c1 body) (r2 : Row8 w a2 l2 c2 body) :
    Calls Tryd.prog 11 #[pk s d h k a1 l1 c1, pk s d h k a2 l2 c2] w fun e w' => e = .returned (.bool true) ∧ Below w.heap.size w w' := by
  have b1 := al_below w (.cells (pkC s d h k a1 l1 c1) 26)
  have b2 := al_below (w.alloc (.cells (pkC s d h k a1 l1 c1) 26)) (.cells (pkC s d h k a2 l2 c2) 26)
  have HB := hide (bt b1 b2)
  have P1 := hide ((pk_new w s d h k a1 l1 c1).kept b2)
  have P2 := hide (pk_new (w.alloc (.cells (pkC s d h k a1 l1 c1) 26)) s d h k a2 l2 c2)
  rw [World.size_alloc] at P2
  have v1 := conv8 (r1.below HB.out)
  have v2 := conv8 (r2.below HB.out)
  have q := str8_eq r1.2.2.1 r2.2.2.1 true (by simp)
  have qs := eq_same s
  have qd := eq_same d
  have qh : (h == h) = true := by simp
  have qk : (k == k) = true := by simp
  clear r1 r2 b1 b2
  unfold pk
  go_enter Tryd.func11, Tryd.ntmps11
  go_upto_region 1 with fail
  generalize (w.alloc (.cells (pkC s d h k a1 l1 c1) 26)).alloc (.cells (pkC s d h k a2 l2 c2) 26) = W at HB P1 P2 v1 v2 ⊢
  have x1 := P1.out.hsrc
  have x2 := P2.out.hsrc
  have y1 := P1.out.hdst
  have y2 := P2.out.hdst
  have z1 := P1.out.hop
  have z2 := P2.out.hop
  have t1 := P1.out.kind
  have t2 := P2.out.kind
  have u1 := P1.out.body
  have u2 := P2.out.body
  go_wp2
  go_ret
  exact ⟨rfl, HB.out⟩
end Go.Proofs.YtfjnioninjllkaaDoor.V6

namespace Go.Proofs.YtfjnioninjllkaaDoor.V6
open Go.RowKit
theorem pk_result {fn : Func} {p : Tmp} (h : fn.results = #[.cell p 26]) (tmps : Array Value) (w : World) (B : Nat) (s d : List Int) (hp k : Int) (a : Option Addr) (len cap : Nat)
    (ht : tmps.getD p undef = .pointer (some ⟨B, 0, none⟩)) (hg : PkIn B s d hp k a len cap w) : (results fn tmps).run Tryd.prog w = .ok (.agg (pkC s d hp k a len cap)) w :=
  results_cell_row h tmps w B 26 _ (0, 0) _ ht hg Tryd.underlying26 rfl (by kernel_rfl)
/-- a packet's store, held shut for a walk. -/
def hstore (x y : Value) : Sem Unit := Instr.storeAt 26 x y
theorem hstore_shut (x y : Value) : Instr.storeAt 26 x y = hstore x y := rfl
theorem PkIn.held {B : Nat} {s0 d0 : List Int} {h0 k0 : Int} {a0 : Option Addr} {len0 cap0 : Nat} {w : World} (p : PkIn B s0 d0 h0 k0 a0 len0 cap0 w) (s d : List Int) (h k : Int) (a : Option Addr) (len cap : Nat) :
    ∃ w', (hstore (.pointer (some ⟨B, 0, none⟩)) (.agg (pkC s d h k a len cap))).run Tryd.prog w = .ok () w' ∧ PkIn B s d h k a len cap w' ∧ Only B w w' := by
  refine ⟨w.setRow B (pkC s d h k a len cap), ?_, p.stored s d h k a len cap, only_setRow _ _ _⟩
  unfold hstore
  simp only [Instr.storeAt, Instr.sureAddr, Sem.run_bind, Sem.run_pure, Result.andThen_ok]
  exact run_storeVar_row w B 26 26 _ (pkC s d h k a len cap) p (by kernel_rfl) rfl (by unfold pkC; simp [Value.oneCell'])
end Go.Proofs.YtfjnioninjllkaaDoor.V6
