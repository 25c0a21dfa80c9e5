/- A segment as a value and in its block; loads and stores of all of it and of its numbers. -/
import Derived.Test.YtbbbcfihnjidaaaDoorShUp
namespace Go.Proofs.YtbbbcfihnjidaaaDoor
open Go.RowKit

/-- a segment's cells: kind, from, to, seq, ack, flags, window, data. -/
def sgC (z : List Int) (a : Option Addr) (len cap : Nat) : Array Value := #[.int .i64 (el z 0), .int .i64 (el z 1), .int .i64 (el z 2), .int .i64 (el z 3), .int .i64 (el z 4), .int .i64 (el z 5), .int .i64 (el z 6), .slice a len cap]
/-- a segment's block. -/
def SgIn (B : Nat) (z : List Int) (a : Option Addr) (len cap : Nat) (w : World) : Prop := w.heap[B]? = some (.cells (sgC z a len cap) 36 (0, 0))
theorem SgIn.lt {B : Nat} {z : List Int} {a : Option Addr} {len cap : Nat} {w : World} (p : SgIn B z a len cap w) : B < w.heap.size := (Array.getElem?_eq_some_iff.1 p).1
theorem SgIn.kept {B : Nat} {z : List Int} {a : Option Addr} {len cap : Nat} {w w' : World} (p : SgIn B z a len cap w) (hb : Below w.heap.size w w') : SgIn B z a len cap w' := (hb.block B p.lt).trans p
theorem SgIn.grown {B : Nat} {z : List Int} {a : Option Addr} {len cap : Nat} {w w' : World} (p : SgIn B z a len cap w) {r : Option Nat} (hg : w.grownBy w' r) (hr : some B ≠ r) : SgIn B z a len cap w' := (hg.block _ p.lt hr).trans p
theorem sg_new (w : World) (z : List Int) (a : Option Addr) (len cap : Nat) : SgIn w.heap.size z a len cap (w.alloc (.cells (sgC z a len cap) 36)) := heap_alloc_new w _
theorem SgIn.cellAt {B : Nat} {z : List Int} {a : Option Addr} {len cap : Nat} {w : World} (p : SgIn B z a len cap w) (j : Nat) : w.cell? ⟨B, j, none⟩ = (sgC z a len cap)[j]? := cell_of_row w B j _ _ _ p
theorem SgIn.c0 {B : Nat} {z : List Int} {a : Option Addr} {len cap : Nat} {w : World} (p : SgIn B z a len cap w) : w.cell? ⟨B, 0, none⟩ = some (.int .i64 (el z 0)) := p.cellAt 0
theorem SgIn.c1 {B : Nat} {z : List Int} {a : Option Addr} {len cap : Nat} {w : World} (p : SgIn B z a len cap w) : w.cell? ⟨B, 1, none⟩ = some (.int .i64 (el z 1)) := p.cellAt 1
theorem SgIn.c2 {B : Nat} {z : List Int} {a : Option Addr} {len cap : Nat} {w : World} (p : SgIn B z a len cap w) : w.cell? ⟨B, 2, none⟩ = some (.int .i64 (el z 2)) := p.cellAt 2
theorem SgIn.c3 {B : Nat} {z : List Int} {a : Option Addr} {len cap : Nat} {w : World} (p : SgIn B z a len cap w) : w.cell? ⟨B, 3, none⟩ = some (.int .i64 (el z 3)) := p.cellAt 3
theorem SgIn.c4 {B : Nat} {z : List Int} {a : Option Addr} {len cap : Nat} {w : World} (p : SgIn B z a len cap w) : w.cell? ⟨B, 4, none⟩ = some (.int .i64 (el z 4)) := p.cellAt 4
theorem SgIn.c5 {B : Nat} {z : List Int} {a : Option Addr} {len cap : Nat} {w : World} (p : SgIn B z a len cap w) : w.cell? ⟨B, 5, none⟩ = some (.int .i64 (el z 5)) := p.cellAt 5
theorem SgIn.c6 {B : Nat} {z : List Int} {a : Option Addr} {len cap : Nat} {w : World} (p : SgIn B z a len cap w) : w.cell? ⟨B, 6, none⟩ = some (.int .i64 (el z 6)) := p.cellAt 6
theorem SgIn.c7 {B : Nat} {z : List Int} {a : Option Addr} {len cap : Nat} {w : World} (p : SgIn B z a len cap w) : w.cell? ⟨B, 7, none⟩ = some (.slice a len cap) := p.cellAt 7
theorem Only.sg {B B' : Nat} {w w' : World} (h : Only B w w') {z : List Int} {a : Option Addr} {len cap : Nat} (p : SgIn B' z a len cap w) (hne : B' ≠ B) : SgIn B' z a len cap w' := (h.2.2.2.2 B' hne).trans p
/-- a segment loaded, at a plain region's list. -/
theorem at_load {ops : Array Oper} {rest : List Oper} {o : Oper} {f : Act} {w : World} {Q : Exit → Act → World → Prop} (hgd : o.guard = none) (x : Operand) (ho : o.op = .load 36 x)
    {B : Nat} {z : List Int} {a : Option Addr} {len cap : Nat} (hx : f.eval x = .pointer (some ⟨B, 0, none⟩)) (p : SgIn B z a len cap w)
    (hK : wpList Tryd.prog ops Q rest (f.put o.dst (.agg (sgC z a len cap))) w) : wpList Tryd.prog ops Q (o :: rest) f w :=
  wpList_load_row hgd 36 x ho B hx 36 _ (0, 0) _ p Tryd.underlying36 rfl (by kernel_rfl) hK
theorem SgIn.stored {B : Nat} {z0 : List Int} {a0 : Option Addr} {len0 cap0 : Nat} {w : World} (p : SgIn B z0 a0 len0 cap0 w) (z : List Int) (a : Option Addr) (len cap : Nat) : SgIn B z a len cap (w.setRow B (sgC z a len cap)) := setRow_heap w B _ _ _ (0, 0) p
/-- a segment stored, at a plain region's list. -/
theorem at_store {ops : Array Oper} {rest : List Oper} {o : Oper} {f : Act} {w : World} {Q : Exit → Act → World → Prop} (hgd : o.guard = none) (x y : Operand) (ho : o.op = .store 36 x y)
    {B : Nat} {z0 : List Int} {a0 : Option Addr} {len0 cap0 : Nat} (hx : f.eval x = .pointer (some ⟨B, 0, none⟩)) (p : SgIn B z0 a0 len0 cap0 w)
    (z : List Int) (a : Option Addr) (len cap : Nat) (hy : f.eval y = .agg (sgC z a len cap))
    (hK : ∀ w', SgIn B z a len cap w' → Only B w w' → wpList Tryd.prog ops Q rest (f.put o.dst undef) w') : wpList Tryd.prog ops Q (o :: rest) f w :=
  wpList_store_row hgd 36 x y ho B _ hx hy 36 _ p (by kernel_rfl) rfl (by unfold sgC; simp [Value.oneCell']) (hK _ (p.stored z a len cap) (only_setRow _ _ _))
theorem results_sg {fn : Func} {p u : Tmp} (h : fn.results = #[.cell p 36, .tmp u]) (tmps : Array Value) (w : World) (B : Nat) (z : List Int) (a : Option Addr) (len cap : Nat)
    (ht : tmps.getD p undef = .pointer (some ⟨B, 0, none⟩)) (hg : SgIn B z a len cap w) :
    (results fn tmps).run Tryd.prog w = .ok (.tuple #[.agg (sgC z a len cap), tmps.getD u undef]) w := by
  rw [results_cell_tmp h, ht]
  have hl := run_loadVar_row (P := Tryd.prog) w B 36 36 _ (0, 0) _ hg Tryd.underlying36 rfl (by kernel_rfl)
  simp [asAddr, hl]
theorem sg_result {fn : Func} {p : Tmp} (h : fn.results = #[.cell p 36]) (tmps : Array Value) (w : World) (B : Nat) (z : List Int) (a : Option Addr) (len cap : Nat)
    (ht : tmps.getD p undef = .pointer (some ⟨B, 0, none⟩)) (hg : SgIn B z a len cap w) : (results fn tmps).run Tryd.prog w = .ok (.agg (sgC z a len cap)) w :=
  results_cell_row h tmps w B 36 _ (0, 0) _ ht hg Tryd.underlying36 rfl (by kernel_rfl)
/-- a segment's load, held shut for a walk. -/
def gload (x : Value) : Sem Value := Instr.loadAt 36 x
theorem gload_shut (x : Value) : Instr.loadAt 36 x = gload x := rfl
theorem SgIn.gl {B : Nat} {z : List Int} {a : Option Addr} {len cap : Nat} {w : World} (p : SgIn B z a len cap w) : (gload (.pointer (some ⟨B, 0, none⟩))).run Tryd.prog w = .ok (.agg (sgC z a len cap)) w :=
  run_loadAt_mid w B 0 36 (sgC z a len cap).toList _ (fun j v hv => by
    rw [Nat.zero_add, p.cellAt]
    simpa using hv) Tryd.underlying36 rfl (by kernel_rfl)
/-- a segment's store, held shut for a walk. -/
def gstore (x y : Value) : Sem Unit := Instr.storeAt 36 x y
theorem gstore_shut (x y : Value) : Instr.storeAt 36 x y = gstore x y := rfl
theorem SgIn.held {B : Nat} {z0 : List Int} {a0 : Option Addr} {len0 cap0 : Nat} {w : World} (p : SgIn B z0 a0 len0 cap0 w) (z : List Int) (a : Option Addr) (len cap : Nat) :
    ∃ w', (gstore (.pointer (some ⟨B, 0, none⟩)) (.agg (sgC z a len cap))).run Tryd.prog w = .ok () w' ∧ SgIn B z a len cap w' ∧ Only B w w' := by
  refine ⟨w.setRow B (sgC z a len cap), ?_, p.stored z a len cap, only_setRow _ _ _⟩
  unfold gstore
  simp only [Instr.storeAt, Instr.sureAddr, Sem.run_bind, Sem.run_pure, Result.andThen_ok]
  exact run_storeVar_row w B 36 36 _ (sgC z a len cap) p (by kernel_rfl) rfl (by unfold sgC; simp [Value.oneCell'])
/-- upTo of new numbers; the world behind it is another one, with all that was there. -/
theorem upto1b (m x : Int) (W : World) : Calls Tryd.prog 33 #[.int .i64 m, .slice (some ⟨W.heap.size, 0, none⟩) 1 1] (W.alloc (.cells #[.int .i64 x] 3)) fun e w' => e = .returned (.bool (up m x)) ∧ Below W.heap.size W w' :=
  (upto1 m x W.heap.size _ (ints_new W [x])).mono fun e w' ⟨h1, h2⟩ => ⟨h1, by rw [h2]; exact al_below _ _⟩
theorem upto2b (m x y : Int) (W : World) : Calls Tryd.prog 33 #[.int .i64 m, .slice (some ⟨W.heap.size, 0, none⟩) 2 2] (W.alloc (.cells #[.int .i64 x, .int .i64 y] 3)) fun e w' => e = .returned (.bool (ups m [x, y])) ∧ Below W.heap.size W w' :=
  (upto_any m W.heap.size 2 [x, y] _ rfl (by omega) (ints_new W [x, y])).mono fun e w' ⟨h1, h2⟩ => ⟨h1, by rw [h2]; exact al_below _ _⟩
theorem upto4b (m x y u v : Int) (W : World) : Calls Tryd.prog 33 #[.int .i64 m, .slice (some ⟨W.heap.size, 0, none⟩) 4 4] (W.alloc (.cells #[.int .i64 x, .int .i64 y, .int .i64 u, .int .i64 v] 3)) fun e w' => e = .returned (.bool (ups m [x, y, u, v])) ∧ Below W.heap.size W w' :=
  (upto_any m W.heap.size 4 [x, y, u, v] _ rfl (by omega) (ints_new W [x, y, u, v])).mono fun e w' ⟨h1, h2⟩ => ⟨h1, by rw [h2]; exact al_below _ _⟩
/-- the numbers of a stream's segment. -/
def os (z : List Int) : Bool := ups 4294967295 [el z 3, el z 4] && up 31 (el z 5) && up 65535 (el z 6)
set_option maxRecDepth 100000 in
set_option maxHeartbeats 2000000 in
theorem stream_any (z : List Int) (a : Option Addr) (len cap : Nat) (w : World) :
    Calls Tryd.prog 34 #[.agg (sgC z a len cap)] w fun e w' => e = .returned (.bool (os z)) ∧ Below w.heap.size w w' := by
  have HB := hide (al_below w (.cells (sgC z a len cap) 36))
  have HP := hide (sg_new w z a len cap)
  have HO := hide (show os z = (ups 4294967295 [el z 3, el z 4] && up 31 (el z 5) && up 65535 (el z 6)) from rfl)
  generalize os z = O at HO ⊢
  generalize h1 : ups 4294967295 [el z 3, el z 4] = u1 at HO
  generalize h2 : up 31 (el z 5) = u2 at HO
  generalize h3 : up 65535 (el z 6) = u3 at HO
  go_enter Tryd.func34, Tryd.ntmps34
  go_upto_region 1 with fail
  generalize w.alloc (.cells (sgC z a len cap) 36) = W at HB HP ⊢
  have l3 := HP.out.c3
  have l4 := HP.out.c4
  have l5 := HP.out.c5
  have l6 := HP.out.c6
  cases u1
  case' true => cases u2
  all_goals
    go_wp2_with (first
      | (go_at_call 33; (with_reducible refine (upto2b _ _ _ _).mono ?_); rintro e w1 ⟨rfl, hb1⟩; replace HB := hide (bt HB.out hb1); replace HP := hide (HP.out.kept hb1); clear hb1 l3 l4 l5 l6; have l5 := HP.out.c5; have l6 := HP.out.c6)
      | (go_at_call 33; (with_reducible refine (upto1b _ _ _).mono ?_); rintro e w2 ⟨rfl, hb2⟩; replace HB := hide (bt HB.out hb2); replace HP := hide (HP.out.kept hb2); clear hb2 l5 l6; have l5 := HP.out.c5; have l6 := HP.out.c6))
    go_ret
    exact ⟨by rw [HO.out]; rfl, HB.out⟩
end Go.Proofs.YtbbbcfihnjidaaaDoor
