/- Addresses loaded, compared, looked at by the document's own SixFault. The document's own ports as they lie in the heap: a row of addresses, a row of bools, and the block that holds both. The document's own Has, Give and Free of ports, by contracts. The document's own Blocks of somebody, by a contract. The document's own Take of a port, by contracts. The document's own Take of a port, by contracts. The document's own NewPorts, by a contract. -/
import Derived.Test.YtkhahbghmdccaaaGreatT18
import Derived.Test.YtkhahbghmdccaaaGreatProg
import Derived.Deep.MidRow
import Derived.Laws.ResultCell
import Derived.Deep.CutBlock
import Derived.Deep.QuietTactic
import Derived.OwnWalk
import Derived.Deep.RegionHeld3
import Derived.Deep.DrawnRows
import Derived.WalkKit
import Derived.LaidEql
import Derived.BigQuiet
import Derived.Below
import Derived.Laws.AppendOwnNone
import Derived.Laws.MakeOwn
import Derived.Deep.RegionLaw
import Derived.Test.YtkhahbghmdccaaaGreatT01
namespace Go.Proofs.YtkhahbghmdccaaaGreat
open Go.RowKit
set_option maxHeartbeats 4000000 in
set_option maxRecDepth 100000 in
theorem eq_agg (x0 x1 x2 x3 x4 x5 x6 x7 y0 y1 y2 y3 y4 y5 y6 y7 : Int) (w : World) : (Op.equalIn 10000 23 (.agg #[.int .i64 x0, .int .i64 x1, .int .i64 x2, .int .i64 x3, .int .i64 x4, .int .i64 x5, .int .i64 x6, .int .i64 x7]) (.agg #[.int .i64 y0, .int .i64 y1, .int .i64 y2, .int .i64 y3, .int .i64 y4, .int .i64 y5, .int .i64 y6, .int .i64 y7])).run Tryz.prog w = .ok (x0 == y0 && x1 == y1 && x2 == y2 && x3 == y3 && x4 == y4 && x5 == y5 && x6 == y6 && x7 == y7) w := by
  have u3 := Tryz.underlying3
  have a3 := Tryz.isAgg3
  have z3 := Tryz.sizeOf3
  rw [show (10000 : Nat) = 9999 + 1 from rfl, Op.equalIn]
  simp only [Sem.run_bind, run_underlying Tryz.underlying23, Result.andThen_ok]
  simp only [Std.Legacy.Range.forIn_eq_forIn_range', Std.Legacy.Range.size, Nat.sub_zero, Nat.add_sub_cancel, Nat.div_one, List.range'_succ, List.range'_zero, List.forIn_cons, List.forIn_nil]
  go_simp
  by_cases h0 : x0 = y0
  case neg => simp [h0]
  by_cases h1 : x1 = y1
  case neg => simp [h0, h1]
  by_cases h2 : x2 = y2
  case neg => simp [h0, h1, h2]
  by_cases h3 : x3 = y3
  case neg => simp [h0, h1, h2, h3]
  by_cases h4 : x4 = y4
  case neg => simp [h0, h1, h2, h3, h4]
  by_cases h5 : x5 = y5
  case neg => simp [h0, h1, h2, h3, h4, h5]
  by_cases h6 : x6 = y6
  case neg => simp [h0, h1, h2, h3, h4, h5, h6]
  by_cases h7 : x7 = y7
  case neg => simp [h0, h1, h2, h3, h4, h5, h6, h7]
  simp [h0, h1, h2, h3, h4, h5, h6, h7]
theorem eq_six (a b : List Int) (w : World) : (Op.equalIn 10000 23 (.agg #[.int .i64 (el a 0), .int .i64 (el a 1), .int .i64 (el a 2), .int .i64 (el a 3), .int .i64 (el a 4), .int .i64 (el a 5), .int .i64 (el a 6), .int .i64 (el a 7)]) (.agg #[.int .i64 (el b 0), .int .i64 (el b 1), .int .i64 (el b 2), .int .i64 (el b 3), .int .i64 (el b 4), .int .i64 (el b 5), .int .i64 (el b 6), .int .i64 (el b 7)])).run Tryz.prog w = .ok (eqz a b) w := eq_agg _ _ _ _ _ _ _ _ _ _ _ _ _ _ _ _ w
end Go.Proofs.YtkhahbghmdccaaaGreat

namespace Go.Proofs.YtkhahbghmdccaaaGreat
open Go.RowKit
theorem SixIn.stored {B : Nat} {z0 : List Int} {w : World} (p : SixIn B z0 w) (z : List Int) : SixIn B z (w.setRow B (sixC z)) := setRow_heap w B _ _ _ (0, 0) p
def zero6 : Array Value := #[.int .i64 0, .int .i64 0, .int .i64 0, .int .i64 0, .int .i64 0, .int .i64 0, .int .i64 0, .int .i64 0]
def pofo (ts : Nat → Bool) (k : Nat) : Option Nat := (List.range' (8 * k) 8).find? ts
end Go.Proofs.YtkhahbghmdccaaaGreat

namespace Go.Proofs.YtkhahbghmdccaaaGreat
open Go.RowKit
def Fr (O : Nat → Prop) (w w' : World) : Prop := w'.os = w.os ∧ w'.tape = w.tape ∧ w'.output = w.output ∧ w.heap.size ≤ w'.heap.size ∧ ∀ g, g < w.heap.size → ¬ O g → w'.heap[g]? = w.heap[g]?
theorem Fr.refl (O : Nat → Prop) (w : World) : Fr O w w := ⟨rfl, rfl, rfl, Nat.le_refl _, fun _ _ _ => rfl⟩
theorem Fr.of {O : Nat → Prop} {w w' : World} (h : Below w.heap.size w w') : Fr O w w' := ⟨h.os, h.tape, h.output, h.size, fun g hg _ => h.block g hg⟩
theorem Fr.trans {O : Nat → Prop} {a b c : World} (h1 : Fr O a b) (h2 : Fr O b c) : Fr O a c :=
  ⟨h2.1.trans h1.1, h2.2.1.trans h1.2.1, h2.2.2.1.trans h1.2.2.1, Nat.le_trans h1.2.2.2.1 h2.2.2.2.1, fun g hg hO => (h2.2.2.2.2 g (Nat.lt_of_lt_of_le hg h1.2.2.2.1) hO).trans (h1.2.2.2.2 g hg hO)⟩
theorem Fr.mono {O O' : Nat → Prop} {w w' : World} (h : Fr O w w') (hO : ∀ g, O g → O' g) : Fr O' w w' := ⟨h.1, h.2.1, h.2.2.1, h.2.2.2.1, fun g hg hn => h.2.2.2.2 g hg (fun ho => hn (hO g ho))⟩
theorem Fr.below {O : Nat → Prop} {base : Nat} {w0 w w' : World} (h : Fr O w w') (hb : Below base w0 w) (hO : ∀ g, O g → base ≤ g) (hs : base ≤ w.heap.size) : Below base w0 w' :=
  ⟨h.1.trans hb.os, h.2.1.trans hb.tape, h.2.2.1.trans hb.output, Nat.le_trans hb.size h.2.2.2.1, fun g hg => (h.2.2.2.2 g (Nat.lt_of_lt_of_le hg hs) (fun ho => absurd (hO g ho) (by omega))).trans (hb.block g hg)⟩
def upd {α : Type} (f : Nat → α) (i : Nat) (x : α) : Nat → α := fun j => if j = i then x else f j
theorem setCell_fr (w : World) (B i : Nat) (v : Value) : Fr (fun g => g = B) w (w.setCell ⟨B, i, none⟩ v) :=
  ⟨rfl, rfl, rfl, by simp, fun g _ hg => Below.heap_setCell w ⟨B, i, none⟩ v g hg⟩
def hs (ts : Nat → Bool) (n : Nat) (p : Int) : Bool := decide (1024 ≤ p) && (decide (p < 1024 + (n : Int)) && ts (p - 1024).toNat)
end Go.Proofs.YtkhahbghmdccaaaGreat

namespace Go.Proofs.YtkhahbghmdccaaaGreat
open Go.RowKit
def ome (ws : Nat → List Int) (z : List Int) (o : Option Nat) : Bool := match o with | some i => eqz (ws i) z | none => false
def om (ws : Nat → List Int) (ts : Nat → Bool) (z : List Int) (k : Nat) : Bool := ome ws z (pofo ts k)
def bl (ws : Nat → List Int) (ts : Nat → Bool) (z : List Int) : Nat → List Nat
  | 0 => []
  | k + 1 => bl ws ts z k ++ (if om ws ts z k = true then [k] else [])
attribute [local go_sem ↓] hload_shut
end Go.Proofs.YtkhahbghmdccaaaGreat

namespace Go.Proofs.YtkhahbghmdccaaaGreat
open Go.RowKit
theorem setCells_row (b : Nat) (t : TypeId) : ∀ (vs : List Value) (o : Nat) (w : World) (cs : Array Value), w.heap[b]? = some (.cells cs t (0, 0)) →
    ∃ cs' : Array Value, (w.setCells b o vs).heap[b]? = some (.cells cs' t (0, 0)) ∧ cs'.size = cs.size ∧ ∀ j, j < cs.size → cs'[j]? = if o ≤ j ∧ j < o + vs.length then vs[j - o]? else cs[j]?
  | [], o, w, cs, h => ⟨cs, h, rfl, fun j _ => by rw [if_neg (by simp)]⟩
  | v :: r, o, w, cs, h => by
    have h1 : (w.setCell ⟨b, o, none⟩ v).heap[b]? = some (.cells (cs.setIfInBounds o v) t (0, 0)) := by
      rw [setCell_eq_setRow w b o _ t (0, 0) v h, setRow_heap w b _ _ t (0, 0) h]
    obtain ⟨cs', e1, e2, e3⟩ := setCells_row b t r (o + 1) _ _ h1
    refine ⟨cs', e1, by rw [e2]; simp, fun j hj => ?_⟩
    rw [e3 j (by simpa using hj)]
    by_cases hjo : j = o
    · subst hjo
      rw [if_neg (by omega), if_pos (by simp), Nat.sub_self, Array.getElem?_setIfInBounds_self_of_lt hj]
      rfl
    · rw [Array.getElem?_setIfInBounds_ne (fun e => hjo e.symm)]
      by_cases hc : o + 1 ≤ j ∧ j < o + 1 + r.length
      · rw [if_pos hc, if_pos (by simp only [List.length_cons]; omega), show j - o = (j - (o + 1)) + 1 by omega]
        rfl
      · rw [if_neg hc, if_neg (by simp only [List.length_cons]; omega)]
theorem setCells_only (b : Nat) : ∀ (vs : List Value) (o : Nat) (w : World), Only b w (w.setCells b o vs)
  | [], o, w => ⟨rfl, rfl, rfl, rfl, fun _ _ => rfl⟩
  | v :: r, o, w => by
    have h := setCells_only b r (o + 1) (w.setCell ⟨b, o, none⟩ v)
    exact ⟨h.1, h.2.1, h.2.2.1, h.2.2.2.1.trans (by simp), fun g hg => (h.2.2.2.2 g hg).trans (Below.heap_setCell w ⟨b, o, none⟩ v g hg)⟩
def qstore (x y : Value) : Sem Unit := Instr.storeAt 23 x y
theorem qstore_shut (x y : Value) : Instr.storeAt 23 x y = qstore x y := rfl
def f0 (ws : Nat → List Int) (ts : Nat → Bool) (z : List Int) (i : Nat) : Bool := !ts i && om ws ts z (i / 8)
def f1 (ts : Nat → Bool) (i : Nat) : Bool := !ts i && (pofo ts (i / 8)).isNone
def tk (ws : Nat → List Int) (ts : Nat → Bool) (z : List Int) (n : Nat) : Option Nat := ((List.range n).find? (f0 ws ts z)).or ((List.range n).find? (f1 ts))
end Go.Proofs.YtkhahbghmdccaaaGreat

namespace Go.Proofs.YtkhahbghmdccaaaGreat
open Go.RowKit
theorem Only.fr {B : Nat} {w w' : World} (h : Only B w w') {O : Nat → Prop} (hO : O B) : Fr O w w' := ⟨h.1, h.2.1, h.2.2.1, by rw [h.2.2.2.1]; exact Nat.le_refl _, fun g _ hg => h.2.2.2.2 g (fun e => hg (e ▸ hO))⟩
theorem Only.six {B B' : Nat} {w w' : World} (h : Only B w w') {z : List Int} (p : SixIn B' z w) (hne : B' ≠ B) : SixIn B' z w' := (h.2.2.2.2 B' hne).trans p
attribute [local go_sem ↓] hload_shut qstore_shut
end Go.Proofs.YtkhahbghmdccaaaGreat

namespace Go.Proofs.YtkhahbghmdccaaaGreat
open Go.RowKit
def mkSl (t : TypeId) (l c : Value) : Sem Value := Instr.makeSlice t l c
theorem mkSl_shut (t : TypeId) (l c : Value) : Instr.makeSlice t l c = mkSl t l c := rfl
theorem made_at (z : Array Value) (n j : Nat) (hj : j < n) : (madeCells z n)[j]? = some (z[j % z.size]!) := by
  unfold madeCells
  simp [hj]
attribute [local go_sem ↓] mkSl_shut
end Go.Proofs.YtkhahbghmdccaaaGreat
