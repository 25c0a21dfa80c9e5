/- Flows as values, and which may be. Own ints: append; the first of a range. Servers as values: four numbers and two bools; rows of them; the place of the first that is wrong. -/
import Derived.Test.YtnhjabiciaoocaaDoorJS6Own
import Derived.Test.YtnhjabiciaoocaaDoorJSgEnc
import Derived.Below
import Derived.OpenShut
import Derived.Test.YtnhjabiciaoocaaDoorProg
import Derived.WalkKit
import Derived.LaidEql
import Derived.BigQuiet
import Derived.Laws.AppendOwnNone
import Derived.Laws.MakeOwn
import Derived.Deep.RegionLaw
import Derived.Lib.Bytes
import Derived.Deep.MidRow
import Derived.Laws.ResultCell
import Derived.Deep.CutBlock
import Derived.Deep.QuietTactic
import Derived.OwnWalk
import Derived.Deep.RegionHeld3
import Derived.Deep.DrawnRows
import Derived.Maps.AppendAt
import Derived.Laws.StructEq
namespace Go.Proofs.YtnhjabiciaoocaaDoor
open Go.RowKit
/-- a flow's cells: a kind, a client, its port, an address, its door. -/
def flC (f : List Int) : Array Value := #[.int .i64 (el f 0), .int .i64 (el f 1), .int .i64 (el f 2), .int .i64 (el f 3), .int .i64 (el f 4), .int .i64 (el f 5), .int .i64 (el f 6), .int .i64 (el f 7), .int .i64 (el f 8), .int .i64 (el f 9), .int .i64 (el f 10), .int .i64 (el f 11), .int .i64 (el f 12), .int .i64 (el f 13), .int .i64 (el f 14), .int .i64 (el f 15), .int .i64 (el f 16), .int .i64 (el f 17), .int .i64 (el f 18)]
set_option maxRecDepth 10000 in
theorem flC_at (f : List Int) (j : Nat) (hj : j < 19) : (flC f)[j]? = some (.int .i64 (el f j)) := by
  rcases (by omega : j = 0 ∨ j = 1 ∨ j = 2 ∨ j = 3 ∨ j = 4 ∨ j = 5 ∨ j = 6 ∨ j = 7 ∨ j = 8 ∨ j = 9 ∨ j = 10 ∨ j = 11 ∨ j = 12 ∨ j = 13 ∨ j = 14 ∨ j = 15 ∨ j = 16 ∨ j = 17 ∨ j = 18) with rfl | rfl | rfl | rfl | rfl | rfl | rfl | rfl | rfl | rfl | rfl | rfl | rfl | rfl | rfl | rfl | rfl | rfl | rfl <;> rfl
/-- a flow's client, and its address. -/
def cli (f : List Int) : List Int := [el f 1, el f 2, el f 3, el f 4, el f 5, el f 6, el f 7, el f 8]
def dst (f : List Int) : List Int := [el f 10, el f 11, el f 12, el f 13, el f 14, el f 15, el f 16, el f 17]
theorem cli_el (f : List Int) (j : Nat) (hj : j < 8) : el (cli f) j = el f (1 + j) := by
  rcases (by omega : j = 0 ∨ j = 1 ∨ j = 2 ∨ j = 3 ∨ j = 4 ∨ j = 5 ∨ j = 6 ∨ j = 7) with rfl | rfl | rfl | rfl | rfl | rfl | rfl | rfl <;> rfl
theorem dst_el (f : List Int) (j : Nat) (hj : j < 8) : el (dst f) j = el f (10 + j) := by
  rcases (by omega : j = 0 ∨ j = 1 ∨ j = 2 ∨ j = 3 ∨ j = 4 ∨ j = 5 ∨ j = 6 ∨ j = 7) with rfl | rfl | rfl | rfl | rfl | rfl | rfl | rfl <;> rfl
def FlIn (B : Nat) (f : List Int) (w : World) : Prop := w.heap[B]? = some (.cells (flC f) 85 (0, 0))
theorem FlIn.lt {B : Nat} {b : List Int} {w : World} (p : FlIn B b w) : B < w.heap.size := (Array.getElem?_eq_some_iff.1 p).1
theorem FlIn.kept {B : Nat} {b : List Int} {w w' : World} (p : FlIn B b w) (hb : Below w.heap.size w w') : FlIn B b w' := (hb.block B p.lt).trans p
theorem FlIn.cell {B : Nat} {f : List Int} {w : World} (p : FlIn B f w) (j : Nat) (hj : j < 19) : w.cell? ⟨B, j, none⟩ = some (.int .i64 (el f j)) := (cell_of_row w B j _ _ _ p).trans (flC_at f j hj)
theorem FlIn.cli {B : Nat} {f : List Int} {w : World} (p : FlIn B f w) : w.rangeAt B 1 (sixC (cli f)).toList := by
  intro j v hv
  have hj : j < 8 := (List.getElem?_eq_some_iff.1 hv).1
  rw [p.cell (1 + j) (by omega), ← cli_el f j hj, ← sixC_at _ j hj]
  simpa using hv
theorem FlIn.dst {B : Nat} {f : List Int} {w : World} (p : FlIn B f w) : w.rangeAt B 10 (sixC (dst f)).toList := by
  intro j v hv
  have hj : j < 8 := (List.getElem?_eq_some_iff.1 hv).1
  rw [p.cell (10 + j) (by omega), ← dst_el f j hj, ← sixC_at _ j hj]
  simpa using hv
theorem FlIn.hc {B : Nat} {f : List Int} {w : World} (p : FlIn B f w) : (hload (.pointer (some ⟨B, 1, none⟩))).run Tryd.prog w = .ok (.agg (sixC (Go.Proofs.YtnhjabiciaoocaaDoor.cli f))) w := run_loadAt_mid w B 1 23 _ _ p.cli Tryd.underlying23 rfl (by kernel_rfl)
theorem FlIn.hd {B : Nat} {f : List Int} {w : World} (p : FlIn B f w) : (hload (.pointer (some ⟨B, 10, none⟩))).run Tryd.prog w = .ok (.agg (sixC (Go.Proofs.YtnhjabiciaoocaaDoor.dst f))) w := run_loadAt_mid w B 10 23 _ _ p.dst Tryd.underlying23 rfl (by kernel_rfl)
def fload (x : Value) : Sem Value := Instr.loadAt 85 x
theorem fload_shut (x : Value) : Instr.loadAt 85 x = fload x := rfl
/-- may a number be a port, a four, a tick? -/
def wd (n : Int) : Bool := decide (0 ≤ n) && decide (n ≤ 65535)
def fr (n : Int) : Bool := decide (0 ≤ n) && decide (n ≤ 4294967295)
theorem wd_iff (n : Int) : wd n = true ↔ Word n := by unfold wd Word; rw [Bool.and_eq_true, decide_eq_true_eq, decide_eq_true_eq]
def s6 (z : List Int) : Bool := wd (el z 0) && wd (el z 1) && wd (el z 2) && wd (el z 3) && wd (el z 4) && wd (el z 5) && wd (el z 6) && wd (el z 7)
theorem s6_iff (z : List Int) : s6 z = true ↔ Ok6 z := by
  unfold s6 Ok6
  simp only [Bool.and_eq_true, wd_iff]
  refine ⟨fun ⟨⟨⟨⟨⟨⟨⟨h0, h1⟩, h2⟩, h3⟩, h4⟩, h5⟩, h6⟩, h7⟩ j hj => ?_, fun h => ⟨⟨⟨⟨⟨⟨⟨h 0 (by omega), h 1 (by omega)⟩, h 2 (by omega)⟩, h 3 (by omega)⟩, h 4 (by omega)⟩, h 5 (by omega)⟩, h 6 (by omega)⟩, h 7 (by omega)⟩⟩
  rcases (by omega : j = 0 ∨ j = 1 ∨ j = 2 ∨ j = 3 ∨ j = 4 ∨ j = 5 ∨ j = 6 ∨ j = 7) with rfl | rfl | rfl | rfl | rfl | rfl | rfl | rfl <;> assumption
/-- a fault's number. -/
def fe (b : Bool) : Int := if b = true then 0 else 1
/-- may a flow be? -/
def okf (f : List Int) : Bool := ((el f 0 == 6) || (el f 0 == 17)) && s6 (cli f) && s6 (dst f) && wd (el f 9) && wd (el f 18)
end Go.Proofs.YtnhjabiciaoocaaDoor

namespace Go.Proofs.YtnhjabiciaoocaaDoor
open Go.RowKit
theorem find_none {f : Nat → Bool} {n : Nat} (h : ∀ j, j < n → f j = false) : (List.range n).find? f = none := by
  rw [List.find?_eq_none]
  intro x hx
  rw [h x (List.mem_range.1 hx)]
  decide
theorem find_some {f : Nat → Bool} {n i : Nat} (hi : i < n) (h3 : f i = true) (h : ∀ j, j < i → f j = false) : (List.range n).find? f = some i := by
  rw [List.find?_range_eq_some]
  exact ⟨h3, List.mem_range.2 hi, fun j hj => by rw [h j hj]; rfl⟩
end Go.Proofs.YtnhjabiciaoocaaDoor

namespace Go.Proofs.YtnhjabiciaoocaaDoor
open Go.RowKit
/-- a server's cells: a number, a four, a door, a weight; up, drain. -/
def bkC (b : List Int) : Array Value := #[.int .i64 (el b 0), .int .i64 (el b 1), .int .i64 (el b 2), .int .i64 (el b 3), .bool (el b 4 == 1), .bool (el b 5 == 1)]
theorem bkC_int (b : List Int) (j : Nat) (hj : j < 4) : (bkC b)[j]? = some (.int .i64 (el b j)) := by
  rcases (by omega : j = 0 ∨ j = 1 ∨ j = 2 ∨ j = 3) with rfl | rfl | rfl | rfl <;> rfl
/-- a row of servers at an address. -/
def Bks (a : Option Addr) (bs : List (List Int)) (w : World) : Prop := 0 < bs.length → ∃ g off, a = some ⟨g, off, none⟩ ∧ g < w.heap.size ∧ ∀ k, k < bs.length → w.rangeAt g (off + k * 6) (bkC (bs.getD k [])).toList
theorem Bks.below {a : Option Addr} {bs : List (List Int)} {w w' : World} (h : Bks a bs w) (hb : Below w.heap.size w w') : Bks a bs w' := by
  intro hp
  obtain ⟨g, off, e, hlt, hx⟩ := h hp
  refine ⟨g, off, e, Nat.lt_of_lt_of_le hlt hb.size, fun k hk j u hu => ?_⟩
  rw [hb.cell (p := ⟨g, off + k * 6 + j, none⟩) hlt]
  exact hx k hk j u hu
theorem rng_int {w : World} {g o : Nat} {b : List Int} (h : w.rangeAt g o (bkC b).toList) (j : Nat) (hj : j < 4) : w.cell? ⟨g, o + j, none⟩ = some (.int .i64 (el b j)) := h j _ (by have := bkC_int b j hj; simpa using this)
theorem rng_id {w : World} {g o : Nat} {b : List Int} (h : w.rangeAt g o (bkC b).toList) : w.cell? ⟨g, o, none⟩ = some (.int .i64 (el b 0)) := rng_int h 0 (by omega)
/-- a load, held shut for a walk. -/
def kload (x : Value) : Sem Value := Instr.loadAt 60 x
theorem kload_shut (x : Value) : Instr.loadAt 60 x = kload x := rfl
theorem rng_kl {w : World} {g o : Nat} {b : List Int} (h : w.rangeAt g o (bkC b).toList) : (kload (.pointer (some ⟨g, o, none⟩))).run Tryd.prog w = .ok (.agg (bkC b)) w := run_loadAt_mid w g o 60 _ _ h Tryd.underlying60 rfl (by kernel_rfl)
/-- a server in its block. -/
def BkIn (B : Nat) (b : List Int) (w : World) : Prop := w.heap[B]? = some (.cells (bkC b) 60 (0, 0))
theorem BkIn.lt {B : Nat} {b : List Int} {w : World} (p : BkIn B b w) : B < w.heap.size := (Array.getElem?_eq_some_iff.1 p).1
theorem BkIn.kept {B : Nat} {b : List Int} {w w' : World} (p : BkIn B b w) (hb : Below w.heap.size w w') : BkIn B b w' := (hb.block B p.lt).trans p
def zero4b : Array Value := #[.int .i64 0, .int .i64 0, .int .i64 0, .int .i64 0, .bool false, .bool false]
theorem bk_zero (w : World) : BkIn w.heap.size [] (w.alloc (.cells zero4b 60)) := heap_alloc_new w _
theorem bk_new (b : List Int) (w : World) : BkIn w.heap.size b (w.alloc (.cells (bkC b) 60)) := heap_alloc_new w _
theorem BkIn.rng {B : Nat} {b : List Int} {w : World} (p : BkIn B b w) : w.rangeAt B 0 (bkC b).toList := fun j v hv => by rw [Nat.zero_add, cell_of_row w B j _ _ _ p]; simpa using hv
theorem BkIn.kl {B : Nat} {b : List Int} {w : World} (p : BkIn B b w) : (kload (.pointer (some ⟨B, 0, none⟩))).run Tryd.prog w = .ok (.agg (bkC b)) w := rng_kl p.rng
theorem BkIn.stored {B : Nat} {b0 : List Int} {w : World} (p : BkIn B b0 w) (b : List Int) : BkIn B b (w.setRow B (bkC b)) := setRow_heap w B _ _ _ (0, 0) p
theorem at_storek {ops : Array Oper} {rest : List Oper} {o : Oper} {f : Act} {w : World} {Q : Exit → Act → World → Prop} (hgd : o.guard = none) (x y : Operand) (ho : o.op = .store 60 x y)
    {B : Nat} {b0 : List Int} (hx : f.eval x = .pointer (some ⟨B, 0, none⟩)) (p : BkIn B b0 w) (b : List Int) (hy : f.eval y = .agg (bkC b))
    (hK : ∀ w', BkIn B b w' → Only B w w' → wpList Tryd.prog ops Q rest (f.put o.dst undef) w') : wpList Tryd.prog ops Q (o :: rest) f w :=
  wpList_store_row hgd 60 x y ho B _ hx hy 60 _ p (by kernel_rfl) rfl (by unfold bkC; simp [Value.oneCell']) (hK _ (p.stored b) (only_setRow _ _ _))
/-- may a server be; does one ahead have its number; what is wrong with it. -/
def okb (b : List Int) : Bool := wd (el b 0) && wd (el b 2) && fr (el b 1) && (decide (0 ≤ el b 3) && decide (el b 3 ≤ 10))
def sid (bs : List (List Int)) (i : Nat) : Bool := (List.range i).any fun k => el (bs.getD k []) 0 == el (bs.getD i []) 0
def flt (bs : List (List Int)) (i : Nat) : Int := if okb (bs.getD i []) = true then (if sid bs i = true then 8 else 0) else 1
/-- the place, and how. -/
def bfo (o : Option Nat) (bs : List (List Int)) : Int × Int := match o with | some i => ((i : Int), flt bs i) | none => (0, 0)
def bf (bs : List (List Int)) : Int × Int := if 8 < bs.length then (0, 3) else bfo ((List.range bs.length).find? fun i => flt bs i != 0) bs
theorem bf_some {bs : List (List Int)} {i : Nat} (hl : ¬ 8 < bs.length) (hi : i < bs.length) (h1 : (flt bs i != 0) = true) (h : ∀ j, j < i → (flt bs j != 0) = false) : bf bs = ((i : Int), flt bs i) := by
  unfold bf
  rw [if_neg hl, find_some hi h1 h]
  rfl
theorem bf_none {bs : List (List Int)} (hl : ¬ 8 < bs.length) (h : ∀ j, j < bs.length → (flt bs j != 0) = false) : bf bs = (0, 0) := by
  unfold bf
  rw [if_neg hl, find_none h]
  rfl
/-- none of them is wrong. -/
theorem bf_ok {bs : List (List Int)} (h : (bf bs).2 = 0) : bs.length ≤ 8 ∧ ∀ i, i < bs.length → okb (bs.getD i []) = true ∧ sid bs i = false := by
  unfold bf at h
  split at h
  · cases h
  · rename_i hl
    refine ⟨by omega, fun i hi => ?_⟩
    cases ho : (List.range bs.length).find? fun i => flt bs i != 0 with
    | some j =>
      rw [ho] at h
      have h1 := List.find?_some ho
      have h2 : flt bs j = 0 := h
      simp [h2] at h1
    | none =>
      rw [List.find?_eq_none] at ho
      have h1 := ho i (List.mem_range.2 hi)
      have h2 : flt bs i = 0 := by simpa using h1
      unfold flt at h2
      cases hk : okb (bs.getD i [])
      · rw [hk] at h2; simp at h2
      · rw [hk] at h2
        cases hs : sid bs i
        · exact ⟨rfl, rfl⟩
        · rw [hs] at h2; simp at h2
end Go.Proofs.YtnhjabiciaoocaaDoor
