/- A slice of bytes that the call itself has made, and append onto it, as laws for a walk; string(b) of bytes, and parts of slices. Package sum by contracts (fold, check16, Of, Add, Not); bytes.Equal; a slice that the call has made, and append onto it. Package seg: known, head, checkAt, upTo, write and number, by contracts. Package seg: overOf, Over4 and Over6, by contracts. seg.Over6, by contracts. A segment as a value and in its block; loads and stores of all of it and of its numbers. Package seg: Check, by a contract. -/
import Derived.Test.YtnhjabiciaoocaaDoorJSumMath
import Derived.Below
import Derived.OpenShut
import Derived.Test.YtnhjabiciaoocaaDoorProg
import Derived.WalkKit
import Derived.LaidEql
import Derived.BigQuiet
import Derived.Laws.AppendOwnNone
import Derived.Laws.MakeOwn
import Derived.Deep.RegionLaw
import Derived.Lib.Bytes
import Derived.Deep.MidRow
import Derived.Laws.ResultCell
import Derived.Deep.CutBlock
import Derived.Deep.QuietTactic
import Derived.OwnWalk
import Derived.Test.YtnhjabiciaoocaaDoorS6Six
import Derived.Deep.RegionHeld3
import Derived.Deep.DrawnRows
namespace Go.Proofs.YtnhjabiciaoocaaDoor
open Go.RowKit
/-- v is a slice of the call's own (or nil), of the bytes zs. -/
def Own (base : Nat) (w : World) (v : Value) (zs : List Int) : Prop :=
  SM.Oct zs ∧ w.ownsRow base 5 1 v zs.length (zs.map (Value.int .u8))
theorem Own.nil (base : Nat) (w : World) : Own base w (.slice none 0 0) [] := ⟨SM.oct_nil, World.ownsRow_nil _ _ _ _⟩
theorem Own.row8 {base : Nat} {w : World} {v : Value} {zs : List Int} (h : Own base w v zs) : ∃ a cap, v = .slice a zs.length cap ∧ Row8 w a zs.length cap zs ∧ ∀ b off, a = some ⟨b, off, none⟩ → base ≤ b ∧ b < w.heap.size ∧ v.ownBlock = some b ∧ off = 0 := by
  obtain ⟨ho, h1, h2⟩ := h
  rcases h2 with ⟨rfl, hn⟩ | ⟨g, cap, cur, rfl, hb, hg, hnc, hcm, hcs, htake⟩
  · have : zs = [] := List.eq_nil_of_length_eq_zero hn
    subst this
    exact ⟨none, 0, rfl, ⟨rfl, by simp [maxLen], ho, fun _ => ⟨rfl, rfl⟩, fun hp => absurd hp (by simp)⟩, fun b off h => by cases h⟩
  · refine ⟨_, cap, rfl, ⟨rfl, by omega, ho, fun h => by (cases h), fun hp => ⟨g, 0, rfl, fun i hi => ?_⟩⟩, fun b off h => ?_⟩
    · have hc := (World.ownsRow.cellAt (w := w) (base := base) (e := 5) (size := 1) (g := g) (n := zs.length) (cap := cap) (xs := zs.map (Value.int .u8)) ⟨h1, .inr ⟨g, cap, cur, rfl, hb, hg, hnc, hcm, hcs, htake⟩⟩ i (by omega))
      rw [Nat.zero_add, hc]
      simp [hi]
    · simp at h
      obtain ⟨rfl, rfl⟩ := h
      exact ⟨hb, (Array.getElem?_eq_some_iff.1 hg).1, rfl, rfl⟩
theorem Own.kept {base : Nat} {w w' : World} {v : Value} {zs : List Int} (h : Own base w v zs) (hb : Below w.heap.size w w') : Own base w' v zs := by
  refine ⟨h.1, h.2.1, ?_⟩
  rcases h.2.2 with h2 | ⟨g, cap, cur, rfl, hb', hg, rest⟩
  · exact .inl h2
  · exact .inr ⟨g, cap, cur, rfl, hb', by rw [hb.block g (Array.getElem?_eq_some_iff.1 hg).1]; exact hg, rest⟩
/-- an own slice is as it was where another own one, of later blocks, has grown. -/
theorem Own.other {base : Nat} {w w' : World} {v : Value} {zs : List Int} (h : Own base w v zs) {row : Option Nat} (hg : w.grownBy w' row) (hne : v.ownBlock = none ∨ v.ownBlock ≠ row) : Own base w' v zs :=
  ⟨h.1, h.2.kept hg hne⟩
/-- a part of a slice of bytes. -/
theorem Row8.part {w : World} {a : Option Addr} {len cap : Nat} {zs : List Int} (h : Row8 w a len cap zs) (lo hi : Nat) (hlo : lo ≤ hi) (hhi : hi ≤ len) (a' : Option Addr) (cap' : Nat) (ha : ∀ b off, lo < hi → a = some ⟨b, off, none⟩ → a' = some ⟨b, off + lo, none⟩) (hn : a' = none → hi = lo ∧ cap' = 0) : Row8 w a' (hi - lo) cap' ((zs.drop lo).take (hi - lo)) := by
  obtain ⟨h1, h2, h3, h4, h5⟩ := h
  refine ⟨by simp; omega, by omega, SM.oct_take _ (P4.oct_drop _ h3 _) _, fun e => ?_, fun hp => ?_⟩
  · have := hn e
    exact ⟨by omega, this.2⟩
  · obtain ⟨b, off, rfl, hc⟩ := h5 (by omega)
    refine ⟨b, off + lo, ha b off (by omega) rfl, fun i hi' => ?_⟩
    have := hc (lo + i) (by omega)
    rw [P4.getD_take hi', P4.getD_drop, Nat.add_assoc]
    exact this
theorem Row8.congr {w : World} {a : Option Addr} {len cap : Nat} {zs ys : List Int} (h : Row8 w a len cap zs) (e : zs = ys) : Row8 w a len cap ys := e ▸ h
theorem Own.heap {base : Nat} {w w' : World} {v : Value} {zs : List Int} (h : Own base w v zs) (he : ∀ g, base ≤ g → g < w.heap.size → w'.heap[g]? = w.heap[g]?) : Own base w' v zs := by
  refine ⟨h.1, h.2.1, ?_⟩
  rcases h.2.2 with h2 | ⟨g, cap, cur, rfl, hb', hg, rest⟩
  · exact .inl h2
  · exact .inr ⟨g, cap, cur, rfl, hb', by rw [he g hb' (Array.getElem?_eq_some_iff.1 hg).1]; exact hg, rest⟩
theorem Own.mono {base base' : Nat} {w : World} {v : Value} {zs : List Int} (h : Own base w v zs) (hb : base' ≤ base) : Own base' w v zs := by
  refine ⟨h.1, h.2.1, ?_⟩
  rcases h.2.2 with h2 | ⟨g, cap, cur, rfl, hb', hg, rest⟩
  · exact .inl h2
  · exact .inr ⟨g, cap, cur, rfl, by omega, hg, rest⟩
theorem Own.toRow {base : Nat} {w : World} {a : Option Addr} {n c : Nat} {zs : List Int} (h : Own base w (.slice a n c) zs) : Row8 w a n c zs := by
  obtain ⟨a', c', e, hr, _⟩ := h.row8
  injection e with e1 e2 e3
  subst e1 e2 e3
  exact hr
theorem Row8.drewN {w : World} {a : Option Addr} {len cap : Nat} {zs : List Int} (h : Row8 w a len cap zs) (n : Nat) : Row8 (w.drewN n) a len cap zs := h.below ((Below.refl _ _).trans ⟨rfl, rfl, rfl, Nat.le_refl _, fun _ _ => rfl⟩)
end Go.Proofs.YtnhjabiciaoocaaDoor

namespace Go.Proofs.YtnhjabiciaoocaaDoor
open Go.RowKit
theorem al_below (w : World) (o : Obj) : Below w.heap.size w (w.alloc o) := (Below.refl _ _).alloc (Nat.le_refl _) _
/-- nothing but that block has turned. -/
def Only (B : Nat) (w w' : World) : Prop := w'.os = w.os ∧ w'.tape = w.tape ∧ w'.output = w.output ∧ w'.heap.size = w.heap.size ∧ ∀ g, g ≠ B → w'.heap[g]? = w.heap[g]?
theorem Only.below {B base : Nat} {w0 w w' : World} (h : Only B w w') (hb : Below base w0 w) (hB : base ≤ B) : Below base w0 w' :=
  ⟨h.1.trans hb.os, h.2.1.trans hb.tape, h.2.2.1.trans hb.output, by rw [h.2.2.2.1]; exact hb.size, fun g hg => (h.2.2.2.2 g (by omega)).trans (hb.block g hg)⟩
theorem Only.own {B base : Nat} {w w' : World} (h : Only B w w') {v : Value} {zs : List Int} (o : Own base w v zs) (hB : B < base) : Own base w' v zs := o.heap (fun g hg _ => h.2.2.2.2 g (by omega))
theorem only_setRow (w : World) (B : Nat) (cs : Array Value) : Only B w (w.setRow B cs) := ⟨rfl, rfl, rfl, setRow_size w B cs, fun g hg => setRow_other w B g cs hg⟩
def up (m n : Int) : Bool := decide (0 ≤ n ∧ n ≤ m)
end Go.Proofs.YtnhjabiciaoocaaDoor

namespace Go.Proofs.YtnhjabiciaoocaaDoor
open Go.RowKit
/-- a block of ints, all of it. -/
def Ints (B : Nat) (l : List Int) (w : World) : Prop := w.heap[B]? = some (.cells (l.map (Value.int .i64)).toArray 3 (0, 0))
theorem Ints.lt {B : Nat} {l : List Int} {w : World} (h : Ints B l w) : B < w.heap.size := (Array.getElem?_eq_some_iff.1 h).1
theorem Ints.kept {B : Nat} {l : List Int} {w w' : World} (h : Ints B l w) (hb : Below w.heap.size w w') : Ints B l w' := (hb.block B h.lt).trans h
theorem ints_new (w : World) (l : List Int) : Ints w.heap.size l (w.alloc (.cells (l.map (Value.int .i64)).toArray 3)) := heap_alloc_new w _
theorem Ints.cell {B : Nat} {l : List Int} {w : World} (h : Ints B l w) (j : Nat) (hj : j < l.length) : w.cell? ⟨B, j, none⟩ = some (.int .i64 (l.getD j 0)) := by
  unfold Ints at h
  simp [World.cell?, h, hj]
/-- a block of ints is no slice of bytes. -/
theorem Ints.ne {B : Nat} {l : List Int} {w : World} (h : Ints B l w) {base : Nat} {v : Value} {zs : List Int} (o : Own base w v zs) : some B ≠ v.ownBlock := by
  intro e
  rcases o.2.2 with ⟨rfl, _⟩ | ⟨g, cap, cur, rfl, _, hg, _⟩
  · cases e
  · have : B = g := by simpa [Value.ownBlock] using e
    subst this
    unfold Ints at h
    rw [h] at hg
    injection hg with hg
    injection hg with _ hg
    cases hg
theorem Ints.grown {B : Nat} {l : List Int} {w w' : World} (h : Ints B l w) {base : Nat} {v : Value} {zs : List Int} (o : Own base w v zs) (hg : w.grownBy w' v.ownBlock) : Ints B l w' := (hg.block _ h.lt (h.ne o)).trans h
/-- how many bytes a head has, and where its check begins. -/
def hn (k : Int) : Nat := if k = 6 then 20 else 8
/-- all of these are up to m. -/
def ups (m : Int) (l : List Int) : Bool := l.all (up m)
/-- the bytes of a number, the high one first. -/
def nb : Nat → Int → List Int
  | 0, _ => []
  | k + 1, n => n / 256 ^ k % 256 :: nb k n
end Go.Proofs.YtnhjabiciaoocaaDoor

namespace Go.Proofs.YtnhjabiciaoocaaDoor
open Go.RowKit
/-- an error's value. -/
def err (n : Int) : Value := .iface 27 (.int .i64 n)
end Go.Proofs.YtnhjabiciaoocaaDoor

namespace Go.Proofs.YtnhjabiciaoocaaDoor
open Go.RowKit
attribute [local go_sem ↓] Go.wp_at_zero Go.wp_at_succ
/-- an address's load, held shut for a walk. -/
def hload (x : Value) : Sem Value := Instr.loadAt 23 x
theorem hload_shut (x : Value) : Instr.loadAt 23 x = hload x := rfl
theorem SixIn.hl {B : Nat} {z : List Int} {w : World} (p : SixIn B z w) : (hload (.pointer (some ⟨B, 0, none⟩))).run Tryd.prog w = .ok (.agg (sixC z)) w :=
  run_loadAt_mid w B 0 23 (sixC z).toList _ (fun j v hv => by
    rw [Nat.zero_add]
    have hj : j < 8 := (List.getElem?_eq_some_iff.1 hv).1
    rw [(p.facts j hj).1]
    rcases (by omega : j = 0 ∨ j = 1 ∨ j = 2 ∨ j = 3 ∨ j = 4 ∨ j = 5 ∨ j = 6 ∨ j = 7) with rfl | rfl | rfl | rfl | rfl | rfl | rfl | rfl <;> exact hv) Tryd.underlying23 rfl (by kernel_rfl)
end Go.Proofs.YtnhjabiciaoocaaDoor

namespace Go.Proofs.YtnhjabiciaoocaaDoor
open Go.RowKit
/-- the numbers of a stream's segment. -/
def os (z : List Int) : Bool := ups 4294967295 [el z 3, el z 4] && up 31 (el z 5) && up 65535 (el z 6)
end Go.Proofs.YtnhjabiciaoocaaDoor

namespace Go.Proofs.YtnhjabiciaoocaaDoor
open Go.RowKit
/-- an error's value: nil, or the number. -/
def ev (n : Int) : Value := if n = 0 then .nilIface else err n
end Go.Proofs.YtnhjabiciaoocaaDoor
