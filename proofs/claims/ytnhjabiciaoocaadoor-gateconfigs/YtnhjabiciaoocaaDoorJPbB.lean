/- The first port of a block that is not taken: Index, Contains and isFull by contracts. The program's ports as they lie in the heap: a row of blocks, and the block that holds it; roomFor by a contract. The program's Owner and Give of a port, by contracts. The program's Blocks of somebody, and New, by contracts. Whose the blocks are, and which port is next. -/
import Derived.Test.YtnhjabiciaoocaaDoorProg
import Derived.Deep.MidRow
import Derived.Laws.ResultCell
import Derived.Deep.CutBlock
import Derived.Deep.QuietTactic
import Derived.OwnWalk
import Derived.Deep.RegionHeld3
import Derived.Deep.DrawnRows
import Derived.WalkKit
import Derived.LaidEql
import Derived.BigQuiet
import Derived.Below
import Derived.Laws.AppendOwnNone
import Derived.Laws.MakeOwn
import Derived.Deep.RegionLaw
import Derived.Test.YtnhjabiciaoocaaDoorJSgEnc
import Derived.Test.YtnhjabiciaoocaaDoorJPlE
import Derived.Test.YtnhjabiciaoocaaDoorJBdH
import Derived.Test.YtnhjabiciaoocaaDoorJEmStarts
import Derived.Stop.Asserts
import Derived.RowKitTokens
import Derived.Test.YtnhjabiciaoocaaDoorJPkS
import Derived.Test.YtnhjabiciaoocaaDoorJPoTake2
namespace Go.Proofs.YtnhjabiciaoocaaDoor
open Go.RowKit
/-- the first that is not taken. -/
def fx (t : Nat → Bool) : Option Nat := (List.range 8).find? fun j => !t j
end Go.Proofs.YtnhjabiciaoocaaDoor

namespace Go.Proofs.YtnhjabiciaoocaaDoor
open Go.RowKit
/-- which ports of one block are taken. -/
def sb (ts : Nat → Bool) (k : Nat) : Nat → Bool := fun j => ts (8 * k + j)
/-- a row of blocks. -/
def BRow (B m : Nat) (ow : Nat → List Int) (ts : Nat → Bool) (w : World) : Prop := ∃ cs : Array Value, w.heap[B]? = some (.cells cs 164 (0, 0)) ∧ cs.size = 16 * m ∧ ∀ k, k < m → ∀ j, j < 8 → cs[16 * k + j]? = some (.int .i64 (el (ow k) j)) ∧ cs[16 * k + 8 + j]? = some (.bool (ts (8 * k + j)))
theorem BRow.lt {B m : Nat} {ow : Nat → List Int} {ts : Nat → Bool} {w : World} (h : BRow B m ow ts w) : B < w.heap.size := by obtain ⟨cs, h1, _⟩ := h; exact (Array.getElem?_eq_some_iff.1 h1).1
theorem BRow.same {B m : Nat} {ow : Nat → List Int} {ts : Nat → Bool} {w w' : World} (h : BRow B m ow ts w) (e : w'.heap[B]? = w.heap[B]?) : BRow B m ow ts w' := by obtain ⟨cs, h1, h2⟩ := h; exact ⟨cs, e.trans h1, h2⟩
theorem BRow.who {B m : Nat} {ow : Nat → List Int} {ts : Nat → Bool} {w : World} (h : BRow B m ow ts w) (k : Nat) (hk : k < m) : w.rangeAt B (16 * k) (sixC (ow k)).toList := by
  obtain ⟨cs, h1, h2, h3⟩ := h
  intro j v hv
  have hj : j < 8 := (List.getElem?_eq_some_iff.1 hv).1
  rw [cell_of_row w B (16 * k + j) _ _ _ h1, (h3 k hk j hj).1, ← sixC_at (ow k) j hj]
  simpa using hv
theorem BRow.all {B m : Nat} {ow : Nat → List Int} {ts : Nat → Bool} {w : World} (h : BRow B m ow ts w) (k : Nat) (hk : k < m) : w.rangeAt B (16 * k) (pbC (ow k) (sb ts k)).toList := by
  obtain ⟨cs, h1, h2, h3⟩ := h
  intro j v hv
  have hj : j < 16 := (List.getElem?_eq_some_iff.1 hv).1
  have hv' : (pbC (ow k) (sb ts k))[j]? = some v := by simpa using hv
  rw [cell_of_row w B (16 * k + j) _ _ _ h1]
  by_cases h8 : j < 8
  · rw [(h3 k hk j h8).1, ← hv', pbC_six _ _ j h8]
  · obtain ⟨i, rfl⟩ : ∃ i, j = 8 + i := ⟨j - 8, by omega⟩
    rw [← Nat.add_assoc, (h3 k hk i (by omega)).2, ← hv', pbC_boo _ _ i (by omega)]
    rfl
/-- the program's ports. -/
def BP (B BB m : Nat) (ow : Nat → List Int) (ts : Nat → Bool) (w : World) : Prop := w.heap[B]? = some (.cells #[.slice (some ⟨BB, 0, none⟩) m m] 104 (0, 0)) ∧ BRow BB m ow ts w
theorem BP.lt {B BB m : Nat} {ow : Nat → List Int} {ts : Nat → Bool} {w : World} (h : BP B BB m ow ts w) : B < w.heap.size := (Array.getElem?_eq_some_iff.1 h.1).1
theorem BP.kept {B BB m : Nat} {ow : Nat → List Int} {ts : Nat → Bool} {w w' : World} (h : BP B BB m ow ts w) (hb : Below w.heap.size w w') : BP B BB m ow ts w' := ⟨(hb.block B h.lt).trans h.1, h.2.same (hb.block BB h.2.lt)⟩
theorem BP.ne {B BB m : Nat} {ow : Nat → List Int} {ts : Nat → Bool} {w : World} (h : BP B BB m ow ts w) : B ≠ BB := by
  rintro rfl
  obtain ⟨h1, cs, h2, _⟩ := h
  rw [h1] at h2
  cases h2
/-- a block that is somebody's. -/
def mine (ow : Nat → List Int) (ts : Nat → Bool) (z : List Int) (k : Nat) : Bool := eqz (ow k) z && !nob (sb ts k)
/-- and has room. -/
def r0 (ow : Nat → List Int) (ts : Nat → Bool) (z : List Int) (k : Nat) : Bool := mine ow ts z k && (fx (sb ts k)).isSome
def r1 (ts : Nat → Bool) (k : Nat) : Bool := nob (sb ts k)
attribute [local go_sem ↓] pload_shut
end Go.Proofs.YtnhjabiciaoocaaDoor

namespace Go.Proofs.YtnhjabiciaoocaaDoor
open Go.RowKit
theorem BRow.held {B m : Nat} {ow : Nat → List Int} {ts : Nat → Bool} {w : World} (h : BRow B m ow ts w) (k : Nat) (hk : k < m) (z : List Int) :
    ∃ w', (qstore (.pointer (some ⟨B, 16 * k, none⟩)) (.agg (sixC z))).run Tryd.prog w = .ok () w' ∧ BRow B m (upd ow k z) ts w' ∧ Only B w w' := by
  obtain ⟨cs, h1, h2, h3⟩ := h
  refine ⟨w.setCells B (16 * k) (sixC z).toList, ?_, ?_, setCells_only B _ _ w⟩
  · exact run_storeAt_mid w B (16 * k) 23 (sixC z) (fun j hj => by
      have hj8 : j < 8 := hj
      rw [cell_of_row w B (16 * k + j) _ _ _ h1, (h3 k hk j hj8).1]
      refine ⟨rfl, by simp [World.frozen?, h1]⟩) (by kernel_rfl) (by unfold sixC; simp [Value.oneCell'])
  · obtain ⟨cs', e1, e2, e3⟩ := setCells_row B 164 (sixC z).toList (16 * k) w cs h1
    have hl : (sixC z).toList.length = 8 := rfl
    refine ⟨cs', e1, e2.trans h2, fun k' hk' j hj => ⟨?_, ?_⟩⟩
    · rw [e3 (16 * k' + j) (by omega)]
      unfold upd
      by_cases e : k' = k
      · subst e
        rw [if_pos (by rw [hl]; omega), if_pos rfl, show 16 * k' + j - 16 * k' = j by omega, ← sixC_at z j hj]
        simp
      · rw [if_neg (by rw [hl]; omega), if_neg e]
        exact (h3 k' hk' j hj).1
    · rw [e3 (16 * k' + 8 + j) (by omega), if_neg (by rw [hl]; omega)]
      exact (h3 k' hk' j hj).2
theorem BP.only {B BB m : Nat} {ow ow' : Nat → List Int} {ts : Nat → Bool} {w w' : World} (h : BP B BB m ow ts w) (on : Only BB w w') (hw : BRow BB m ow' ts w') : BP B BB m ow' ts w' := ⟨(on.2.2.2.2 B h.ne).trans h.1, hw⟩
attribute [local go_sem ↓] qstore_shut
end Go.Proofs.YtnhjabiciaoocaaDoor

namespace Go.Proofs.YtnhjabiciaoocaaDoor
open Go.RowKit
attribute [local go_sem ↓] pload_shut
theorem Tryd.infoBlk : (Tryd.prog.info? 164).map (fun i => (i.zero, i.size, i.bytes)) = some (some (.agg (pbC [] (fun _ => false))), 16, 72) := by kernel_rfl
theorem madeP (b : Nat) (_hb : b ≤ 16) : ∃ cs : Array Value, (∀ w : World, (mkSl 102 (.int .i64 (b : Int)) (.int .i64 (b : Int))).run Tryd.prog w = .ok (.slice (some ⟨w.heap.size, 0, none⟩) b b) (w.alloc (.cells cs 164))) ∧
    cs.size = 16 * b ∧ ∀ k, k < b → ∀ j, j < 8 → cs[16 * k + j]? = some (.int .i64 (el [] j)) ∧ cs[16 * k + 8 + j]? = some (.bool false) := by
  obtain ⟨i0, hi, hz0, hz1, hz2⟩ := info_parts Tryd.infoBlk
  refine ⟨madeCells (pbC [] (fun _ => false)) (16 * b), fun w => ?_, size_madeCells _ _, fun k hk j hj => ⟨?_, ?_⟩⟩
  · have h := run_make (P := Tryd.prog) w 102 164 i0 _ Tryd.underlying102 hi hz0 .i64 .i64 (b : Int) (b : Int) (by omega) (by omega) (by rw [hz2]; omega) (by omega)
    rw [hz1, show ((b : Int)).toNat = b by omega, show b * 16 = 16 * b by omega] at h
    exact h
  · rw [made_at _ _ _ (by omega)]
    have e8 : (16 * k + j) % (pbC [] (fun _ => false)).size = j := (by show (16 * k + j) % 16 = j; omega)
    rw [e8]
    rcases (by omega : j = 0 ∨ j = 1 ∨ j = 2 ∨ j = 3 ∨ j = 4 ∨ j = 5 ∨ j = 6 ∨ j = 7) with rfl | rfl | rfl | rfl | rfl | rfl | rfl | rfl <;> rfl
  · rw [made_at _ _ _ (by omega)]
    have e8 : (16 * k + 8 + j) % (pbC [] (fun _ => false)).size = 8 + j := (by show (16 * k + 8 + j) % 16 = 8 + j; omega)
    rw [e8]
    rcases (by omega : j = 0 ∨ j = 1 ∨ j = 2 ∨ j = 3 ∨ j = 4 ∨ j = 5 ∨ j = 6 ∨ j = 7) with rfl | rfl | rfl | rfl | rfl | rfl | rfl | rfl <;> rfl
theorem pbtwo_new (w : World) (a b : Obj) : ((w.alloc a).alloc b).heap[w.heap.size]? = some a ∧ ((w.alloc a).alloc b).heap[w.heap.size + 1]? = some b ∧ Below w.heap.size w ((w.alloc a).alloc b) := by
  have s1 : (w.alloc a).heap.size = w.heap.size + 1 := World.size_alloc _ _
  have b1 := al_below w a
  have b2 := al_below (w.alloc a) b
  have n1 : (w.alloc a).heap[w.heap.size]? = some a := heap_alloc_new w a
  have n2 := heap_alloc_new (w.alloc a) b
  rw [s1] at n2
  exact ⟨by rw [b2.block _ (by omega)]; exact n1, n2, bt b1 b2⟩
attribute [local go_sem ↓] mkSl_shut
set_option maxRecDepth 100000 in
set_option maxHeartbeats 1000000 in
theorem pnew_any (b : Nat) (w : World) (h1 : 1 ≤ b) (hb : b ≤ 16) :
    Calls Tryd.prog 35 #[.int .i64 b] w fun e w' => ∃ B BB, e = .returned (.tuple #[.pointer (some ⟨B, 0, none⟩), .nilIface]) ∧ BP B BB b (fun _ => []) (fun _ => false) w' ∧ w.heap.size ≤ B ∧ w.heap.size ≤ BB ∧ Below w.heap.size w w' := by
  obtain ⟨cs, mk, sc, hc⟩ := madeP b hb
  have HS := hide sc
  have HC := hide hc
  have q1 : ¬ (b : Int) < 1 := by omega
  have q2 : ¬ 16 < (b : Int) := by omega
  clear sc hc
  go_enter Tryd.func35, Tryd.ntmps35
  go_wp2
  go_ret2
  obtain ⟨t1, t2, t3⟩ := pbtwo_new w (.cells cs 164) (.cells #[.slice (some ⟨w.heap.size, 0, none⟩) b b] 104)
  exact ⟨w.heap.size + 1, rfl, w.heap.size, ⟨t2, cs, t1, HS.out, HC.out⟩, by omega, by omega, t3⟩
end Go.Proofs.YtnhjabiciaoocaaDoor

namespace Go.Proofs.YtnhjabiciaoocaaDoor
open Go.RowKit
/-- who has a block is whom its taken ports belong to. -/
def Ag (ws ow : Nat → List Int) (ts : Nat → Bool) (m : Nat) : Prop := ∀ k, k < m → ∀ j, j < 8 → ts (8 * k + j) = true → sixC (ws (8 * k + j)) = sixC (ow k)
theorem eqz_six {a b : List Int} (h : eqz a b = true) : sixC a = sixC b := by
  have h' := (eqz_iff a b).1 h
  unfold sixC
  rw [h' 0 (by omega), h' 1 (by omega), h' 2 (by omega), h' 3 (by omega), h' 4 (by omega), h' 5 (by omega), h' 6 (by omega), h' 7 (by omega)]
theorem Ag.take {ws ow : Nat → List Int} {ts : Nat → Bool} {m : Nat} (h : Ag ws ow ts m) (z : List Int) (k j : Nat) (hj : j < 8) (hm : mine ow ts z k = true ∨ nob (sb ts k) = true) : Ag (upd ws (8 * k + j) z) (upd ow k z) (upd ts (8 * k + j) true) m := by
  intro k' hk' j' hj' ht
  unfold upd at ht ⊢
  by_cases e : 8 * k' + j' = 8 * k + j
  · have : k' = k := by omega
    rw [if_pos e, if_pos this]
  · rw [if_neg e] at ht ⊢
    have h1 := h k' hk' j' hj' ht
    by_cases ek : k' = k
    · subst ek
      rw [if_pos rfl, h1]
      rcases hm with hm | hm
      · unfold mine at hm
        rw [Bool.and_eq_true] at hm
        exact eqz_six hm.1
      · have := (nob_iff _).1 hm j' hj'
        unfold sb at this
        rw [this] at ht
        cases ht
    · rw [if_neg ek]; exact h1
end Go.Proofs.YtnhjabiciaoocaaDoor
