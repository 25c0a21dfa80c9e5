/- Binds and flows in blocks and in slices of the call's own; loads, stores, append. The document's own table of binds as it lies in the heap; its small functions, FlowFault, Find and Port, by contracts. The document's own Use of a bind, by contracts. -/
import Derived.Test.YtnhjabiciaoocaaDoorJSgEnc
import Derived.Test.YtnhjabiciaoocaaDoorJEmStarts
import Derived.Test.YtnhjabiciaoocaaDoorJTold
import Derived.Test.YtnhjabiciaoocaaDoorProg
import Derived.Deep.MidRow
import Derived.Laws.ResultCell
import Derived.Deep.CutBlock
import Derived.Deep.QuietTactic
import Derived.OwnWalk
import Derived.Deep.RegionHeld3
import Derived.Deep.DrawnRows
import Derived.Laws.StructEq
import Derived.Laws.AppendOwnNone
import Derived.Maps.AppendAt
import Derived.WalkKit
import Derived.LaidEql
import Derived.BigQuiet
import Derived.Below
import Derived.Laws.MakeOwn
import Derived.Deep.RegionLaw
import Derived.Test.YtnhjabiciaoocaaDoorJPlE
import Derived.Test.YtnhjabiciaoocaaDoorS6Six
namespace Go.Proofs.YtnhjabiciaoocaaDoor
open Go.RowKit
theorem owns_type {w : World} {base : Nat} {e : TypeId} {size : Nat} {v : Value} {n : Nat} {xs : List Value} (h : w.ownsRow base e size v n xs) (g : Nat) (hg : v.ownBlock = some g) : ∃ cur, w.heap[g]? = some (.cells cur e (0, 0)) := by
  rcases h.2 with ⟨rfl, _⟩ | ⟨g', cap, cur, rfl, hb', hgc, _⟩
  · simp [Value.ownBlock] at hg
  · have : g' = g := by simpa [Value.ownBlock] using hg
    subst this
    exact ⟨cur, hgc⟩
def bv (bs : List (List Int)) : List Value := bs.flatMap fun b => (bdC b).toList
/-- a slice of binds, of the call's own. -/
def OwB (base : Nat) (w : World) (v : Value) (bs : List (List Int)) : Prop := w.ownsRow base 87 23 v bs.length (bv bs)
theorem OwB.nil (base : Nat) (w : World) : OwB base w (.slice none 0 0) [] := World.ownsRow_nil _ _ _ _
theorem bv_len (bs : List (List Int)) : (bv bs).length = bs.length * 23 := by
  induction bs with
  | nil => rfl
  | cons z r ih => unfold bv at ih ⊢; rw [List.flatMap_cons, List.length_append, ih, List.length_cons, show (bdC z).toList.length = 23 from rfl]; omega
theorem bv_app (a b : List (List Int)) : bv (a ++ b) = bv a ++ bv b := List.flatMap_append
theorem bv_at (bs : List (List Int)) (k j : Nat) (h : k < bs.length) (hj : j < 23) : (bv bs)[k * 23 + j]? = some (.int .i64 (el (bs.getD k []) j)) := by
  induction bs generalizing k with
  | nil => exact absurd h (by simp)
  | cons z r ih =>
    unfold bv at ih ⊢
    rw [List.flatMap_cons]
    have hl : (bdC z).toList.length = 23 := rfl
    cases k with
    | zero =>
      rw [List.getElem?_append_left (by omega), Nat.zero_mul, Nat.zero_add]
      have := bdC_at z j hj
      simpa using this
    | succ k =>
      rw [List.getElem?_append_right (by omega), hl, show (k + 1) * 23 + j - 23 = k * 23 + j by omega, ih k (by simpa using h)]
      rfl
theorem OwB.shape {base : Nat} {w : World} {v : Value} {bs : List (List Int)} (h : OwB base w v bs) : ∃ ao cap, v = .slice ao bs.length cap ∧ bs.length ≤ cap ∧ cap ≤ maxLen ∧ (0 < bs.length → ∃ g, ao = some ⟨g, 0, none⟩) := by
  rcases h.2 with ⟨rfl, hn⟩ | ⟨g, cap, cur, rfl, _, _, h1, h2, _⟩
  · exact ⟨none, 0, by rw [hn], by omega, by unfold maxLen; omega, fun h => by omega⟩
  · exact ⟨_, cap, rfl, h1, h2, fun _ => ⟨g, rfl⟩⟩
theorem OwB.cell {base : Nat} {w : World} {g n cap : Nat} {bs : List (List Int)} (h : OwB base w (.slice (some ⟨g, 0, none⟩) n cap) bs) (k j : Nat) (hk : k < bs.length) (hj : j < 23) : w.cell? ⟨g, k * 23 + j, none⟩ = some (.int .i64 (el (bs.getD k []) j)) := by
  have h' : w.ownsRow base 87 23 (.slice (some ⟨g, 0, none⟩) n cap) bs.length (bv bs) := h
  rcases h.2 with ⟨e, hn⟩ | ⟨g', cap', cur, e, _⟩
  · omega
  · injection e with e1 e2 e3
    injection e1 with e1
    injection e1 with e1
    subst e1 e2 e3
    rw [World.ownsRow.cellAt h' (k * 23 + j) (by omega)]
    exact bv_at bs k j hk hj
theorem OwB.frozen {base : Nat} {w : World} {g n cap : Nat} {bs : List (List Int)} (h : OwB base w (.slice (some ⟨g, 0, none⟩) n cap) bs) (i : Nat) : w.frozen? ⟨g, i, none⟩ = false := by
  obtain ⟨cur, hg⟩ := owns_type h g rfl
  simp [World.frozen?, hg]
theorem OwB.row {base : Nat} {w : World} {g n cap : Nat} {bs : List (List Int)} (h : OwB base w (.slice (some ⟨g, 0, none⟩) n cap) bs) (k : Nat) (hk : k < bs.length) : w.rangeAt g (k * 23) (bdC (bs.getD k [])).toList := by
  intro j v hv
  have hj : j < 23 := (List.getElem?_eq_some_iff.1 hv).1
  rw [h.cell k j hk hj, ← bdC_at (bs.getD k []) j hj]
  simpa using hv
theorem OwB.flow {base : Nat} {w : World} {g n cap : Nat} {bs : List (List Int)} (h : OwB base w (.slice (some ⟨g, 0, none⟩) n cap) bs) (k : Nat) (hk : k < bs.length) : w.rangeAt g (k * 23) (flC (bs.getD k [])).toList := by
  intro j v hv
  have hj : j < 19 := (List.getElem?_eq_some_iff.1 hv).1
  rw [h.cell k j hk (by omega), ← flC_at (bs.getD k []) j hj]
  simpa using hv
/-- a bind's, a flow's block. -/
def BdIn (B : Nat) (b : List Int) (w : World) : Prop := w.heap[B]? = some (.cells (bdC b) 87 (0, 0))
theorem BdIn.lt {B : Nat} {b : List Int} {w : World} (p : BdIn B b w) : B < w.heap.size := (Array.getElem?_eq_some_iff.1 p).1
theorem BdIn.kept {B : Nat} {b : List Int} {w w' : World} (p : BdIn B b w) (hb : Below w.heap.size w w') : BdIn B b w' := (hb.block B p.lt).trans p
theorem bd_new (b : List Int) (w : World) : BdIn w.heap.size b (w.alloc (.cells (bdC b) 87)) := heap_alloc_new w _
def zero23 : Array Value := #[.int .i64 0, .int .i64 0, .int .i64 0, .int .i64 0, .int .i64 0, .int .i64 0, .int .i64 0, .int .i64 0, .int .i64 0, .int .i64 0, .int .i64 0, .int .i64 0, .int .i64 0, .int .i64 0, .int .i64 0, .int .i64 0, .int .i64 0, .int .i64 0, .int .i64 0, .int .i64 0, .int .i64 0, .int .i64 0, .int .i64 0]
theorem bd_zero (w : World) : BdIn w.heap.size [] (w.alloc (.cells zero23 87)) := heap_alloc_new w _
theorem BdIn.cell {B : Nat} {b : List Int} {w : World} (p : BdIn B b w) (j : Nat) (hj : j < 23) : w.cell? ⟨B, j, none⟩ = some (.int .i64 (el b j)) := (cell_of_row w B j _ _ _ p).trans (bdC_at b j hj)
/-- loads, held shut for a walk. -/
def bload (x : Value) : Sem Value := Instr.loadAt 87 x
theorem bload_shut (x : Value) : Instr.loadAt 87 x = bload x := rfl
theorem BdIn.bl {B : Nat} {b : List Int} {w : World} (p : BdIn B b w) : (bload (.pointer (some ⟨B, 0, none⟩))).run Tryd.prog w = .ok (.agg (bdC b)) w :=
  run_loadAt_mid w B 0 87 (bdC b).toList _ (fun j v hv => by rw [Nat.zero_add, cell_of_row w B j _ _ _ p]; simpa using hv) Tryd.underlying87 rfl (by kernel_rfl)
theorem OwB.bl {base : Nat} {w : World} {g n cap : Nat} {bs : List (List Int)} (h : OwB base w (.slice (some ⟨g, 0, none⟩) n cap) bs) (k : Nat) (hk : k < bs.length) : (bload (.pointer (some ⟨g, k * 23, none⟩))).run Tryd.prog w = .ok (.agg (bdC (bs.getD k []))) w := run_loadAt_mid w g (k * 23) 87 _ _ (h.row k hk) Tryd.underlying87 rfl (by kernel_rfl)
theorem BdIn.stored {B : Nat} {b0 : List Int} {w : World} (p : BdIn B b0 w) (b : List Int) : BdIn B b (w.setRow B (bdC b)) := setRow_heap w B _ _ _ (0, 0) p
theorem at_storeb {ops : Array Oper} {rest : List Oper} {o : Oper} {f : Act} {w : World} {Q : Exit → Act → World → Prop} (hgd : o.guard = none) (x y : Operand) (ho : o.op = .store 87 x y)
    {B : Nat} {b0 : List Int} (hx : f.eval x = .pointer (some ⟨B, 0, none⟩)) (p : BdIn B b0 w) (b : List Int) (hy : f.eval y = .agg (bdC b))
    (hK : ∀ w', BdIn B b w' → Only B w w' → wpList Tryd.prog ops Q rest (f.put o.dst undef) w') : wpList Tryd.prog ops Q (o :: rest) f w :=
  wpList_store_row hgd 87 x y ho B _ hx hy 87 _ p (by kernel_rfl) rfl (by unfold bdC; simp [Value.oneCell']) (hK _ (p.stored b) (only_setRow _ _ _))
/-- a slice of one bind made, and a bind built, held shut. -/
def bsl (ps : Array (Nat × Value)) : Sem Value := Instr.buildSlice 37 1 ps
theorem bsl_shut (ps : Array (Nat × Value)) : Instr.buildSlice 37 1 ps = bsl ps := rfl
theorem bsl_run (b : List Int) (w : World) : (bsl #[(0, .agg (bdC b))]).run Tryd.prog w = .ok (.slice (some ⟨w.heap.size, 0, none⟩) 1 1) (w.alloc (.cells (bdC b) 87)) := by kernel_rfl
theorem Tryd.infoBind : (Tryd.prog.info? 87).map (fun i => (i.zero, i.size, i.bytes)) = some (some (.agg zero23), 23, 184) := by kernel_rfl
/-- binds put behind others. -/
theorem ap_B {w : World} {ops : Array Oper} {rest : List Oper} {o : Oper} {a : Act} {Q : Exit → Act → World → Prop} (hgd : o.guard = none) (s x : Operand)
    (ho : o.op = .call { callee := .builtin .append, args := #[s, x], argTypes := #[37, 37] })
    (base : Nat) (v : Value) (l : List (List Int)) (hs : a.eval s = v) (hown : OwB base w v l) (ad : Addr) (m c : Nat) (l2 : List (List Int)) (hx : a.eval x = .slice (some ad) m c) (hl : l2.length = m)
    (hc : ∀ j, j < m → ∀ i, i < 23 → w.cell? (ad.add (j * 23 + i)) = some (.int .i64 (el (l2.getD j []) i))) (hlen : l.length + m ≤ 1000000) (hbase : base ≤ w.heap.size)
    (h : ∀ v' w', OwB base w' v' (l ++ l2) → w.grownBy w' v.ownBlock → (v'.ownBlock = v.ownBlock ∨ v'.ownBlock = some w.heap.size) → wpList Tryd.prog ops Q rest (a.put o.dst v') w') : wpList Tryd.prog ops Q (o :: rest) a w := by
  obtain ⟨i0, hi, hz0, hz1, hz2⟩ := info_parts Tryd.infoBind
  have hown' : w.ownsRow base 87 23 v l.length (bv l) := hown
  refine wpList_append_own_at _ hgd s x 37 ho base 87 i0 _ 23 184 Tryd.underlying37 hi hz0 hz1 hz2 rfl (by decide) v l.length (bv l) hs hown' ad m c (bv l2) hx (by rw [bv_len, hl]) ?_ ?_ (by unfold maxLen; omega) (by omega) hbase ?_
  · intro j u hu
    have hj : j < l2.length * 23 := by have := (List.getElem?_eq_some_iff.1 hu).1; rwa [bv_len] at this
    have h8 := bv_at l2 (j / 23) (j % 23) (by omega) (by omega)
    rw [show j / 23 * 23 + j % 23 = j by omega, hu] at h8
    have h9 := hc (j / 23) (by omega) (j % 23) (by omega)
    rw [show j / 23 * 23 + j % 23 = j by omega] at h9
    rw [h9, h8]
  · intro u hu
    unfold bv at hu
    obtain ⟨z, _, h2⟩ := List.mem_flatMap.1 hu
    unfold bdC at h2
    simp at h2
    rcases h2 with rfl | rfl | rfl | rfl | rfl | rfl | rfl | rfl | rfl | rfl | rfl | rfl | rfl | rfl | rfl | rfl | rfl | rfl | rfl | rfl | rfl | rfl | rfl <;> rfl
  · intro v' w' h1 h2 _ h5
    refine h v' w' ?_ h2 h5
    unfold OwB
    rw [bv_app, List.length_append, hl]
    exact h1
theorem one_new (b : List Int) (w : World) : ∀ j, j < 1 → ∀ i, i < 23 → (w.alloc (.cells (bdC b) 87)).cell? ((⟨w.heap.size, 0, none⟩ : Addr).add (j * 23 + i)) = some (.int .i64 (el ([b].getD j []) i)) := by
  intro j hj i hi
  obtain rfl : j = 0 := by omega
  rw [add_pl, Nat.zero_mul, Nat.zero_add, Nat.zero_add]
  exact (bd_new b w).cell i hi
end Go.Proofs.YtnhjabiciaoocaaDoor

namespace Go.Proofs.YtnhjabiciaoocaaDoor
open Go.RowKit
def tc (n : Int) : Bool := decide (0 ≤ n) && decide (n ≤ 1099511627776)
attribute [local go_sem ↓] hload_shut
attribute [local go_sem ↓] fload_shut feq_shut
end Go.Proofs.YtnhjabiciaoocaaDoor

namespace Go.Proofs.YtnhjabiciaoocaaDoor
open Go.RowKit
/-- a bind that was used. -/
def usd (b : List Int) (now : Int) : List Int := [el b 0, el b 1, el b 2, el b 3, el b 4, el b 5, el b 6, el b 7, el b 8, el b 9, el b 10, el b 11, el b 12, el b 13, el b 14, el b 15, el b 16, el b 17, el b 18, el b 19, el b 20, el b 21, now]
end Go.Proofs.YtnhjabiciaoocaaDoor
