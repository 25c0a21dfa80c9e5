/- Maps as lists of entries: a look, a store, a strike, a range. Keys that are flows, keys that are ints. -/
import Derived.Test.YtnhjabiciaoocaaDoorJBdH
import Derived.Test.YtnhjabiciaoocaaDoorJPbB
import Derived.Test.YtnhjabiciaoocaaDoorProg
import Derived.Deep.MidRow
import Derived.Laws.ResultCell
import Derived.Deep.CutBlock
import Derived.Deep.QuietTactic
import Derived.OwnWalk
import Derived.Deep.RegionHeld3
import Derived.Deep.DrawnRows
import Derived.Laws.StructEq
import Derived.Laws.AppendOwnNone
import Derived.Maps.AppendAt
import Derived.Maps.RangeWalk
import Derived.WalkKit
import Derived.LaidEql
import Derived.BigQuiet
import Derived.Below
import Derived.Laws.MakeOwn
import Derived.Deep.RegionLaw
import Derived.Test.YtnhjabiciaoocaaDoorJPkF
namespace Go.Proofs.YtnhjabiciaoocaaDoor
open Go.RowKit
open Go.ChangeMaps (setBlock)
open Go.MapKept (Stamped)
/-- an entry's key and value. -/
def en (e : MapEntry) : Value × Value := (e.key, e.val)
/-- a map that holds just these, in whatever order. -/
def MP (S : Value → Prop) (b : Nat) (l : List (Value × Value)) (w : World) : Prop := ∃ es clock, w.heap[b]? = some (.map es clock) ∧ Stamped es clock ∧ (es.toList.map en).Perm l ∧ ∀ e ∈ es.toList, S e.key
theorem MP.lt {S : Value → Prop} {b : Nat} {l : List (Value × Value)} {w : World} (h : MP S b l w) : b < w.heap.size := by obtain ⟨es, c, h1, _⟩ := h; exact (Array.getElem?_eq_some_iff.1 h1).1
theorem MP.same {S : Value → Prop} {b : Nat} {l : List (Value × Value)} {w w' : World} (h : MP S b l w) (e : w'.heap[b]? = w.heap[b]?) : MP S b l w' := by obtain ⟨es, c, h1, h2⟩ := h; exact ⟨es, c, e.trans h1, h2⟩
theorem MP.perm {S : Value → Prop} {b : Nat} {l l' : List (Value × Value)} {w : World} (h : MP S b l w) (e : l.Perm l') : MP S b l' w := by obtain ⟨es, c, h1, h2, h3, h4⟩ := h; exact ⟨es, c, h1, h2, h3.trans e, h4⟩
theorem MP.notcells {S : Value → Prop} {b : Nat} {l : List (Value × Value)} {w : World} (h : MP S b l w) {cs : Array Value} {t : TypeId} {z : Nat × Nat} : w.heap[b]? ≠ some (.cells cs t z) := by obtain ⟨es, c, h1, _⟩ := h; rw [h1]; intro e; cases e
theorem mp_new (S : Value → Prop) (w : World) : MP S w.heap.size [] (w.alloc (.map #[] 0)) := ⟨#[], 0, heap_alloc_new w _, MapKept.stamped_empty 0, List.Perm.refl _, by simp⟩
/-- a range under way: what is still to come. -/
def MR (S : Value → Prop) (b r : Nat) (l rem : List (Value × Value)) (w : World) : Prop := ∃ es clock since seen c0, w.heap[b]? = some (.map es clock) ∧ Stamped es clock ∧ (es.toList.map en).Perm l ∧ (∀ e ∈ es.toList, S e.key) ∧ w.heap[r]? = some (.mapIter (some b) since seen c0) ∧ (∀ x ∈ es.toList, x.born < since) ∧ ((leftOf es seen).toList.map en).Perm rem ∧ since ≤ c0 ∧ since ≤ clock
theorem MR.same {S : Value → Prop} {b r : Nat} {l rem : List (Value × Value)} {w w' : World} (h : MR S b r l rem w) (e1 : w'.heap[b]? = w.heap[b]?) (e2 : w'.heap[r]? = w.heap[r]?) : MR S b r l rem w' := by
  obtain ⟨es, c, s, n, c0, h1, h2, h3, h4, h5, h6⟩ := h
  exact ⟨es, c, s, n, c0, e1.trans h1, h2, h3, h4, e2.trans h5, h6⟩
theorem MR.perm {S : Value → Prop} {b r : Nat} {l rem rem' : List (Value × Value)} {w : World} (h : MR S b r l rem w) (e : rem.Perm rem') : MR S b r l rem' w := by
  obtain ⟨es, c, s, n, c0, h1, h2, h3, h4, h5, h6, h7, h8⟩ := h
  exact ⟨es, c, s, n, c0, h1, h2, h3, h4, h5, h6, h7.trans e, h8⟩
theorem MR.lt {S : Value → Prop} {b r : Nat} {l rem : List (Value × Value)} {w : World} (h : MR S b r l rem w) : b < w.heap.size ∧ r < w.heap.size := by
  obtain ⟨es, c, s, n, c0, h1, h2, h3, h4, h5, h6⟩ := h
  exact ⟨(Array.getElem?_eq_some_iff.1 h1).1, (Array.getElem?_eq_some_iff.1 h5).1⟩
theorem MR.notcells {S : Value → Prop} {b r : Nat} {l rem : List (Value × Value)} {w : World} (h : MR S b r l rem w) {cs : Array Value} {t : TypeId} {z : Nat × Nat} : w.heap[r]? ≠ some (.cells cs t z) := by
  obtain ⟨es, c, s, n, c0, h1, h2, h3, h4, h5, h6⟩ := h
  rw [h5]; intro e; cases e
theorem MR.ne {S : Value → Prop} {b r : Nat} {l rem : List (Value × Value)} {w : World} (h : MR S b r l rem w) : r ≠ b := by
  obtain ⟨es, c, s, n, c0, h1, h2, h3, h4, h5, h6⟩ := h
  rintro rfl
  rw [h1] at h5; cases h5
theorem MR.left {S : Value → Prop} {b r : Nat} {l rem : List (Value × Value)} {w : World} (h : MR S b r l rem w) : w.rangeLeft b r = rem.length := by
  obtain ⟨es, c, s, n, c0, h1, h2, h3, h4, h5, h6, h7, h8⟩ := h
  unfold World.rangeLeft
  rw [h1, h5]
  have := h7.length_eq
  simpa using this
theorem MR.start {S : Value → Prop} {b : Nat} {l : List (Value × Value)} {w : World} {t k el : TypeId} (ht : Tryd.prog.underlying t = some (.map k el)) (h : MP S b l w) :
    ∃ w', (Instr.range t (.map (some b))).run Tryd.prog w = .ok (.pointer (some ⟨w.heap.size, 0, none⟩)) w' ∧ MR S b w.heap.size l l w' ∧ Below w.heap.size w w' := by
  have hlt := h.lt
  obtain ⟨es, clock, hb, hs, hp, hS⟩ := h
  refine ⟨_, run_range_map w t k el b es clock ht hb, ⟨es, clock, clock, #[], clock, ((MapKept.heap_alloc w _).2 b hlt).trans hb, hs, hp, hS, (MapKept.heap_alloc w _).1, hs.1, ?_, Nat.le_refl _, Nat.le_refl _⟩, al_below w _⟩
  have e0 : (leftOf es #[]).toList = es.toList := by
    unfold leftOf
    rw [Array.toList_filter]
    exact List.filter_eq_self.2 (fun _ _ => by simp)
  rw [e0]
  exact hp
theorem perm_strike (e : MapEntry) : ∀ L : List MapEntry, (L.map (·.born)).Nodup → e ∈ L → L.Perm (e :: L.filter (fun x => !(x.born == e.born)))
  | [], _, h => by simp at h
  | y :: r, hn, h => by
    rw [List.map_cons, List.nodup_cons] at hn
    rcases List.mem_cons.1 h with rfl | h
    · have : (e :: r).filter (fun x => !(x.born == e.born)) = r := by
        rw [List.filter_cons_of_neg (by simp), List.filter_eq_self]
        intro x hx
        have : x.born ≠ e.born := fun e1 => hn.1 (List.mem_map.2 ⟨x, hx, e1⟩)
        simpa using this
      rw [this]
    · have hne : y.born ≠ e.born := fun e1 => hn.1 (List.mem_map.2 ⟨e, h, e1.symm⟩)
      rw [List.filter_cons_of_pos (by simpa using hne)]
      exact ((perm_strike e r hn.2 h).cons y).trans (List.Perm.swap e y _)
theorem left_push (es : Array MapEntry) (seen : Array Nat) (n : Nat) : (leftOf es (seen.push n)).toList = (leftOf es seen).toList.filter (fun x => !(x.born == n)) := by
  unfold leftOf
  rw [Array.toList_filter, Array.toList_filter, List.filter_filter]
  refine List.filter_congr fun x _ => ?_
  rw [contains_push]
  cases seen.contains x.born <;> cases (x.born == n) <;> rfl
theorem MR.next {S : Value → Prop} {b r : Nat} {l rem : List (Value × Value)} {w : World} (h : MR S b r l rem w) (ty : TypeId) :
    (rem = [] ∧ (Instr.next (.pointer (some ⟨r, 0, none⟩)) false ty).run Tryd.prog w = .ok (.tuple #[.bool false]) w) ∨
    ∃ key v rem' w', rem.Perm ((key, v) :: rem') ∧ (Instr.next (.pointer (some ⟨r, 0, none⟩)) false ty).run Tryd.prog w = .ok (.tuple #[.bool true, key, v]) w' ∧ MR S b r l rem' w' ∧ Only r w w' ∧ (Instr.entry (.pointer (some ⟨r, 0, none⟩))).run Tryd.prog w' = .ok (.tuple #[key, v]) w' := by
  have hne := h.ne
  obtain ⟨es, clock, since, seen, c0, hb, hs, hp, hS, hr, hold, hrem, hsc, hsk⟩ := h
  rcases run_next_at (P := Tryd.prog) w ty r b since c0 seen es clock hr hb hold hsc with ⟨h0, hrun⟩ | ⟨e, he, w1, hal, hrun⟩
  · refine .inl ⟨?_, hrun⟩
    have := hrem.length_eq
    rw [List.length_map] at this
    exact List.length_eq_zero_iff.1 (by rw [← this]; simpa using h0)
  · have hem : e ∈ es.toList := by unfold leftOf at he; simp at he ⊢; exact he.1
    have hr1 : w1.heap[r]? = some (.mapIter (some b) since seen c0) := by rcases hal with rfl | rfl <;> exact hr
    have hb1 : w1.heap[b]? = some (.map es clock) := by rcases hal with rfl | rfl <;> exact hb
    have hset := MapKept.heap_set (w := w1) (r := r) (o' := .mapIter (some b) since (seen.push e.born) clock) hr1
    have hb' : (setBlock w1 r (.mapIter (some b) since (seen.push e.born) clock)).heap[b]? = some (.map es clock) := (hset.2 b (fun e1 => hne e1.symm)).trans hb1
    have hst := (MapKept.stamped_iff es clock).1 hs
    have hnd : ((leftOf es seen).toList.map (·.born)).Nodup := by
      unfold leftOf
      rw [Array.toList_filter]
      exact ((List.filter_sublist (l := es.toList)).map _).nodup hst.2.1
    have hpm := (perm_strike e _ hnd he).map en
    rw [List.map_cons, ← left_push] at hpm
    refine .inr ⟨e.key, e.val, _, _, hrem.symm.trans hpm, hrun, ⟨es, clock, since, seen.push e.born, clock, hb', hs, hp, hS, hset.1, hold, List.Perm.refl _, hsk, hsk⟩, ?_, run_entry_at _ r b since seen es clock e hset.1 hb' hem hst.2.1⟩
    rcases hal with rfl | rfl <;> exact ⟨rfl, rfl, rfl, by simp [setBlock], fun g hg => hset.2 g hg⟩
/-- the two steps, for a walk. -/
theorem at_rng {S : Value → Prop} {w : World} {ops : Array Oper} {rest : List Oper} {o : Oper} {a : Act} {Q : Exit → Act → World → Prop} (hg : o.guard = none) (m : Operand) (t : TypeId) (hop : o.op = Op.range t m) (k e : TypeId) (ht : Tryd.prog.underlying t = some (.map k e)) (b : Nat) (l : List (Value × Value)) (hm : a.eval m = .map (some b)) (h : MP S b l w)
    (hK : ∀ w', MR S b w.heap.size l l w' → Below w.heap.size w w' → wpList Tryd.prog ops Q rest (a.put o.dst (.pointer (some ⟨w.heap.size, 0, none⟩))) w') : wpList Tryd.prog ops Q (o :: rest) a w := by
  refine wpList_plain hg fun K' hK' => ?_
  obtain ⟨w', hrun, r1, r2⟩ := MR.start ht h
  unfold Oper.wp
  simp [execOp, hop, hm, hrun, Result.andThen]
  exact hK' _ _ (hK w' r1 r2)
theorem at_nxt {S : Value → Prop} {w : World} {ops : Array Oper} {rest : List Oper} {o : Oper} {a : Act} {Q : Exit → Act → World → Prop} (hg : o.guard = none) (it : Operand) (hop : o.op = Op.next it false) (b r : Nat) (l rem : List (Value × Value)) (hit : a.eval it = .pointer (some ⟨r, 0, none⟩)) (h : MR S b r l rem w)
    (hD : rem = [] → wpList Tryd.prog ops Q rest (a.put o.dst (.tuple #[.bool false])) w)
    (hM : ∀ key v rem' w', rem.Perm ((key, v) :: rem') → MR S b r l rem' w' → Only r w w' → (Instr.entry (.pointer (some ⟨r, 0, none⟩))).run Tryd.prog w' = .ok (.tuple #[key, v]) w' → wpList Tryd.prog ops Q rest (a.put o.dst (.tuple #[.bool true, key, v])) w') : wpList Tryd.prog ops Q (o :: rest) a w := by
  refine wpList_plain hg fun K' hK' => ?_
  unfold Oper.wp
  rcases h.next o.type with ⟨h0, hrun⟩ | ⟨key, v, rem', w', hp, hrun, hr, hon, hen⟩
  · simp [execOp, hop, hit, hrun, Result.andThen]
    exact hK' _ _ (hD h0)
  · simp [execOp, hop, hit, hrun, Result.andThen]
    exact hK' _ _ (hM key v rem' w' hp hr hon hen)
end Go.Proofs.YtnhjabiciaoocaaDoor

namespace Go.Proofs.YtnhjabiciaoocaaDoor
open Go.RowKit
def isF (v : Value) : Prop := ∃ f, v = .agg (flC f)
def isI (v : Value) : Prop := ∃ a, v = .int .i64 a
theorem Tryd.mapF : Tryd.prog.underlying 79 = some (.map 85 87) := Tryd.underlying79
end Go.Proofs.YtnhjabiciaoocaaDoor
