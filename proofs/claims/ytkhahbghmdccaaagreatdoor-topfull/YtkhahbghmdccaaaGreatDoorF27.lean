/- Maps as lists of entries: a look, a store, a strike, a range. Keys that are flows, keys that are ints. Package bind's small ones by contracts: upTo, life, Check; Check4 of package addr. The program's table of binds as it lies in the heap: its ports, a map by flows, a map by ports; New. -/
import Derived.Test.YtkhahbghmdccaaaGreatDoorF23
import Derived.Test.YtkhahbghmdccaaaGreatDoorF26
import Derived.Test.YtkhahbghmdccaaaGreatDoorProg
import Derived.Deep.MidRow
import Derived.Laws.ResultCell
import Derived.Deep.CutBlock
import Derived.Deep.QuietTactic
import Derived.OwnWalk
import Derived.Deep.RegionHeld3
import Derived.Deep.DrawnRows
import Derived.Laws.StructEq
import Derived.Laws.AppendOwnNone
import Derived.Maps.AppendAt
import Derived.Maps.RangeWalk
import Derived.WalkKit
import Derived.LaidEql
import Derived.BigQuiet
import Derived.Below
import Derived.Laws.MakeOwn
import Derived.Deep.RegionLaw
import Derived.Test.YtkhahbghmdccaaaGreatDoorF15
import Derived.Stop.Asserts
import Derived.RowKitTokens
import Derived.Test.YtkhahbghmdccaaaGreatDoorF24
namespace Go.Proofs.YtkhahbghmdccaaaGreatDoor
open Go.RowKit
open Go.ChangeMaps (setBlock)
open Go.MapKept (Stamped)
def KO (k : TypeId) (S : Value → Prop) : Prop :=
  (∀ em v (w : World), S v → (Instr.checkKey em 10000 k v).run Tryz.prog w = .ok () w) ∧
  (∀ (w : World) x, S x → ∀ es : List MapEntry, (∀ e ∈ es, S e.key) → ((Instr.findKey k x es).run Tryz.prog w = .ok none w ∧ ∀ e ∈ es, e.key ≠ x) ∨ ∃ j e, (Instr.findKey k x es).run Tryz.prog w = .ok (some (j, e.val)) w ∧ es[j]? = some e ∧ e.key = x) ∧
  (∀ (w : World) v, S v → (Instr.keyThatStays v v).run Tryz.prog w = .ok v w)
def en (e : MapEntry) : Value × Value := (e.key, e.val)
def MP (S : Value → Prop) (b : Nat) (l : List (Value × Value)) (w : World) : Prop := ∃ es clock, w.heap[b]? = some (.map es clock) ∧ Stamped es clock ∧ (es.toList.map en).Perm l ∧ ∀ e ∈ es.toList, S e.key
theorem MP.lt {S : Value → Prop} {b : Nat} {l : List (Value × Value)} {w : World} (h : MP S b l w) : b < w.heap.size := by obtain ⟨es, c, h1, _⟩ := h; exact (Array.getElem?_eq_some_iff.1 h1).1
theorem MP.same {S : Value → Prop} {b : Nat} {l : List (Value × Value)} {w w' : World} (h : MP S b l w) (e : w'.heap[b]? = w.heap[b]?) : MP S b l w' := by obtain ⟨es, c, h1, h2⟩ := h; exact ⟨es, c, e.trans h1, h2⟩
theorem MP.perm {S : Value → Prop} {b : Nat} {l l' : List (Value × Value)} {w : World} (h : MP S b l w) (e : l.Perm l') : MP S b l' w := by obtain ⟨es, c, h1, h2, h3, h4⟩ := h; exact ⟨es, c, h1, h2, h3.trans e, h4⟩
theorem MP.notcells {S : Value → Prop} {b : Nat} {l : List (Value × Value)} {w : World} (h : MP S b l w) {cs : Array Value} {t : TypeId} {z : Nat × Nat} : w.heap[b]? ≠ some (.cells cs t z) := by obtain ⟨es, c, h1, _⟩ := h; rw [h1]; intro e; cases e
theorem mp_new (S : Value → Prop) (w : World) : MP S w.heap.size [] (w.alloc (.map #[] 0)) := ⟨#[], 0, heap_alloc_new w _, MapKept.stamped_empty 0, List.Perm.refl _, by simp⟩
theorem key_one {es : Array MapEntry} {clock : Nat} (hs : Stamped es clock) {x y : MapEntry} (hx : x ∈ es.toList) (hy : y ∈ es.toList) (h : x.key = y.key) : x = y :=
  entry_eq_of_key ((MapKept.stamped_iff es clock).1 hs).2.2 hx hy h
theorem mem_en {es : Array MapEntry} {l : List (Value × Value)} (hp : (es.toList.map en).Perm l) {x v : Value} (h : (x, v) ∈ l) : ∃ e ∈ es.toList, e.key = x ∧ e.val = v := by
  obtain ⟨e, he, e1⟩ := List.mem_map.1 (hp.mem_iff.2 h)
  unfold en at e1
  injection e1 with e1 e2
  exact ⟨e, he, e1, e2⟩
theorem MP.look_yes {S : Value → Prop} {b : Nat} {l : List (Value × Value)} {w : World} {t k el : TypeId} (K : KO k S) (ht : Tryz.prog.underlying t = some (.map k el)) (h : MP S b l w) {x v : Value} (hx : S x) (hm : (x, v) ∈ l) (c : Bool) :
    (Instr.lookup t (.map (some b)) x c).run Tryz.prog w = .ok (if c then .tuple #[v, .bool true] else v) w := by
  obtain ⟨es, clock, hb, hs, hp, hS⟩ := h
  obtain ⟨e0, he0, hk0, hv0⟩ := mem_en hp hm
  rcases K.2.1 w x hx es.toList hS with ⟨h1, h2⟩ | ⟨j, e1, h1, h2, h3⟩
  · exact absurd hk0 (h2 e0 he0)
  · have : e1 = e0 := key_one hs (List.mem_of_getElem? h2) he0 (h3.trans hk0.symm)
    subst this
    subst hv0
    simp [Instr.lookup, run_underlying ht, MapKept.run_getObj_map hb, K.1 _ x w hx, h1, Result.andThen]
theorem MP.look_no {S : Value → Prop} {b : Nat} {l : List (Value × Value)} {w : World} {t k el : TypeId} (K : KO k S) (ht : Tryz.prog.underlying t = some (.map k el)) (h : MP S b l w) {x z : Value} (hz : (zeroValue el).run Tryz.prog w = .ok z w) (hx : S x) (hm : ∀ p ∈ l, p.1 ≠ x) (c : Bool) :
    (Instr.lookup t (.map (some b)) x c).run Tryz.prog w = .ok (if c then .tuple #[z, .bool false] else z) w := by
  obtain ⟨es, clock, hb, hs, hp, hS⟩ := h
  rcases K.2.1 w x hx es.toList hS with ⟨h1, h2⟩ | ⟨j, e1, h1, h2, h3⟩
  · simp [Instr.lookup, run_underlying ht, MapKept.run_getObj_map hb, K.1 _ x w hx, h1, hz, Result.andThen]
  · exact absurd h3 (hm (en e1) (hp.mem_iff.1 (List.mem_map.2 ⟨e1, List.mem_of_getElem? h2, rfl⟩)))
theorem only_block {w : World} {b : Nat} {es : Array MapEntry} {clock : Nat} (hb : w.heap[b]? = some (.map es clock)) (o : Obj) : Only b w (setBlock w b o) := ⟨rfl, rfl, rfl, by simp [setBlock], fun g hg => ChangeMaps.heap_setBlock_other hb o hg⟩
theorem MP.store_new {S : Value → Prop} {b : Nat} {l : List (Value × Value)} {w : World} {t k el : TypeId} (K : KO k S) (ht : Tryz.prog.underlying t = some (.map k el)) (h : MP S b l w) {x : Value} (v : Value) (hx : S x) (hm : ∀ p ∈ l, p.1 ≠ x) :
    ∃ w', (Instr.mapUpdate t (.map (some b)) x v).run Tryz.prog w = .ok () w' ∧ MP S b ((x, v) :: l) w' ∧ Only b w w' := by
  obtain ⟨es, clock, hb, hs, hp, hS⟩ := h
  rcases K.2.1 w x hx es.toList hS with ⟨h1, h2⟩ | ⟨j, e1, h1, h2, h3⟩
  · refine ⟨setBlock w b (.map (es.push ⟨x, v, clock⟩) (clock + 1)), ?_, ⟨_, _, ChangeMaps.heap_setBlock_same hb _, MapKept.stamped_push hs h2, ?_, ?_⟩, only_block hb _⟩
    · simp [Instr.mapUpdate, run_underlying ht, MapKept.run_getObj_map hb, K.1 _ x w hx, h1, MapKept.run_setObj_map _ hb, Result.andThen, setBlock]
    · rw [Array.toList_push, List.map_append]
      exact (List.perm_append_singleton _ _).trans (hp.cons _)
    · intro e he
      simp only [Array.toList_push, List.mem_append, List.mem_singleton] at he
      rcases he with he | rfl
      · exact hS e he
      · exact hx
  · exact absurd h3 (hm (en e1) (hp.mem_iff.1 (List.mem_map.2 ⟨e1, List.mem_of_getElem? h2, rfl⟩)))
theorem erase_perm {α : Type} : ∀ (l : List α) (j : Nat) (x : α), l[j]? = some x → l.Perm (x :: l.eraseIdx j)
  | [], _, _, h => by simp at h
  | y :: r, 0, x, h => by simp at h; subst h; exact List.Perm.refl _
  | y :: r, j + 1, x, h => by
    have := erase_perm r j x (by simpa using h)
    simp only [List.eraseIdx_cons_succ]
    exact (this.cons y).trans (List.Perm.swap x y _)
theorem rest_perm {es : Array MapEntry} {clock : Nat} (hs : Stamped es clock) {l r : List (Value × Value)} (hp : (es.toList.map en).Perm l) {x u : Value} (hl : l.Perm ((x, u) :: r)) {j : Nat} {e1 : MapEntry} (h2 : es.toList[j]? = some e1) (h3 : e1.key = x) : ((es.toList.eraseIdx j).map en).Perm r := by
  obtain ⟨e0, he0, hk0, hv0⟩ := mem_en (hp.trans hl) (List.mem_cons_self ..)
  have : e1 = e0 := key_one hs (List.mem_of_getElem? h2) he0 (h3.trans hk0.symm)
  subst this
  have h5 := (erase_perm es.toList j e1 h2).map en
  rw [List.map_cons, show en e1 = (x, u) by unfold en; rw [hk0, hv0]] at h5
  exact (h5.symm.trans (hp.trans hl)).cons_inv
theorem MP.store_old {S : Value → Prop} {b : Nat} {l r : List (Value × Value)} {w : World} {t k el : TypeId} (K : KO k S) (ht : Tryz.prog.underlying t = some (.map k el)) (h : MP S b l w) {x u : Value} (v : Value) (hx : S x) (hl : l.Perm ((x, u) :: r)) :
    ∃ w', (Instr.mapUpdate t (.map (some b)) x v).run Tryz.prog w = .ok () w' ∧ MP S b ((x, v) :: r) w' ∧ Only b w w' := by
  obtain ⟨es, clock, hb, hs, hp, hS⟩ := h
  rcases K.2.1 w x hx es.toList hS with ⟨h1, h2⟩ | ⟨j, e1, h1, h2, h3⟩
  · obtain ⟨e0, he0, hk0, _⟩ := mem_en (hp.trans hl) (List.mem_cons_self ..)
    exact absurd hk0 (h2 e0 he0)
  · have hj : es[j]? = some e1 := by simpa using h2
    have hlist : (es.modify j (fun e' => { e' with key := x, val := v })).toList = es.toList.set j { e1 with key := x, val := v } := by rw [Array.toList_modify, ChangeMaps.modify_eq_set _ _ _ _ h2]
    have hjl : j < es.toList.length := (List.getElem?_eq_some_iff.1 h2).1
    refine ⟨setBlock w b (.map (es.modify j fun e' => { e' with key := x, val := v }) clock), ?_, ⟨_, _, ChangeMaps.heap_setBlock_same hb _, MapKept.stamped_modify hs _ _ (fun _ _ => rfl) (fun e' _ he' => by rw [hj] at he'; cases he'; exact h3.symm), ?_, ?_⟩, only_block hb _⟩
    · simp [Instr.mapUpdate, run_underlying ht, MapKept.run_getObj_map hb, K.1 _ x w hx, h1, hj, h3, K.2.2 w x hx, MapKept.run_setObj_map _ hb, Result.andThen, setBlock]
    · rw [hlist]
      refine ((ChangeMaps.set_perm _ _ hjl _).map en).trans ?_
      rw [List.map_cons]
      exact (rest_perm hs hp hl h2 h3).cons _
    · rw [hlist]
      intro e he
      rcases List.mem_or_eq_of_mem_set he with he | rfl
      · exact hS e he
      · exact hx
theorem MP.strike {S : Value → Prop} {b : Nat} {l r : List (Value × Value)} {w : World} {t k el : TypeId} (K : KO k S) (ht : Tryz.prog.underlying t = some (.map k el)) (h : MP S b l w) {x u : Value} (hx : S x) (hl : l.Perm ((x, u) :: r)) (ty : TypeId) :
    ∃ w', (Builtin.delete_ #[t, k] ty #[.map (some b), x]).run Tryz.prog w = .ok (.tuple #[]) w' ∧ MP S b r w' ∧ Only b w w' := by
  obtain ⟨es, clock, hb, hs, hp, hS⟩ := h
  rcases K.2.1 w x hx es.toList hS with ⟨h1, h2⟩ | ⟨j, e1, h1, h2, h3⟩
  · obtain ⟨e0, he0, hk0, _⟩ := mem_en (hp.trans hl) (List.mem_cons_self ..)
    exact absurd hk0 (h2 e0 he0)
  · have hjl : j < es.toList.length := (List.getElem?_eq_some_iff.1 h2).1
    have hjs : j < es.size := by simpa using hjl
    have hsub : (es.eraseIdxIfInBounds j).toList = es.toList.eraseIdx j := by
      unfold Array.eraseIdxIfInBounds
      rw [dif_pos hjs]
      simp
    refine ⟨setBlock w b (.map (es.eraseIdxIfInBounds j) clock), ?_, ⟨_, _, ChangeMaps.heap_setBlock_same hb _, MapKept.stamped_erase hs j, ?_, ?_⟩, only_block hb _⟩
    · simp [Builtin.delete_, run_underlying ht, MapKept.run_getObj_map hb, K.1 _ x w hx, h1, MapKept.run_setObj_map _ hb, Result.andThen, setBlock]
    · rw [hsub]
      exact rest_perm hs hp hl h2 h3
    · rw [hsub]
      intro e he
      exact hS e ((List.eraseIdx_sublist _ _).subset he)
def MR (S : Value → Prop) (b r : Nat) (l rem : List (Value × Value)) (w : World) : Prop := ∃ es clock since seen c0, w.heap[b]? = some (.map es clock) ∧ Stamped es clock ∧ (es.toList.map en).Perm l ∧ (∀ e ∈ es.toList, S e.key) ∧ w.heap[r]? = some (.mapIter (some b) since seen c0) ∧ (∀ x ∈ es.toList, x.born < since) ∧ ((leftOf es seen).toList.map en).Perm rem ∧ since ≤ c0 ∧ since ≤ clock
theorem MR.same {S : Value → Prop} {b r : Nat} {l rem : List (Value × Value)} {w w' : World} (h : MR S b r l rem w) (e1 : w'.heap[b]? = w.heap[b]?) (e2 : w'.heap[r]? = w.heap[r]?) : MR S b r l rem w' := by
  obtain ⟨es, c, s, n, c0, h1, h2, h3, h4, h5, h6⟩ := h
  exact ⟨es, c, s, n, c0, e1.trans h1, h2, h3, h4, e2.trans h5, h6⟩
theorem MR.perm {S : Value → Prop} {b r : Nat} {l rem rem' : List (Value × Value)} {w : World} (h : MR S b r l rem w) (e : rem.Perm rem') : MR S b r l rem' w := by
  obtain ⟨es, c, s, n, c0, h1, h2, h3, h4, h5, h6, h7, h8⟩ := h
  exact ⟨es, c, s, n, c0, h1, h2, h3, h4, h5, h6, h7.trans e, h8⟩
theorem MR.lt {S : Value → Prop} {b r : Nat} {l rem : List (Value × Value)} {w : World} (h : MR S b r l rem w) : b < w.heap.size ∧ r < w.heap.size := by
  obtain ⟨es, c, s, n, c0, h1, h2, h3, h4, h5, h6⟩ := h
  exact ⟨(Array.getElem?_eq_some_iff.1 h1).1, (Array.getElem?_eq_some_iff.1 h5).1⟩
theorem MR.notcells {S : Value → Prop} {b r : Nat} {l rem : List (Value × Value)} {w : World} (h : MR S b r l rem w) {cs : Array Value} {t : TypeId} {z : Nat × Nat} : w.heap[r]? ≠ some (.cells cs t z) := by
  obtain ⟨es, c, s, n, c0, h1, h2, h3, h4, h5, h6⟩ := h
  rw [h5]; intro e; cases e
theorem MR.ne {S : Value → Prop} {b r : Nat} {l rem : List (Value × Value)} {w : World} (h : MR S b r l rem w) : r ≠ b := by
  obtain ⟨es, c, s, n, c0, h1, h2, h3, h4, h5, h6⟩ := h
  rintro rfl
  rw [h1] at h5; cases h5
theorem MR.left {S : Value → Prop} {b r : Nat} {l rem : List (Value × Value)} {w : World} (h : MR S b r l rem w) : w.rangeLeft b r = rem.length := by
  obtain ⟨es, c, s, n, c0, h1, h2, h3, h4, h5, h6, h7, h8⟩ := h
  unfold World.rangeLeft
  rw [h1, h5]
  have := h7.length_eq
  simpa using this
theorem MR.start {S : Value → Prop} {b : Nat} {l : List (Value × Value)} {w : World} {t k el : TypeId} (ht : Tryz.prog.underlying t = some (.map k el)) (h : MP S b l w) :
    ∃ w', (Instr.range t (.map (some b))).run Tryz.prog w = .ok (.pointer (some ⟨w.heap.size, 0, none⟩)) w' ∧ MR S b w.heap.size l l w' ∧ Below w.heap.size w w' := by
  have hlt := h.lt
  obtain ⟨es, clock, hb, hs, hp, hS⟩ := h
  refine ⟨_, run_range_map w t k el b es clock ht hb, ⟨es, clock, clock, #[], clock, ((MapKept.heap_alloc w _).2 b hlt).trans hb, hs, hp, hS, (MapKept.heap_alloc w _).1, hs.1, ?_, Nat.le_refl _, Nat.le_refl _⟩, al_below w _⟩
  have e0 : (leftOf es #[]).toList = es.toList := by
    unfold leftOf
    rw [Array.toList_filter]
    exact List.filter_eq_self.2 (fun _ _ => by simp)
  rw [e0]
  exact hp
theorem perm_strike (e : MapEntry) : ∀ L : List MapEntry, (L.map (·.born)).Nodup → e ∈ L → L.Perm (e :: L.filter (fun x => !(x.born == e.born)))
  | [], _, h => by simp at h
  | y :: r, hn, h => by
    rw [List.map_cons, List.nodup_cons] at hn
    rcases List.mem_cons.1 h with rfl | h
    · have : (e :: r).filter (fun x => !(x.born == e.born)) = r := by
        rw [List.filter_cons_of_neg (by simp), List.filter_eq_self]
        intro x hx
        have : x.born ≠ e.born := fun e1 => hn.1 (List.mem_map.2 ⟨x, hx, e1⟩)
        simpa using this
      rw [this]
    · have hne : y.born ≠ e.born := fun e1 => hn.1 (List.mem_map.2 ⟨e, h, e1.symm⟩)
      rw [List.filter_cons_of_pos (by simpa using hne)]
      exact ((perm_strike e r hn.2 h).cons y).trans (List.Perm.swap e y _)
theorem left_push (es : Array MapEntry) (seen : Array Nat) (n : Nat) : (leftOf es (seen.push n)).toList = (leftOf es seen).toList.filter (fun x => !(x.born == n)) := by
  unfold leftOf
  rw [Array.toList_filter, Array.toList_filter, List.filter_filter]
  refine List.filter_congr fun x _ => ?_
  rw [contains_push]
  cases seen.contains x.born <;> cases (x.born == n) <;> rfl
theorem MR.next {S : Value → Prop} {b r : Nat} {l rem : List (Value × Value)} {w : World} (h : MR S b r l rem w) (ty : TypeId) :
    (rem = [] ∧ (Instr.next (.pointer (some ⟨r, 0, none⟩)) false ty).run Tryz.prog w = .ok (.tuple #[.bool false]) w) ∨
    ∃ key v rem' w', rem.Perm ((key, v) :: rem') ∧ (Instr.next (.pointer (some ⟨r, 0, none⟩)) false ty).run Tryz.prog w = .ok (.tuple #[.bool true, key, v]) w' ∧ MR S b r l rem' w' ∧ Only r w w' ∧ (Instr.entry (.pointer (some ⟨r, 0, none⟩))).run Tryz.prog w' = .ok (.tuple #[key, v]) w' := by
  have hne := h.ne
  obtain ⟨es, clock, since, seen, c0, hb, hs, hp, hS, hr, hold, hrem, hsc, hsk⟩ := h
  rcases run_next_at (P := Tryz.prog) w ty r b since c0 seen es clock hr hb hold hsc with ⟨h0, hrun⟩ | ⟨e, he, w1, hal, hrun⟩
  · refine .inl ⟨?_, hrun⟩
    have := hrem.length_eq
    rw [List.length_map] at this
    exact List.length_eq_zero_iff.1 (by rw [← this]; simpa using h0)
  · have hem : e ∈ es.toList := by unfold leftOf at he; simp at he ⊢; exact he.1
    have hr1 : w1.heap[r]? = some (.mapIter (some b) since seen c0) := by rcases hal with rfl | rfl <;> exact hr
    have hb1 : w1.heap[b]? = some (.map es clock) := by rcases hal with rfl | rfl <;> exact hb
    have hset := MapKept.heap_set (w := w1) (r := r) (o' := .mapIter (some b) since (seen.push e.born) clock) hr1
    have hb' : (setBlock w1 r (.mapIter (some b) since (seen.push e.born) clock)).heap[b]? = some (.map es clock) := (hset.2 b (fun e1 => hne e1.symm)).trans hb1
    have hst := (MapKept.stamped_iff es clock).1 hs
    have hnd : ((leftOf es seen).toList.map (·.born)).Nodup := by
      unfold leftOf
      rw [Array.toList_filter]
      exact ((List.filter_sublist (l := es.toList)).map _).nodup hst.2.1
    have hpm := (perm_strike e _ hnd he).map en
    rw [List.map_cons, ← left_push] at hpm
    refine .inr ⟨e.key, e.val, _, _, hrem.symm.trans hpm, hrun, ⟨es, clock, since, seen.push e.born, clock, hb', hs, hp, hS, hset.1, hold, List.Perm.refl _, hsk, hsk⟩, ?_, run_entry_at _ r b since seen es clock e hset.1 hb' hem hst.2.1⟩
    rcases hal with rfl | rfl <;> exact ⟨rfl, rfl, rfl, by simp [setBlock], fun g hg => hset.2 g hg⟩
theorem at_rng {S : Value → Prop} {w : World} {ops : Array Oper} {rest : List Oper} {o : Oper} {a : Act} {Q : Exit → Act → World → Prop} (hg : o.guard = none) (m : Operand) (t : TypeId) (hop : o.op = Op.range t m) (k e : TypeId) (ht : Tryz.prog.underlying t = some (.map k e)) (b : Nat) (l : List (Value × Value)) (hm : a.eval m = .map (some b)) (h : MP S b l w)
    (hK : ∀ w', MR S b w.heap.size l l w' → Below w.heap.size w w' → wpList Tryz.prog ops Q rest (a.put o.dst (.pointer (some ⟨w.heap.size, 0, none⟩))) w') : wpList Tryz.prog ops Q (o :: rest) a w := by
  refine wpList_plain hg fun K' hK' => ?_
  obtain ⟨w', hrun, r1, r2⟩ := MR.start ht h
  unfold Oper.wp
  simp [execOp, hop, hm, hrun, Result.andThen]
  exact hK' _ _ (hK w' r1 r2)
theorem at_nxt {S : Value → Prop} {w : World} {ops : Array Oper} {rest : List Oper} {o : Oper} {a : Act} {Q : Exit → Act → World → Prop} (hg : o.guard = none) (it : Operand) (hop : o.op = Op.next it false) (b r : Nat) (l rem : List (Value × Value)) (hit : a.eval it = .pointer (some ⟨r, 0, none⟩)) (h : MR S b r l rem w)
    (hD : rem = [] → wpList Tryz.prog ops Q rest (a.put o.dst (.tuple #[.bool false])) w)
    (hM : ∀ key v rem' w', rem.Perm ((key, v) :: rem') → MR S b r l rem' w' → Only r w w' → (Instr.entry (.pointer (some ⟨r, 0, none⟩))).run Tryz.prog w' = .ok (.tuple #[key, v]) w' → wpList Tryz.prog ops Q rest (a.put o.dst (.tuple #[.bool true, key, v])) w') : wpList Tryz.prog ops Q (o :: rest) a w := by
  refine wpList_plain hg fun K' hK' => ?_
  unfold Oper.wp
  rcases h.next o.type with ⟨h0, hrun⟩ | ⟨key, v, rem', w', hp, hrun, hr, hon, hen⟩
  · simp [execOp, hop, hit, hrun, Result.andThen]
    exact hK' _ _ (hD h0)
  · simp [execOp, hop, hit, hrun, Result.andThen]
    exact hK' _ _ (hM key v rem' w' hp hr hon hen)
end Go.Proofs.YtkhahbghmdccaaaGreatDoor

namespace Go.Proofs.YtkhahbghmdccaaaGreatDoor
open Go.RowKit
def isF (v : Value) : Prop := ∃ f, v = .agg (flC f)
def isI (v : Value) : Prop := ∃ a, v = .int .i64 a
set_option maxRecDepth 100000 in
theorem check_flow (em : Bool) (f : List Int) (w : World) : (Instr.checkKey em 10000 73 (.agg (flC f))).run Tryz.prog w = .ok () w := by kernel_rfl
theorem ask_flow (f : List Int) (w : World) : ∀ (es : List MapEntry) (i : Nat), (∀ e ∈ es, isF e.key) → ((Instr.findAsking 73 (.agg (flC f)) es i).run Tryz.prog w = .ok none w ∧ ∀ e ∈ es, e.key ≠ .agg (flC f)) ∨ ∃ j e, (Instr.findAsking 73 (.agg (flC f)) es i).run Tryz.prog w = .ok (some (i + j, e.val)) w ∧ es[j]? = some e ∧ e.key = .agg (flC f)
  | [], i, _ => .inl ⟨rfl, by simp⟩
  | e :: r, i, h => by
    obtain ⟨g, hg⟩ := h e (List.mem_cons_self ..)
    have hq : (Op.equal 73 (.agg (flC f)) e.key).run Tryz.prog w = .ok (eqf f g) w := by rw [hg]; exact eq_flows f g w
    unfold Instr.findAsking
    rw [Sem.run_bind, hq, Result.andThen_ok]
    cases hc : eqf f g
    · have hne : e.key ≠ .agg (flC f) := fun e1 => by
        rw [hg] at e1
        injection e1 with e1
        rw [(eqf_iff f g).2 e1.symm] at hc
        cases hc
      simp only [Bool.false_eq_true, if_false]
      rcases ask_flow f w r (i + 1) (fun e he => h e (List.mem_cons_of_mem _ he)) with ⟨h1, h2⟩ | ⟨j, e1, h1, h2, h3⟩
      · refine .inl ⟨h1, fun e' he' => ?_⟩
        rcases List.mem_cons.1 he' with rfl | he'
        · exact hne
        · exact h2 e' he'
      · refine .inr ⟨j + 1, e1, ?_, by simpa using h2, h3⟩
        rw [show i + (j + 1) = i + 1 + j by omega]
        exact h1
    · simp only [if_true]
      exact .inr ⟨0, e, rfl, rfl, by rw [hg, (eqf_iff f g).1 hc]⟩
theorem find_flow (w : World) (x : Value) (hx : isF x) (es : List MapEntry) (h : ∀ e ∈ es, isF e.key) : ((Instr.findKey 73 x es).run Tryz.prog w = .ok none w ∧ ∀ e ∈ es, e.key ≠ x) ∨ ∃ j e, (Instr.findKey 73 x es).run Tryz.prog w = .ok (some (j, e.val)) w ∧ es[j]? = some e ∧ e.key = x := by
  obtain ⟨f, rfl⟩ := hx
  unfold Instr.findKey
  rw [Sem.run_bind, run_underlying Tryz.underlying73, Result.andThen_ok]
  cases es with
  | nil => exact .inl ⟨rfl, by simp⟩
  | cons e r =>
    obtain ⟨g, hg⟩ := h e (List.mem_cons_self ..)
    have hn : ∀ d, Instr.findNow (.struct d) (.agg (flC f)) (e :: r) 0 = none := fun d => by
      unfold Instr.findNow
      rw [hg]
      rfl
    rw [hn]
    rcases ask_flow f w (e :: r) 0 h with h1 | ⟨j, e1, h1, h2⟩
    · exact .inl h1
    · exact .inr ⟨j, e1, by rw [Nat.zero_add] at h1; exact h1, h2⟩
theorem stays_flow (f : List Int) (w : World) : (Instr.keyThatStays (.agg (flC f)) (.agg (flC f))).run Tryz.prog w = .ok (.agg (flC f)) w := by
  have hs : Instr.sameBits 10000 (.agg (flC f)) (.agg (flC f)) = true := by
    show Instr.sameBits (9999 + 1) (.agg (flC f)) (.agg (flC f)) = true
    simp [Instr.sameBits, flC]
  simp [Instr.keyThatStays, hs]
theorem kof : KO 73 isF :=
  ⟨fun em v w hv => by obtain ⟨f, rfl⟩ := hv; exact check_flow em f w, fun w x hx es h => find_flow w x hx es h, fun w v hv => by obtain ⟨f, rfl⟩ := hv; exact stays_flow f w⟩
theorem koi : KO 3 isI := by
  have ik : ∀ v, isI v → MapKept.IsKey (.int .i64) v := fun v ⟨a, e⟩ => by rw [e]; simp [MapKept.IsKey]
  refine ⟨fun em v w hv => MapKept.run_checkKey Tryz.underlying3 (ik v hv) em 9999, fun w x hx es h => ?_, fun w v hv => MapKept.run_keyThatStays (ik v hv)⟩
  rcases MapKept.findNow_spec (ik x hx) es 0 (fun y hy => ik _ (h y hy)) with ⟨h1, h2⟩ | ⟨j, e0, h1, h2, h3⟩
  · exact .inl ⟨MapKept.run_findKey Tryz.underlying3 h1, h2⟩
  · exact .inr ⟨j, e0, by simpa using MapKept.run_findKey Tryz.underlying3 h1, h2, h3⟩
theorem Tryz.mapF : Tryz.prog.underlying 177 = some (.map 73 75) := Tryz.underlying177
theorem Tryz.mapI : Tryz.prog.underlying 178 = some (.map 3 73) := Tryz.underlying178
theorem zero_bd (w : World) : (zeroValue 75).run Tryz.prog w = .ok (.agg (bdC [])) w := by kernel_rfl
theorem zero_fl (w : World) : (zeroValue 73).run Tryz.prog w = .ok (.agg (flC [])) w := by kernel_rfl
end Go.Proofs.YtkhahbghmdccaaaGreatDoor

namespace Go.Proofs.YtkhahbghmdccaaaGreatDoor
open Go.RowKit
theorem uptoW (x : Int) (W : World) : Calls Tryz.prog 134 #[.int .i64 65535, .slice (some ⟨W.heap.size, 0, none⟩) 1 1] (W.alloc (.cells #[.int .i64 x] 3)) fun e w' => e = .returned (.bool (wd x)) ∧ Below W.heap.size W w' :=
  (bupto_any 65535 W.heap.size 1 [x] _ rfl (by omega) (ints_new W [x])).mono fun e w' ⟨h1, h2⟩ => ⟨h1.trans (by rw [show bups 65535 [x] = wd x by unfold bups um wd; simp]), by rw [h2]; exact al_below _ _⟩
theorem uptoT (x : Int) (W : World) : Calls Tryz.prog 134 #[.int .i64 1099511627776, .slice (some ⟨W.heap.size, 0, none⟩) 1 1] (W.alloc (.cells #[.int .i64 x] 3)) fun e w' => e = .returned (.bool (tc x)) ∧ Below W.heap.size W w' :=
  (bupto_any 1099511627776 W.heap.size 1 [x] _ rfl (by omega) (ints_new W [x])).mono fun e w' ⟨h1, h2⟩ => ⟨h1.trans (by rw [show bups 1099511627776 [x] = tc x by unfold bups um tc; simp]), by rw [h2]; exact al_below _ _⟩
def lf (k : Int) : Int := if k = 17 then 30 else 100
theorem life_any (k : Int) (w : World) : Calls Tryz.prog 147 #[.int .i64 k] w fun e w' => e = .returned (.int .i64 (lf k)) ∧ w' = w := by
  by_cases h0 : k = 17
  · subst h0
    go_enter Tryz.func147, Tryz.ntmps147
    go_wp2
    go_ret
    exact ⟨rfl, rfl⟩
  · have e : (k == 17) = false := by simpa using h0
    rw [show lf k = 100 by unfold lf; rw [if_neg h0]]
    go_enter Tryz.func147, Tryz.ntmps147
    go_wp2
    go_ret
    exact ⟨rfl, rfl⟩
attribute [local go_sem ↓] hload_shut
end Go.Proofs.YtkhahbghmdccaaaGreatDoor

namespace Go.Proofs.YtkhahbghmdccaaaGreatDoor
open Go.RowKit
def fE (b : List Int) : Value × Value := (.agg (flC b), .agg (bdC b))
def pE (b : List Int) : Value × Value := (.int .i64 (el b 19), .agg (flC b))
def TBl (T P F N : Nat) (w : World) : Prop := w.heap[T]? = some (.cells #[.pointer (some ⟨P, 0, none⟩), .map (some F), .map (some N)] 180 (0, 0))
theorem TBl.lt {T P F N : Nat} {w : World} (h : TBl T P F N w) : T < w.heap.size := (Array.getElem?_eq_some_iff.1 h).1
theorem TBl.c0 {T P F N : Nat} {w : World} (h : TBl T P F N w) : w.cell? ⟨T, 0, none⟩ = some (.pointer (some ⟨P, 0, none⟩)) := cell_of_row w T 0 _ _ _ h
theorem TBl.c1 {T P F N : Nat} {w : World} (h : TBl T P F N w) : w.cell? ⟨T, 1, none⟩ = some (.map (some F)) := cell_of_row w T 1 _ _ _ h
theorem TBl.c2 {T P F N : Nat} {w : World} (h : TBl T P F N w) : w.cell? ⟨T, 2, none⟩ = some (.map (some N)) := cell_of_row w T 2 _ _ _ h
def TC (T P BB F N m : Nat) (ow : Nat → List Int) (ts : Nat → Bool) (bs : List (List Int)) (w : World) : Prop := TBl T P F N w ∧ BP P BB m ow ts w ∧ MP isF F (bs.map fE) w ∧ MP isI N (bs.map pE) w ∧ F ≠ N
theorem TC.same {T P BB F N m : Nat} {ow : Nat → List Int} {ts : Nat → Bool} {bs : List (List Int)} {w w' : World} (h : TC T P BB F N m ow ts bs w) (hs : ∀ g, (g = T ∨ g = P ∨ g = BB ∨ g = F ∨ g = N) → w'.heap[g]? = w.heap[g]?) : TC T P BB F N m ow ts bs w' :=
  ⟨(hs T (.inl rfl)).trans h.1, ⟨(hs P (.inr (.inl rfl))).trans h.2.1.1, h.2.1.2.same (hs BB (.inr (.inr (.inl rfl))))⟩, h.2.2.1.same (hs F (.inr (.inr (.inr (.inl rfl))))), h.2.2.2.1.same (hs N (.inr (.inr (.inr (.inr rfl))))), h.2.2.2.2⟩
theorem TC.lt {T P BB F N m : Nat} {ow : Nat → List Int} {ts : Nat → Bool} {bs : List (List Int)} {w : World} (h : TC T P BB F N m ow ts bs w) (g : Nat) (hg : g = T ∨ g = P ∨ g = BB ∨ g = F ∨ g = N) : g < w.heap.size := by
  rcases hg with rfl | rfl | rfl | rfl | rfl
  · exact h.1.lt
  · exact h.2.1.lt
  · exact h.2.1.2.lt
  · exact h.2.2.1.lt
  · exact h.2.2.2.1.lt
theorem TC.kept {T P BB F N m : Nat} {ow : Nat → List Int} {ts : Nat → Bool} {bs : List (List Int)} {w w' : World} (h : TC T P BB F N m ow ts bs w) (hb : Below w.heap.size w w') : TC T P BB F N m ow ts bs w' := h.same fun g hg => hb.block g (h.lt g hg)
theorem TC.ne {T P BB F N m : Nat} {ow : Nat → List Int} {ts : Nat → Bool} {bs : List (List Int)} {w : World} (h : TC T P BB F N m ow ts bs w) : (T ≠ P ∧ T ≠ BB ∧ T ≠ F ∧ T ≠ N) ∧ (P ≠ BB ∧ P ≠ F ∧ P ≠ N) ∧ BB ≠ F ∧ BB ≠ N ∧ F ≠ N := by
  obtain ⟨h1, ⟨h2, c3, h3, _⟩, h4, h5, h6⟩ := h
  unfold TBl at h1
  refine ⟨⟨?_, ?_, ?_, ?_⟩, ⟨?_, ?_, ?_⟩, ?_, ?_, h6⟩
  · rintro rfl; rw [h1] at h2; cases h2
  · rintro rfl; rw [h1] at h3; cases h3
  · rintro rfl; exact h4.notcells h1
  · rintro rfl; exact h5.notcells h1
  · rintro rfl; rw [h2] at h3; cases h3
  · rintro rfl; exact h4.notcells h2
  · rintro rfl; exact h5.notcells h2
  · rintro rfl; exact h4.notcells h3
  · rintro rfl; exact h5.notcells h3
def TB (v : Value) (m : Nat) (ws : Nat → List Int) (ts : Nat → Bool) (bs : List (List Int)) (O : Nat → Prop) (w : World) : Prop := ∃ T P BB F N ow, v = .pointer (some ⟨T, 0, none⟩) ∧ TC T P BB F N m ow ts bs w ∧ Ag ws ow ts m ∧ O = fun g => g = T ∨ g = P ∨ g = BB ∨ g = F ∨ g = N
theorem tb_kept : JKept TB := by
  rintro v m ws ts bs O w ⟨T, P, BB, F, N, ow, rfl, h, ha, rfl⟩
  exact ⟨fun g hg => h.lt g hg, fun w' _ hs => ⟨T, P, BB, F, N, ow, rfl, h.same hs, ha, rfl⟩⟩
theorem fndY {bs : List (List Int)} {f : List Int} {k : Nat} (h : fnd bs f = some k) : k < bs.length ∧ bs.getD k [] ∈ bs ∧ flC (bs.getD k []) = flC f := by
  unfold fnd at h
  have h1 := List.find?_some h
  have h2 := List.mem_range.1 (List.mem_of_find?_eq_some h)
  exact ⟨h2, mem_getD h2, (eqf_iff _ _).1 h1⟩
theorem fndN {bs : List (List Int)} {f : List Int} (h : fnd bs f = none) : ∀ p ∈ bs.map fE, p.1 ≠ .agg (flC f) := by
  intro p hp e
  obtain ⟨b, hb, rfl⟩ := List.mem_map.1 hp
  obtain ⟨i, hi, e1⟩ := List.mem_iff_getElem.1 hb
  unfold fnd at h
  rw [List.find?_eq_none] at h
  refine h i (List.mem_range.2 hi) ?_
  rw [List.getD_eq_getElem?_getD, List.getElem?_eq_getElem hi, Option.getD_some, e1]
  refine (eqf_iff _ _).2 ?_
  unfold fE at e
  injection e
theorem prtY {bs : List (List Int)} {p : Int} {k : Nat} (h : prt bs p = some k) : k < bs.length ∧ bs.getD k [] ∈ bs ∧ el (bs.getD k []) 19 = p := by
  unfold prt at h
  have h1 := List.find?_some h
  have h2 := List.mem_range.1 (List.mem_of_find?_eq_some h)
  exact ⟨h2, mem_getD h2, by simpa using h1⟩
theorem prtN {bs : List (List Int)} {p : Int} (h : prt bs p = none) : ∀ q ∈ bs.map pE, q.1 ≠ .int .i64 p := by
  intro q hq e
  obtain ⟨b, hb, rfl⟩ := List.mem_map.1 hq
  obtain ⟨i, hi, e1⟩ := List.mem_iff_getElem.1 hb
  unfold prt at h
  rw [List.find?_eq_none] at h
  refine h i (List.mem_range.2 hi) ?_
  rw [List.getD_eq_getElem?_getD, List.getElem?_eq_getElem hi, Option.getD_some, e1]
  unfold pE at e
  injection e with _ e
  simpa using e
def flk (m x : Value) (c : Bool) : Sem Value := Instr.lookup 177 m x c
theorem flk_shut (m x : Value) (c : Bool) : Instr.lookup 177 m x c = flk m x c := rfl
def plk (m x : Value) (c : Bool) : Sem Value := Instr.lookup 178 m x c
theorem plk_shut (m x : Value) (c : Bool) : Instr.lookup 178 m x c = plk m x c := rfl
theorem MP.fyes {F : Nat} {bs : List (List Int)} {w : World} (h : MP isF F (bs.map fE) w) {f : List Int} {k : Nat} (hk : fnd bs f = some k) : (flk (.map (some F)) (.agg (flC f)) true).run Tryz.prog w = .ok (.tuple #[.agg (bdC (bs.getD k [])), .bool true]) w ∧ (flk (.map (some F)) (.agg (flC f)) false).run Tryz.prog w = .ok (.agg (bdC (bs.getD k []))) w := by
  obtain ⟨_, h2, h3⟩ := fndY hk
  have hm : ((.agg (flC f) : Value), (.agg (bdC (bs.getD k [])) : Value)) ∈ bs.map fE := List.mem_map.2 ⟨_, h2, by unfold fE; rw [h3]⟩
  exact ⟨h.look_yes kof Tryz.mapF ⟨f, rfl⟩ hm true, h.look_yes kof Tryz.mapF ⟨f, rfl⟩ hm false⟩
theorem MP.fno {F : Nat} {bs : List (List Int)} {w : World} (h : MP isF F (bs.map fE) w) {f : List Int} (hk : fnd bs f = none) : (flk (.map (some F)) (.agg (flC f)) true).run Tryz.prog w = .ok (.tuple #[.agg (bdC []), .bool false]) w :=
  h.look_no kof Tryz.mapF (zero_bd w) ⟨f, rfl⟩ (fndN hk) true
theorem MP.pyes {N : Nat} {bs : List (List Int)} {w : World} (h : MP isI N (bs.map pE) w) {p : Int} {k : Nat} (hk : prt bs p = some k) : (plk (.map (some N)) (.int .i64 p) true).run Tryz.prog w = .ok (.tuple #[.agg (flC (bs.getD k [])), .bool true]) w := by
  obtain ⟨_, h2, h3⟩ := prtY hk
  have hm : ((.int .i64 p : Value), (.agg (flC (bs.getD k [])) : Value)) ∈ bs.map pE := List.mem_map.2 ⟨_, h2, by unfold pE; rw [h3]⟩
  exact h.look_yes koi Tryz.mapI ⟨p, rfl⟩ hm true
theorem MP.pno {N : Nat} {bs : List (List Int)} {w : World} (h : MP isI N (bs.map pE) w) {p : Int} (hk : prt bs p = none) : (plk (.map (some N)) (.int .i64 p) true).run Tryz.prog w = .ok (.tuple #[.agg (flC []), .bool false]) w :=
  h.look_no koi Tryz.mapI (zero_fl w) ⟨p, rfl⟩ (prtN hk) true
set_option maxRecDepth 100000 in
set_option maxHeartbeats 1000000 in
theorem bnew_bad (b : Int) (w : World) (hb : b < 1 ∨ 16 < b) : Calls Tryz.prog 39 #[.int .i64 b] w fun e w' => (∃ v, e = .returned (.tuple #[v, err 1])) ∧ Below w.heap.size w w' := by
  have HN := hide (pnew_bad b w hb)
  unfold err at HN
  clear hb
  go_enter Tryz.func39, Tryz.ntmps39
  go_wp2_with (go_at_call 100; refine HN.out.mono ?_; rintro e w1 ⟨rfl, rfl⟩)
  go_ret2
  exact ⟨⟨_, rfl⟩, Below.refl _ _⟩
set_option maxRecDepth 100000 in
set_option maxHeartbeats 1000000 in
theorem bnew_any (m : Nat) (w : World) (h1 : 1 ≤ m) (hm : m ≤ 16) : Calls Tryz.prog 39 #[.int .i64 m] w fun e w' => ∃ T P BB F N, e = .returned (.tuple #[.pointer (some ⟨T, 0, none⟩), .nilIface]) ∧ TC T P BB F N m (fun _ => []) (fun _ => false) [] w' ∧ (w.heap.size ≤ T ∧ w.heap.size ≤ P ∧ w.heap.size ≤ BB ∧ w.heap.size ≤ F ∧ w.heap.size ≤ N) ∧ Below w.heap.size w w' := by
  have HN := hide (pnew_any m w h1 hm)
  clear h1 hm
  go_enter Tryz.func39, Tryz.ntmps39
  have hmm := @run_makeMap Tryz.prog
  go_wp2_with (go_at_call 100; refine HN.out.mono ?_; rintro e w1 ⟨P, BB, rfl, hp, h1, h2, hb⟩; replace hp := hide hp; replace h1 := hide (And.intro h1 h2); replace hb := hide hb; clear h2)
  go_ret2
  have b1 := al_below w1 (.map #[] 0)
  have b2 := al_below (w1.alloc (.map #[] 0)) (.map #[] 0)
  have b3 := al_below ((w1.alloc (.map #[] 0)).alloc (.map #[] 0)) (.cells #[.pointer (some ⟨P, 0, none⟩), .map (some w1.heap.size), .map (some (w1.heap.size + 1))] 180)
  have m1 := mp_new isF w1
  have m2 := mp_new isI (w1.alloc (.map #[] 0))
  rw [World.size_alloc] at m2
  have t1 : TBl (w1.heap.size + 1 + 1) P w1.heap.size (w1.heap.size + 1) (((w1.alloc (.map #[] 0)).alloc (.map #[] 0)).alloc (.cells #[.pointer (some ⟨P, 0, none⟩), .map (some w1.heap.size), .map (some (w1.heap.size + 1))] 180)) := by
    have := heap_alloc_new ((w1.alloc (.map #[] 0)).alloc (.map #[] 0)) (.cells #[.pointer (some ⟨P, 0, none⟩), .map (some w1.heap.size), .map (some (w1.heap.size + 1))] 180)
    rw [World.size_alloc, World.size_alloc] at this
    exact this
  have hs := hb.out.size
  exact ⟨w1.heap.size + 1 + 1, P, BB, w1.heap.size, w1.heap.size + 1, rfl, ⟨t1, ((hp.out.kept b1).kept b2).kept b3, (m1.same (b2.block _ m1.lt)).same (b3.block _ (Nat.lt_of_lt_of_le m1.lt b2.size)), m2.same (b3.block _ m2.lt), by omega⟩, ⟨by omega, h1.out.1, h1.out.2, hs, by omega⟩, bt (bt (bt hb.out b1) b2) b3⟩
theorem tb_new : JNew TB := by
  refine ⟨bnew_bad, fun m w h1 hm => (bnew_any m w h1 hm).mono ?_⟩
  rintro e w' ⟨T, P, BB, F, N, rfl, h, ⟨g1, g2, g3, g4, g5⟩, hb⟩
  exact ⟨_, _, rfl, ⟨T, P, BB, F, N, _, rfl, h, fun _ _ _ _ _ => rfl, rfl⟩, fun g hg => by rcases hg with rfl | rfl | rfl | rfl | rfl <;> assumption, hb⟩
end Go.Proofs.YtkhahbghmdccaaaGreatDoor
