/- Maps as lists of entries: a look, a store, a strike, a range. Keys that are flows, keys that are ints. -/
import Derived.Test.YtjkkonpangcnjaaDoorBdB
import Derived.Maps.RangeWalk
namespace Go.Proofs.YtjkkonpangcnjaaDoor
open Go.RowKit
open Go.ChangeMaps (setBlock)
open Go.MapKept (Stamped)

/-- what is asked of keys of a type: they may be keys, they are found among others, and stay what they are. -/
def KO (k : TypeId) (S : Value → Prop) : Prop :=
  (∀ em v (w : World), S v → (Instr.checkKey em 10000 k v).run Tryd.prog w = .ok () w) ∧
  (∀ (w : World) x, S x → ∀ es : List MapEntry, (∀ e ∈ es, S e.key) → ((Instr.findKey k x es).run Tryd.prog w = .ok none w ∧ ∀ e ∈ es, e.key ≠ x) ∨ ∃ j e, (Instr.findKey k x es).run Tryd.prog w = .ok (some (j, e.val)) w ∧ es[j]? = some e ∧ e.key = x) ∧
  (∀ (w : World) v, S v → (Instr.keyThatStays v v).run Tryd.prog w = .ok v w)
/-- an entry's key and value. -/
def en (e : MapEntry) : Value × Value := (e.key, e.val)
/-- a map that holds just these, in whatever order. -/
def MP (S : Value → Prop) (b : Nat) (l : List (Value × Value)) (w : World) : Prop := ∃ es clock, w.heap[b]? = some (.map es clock) ∧ Stamped es clock ∧ (es.toList.map en).Perm l ∧ ∀ e ∈ es.toList, S e.key
theorem MP.lt {S : Value → Prop} {b : Nat} {l : List (Value × Value)} {w : World} (h : MP S b l w) : b < w.heap.size := by obtain ⟨es, c, h1, _⟩ := h; exact (Array.getElem?_eq_some_iff.1 h1).1
theorem MP.same {S : Value → Prop} {b : Nat} {l : List (Value × Value)} {w w' : World} (h : MP S b l w) (e : w'.heap[b]? = w.heap[b]?) : MP S b l w' := by obtain ⟨es, c, h1, h2⟩ := h; exact ⟨es, c, e.trans h1, h2⟩
theorem MP.perm {S : Value → Prop} {b : Nat} {l l' : List (Value × Value)} {w : World} (h : MP S b l w) (e : l.Perm l') : MP S b l' w := by obtain ⟨es, c, h1, h2, h3, h4⟩ := h; exact ⟨es, c, h1, h2, h3.trans e, h4⟩
theorem MP.notcells {S : Value → Prop} {b : Nat} {l : List (Value × Value)} {w : World} (h : MP S b l w) {cs : Array Value} {t : TypeId} {z : Nat × Nat} : w.heap[b]? ≠ some (.cells cs t z) := by obtain ⟨es, c, h1, _⟩ := h; rw [h1]; intro e; cases e
theorem mp_new (S : Value → Prop) (w : World) : MP S w.heap.size [] (w.alloc (.map #[] 0)) := ⟨#[], 0, heap_alloc_new w _, MapKept.stamped_empty 0, List.Perm.refl _, by simp⟩
theorem key_one {es : Array MapEntry} {clock : Nat} (hs : Stamped es clock) {x y : MapEntry} (hx : x ∈ es.toList) (hy : y ∈ es.toList) (h : x.key = y.key) : x = y :=
  entry_eq_of_key ((MapKept.stamped_iff es clock).1 hs).2.2 hx hy h
theorem mem_en {es : Array MapEntry} {l : List (Value × Value)} (hp : (es.toList.map en).Perm l) {x v : Value} (h : (x, v) ∈ l) : ∃ e ∈ es.toList, e.key = x ∧ e.val = v := by
  obtain ⟨e, he, e1⟩ := List.mem_map.1 (hp.mem_iff.2 h)
  unfold en at e1
  injection e1 with e1 e2
  exact ⟨e, he, e1, e2⟩
theorem MP.look_yes {S : Value → Prop} {b : Nat} {l : List (Value × Value)} {w : World} {t k el : TypeId} (K : KO k S) (ht : Tryd.prog.underlying t = some (.map k el)) (h : MP S b l w) {x v : Value} (hx : S x) (hm : (x, v) ∈ l) (c : Bool) :
    (Instr.lookup t (.map (some b)) x c).run Tryd.prog w = .ok (if c then .tuple #[v, .bool true] else v) w := by
  obtain ⟨es, clock, hb, hs, hp, hS⟩ := h
  obtain ⟨e0, he0, hk0, hv0⟩ := mem_en hp hm
  rcases K.2.1 w x hx es.toList hS with ⟨h1, h2⟩ | ⟨j, e1, h1, h2, h3⟩
  · exact absurd hk0 (h2 e0 he0)
  · have : e1 = e0 := key_one hs (List.mem_of_getElem? h2) he0 (h3.trans hk0.symm)
    subst this
    subst hv0
    simp [Instr.lookup, run_underlying ht, MapKept.run_getObj_map hb, K.1 _ x w hx, h1, Result.andThen]
theorem MP.look_no {S : Value → Prop} {b : Nat} {l : List (Value × Value)} {w : World} {t k el : TypeId} (K : KO k S) (ht : Tryd.prog.underlying t = some (.map k el)) (h : MP S b l w) {x z : Value} (hz : (zeroValue el).run Tryd.prog w = .ok z w) (hx : S x) (hm : ∀ p ∈ l, p.1 ≠ x) (c : Bool) :
    (Instr.lookup t (.map (some b)) x c).run Tryd.prog w = .ok (if c then .tuple #[z, .bool false] else z) w := by
  obtain ⟨es, clock, hb, hs, hp, hS⟩ := h
  rcases K.2.1 w x hx es.toList hS with ⟨h1, h2⟩ | ⟨j, e1, h1, h2, h3⟩
  · simp [Instr.lookup, run_underlying ht, MapKept.run_getObj_map hb, K.1 _ x w hx, h1, hz, Result.andThen]
  · exact absurd h3 (hm (en e1) (hp.mem_iff.1 (List.mem_map.2 ⟨e1, List.mem_of_getElem? h2, rfl⟩)))
theorem only_block {w : World} {b : Nat} {es : Array MapEntry} {clock : Nat} (hb : w.heap[b]? = some (.map es clock)) (o : Obj) : Only b w (setBlock w b o) := ⟨rfl, rfl, rfl, by simp [setBlock], fun g hg => ChangeMaps.heap_setBlock_other hb o hg⟩
theorem MP.store_new {S : Value → Prop} {b : Nat} {l : List (Value × Value)} {w : World} {t k el : TypeId} (K : KO k S) (ht : Tryd.prog.underlying t = some (.map k el)) (h : MP S b l w) {x : Value} (v : Value) (hx : S x) (hm : ∀ p ∈ l, p.1 ≠ x) :
    ∃ w', (Instr.mapUpdate t (.map (some b)) x v).run Tryd.prog w = .ok () w' ∧ MP S b ((x, v) :: l) w' ∧ Only b w w' := by
  obtain ⟨es, clock, hb, hs, hp, hS⟩ := h
  rcases K.2.1 w x hx es.toList hS with ⟨h1, h2⟩ | ⟨j, e1, h1, h2, h3⟩
  · refine ⟨setBlock w b (.map (es.push ⟨x, v, clock⟩) (clock + 1)), ?_, ⟨_, _, ChangeMaps.heap_setBlock_same hb _, MapKept.stamped_push hs h2, ?_, ?_⟩, only_block hb _⟩
    · simp [Instr.mapUpdate, run_underlying ht, MapKept.run_getObj_map hb, K.1 _ x w hx, h1, MapKept.run_setObj_map _ hb, Result.andThen, setBlock]
    · rw [Array.toList_push, List.map_append]
      exact (List.perm_append_singleton _ _).trans (hp.cons _)
    · intro e he
      simp only [Array.toList_push, List.mem_append, List.mem_singleton] at he
      rcases he with he | rfl
      · exact hS e he
      · exact hx
  · exact absurd h3 (hm (en e1) (hp.mem_iff.1 (List.mem_map.2 ⟨e1, List.mem_of_getElem? h2, rfl⟩)))
theorem erase_perm {α : Type} : ∀ (l : List α) (j : Nat) (x : α), l[j]? = some x → l.Perm (x :: l.eraseIdx j)
  | [], _, _, h => by simp at h
  | y :: r, 0, x, h => by simp at h; subst h; exact List.Perm.refl _
  | y :: r, j + 1, x, h => by
    have := erase_perm r j x (by simpa using h)
    simp only [List.eraseIdx_cons_succ]
    exact (this.cons y).trans (List.Perm.swap x y _)
theorem rest_perm {es : Array MapEntry} {clock : Nat} (hs : Stamped es clock) {l r : List (Value × Value)} (hp : (es.toList.map en).Perm l) {x u : Value} (hl : l.Perm ((x, u) :: r)) {j : Nat} {e1 : MapEntry} (h2 : es.toList[j]? = some e1) (h3 : e1.key = x) : ((es.toList.eraseIdx j).map en).Perm r := by
  obtain ⟨e0, he0, hk0, hv0⟩ := mem_en (hp.trans hl) (List.mem_cons_self ..)
  have : e1 = e0 := key_one hs (List.mem_of_getElem? h2) he0 (h3.trans hk0.symm)
  subst this
  have h5 := (erase_perm es.toList j e1 h2).map en
  rw [List.map_cons, show en e1 = (x, u) by unfold en; rw [hk0, hv0]] at h5
  exact (h5.symm.trans (hp.trans hl)).cons_inv
theorem MP.store_old {S : Value → Prop} {b : Nat} {l r : List (Value × Value)} {w : World} {t k el : TypeId} (K : KO k S) (ht : Tryd.prog.underlying t = some (.map k el)) (h : MP S b l w) {x u : Value} (v : Value) (hx : S x) (hl : l.Perm ((x, u) :: r)) :
    ∃ w', (Instr.mapUpdate t (.map (some b)) x v).run Tryd.prog w = .ok () w' ∧ MP S b ((x, v) :: r) w' ∧ Only b w w' := by
  obtain ⟨es, clock, hb, hs, hp, hS⟩ := h
  rcases K.2.1 w x hx es.toList hS with ⟨h1, h2⟩ | ⟨j, e1, h1, h2, h3⟩
  · obtain ⟨e0, he0, hk0, _⟩ := mem_en (hp.trans hl) (List.mem_cons_self ..)
    exact absurd hk0 (h2 e0 he0)
  · have hj : es[j]? = some e1 := by simpa using h2
    have hlist : (es.modify j (fun e' => { e' with key := x, val := v })).toList = es.toList.set j { e1 with key := x, val := v } := by rw [Array.toList_modify, ChangeMaps.modify_eq_set _ _ _ _ h2]
    have hjl : j < es.toList.length := (List.getElem?_eq_some_iff.1 h2).1
    refine ⟨setBlock w b (.map (es.modify j fun e' => { e' with key := x, val := v }) clock), ?_, ⟨_, _, ChangeMaps.heap_setBlock_same hb _, MapKept.stamped_modify hs _ _ (fun _ _ => rfl) (fun e' _ he' => by rw [hj] at he'; cases he'; exact h3.symm), ?_, ?_⟩, only_block hb _⟩
    · simp [Instr.mapUpdate, run_underlying ht, MapKept.run_getObj_map hb, K.1 _ x w hx, h1, hj, h3, K.2.2 w x hx, MapKept.run_setObj_map _ hb, Result.andThen, setBlock]
    · rw [hlist]
      refine ((ChangeMaps.set_perm _ _ hjl _).map en).trans ?_
      rw [List.map_cons]
      exact (rest_perm hs hp hl h2 h3).cons _
    · rw [hlist]
      intro e he
      rcases List.mem_or_eq_of_mem_set he with he | rfl
      · exact hS e he
      · exact hx
theorem MP.strike {S : Value → Prop} {b : Nat} {l r : List (Value × Value)} {w : World} {t k el : TypeId} (K : KO k S) (ht : Tryd.prog.underlying t = some (.map k el)) (h : MP S b l w) {x u : Value} (hx : S x) (hl : l.Perm ((x, u) :: r)) (ty : TypeId) :
    ∃ w', (Builtin.delete_ #[t, k] ty #[.map (some b), x]).run Tryd.prog w = .ok (.tuple #[]) w' ∧ MP S b r w' ∧ Only b w w' := by
  obtain ⟨es, clock, hb, hs, hp, hS⟩ := h
  rcases K.2.1 w x hx es.toList hS with ⟨h1, h2⟩ | ⟨j, e1, h1, h2, h3⟩
  · obtain ⟨e0, he0, hk0, _⟩ := mem_en (hp.trans hl) (List.mem_cons_self ..)
    exact absurd hk0 (h2 e0 he0)
  · have hjl : j < es.toList.length := (List.getElem?_eq_some_iff.1 h2).1
    have hjs : j < es.size := by simpa using hjl
    have hsub : (es.eraseIdxIfInBounds j).toList = es.toList.eraseIdx j := by
      unfold Array.eraseIdxIfInBounds
      rw [dif_pos hjs]
      simp
    refine ⟨setBlock w b (.map (es.eraseIdxIfInBounds j) clock), ?_, ⟨_, _, ChangeMaps.heap_setBlock_same hb _, MapKept.stamped_erase hs j, ?_, ?_⟩, only_block hb _⟩
    · simp [Builtin.delete_, run_underlying ht, MapKept.run_getObj_map hb, K.1 _ x w hx, h1, MapKept.run_setObj_map _ hb, Result.andThen, setBlock]
    · rw [hsub]
      exact rest_perm hs hp hl h2 h3
    · rw [hsub]
      intro e he
      exact hS e ((List.eraseIdx_sublist _ _).subset he)
/-- a range under way: what is still to come. -/
def MR (S : Value → Prop) (b r : Nat) (l rem : List (Value × Value)) (w : World) : Prop := ∃ es clock since seen c0, w.heap[b]? = some (.map es clock) ∧ Stamped es clock ∧ (es.toList.map en).Perm l ∧ (∀ e ∈ es.toList, S e.key) ∧ w.heap[r]? = some (.mapIter (some b) since seen c0) ∧ (∀ x ∈ es.toList, x.born < since) ∧ ((leftOf es seen).toList.map en).Perm rem ∧ since ≤ c0 ∧ since ≤ clock
theorem MR.mp {S : Value → Prop} {b r : Nat} {l rem : List (Value × Value)} {w : World} (h : MR S b r l rem w) : MP S b l w := by obtain ⟨es, c, _, _, _, h1, h2, h3, h4, _⟩ := h; exact ⟨es, c, h1, h2, h3, h4⟩
theorem MR.same {S : Value → Prop} {b r : Nat} {l rem : List (Value × Value)} {w w' : World} (h : MR S b r l rem w) (e1 : w'.heap[b]? = w.heap[b]?) (e2 : w'.heap[r]? = w.heap[r]?) : MR S b r l rem w' := by
  obtain ⟨es, c, s, n, c0, h1, h2, h3, h4, h5, h6⟩ := h
  exact ⟨es, c, s, n, c0, e1.trans h1, h2, h3, h4, e2.trans h5, h6⟩
theorem MR.perm {S : Value → Prop} {b r : Nat} {l rem rem' : List (Value × Value)} {w : World} (h : MR S b r l rem w) (e : rem.Perm rem') : MR S b r l rem' w := by
  obtain ⟨es, c, s, n, c0, h1, h2, h3, h4, h5, h6, h7, h8⟩ := h
  exact ⟨es, c, s, n, c0, h1, h2, h3, h4, h5, h6, h7.trans e, h8⟩
theorem MR.lt {S : Value → Prop} {b r : Nat} {l rem : List (Value × Value)} {w : World} (h : MR S b r l rem w) : b < w.heap.size ∧ r < w.heap.size := by
  obtain ⟨es, c, s, n, c0, h1, h2, h3, h4, h5, h6⟩ := h
  exact ⟨(Array.getElem?_eq_some_iff.1 h1).1, (Array.getElem?_eq_some_iff.1 h5).1⟩
theorem MR.notcells {S : Value → Prop} {b r : Nat} {l rem : List (Value × Value)} {w : World} (h : MR S b r l rem w) {cs : Array Value} {t : TypeId} {z : Nat × Nat} : w.heap[r]? ≠ some (.cells cs t z) := by
  obtain ⟨es, c, s, n, c0, h1, h2, h3, h4, h5, h6⟩ := h
  rw [h5]; intro e; cases e
theorem MR.ne {S : Value → Prop} {b r : Nat} {l rem : List (Value × Value)} {w : World} (h : MR S b r l rem w) : r ≠ b := by
  obtain ⟨es, c, s, n, c0, h1, h2, h3, h4, h5, h6⟩ := h
  rintro rfl
  rw [h1] at h5; cases h5
theorem MR.left {S : Value → Prop} {b r : Nat} {l rem : List (Value × Value)} {w : World} (h : MR S b r l rem w) : w.rangeLeft b r = rem.length := by
  obtain ⟨es, c, s, n, c0, h1, h2, h3, h4, h5, h6, h7, h8⟩ := h
  unfold World.rangeLeft
  rw [h1, h5]
  have := h7.length_eq
  simpa using this
theorem MR.start {S : Value → Prop} {b : Nat} {l : List (Value × Value)} {w : World} {t k el : TypeId} (ht : Tryd.prog.underlying t = some (.map k el)) (h : MP S b l w) :
    ∃ w', (Instr.range t (.map (some b))).run Tryd.prog w = .ok (.pointer (some ⟨w.heap.size, 0, none⟩)) w' ∧ MR S b w.heap.size l l w' ∧ Below w.heap.size w w' := by
  have hlt := h.lt
  obtain ⟨es, clock, hb, hs, hp, hS⟩ := h
  refine ⟨_, run_range_map w t k el b es clock ht hb, ⟨es, clock, clock, #[], clock, ((MapKept.heap_alloc w _).2 b hlt).trans hb, hs, hp, hS, (MapKept.heap_alloc w _).1, hs.1, ?_, Nat.le_refl _, Nat.le_refl _⟩, al_below w _⟩
  have e0 : (leftOf es #[]).toList = es.toList := by
    unfold leftOf
    rw [Array.toList_filter]
    exact List.filter_eq_self.2 (fun _ _ => by simp)
  rw [e0]
  exact hp
theorem perm_strike (e : MapEntry) : ∀ L : List MapEntry, (L.map (·.born)).Nodup → e ∈ L → L.Perm (e :: L.filter (fun x => !(x.born == e.born)))
  | [], _, h => by simp at h
  | y :: r, hn, h => by
    rw [List.map_cons, List.nodup_cons] at hn
    rcases List.mem_cons.1 h with rfl | h
    · have : (e :: r).filter (fun x => !(x.born == e.born)) = r := by
        rw [List.filter_cons_of_neg (by simp), List.filter_eq_self]
        intro x hx
        have : x.born ≠ e.born := fun e1 => hn.1 (List.mem_map.2 ⟨x, hx, e1⟩)
        simpa using this
      rw [this]
    · have hne : y.born ≠ e.born := fun e1 => hn.1 (List.mem_map.2 ⟨e, h, e1.symm⟩)
      rw [List.filter_cons_of_pos (by simpa using hne)]
      exact ((perm_strike e r hn.2 h).cons y).trans (List.Perm.swap e y _)
theorem left_push (es : Array MapEntry) (seen : Array Nat) (n : Nat) : (leftOf es (seen.push n)).toList = (leftOf es seen).toList.filter (fun x => !(x.born == n)) := by
  unfold leftOf
  rw [Array.toList_filter, Array.toList_filter, List.filter_filter]
  refine List.filter_congr fun x _ => ?_
  rw [contains_push]
  cases seen.contains x.born <;> cases (x.born == n) <;> rfl
theorem MR.next {S : Value → Prop} {b r : Nat} {l rem : List (Value × Value)} {w : World} (h : MR S b r l rem w) (ty : TypeId) :
    (rem = [] ∧ (Instr.next (.pointer (some ⟨r, 0, none⟩)) false ty).run Tryd.prog w = .ok (.tuple #[.bool false]) w) ∨
    ∃ key v rem' w', rem.Perm ((key, v) :: rem') ∧ (Instr.next (.pointer (some ⟨r, 0, none⟩)) false ty).run Tryd.prog w = .ok (.tuple #[.bool true, key, v]) w' ∧ MR S b r l rem' w' ∧ Only r w w' ∧ (Instr.entry (.pointer (some ⟨r, 0, none⟩))).run Tryd.prog w' = .ok (.tuple #[key, v]) w' := by
  have hne := h.ne
  obtain ⟨es, clock, since, seen, c0, hb, hs, hp, hS, hr, hold, hrem, hsc, hsk⟩ := h
  rcases run_next_at (P := Tryd.prog) w ty r b since c0 seen es clock hr hb hold hsc with ⟨h0, hrun⟩ | ⟨e, he, w1, hal, hrun⟩
  · refine .inl ⟨?_, hrun⟩
    have := hrem.length_eq
    rw [List.length_map] at this
    exact List.length_eq_zero_iff.1 (by rw [← this]; simpa using h0)
  · have hem : e ∈ es.toList := by unfold leftOf at he; simp at he ⊢; exact he.1
    have hr1 : w1.heap[r]? = some (.mapIter (some b) since seen c0) := by rcases hal with rfl | rfl <;> exact hr
    have hb1 : w1.heap[b]? = some (.map es clock) := by rcases hal with rfl | rfl <;> exact hb
    have hset := MapKept.heap_set (w := w1) (r := r) (o' := .mapIter (some b) since (seen.push e.born) clock) hr1
    have hb' : (setBlock w1 r (.mapIter (some b) since (seen.push e.born) clock)).heap[b]? = some (.map es clock) := (hset.2 b (fun e1 => hne e1.symm)).trans hb1
    have hst := (MapKept.stamped_iff es clock).1 hs
    have hnd : ((leftOf es seen).toList.map (·.born)).Nodup := by
      unfold leftOf
      rw [Array.toList_filter]
      exact ((List.filter_sublist (l := es.toList)).map _).nodup hst.2.1
    have hpm := (perm_strike e _ hnd he).map en
    rw [List.map_cons, ← left_push] at hpm
    refine .inr ⟨e.key, e.val, _, _, hrem.symm.trans hpm, hrun, ⟨es, clock, since, seen.push e.born, clock, hb', hs, hp, hS, hset.1, hold, List.Perm.refl _, hsk, hsk⟩, ?_, run_entry_at _ r b since seen es clock e hset.1 hb' hem hst.2.1⟩
    rcases hal with rfl | rfl <;> exact ⟨rfl, rfl, rfl, by simp [setBlock], fun g hg => hset.2 g hg⟩
/-- the two steps, for a walk. -/
theorem at_rng {S : Value → Prop} {w : World} {ops : Array Oper} {rest : List Oper} {o : Oper} {a : Act} {Q : Exit → Act → World → Prop} (hg : o.guard = none) (m : Operand) (t : TypeId) (hop : o.op = Op.range t m) (k e : TypeId) (ht : Tryd.prog.underlying t = some (.map k e)) (b : Nat) (l : List (Value × Value)) (hm : a.eval m = .map (some b)) (h : MP S b l w)
    (hK : ∀ w', MR S b w.heap.size l l w' → Below w.heap.size w w' → wpList Tryd.prog ops Q rest (a.put o.dst (.pointer (some ⟨w.heap.size, 0, none⟩))) w') : wpList Tryd.prog ops Q (o :: rest) a w := by
  refine wpList_plain hg fun K' hK' => ?_
  obtain ⟨w', hrun, r1, r2⟩ := MR.start ht h
  unfold Oper.wp
  simp [execOp, hop, hm, hrun, Result.andThen]
  exact hK' _ _ (hK w' r1 r2)
theorem at_nxt {S : Value → Prop} {w : World} {ops : Array Oper} {rest : List Oper} {o : Oper} {a : Act} {Q : Exit → Act → World → Prop} (hg : o.guard = none) (it : Operand) (hop : o.op = Op.next it false) (b r : Nat) (l rem : List (Value × Value)) (hit : a.eval it = .pointer (some ⟨r, 0, none⟩)) (h : MR S b r l rem w)
    (hD : rem = [] → wpList Tryd.prog ops Q rest (a.put o.dst (.tuple #[.bool false])) w)
    (hM : ∀ key v rem' w', rem.Perm ((key, v) :: rem') → MR S b r l rem' w' → Only r w w' → (Instr.entry (.pointer (some ⟨r, 0, none⟩))).run Tryd.prog w' = .ok (.tuple #[key, v]) w' → wpList Tryd.prog ops Q rest (a.put o.dst (.tuple #[.bool true, key, v])) w') : wpList Tryd.prog ops Q (o :: rest) a w := by
  refine wpList_plain hg fun K' hK' => ?_
  unfold Oper.wp
  rcases h.next o.type with ⟨h0, hrun⟩ | ⟨key, v, rem', w', hp, hrun, hr, hon, hen⟩
  · simp [execOp, hop, hit, hrun, Result.andThen]
    exact hK' _ _ (hD h0)
  · simp [execOp, hop, hit, hrun, Result.andThen]
    exact hK' _ _ (hM key v rem' w' hp hr hon hen)
end Go.Proofs.YtjkkonpangcnjaaDoor

namespace Go.Proofs.YtjkkonpangcnjaaDoor
open Go.RowKit

def isF (v : Value) : Prop := ∃ f, v = .agg (flC f)
def isI (v : Value) : Prop := ∃ a, v = .int .i64 a
set_option maxRecDepth 100000 in
theorem check_flow (em : Bool) (f : List Int) (w : World) : (Instr.checkKey em 10000 35 (.agg (flC f))).run Tryd.prog w = .ok () w := by kernel_rfl
theorem ask_flow (f : List Int) (w : World) : ∀ (es : List MapEntry) (i : Nat), (∀ e ∈ es, isF e.key) → ((Instr.findAsking 35 (.agg (flC f)) es i).run Tryd.prog w = .ok none w ∧ ∀ e ∈ es, e.key ≠ .agg (flC f)) ∨ ∃ j e, (Instr.findAsking 35 (.agg (flC f)) es i).run Tryd.prog w = .ok (some (i + j, e.val)) w ∧ es[j]? = some e ∧ e.key = .agg (flC f)
  | [], i, _ => .inl ⟨rfl, by simp⟩
  | e :: r, i, h => by
    obtain ⟨g, hg⟩ := h e (List.mem_cons_self ..)
    have hq : (Op.equal 35 (.agg (flC f)) e.key).run Tryd.prog w = .ok (eqf f g) w := by rw [hg]; exact eq_flows f g w
    unfold Instr.findAsking
    rw [Sem.run_bind, hq, Result.andThen_ok]
    cases hc : eqf f g
    · have hne : e.key ≠ .agg (flC f) := fun e1 => by
        rw [hg] at e1
        injection e1 with e1
        rw [(eqf_iff f g).2 e1.symm] at hc
        cases hc
      simp only [Bool.false_eq_true, if_false]
      rcases ask_flow f w r (i + 1) (fun e he => h e (List.mem_cons_of_mem _ he)) with ⟨h1, h2⟩ | ⟨j, e1, h1, h2, h3⟩
      · refine .inl ⟨h1, fun e' he' => ?_⟩
        rcases List.mem_cons.1 he' with rfl | he'
        · exact hne
        · exact h2 e' he'
      · refine .inr ⟨j + 1, e1, ?_, by simpa using h2, h3⟩
        rw [show i + (j + 1) = i + 1 + j by omega]
        exact h1
    · simp only [if_true]
      exact .inr ⟨0, e, rfl, rfl, by rw [hg, (eqf_iff f g).1 hc]⟩
theorem find_flow (w : World) (x : Value) (hx : isF x) (es : List MapEntry) (h : ∀ e ∈ es, isF e.key) : ((Instr.findKey 35 x es).run Tryd.prog w = .ok none w ∧ ∀ e ∈ es, e.key ≠ x) ∨ ∃ j e, (Instr.findKey 35 x es).run Tryd.prog w = .ok (some (j, e.val)) w ∧ es[j]? = some e ∧ e.key = x := by
  obtain ⟨f, rfl⟩ := hx
  unfold Instr.findKey
  rw [Sem.run_bind, run_underlying Tryd.underlying35, Result.andThen_ok]
  cases es with
  | nil => exact .inl ⟨rfl, by simp⟩
  | cons e r =>
    obtain ⟨g, hg⟩ := h e (List.mem_cons_self ..)
    have hn : ∀ d, Instr.findNow (.struct d) (.agg (flC f)) (e :: r) 0 = none := fun d => by
      unfold Instr.findNow
      rw [hg]
      rfl
    rw [hn]
    rcases ask_flow f w (e :: r) 0 h with h1 | ⟨j, e1, h1, h2⟩
    · exact .inl h1
    · exact .inr ⟨j, e1, by rw [Nat.zero_add] at h1; exact h1, h2⟩
theorem stays_flow (f : List Int) (w : World) : (Instr.keyThatStays (.agg (flC f)) (.agg (flC f))).run Tryd.prog w = .ok (.agg (flC f)) w := by
  have hs : Instr.sameBits 10000 (.agg (flC f)) (.agg (flC f)) = true := by
    show Instr.sameBits (9999 + 1) (.agg (flC f)) (.agg (flC f)) = true
    simp [Instr.sameBits, flC]
  simp [Instr.keyThatStays, hs]
theorem kof : KO 35 isF :=
  ⟨fun em v w hv => by obtain ⟨f, rfl⟩ := hv; exact check_flow em f w, fun w x hx es h => find_flow w x hx es h, fun w v hv => by obtain ⟨f, rfl⟩ := hv; exact stays_flow f w⟩
theorem koi : KO 3 isI := by
  have ik : ∀ v, isI v → MapKept.IsKey (.int .i64) v := fun v ⟨a, e⟩ => by rw [e]; simp [MapKept.IsKey]
  refine ⟨fun em v w hv => MapKept.run_checkKey Tryd.underlying3 (ik v hv) em 9999, fun w x hx es h => ?_, fun w v hv => MapKept.run_keyThatStays (ik v hv)⟩
  rcases MapKept.findNow_spec (ik x hx) es 0 (fun y hy => ik _ (h y hy)) with ⟨h1, h2⟩ | ⟨j, e0, h1, h2, h3⟩
  · exact .inl ⟨MapKept.run_findKey Tryd.underlying3 h1, h2⟩
  · exact .inr ⟨j, e0, by simpa using MapKept.run_findKey Tryd.underlying3 h1, h2, h3⟩
theorem Tryd.mapF : Tryd.prog.underlying 67 = some (.map 35 41) := Tryd.underlying67
theorem Tryd.mapI : Tryd.prog.underlying 68 = some (.map 3 35) := Tryd.underlying68
theorem zero_bd (w : World) : (zeroValue 41).run Tryd.prog w = .ok (.agg (bdC [])) w := by kernel_rfl
theorem zero_fl (w : World) : (zeroValue 35).run Tryd.prog w = .ok (.agg (flC [])) w := by kernel_rfl
end Go.Proofs.YtjkkonpangcnjaaDoor
