/- The program's table of binds as it lies in the heap: its ports, a map by flows, a map by ports; New. -/
import Derived.Test.YtjkkonpangcnjaaDoorJBmA
import Derived.Test.YtjkkonpangcnjaaDoorBmC
import Derived.Test.YtjkkonpangcnjaaDoorPbI
import Derived.Test.YtjkkonpangcnjaaDoorBdJ
namespace Go.Proofs.YtjkkonpangcnjaaDoor
open Go.RowKit

/-- a bind's entry by its flow, and by its port. -/
def fE (b : List Int) : Value × Value := (.agg (flC b), .agg (bdC b))
def pE (b : List Int) : Value × Value := (.int .i64 (el b 19), .agg (flC b))
/-- the table's block. -/
def TBl (T P F N : Nat) (w : World) : Prop := w.heap[T]? = some (.cells #[.pointer (some ⟨P, 0, none⟩), .map (some F), .map (some N)] 70 (0, 0))
theorem TBl.lt {T P F N : Nat} {w : World} (h : TBl T P F N w) : T < w.heap.size := (Array.getElem?_eq_some_iff.1 h).1
theorem TBl.c0 {T P F N : Nat} {w : World} (h : TBl T P F N w) : w.cell? ⟨T, 0, none⟩ = some (.pointer (some ⟨P, 0, none⟩)) := cell_of_row w T 0 _ _ _ h
theorem TBl.c1 {T P F N : Nat} {w : World} (h : TBl T P F N w) : w.cell? ⟨T, 1, none⟩ = some (.map (some F)) := cell_of_row w T 1 _ _ _ h
theorem TBl.c2 {T P F N : Nat} {w : World} (h : TBl T P F N w) : w.cell? ⟨T, 2, none⟩ = some (.map (some N)) := cell_of_row w T 2 _ _ _ h
/-- the table. -/
def TC (T P BB F N m : Nat) (ow : Nat → List Int) (ts : Nat → Bool) (bs : List (List Int)) (w : World) : Prop := TBl T P F N w ∧ BP P BB m ow ts w ∧ MP isF F (bs.map fE) w ∧ MP isI N (bs.map pE) w ∧ F ≠ N
theorem TC.same {T P BB F N m : Nat} {ow : Nat → List Int} {ts : Nat → Bool} {bs : List (List Int)} {w w' : World} (h : TC T P BB F N m ow ts bs w) (hs : ∀ g, (g = T ∨ g = P ∨ g = BB ∨ g = F ∨ g = N) → w'.heap[g]? = w.heap[g]?) : TC T P BB F N m ow ts bs w' :=
  ⟨(hs T (.inl rfl)).trans h.1, ⟨(hs P (.inr (.inl rfl))).trans h.2.1.1, h.2.1.2.same (hs BB (.inr (.inr (.inl rfl))))⟩, h.2.2.1.same (hs F (.inr (.inr (.inr (.inl rfl))))), h.2.2.2.1.same (hs N (.inr (.inr (.inr (.inr rfl))))), h.2.2.2.2⟩
theorem TC.lt {T P BB F N m : Nat} {ow : Nat → List Int} {ts : Nat → Bool} {bs : List (List Int)} {w : World} (h : TC T P BB F N m ow ts bs w) (g : Nat) (hg : g = T ∨ g = P ∨ g = BB ∨ g = F ∨ g = N) : g < w.heap.size := by
  rcases hg with rfl | rfl | rfl | rfl | rfl
  · exact h.1.lt
  · exact h.2.1.lt
  · exact h.2.1.2.lt
  · exact h.2.2.1.lt
  · exact h.2.2.2.1.lt
theorem TC.kept {T P BB F N m : Nat} {ow : Nat → List Int} {ts : Nat → Bool} {bs : List (List Int)} {w w' : World} (h : TC T P BB F N m ow ts bs w) (hb : Below w.heap.size w w') : TC T P BB F N m ow ts bs w' := h.same fun g hg => hb.block g (h.lt g hg)
/-- no two of its blocks are one. -/
theorem TC.ne {T P BB F N m : Nat} {ow : Nat → List Int} {ts : Nat → Bool} {bs : List (List Int)} {w : World} (h : TC T P BB F N m ow ts bs w) : (T ≠ P ∧ T ≠ BB ∧ T ≠ F ∧ T ≠ N) ∧ (P ≠ BB ∧ P ≠ F ∧ P ≠ N) ∧ BB ≠ F ∧ BB ≠ N ∧ F ≠ N := by
  obtain ⟨h1, ⟨h2, c3, h3, _⟩, h4, h5, h6⟩ := h
  unfold TBl at h1
  refine ⟨⟨?_, ?_, ?_, ?_⟩, ⟨?_, ?_, ?_⟩, ?_, ?_, h6⟩
  · rintro rfl; rw [h1] at h2; cases h2
  · rintro rfl; rw [h1] at h3; cases h3
  · rintro rfl; exact h4.notcells h1
  · rintro rfl; exact h5.notcells h1
  · rintro rfl; rw [h2] at h3; cases h3
  · rintro rfl; exact h4.notcells h2
  · rintro rfl; exact h5.notcells h2
  · rintro rfl; exact h4.notcells h3
  · rintro rfl; exact h5.notcells h3
/-- the table as it is asked for. -/
def TB (v : Value) (m : Nat) (ws : Nat → List Int) (ts : Nat → Bool) (bs : List (List Int)) (O : Nat → Prop) (w : World) : Prop := ∃ T P BB F N ow, v = .pointer (some ⟨T, 0, none⟩) ∧ TC T P BB F N m ow ts bs w ∧ Ag ws ow ts m ∧ O = fun g => g = T ∨ g = P ∨ g = BB ∨ g = F ∨ g = N
theorem tb_kept : JKept TB := by
  rintro v m ws ts bs O w ⟨T, P, BB, F, N, ow, rfl, h, ha, rfl⟩
  exact ⟨fun g hg => h.lt g hg, fun w' _ hs => ⟨T, P, BB, F, N, ow, rfl, h.same hs, ha, rfl⟩⟩
/-- where a flow, a port stands. -/
theorem fndY {bs : List (List Int)} {f : List Int} {k : Nat} (h : fnd bs f = some k) : k < bs.length ∧ bs.getD k [] ∈ bs ∧ flC (bs.getD k []) = flC f := by
  unfold fnd at h
  have h1 := List.find?_some h
  have h2 := List.mem_range.1 (List.mem_of_find?_eq_some h)
  exact ⟨h2, mem_getD h2, (eqf_iff _ _).1 h1⟩
theorem fndN {bs : List (List Int)} {f : List Int} (h : fnd bs f = none) : ∀ p ∈ bs.map fE, p.1 ≠ .agg (flC f) := by
  intro p hp e
  obtain ⟨b, hb, rfl⟩ := List.mem_map.1 hp
  obtain ⟨i, hi, e1⟩ := List.mem_iff_getElem.1 hb
  unfold fnd at h
  rw [List.find?_eq_none] at h
  refine h i (List.mem_range.2 hi) ?_
  rw [List.getD_eq_getElem?_getD, List.getElem?_eq_getElem hi, Option.getD_some, e1]
  refine (eqf_iff _ _).2 ?_
  unfold fE at e
  injection e
theorem prtY {bs : List (List Int)} {p : Int} {k : Nat} (h : prt bs p = some k) : k < bs.length ∧ bs.getD k [] ∈ bs ∧ el (bs.getD k []) 19 = p := by
  unfold prt at h
  have h1 := List.find?_some h
  have h2 := List.mem_range.1 (List.mem_of_find?_eq_some h)
  exact ⟨h2, mem_getD h2, by simpa using h1⟩
theorem prtN {bs : List (List Int)} {p : Int} (h : prt bs p = none) : ∀ q ∈ bs.map pE, q.1 ≠ .int .i64 p := by
  intro q hq e
  obtain ⟨b, hb, rfl⟩ := List.mem_map.1 hq
  obtain ⟨i, hi, e1⟩ := List.mem_iff_getElem.1 hb
  unfold prt at h
  rw [List.find?_eq_none] at h
  refine h i (List.mem_range.2 hi) ?_
  rw [List.getD_eq_getElem?_getD, List.getElem?_eq_getElem hi, Option.getD_some, e1]
  unfold pE at e
  injection e with _ e
  simpa using e
/-- looks, held shut for a walk. -/
def flk (m x : Value) (c : Bool) : Sem Value := Instr.lookup 67 m x c
theorem flk_shut (m x : Value) (c : Bool) : Instr.lookup 67 m x c = flk m x c := rfl
def plk (m x : Value) (c : Bool) : Sem Value := Instr.lookup 68 m x c
theorem plk_shut (m x : Value) (c : Bool) : Instr.lookup 68 m x c = plk m x c := rfl
theorem MP.fyes {F : Nat} {bs : List (List Int)} {w : World} (h : MP isF F (bs.map fE) w) {f : List Int} {k : Nat} (hk : fnd bs f = some k) : (flk (.map (some F)) (.agg (flC f)) true).run Tryd.prog w = .ok (.tuple #[.agg (bdC (bs.getD k [])), .bool true]) w ∧ (flk (.map (some F)) (.agg (flC f)) false).run Tryd.prog w = .ok (.agg (bdC (bs.getD k []))) w := by
  obtain ⟨_, h2, h3⟩ := fndY hk
  have hm : ((.agg (flC f) : Value), (.agg (bdC (bs.getD k [])) : Value)) ∈ bs.map fE := List.mem_map.2 ⟨_, h2, by unfold fE; rw [h3]⟩
  exact ⟨h.look_yes kof Tryd.mapF ⟨f, rfl⟩ hm true, h.look_yes kof Tryd.mapF ⟨f, rfl⟩ hm false⟩
theorem MP.fno {F : Nat} {bs : List (List Int)} {w : World} (h : MP isF F (bs.map fE) w) {f : List Int} (hk : fnd bs f = none) : (flk (.map (some F)) (.agg (flC f)) true).run Tryd.prog w = .ok (.tuple #[.agg (bdC []), .bool false]) w :=
  h.look_no kof Tryd.mapF (zero_bd w) ⟨f, rfl⟩ (fndN hk) true
theorem MP.pyes {N : Nat} {bs : List (List Int)} {w : World} (h : MP isI N (bs.map pE) w) {p : Int} {k : Nat} (hk : prt bs p = some k) : (plk (.map (some N)) (.int .i64 p) true).run Tryd.prog w = .ok (.tuple #[.agg (flC (bs.getD k [])), .bool true]) w := by
  obtain ⟨_, h2, h3⟩ := prtY hk
  have hm : ((.int .i64 p : Value), (.agg (flC (bs.getD k [])) : Value)) ∈ bs.map pE := List.mem_map.2 ⟨_, h2, by unfold pE; rw [h3]⟩
  exact h.look_yes koi Tryd.mapI ⟨p, rfl⟩ hm true
theorem MP.pno {N : Nat} {bs : List (List Int)} {w : World} (h : MP isI N (bs.map pE) w) {p : Int} (hk : prt bs p = none) : (plk (.map (some N)) (.int .i64 p) true).run Tryd.prog w = .ok (.tuple #[.agg (flC []), .bool false]) w :=
  h.look_no koi Tryd.mapI (zero_fl w) ⟨p, rfl⟩ (prtN hk) true
set_option maxRecDepth 100000 in
set_option maxHeartbeats 1000000 in
theorem bnew_bad (b : Int) (w : World) (hb : b < 1 ∨ 16 < b) : Calls Tryd.prog 5 #[.int .i64 b] w fun e w' => (∃ v, e = .returned (.tuple #[v, err 1])) ∧ Below w.heap.size w w' := by
  have HN := hide (pnew_bad b w hb)
  unfold err at HN
  clear hb
  go_enter Tryd.func5, Tryd.ntmps5
  go_wp2_with (go_at_call 23; refine HN.out.mono ?_; rintro e w1 ⟨rfl, rfl⟩)
  go_ret2
  exact ⟨⟨_, rfl⟩, Below.refl _ _⟩
set_option maxRecDepth 100000 in
set_option maxHeartbeats 1000000 in
theorem bnew_any (m : Nat) (w : World) (h1 : 1 ≤ m) (hm : m ≤ 16) : Calls Tryd.prog 5 #[.int .i64 m] w fun e w' => ∃ T P BB F N, e = .returned (.tuple #[.pointer (some ⟨T, 0, none⟩), .nilIface]) ∧ TC T P BB F N m (fun _ => []) (fun _ => false) [] w' ∧ (w.heap.size ≤ T ∧ w.heap.size ≤ P ∧ w.heap.size ≤ BB ∧ w.heap.size ≤ F ∧ w.heap.size ≤ N) ∧ Below w.heap.size w w' := by
  have HN := hide (pnew_any m w h1 hm)
  clear h1 hm
  go_enter Tryd.func5, Tryd.ntmps5
  have hmm := @run_makeMap Tryd.prog
  go_wp2_with (go_at_call 23; refine HN.out.mono ?_; rintro e w1 ⟨P, BB, rfl, hp, h1, h2, hb⟩; replace hp := hide hp; replace h1 := hide (And.intro h1 h2); replace hb := hide hb; clear h2)
  go_ret2
  have b1 := al_below w1 (.map #[] 0)
  have b2 := al_below (w1.alloc (.map #[] 0)) (.map #[] 0)
  have b3 := al_below ((w1.alloc (.map #[] 0)).alloc (.map #[] 0)) (.cells #[.pointer (some ⟨P, 0, none⟩), .map (some w1.heap.size), .map (some (w1.heap.size + 1))] 70)
  have m1 := mp_new isF w1
  have m2 := mp_new isI (w1.alloc (.map #[] 0))
  rw [World.size_alloc] at m2
  have t1 : TBl (w1.heap.size + 1 + 1) P w1.heap.size (w1.heap.size + 1) (((w1.alloc (.map #[] 0)).alloc (.map #[] 0)).alloc (.cells #[.pointer (some ⟨P, 0, none⟩), .map (some w1.heap.size), .map (some (w1.heap.size + 1))] 70)) := by
    have := heap_alloc_new ((w1.alloc (.map #[] 0)).alloc (.map #[] 0)) (.cells #[.pointer (some ⟨P, 0, none⟩), .map (some w1.heap.size), .map (some (w1.heap.size + 1))] 70)
    rw [World.size_alloc, World.size_alloc] at this
    exact this
  have hs := hb.out.size
  exact ⟨w1.heap.size + 1 + 1, P, BB, w1.heap.size, w1.heap.size + 1, rfl, ⟨t1, ((hp.out.kept b1).kept b2).kept b3, (m1.same (b2.block _ m1.lt)).same (b3.block _ (Nat.lt_of_lt_of_le m1.lt b2.size)), m2.same (b3.block _ m2.lt), by omega⟩, ⟨by omega, h1.out.1, h1.out.2, hs, by omega⟩, bt (bt (bt hb.out b1) b2) b3⟩
theorem tb_new : JNew TB := by
  refine ⟨bnew_bad, fun m w h1 hm => (bnew_any m w h1 hm).mono ?_⟩
  rintro e w' ⟨T, P, BB, F, N, rfl, h, ⟨g1, g2, g3, g4, g5⟩, hb⟩
  exact ⟨_, _, rfl, ⟨T, P, BB, F, N, _, rfl, h, fun _ _ _ _ _ => rfl, rfl⟩, fun g hg => by rcases hg with rfl | rfl | rfl | rfl | rfl <;> assumption, hb⟩
end Go.Proofs.YtjkkonpangcnjaaDoor
