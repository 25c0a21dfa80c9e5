/- What is kept while ports are taken and given back outright: the program's ports, and the statement's own lists of ports and of those who have them. -/
import Derived.Test.YtchjhmokmpjbdaaDoorPoSl
import Derived.Test.YtchjhmokmpjbdaaDoorPoApM
namespace Go.Proofs.YtchjhmokmpjbdaaDoor
open Go.RowKit

def pv1 (ps : List Nat) : List Value := ps.map fun (p : Nat) => Value.int .i64 (1024 + (p : Int))
def zv1 (zs : List (List Int)) : List Value := zs.flatMap fun z => (sixC z).toList
/-- a slice of ports, of the call's own. -/
def OwI (base : Nat) (w : World) (v : Value) (ps : List Nat) : Prop := w.ownsRow base 3 1 v ps.length (pv1 ps)
/-- a slice of addresses, of the call's own. -/
def OwZ (base : Nat) (w : World) (v : Value) (zs : List (List Int)) : Prop := w.ownsRow base 33 8 v zs.length (zv1 zs)
theorem owns_same {w w' : World} {base : Nat} {e : TypeId} {size : Nat} {v : Value} {n : Nat} {xs : List Value} (h : w.ownsRow base e size v n xs) (hb : ∀ g, v.ownBlock = some g → w'.heap[g]? = w.heap[g]?) : w'.ownsRow base e size v n xs := by
  refine ⟨h.1, ?_⟩
  rcases h.2 with h2 | ⟨g, cap, cur, rfl, hb', hg, rest⟩
  · exact .inl h2
  · exact .inr ⟨g, cap, cur, rfl, hb', (hb g rfl).trans hg, rest⟩
theorem owns_lt {w : World} {base : Nat} {e : TypeId} {size : Nat} {v : Value} {n : Nat} {xs : List Value} (h : w.ownsRow base e size v n xs) (g : Nat) (hg : v.ownBlock = some g) : g < w.heap.size ∧ base ≤ g := by
  rcases h.2 with ⟨rfl, _⟩ | ⟨g', cap, cur, rfl, hb', hgc, _⟩
  · simp [Value.ownBlock] at hg
  · have : g' = g := by simpa [Value.ownBlock] using hg
    subst this
    exact ⟨(Array.getElem?_eq_some_iff.1 hgc).1, hb'⟩
theorem owns_ne {w : World} {b1 b2 : Nat} {s1 s2 : Nat} {v1 v2 : Value} {n1 n2 : Nat} {x1 x2 : List Value} (h1 : w.ownsRow b1 3 s1 v1 n1 x1) (h2 : w.ownsRow b2 33 s2 v2 n2 x2) (g : Nat) (hg : v1.ownBlock = some g) : v2.ownBlock ≠ some g := by
  rcases h1.2 with ⟨rfl, _⟩ | ⟨g1, c1, cur1, rfl, _, k1, _⟩
  · simp [Value.ownBlock] at hg
  · rcases h2.2 with ⟨rfl, _⟩ | ⟨g2, c2, cur2, rfl, _, k2, _⟩
    · simp [Value.ownBlock]
    · intro e
      have e1 : g1 = g := by simpa [Value.ownBlock] using hg
      have e2 : g2 = g := by simpa [Value.ownBlock] using e
      rw [e1] at k1
      rw [e2, k1] at k2
      cases k2
theorem pv1_len (ps : List Nat) : (pv1 ps).length = ps.length := by unfold pv1; rw [List.length_map]
theorem zv1_len (zs : List (List Int)) : (zv1 zs).length = zs.length * 8 := by
  induction zs with
  | nil => rfl
  | cons z r ih => unfold zv1 at ih ⊢; rw [List.flatMap_cons, List.length_append, ih, List.length_cons, show (sixC z).toList.length = 8 from rfl]; omega
theorem pv1_app (a b : List Nat) : pv1 (a ++ b) = pv1 a ++ pv1 b := List.map_append
theorem zv1_app (a b : List (List Int)) : zv1 (a ++ b) = zv1 a ++ zv1 b := List.flatMap_append
theorem pv1_at (ps : List Nat) (k : Nat) (h : k < ps.length) : (pv1 ps)[k]? = some (.int .i64 (1024 + ((ps.getD k 0 : Nat) : Int))) := by
  unfold pv1
  rw [List.getElem?_map, List.getElem?_eq_getElem h]
  simp [List.getD_eq_getElem?_getD, h]
theorem zv1_at (zs : List (List Int)) (k j : Nat) (h : k < zs.length) (hj : j < 8) : (zv1 zs)[8 * k + j]? = some (.int .i64 (el (zs.getD k []) j)) := by
  induction zs generalizing k with
  | nil => exact absurd h (by simp)
  | cons z r ih =>
    unfold zv1 at ih ⊢
    rw [List.flatMap_cons]
    have hl : (sixC z).toList.length = 8 := rfl
    cases k with
    | zero =>
      rw [List.getElem?_append_left (by omega), Nat.mul_zero, Nat.zero_add]
      have := sixC_at z j hj
      simpa using this
    | succ k =>
      rw [List.getElem?_append_right (by omega), hl, show 8 * (k + 1) + j - 8 = 8 * k + j by omega, ih k (by simpa using h)]
      rfl
/-- how they read. -/
theorem OwI.form {base : Nat} {w : World} {v : Value} {ps : List Nat} (h : OwI base w v ps) (hp : 0 < ps.length) : ∃ g cap, v = .slice (some ⟨g, 0, none⟩) ps.length cap ∧ ps.length ≤ cap ∧ cap ≤ maxLen ∧ ∀ k, k < ps.length → w.cell? ⟨g, k, none⟩ = some (.int .i64 (1024 + ((ps.getD k 0 : Nat) : Int))) := by
  have h' : w.ownsRow base 3 1 v ps.length (pv1 ps) := h
  rcases h.2 with ⟨_, hn⟩ | ⟨g, cap, cur, rfl, hb, hg, h1, h2, _⟩
  · omega
  · refine ⟨g, cap, rfl, h1, h2, fun k hk => ?_⟩
    rw [World.ownsRow.cellAt h' k (by omega)]
    exact pv1_at ps k hk
theorem OwZ.form {base : Nat} {w : World} {v : Value} {zs : List (List Int)} (h : OwZ base w v zs) (hp : 0 < zs.length) : ∃ g cap, v = .slice (some ⟨g, 0, none⟩) zs.length cap ∧ zs.length ≤ cap ∧ cap ≤ maxLen ∧ ∀ k, k < zs.length → w.rangeAt g (8 * k) (sixC (zs.getD k [])).toList := by
  have h' : w.ownsRow base 33 8 v zs.length (zv1 zs) := h
  rcases h.2 with ⟨_, hn⟩ | ⟨g, cap, cur, rfl, hb, hg, h1, h2, _⟩
  · omega
  · refine ⟨g, cap, rfl, h1, h2, fun k hk j v hv => ?_⟩
    have hj : j < 8 := (List.getElem?_eq_some_iff.1 hv).1
    rw [World.ownsRow.cellAt h' (8 * k + j) (by omega), zv1_at zs k j hk hj, ← sixC_at (zs.getD k []) j hj]
    simpa using hv
/-- all together. -/
def VA (PP : Value → Nat → (Nat → List Int) → (Nat → Bool) → (Nat → Prop) → World → Prop) (w0 : World) (pv : Value) (n : Nat) (ws : Nat → List Int) (ts : Nat → Bool) (O : Nat → Prop) (va : Value) (ps : List Nat) (vb : Value) (zs : List (List Int)) (W : World) : Prop :=
  PP pv n ws ts O W ∧ OwI w0.heap.size W va ps ∧ OwZ w0.heap.size W vb zs ∧ (∀ g, O g → w0.heap.size ≤ g) ∧ (∀ g, va.ownBlock = some g → ¬ O g) ∧ (∀ g, vb.ownBlock = some g → ¬ O g) ∧ Below w0.heap.size w0 W
theorem VA.below {PP : Value → Nat → (Nat → List Int) → (Nat → Bool) → (Nat → Prop) → World → Prop} (I : IKept PP) {w0 : World} {pv : Value} {n : Nat} {ws : Nat → List Int} {ts : Nat → Bool} {O : Nat → Prop} {va : Value} {ps : List Nat} {vb : Value} {zs : List (List Int)} {W W' : World}
    (h : VA PP w0 pv n ws ts O va ps vb zs W) (hb : Below W.heap.size W W') : VA PP w0 pv n ws ts O va ps vb zs W' := by
  obtain ⟨h1, h2, h3, h4, h5, h6, h7⟩ := h
  have k := I pv n ws ts O W h1
  exact ⟨k.2 W' hb.size (fun g hg => hb.block g (k.1 g hg)), owns_same h2 (fun g hg => hb.block g (owns_lt h2 g hg).1), owns_same h3 (fun g hg => hb.block g (owns_lt h3 g hg).1), h4, h5, h6, bt h7 hb⟩
theorem VA.prog {PP : Value → Nat → (Nat → List Int) → (Nat → Bool) → (Nat → Prop) → World → Prop} {w0 : World} {pv : Value} {n : Nat} {ws : Nat → List Int} {ts : Nat → Bool} {O : Nat → Prop} {va : Value} {ps : List Nat} {vb : Value} {zs : List (List Int)} {W W' : World} {ws' : Nat → List Int} {ts' : Nat → Bool}
    (h : VA PP w0 pv n ws ts O va ps vb zs W) (q : PQ PP pv n ws' ts' O W W') : ∃ O', VA PP w0 pv n ws' ts' O' va ps vb zs W' ∧ Fr O W W' ∧ ∀ g, O' g → O g ∨ W.heap.size ≤ g := by
  obtain ⟨h1, h2, h3, h4, h5, h6, h7⟩ := h
  obtain ⟨O', p', hf, hO⟩ := q
  have hs := h7.size
  refine ⟨O', ⟨p', owns_same h2 (fun g hg => hf.2.2.2.2 g (owns_lt h2 g hg).1 (h5 g hg)), owns_same h3 (fun g hg => hf.2.2.2.2 g (owns_lt h3 g hg).1 (h6 g hg)), fun g hg => ?_, fun g hg e => ?_, fun g hg e => ?_, hf.below h7 h4 hs⟩, hf, hO⟩
  · rcases hO g hg with e | e
    · exact h4 g e
    · omega
  · have := (owns_lt h2 g hg).1
    rcases hO g e with e | e
    · exact h5 g hg e
    · omega
  · have := (owns_lt h3 g hg).1
    rcases hO g e with e | e
    · exact h6 g hg e
    · omega
end Go.Proofs.YtchjhmokmpjbdaaDoor
