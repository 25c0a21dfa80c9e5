/- The document's own Take of a port, by contracts. -/
import Derived.Test.YtjkkonpangcnjaaDoorPoBlk
namespace Go.Proofs.YtjkkonpangcnjaaDoor
open Go.RowKit

theorem setCells_row (b : Nat) (t : TypeId) : ∀ (vs : List Value) (o : Nat) (w : World) (cs : Array Value), w.heap[b]? = some (.cells cs t (0, 0)) →
    ∃ cs' : Array Value, (w.setCells b o vs).heap[b]? = some (.cells cs' t (0, 0)) ∧ cs'.size = cs.size ∧ ∀ j, j < cs.size → cs'[j]? = if o ≤ j ∧ j < o + vs.length then vs[j - o]? else cs[j]?
  | [], o, w, cs, h => ⟨cs, h, rfl, fun j _ => by rw [if_neg (by simp)]⟩
  | v :: r, o, w, cs, h => by
    have h1 : (w.setCell ⟨b, o, none⟩ v).heap[b]? = some (.cells (cs.setIfInBounds o v) t (0, 0)) := by
      rw [setCell_eq_setRow w b o _ t (0, 0) v h, setRow_heap w b _ _ t (0, 0) h]
    obtain ⟨cs', e1, e2, e3⟩ := setCells_row b t r (o + 1) _ _ h1
    refine ⟨cs', e1, by rw [e2]; simp, fun j hj => ?_⟩
    rw [e3 j (by simpa using hj)]
    by_cases hjo : j = o
    · subst hjo
      rw [if_neg (by omega), if_pos (by simp), Nat.sub_self, Array.getElem?_setIfInBounds_self_of_lt hj]
      rfl
    · rw [Array.getElem?_setIfInBounds_ne (fun e => hjo e.symm)]
      by_cases hc : o + 1 ≤ j ∧ j < o + 1 + r.length
      · rw [if_pos hc, if_pos (by simp only [List.length_cons]; omega), show j - o = (j - (o + 1)) + 1 by omega]
        rfl
      · rw [if_neg hc, if_neg (by simp only [List.length_cons]; omega)]
theorem setCells_only (b : Nat) : ∀ (vs : List Value) (o : Nat) (w : World), Only b w (w.setCells b o vs)
  | [], o, w => ⟨rfl, rfl, rfl, rfl, fun _ _ => rfl⟩
  | v :: r, o, w => by
    have h := setCells_only b r (o + 1) (w.setCell ⟨b, o, none⟩ v)
    exact ⟨h.1, h.2.1, h.2.2.1, h.2.2.2.1.trans (by simp), fun g hg => (h.2.2.2.2 g hg).trans (Below.heap_setCell w ⟨b, o, none⟩ v g hg)⟩
/-- an address's store, held shut for a walk. -/
def qstore (x y : Value) : Sem Unit := Instr.storeAt 33 x y
theorem qstore_shut (x y : Value) : Instr.storeAt 33 x y = qstore x y := rfl
theorem SixRow.held {B n : Nat} {ws : Nat → List Int} {w : World} (h : SixRow B n ws w) (i : Nat) (hi : i < n) (z : List Int) :
    ∃ w', (qstore (.pointer (some ⟨B, 8 * i, none⟩)) (.agg (sixC z))).run Tryd.prog w = .ok () w' ∧ SixRow B n (upd ws i z) w' ∧ Only B w w' := by
  obtain ⟨cs, h1, h2, h3⟩ := h
  refine ⟨w.setCells B (8 * i) (sixC z).toList, ?_, ?_, setCells_only B _ _ w⟩
  · exact run_storeAt_mid w B (8 * i) 33 (sixC z) (fun j hj => by
      have hj8 : j < 8 := hj
      rw [cell_of_row w B (8 * i + j) _ _ _ h1, h3 i hi j hj8]
      refine ⟨rfl, by simp [World.frozen?, h1]⟩) (by kernel_rfl) (by unfold sixC; simp [Value.oneCell'])
  · obtain ⟨cs', e1, e2, e3⟩ := setCells_row B 33 (sixC z).toList (8 * i) w cs h1
    refine ⟨cs', e1, e2.trans h2, fun k hk j hj => ?_⟩
    rw [e3 (8 * k + j) (by omega)]
    have hl : (sixC z).toList.length = 8 := rfl
    unfold upd
    by_cases e : k = i
    · subst e
      rw [if_pos (by rw [hl]; omega), if_pos rfl, show 8 * k + j - 8 * k = j by omega, ← sixC_at z j hj]
      simp
    · rw [if_neg (by rw [hl]; omega), if_neg e]
      exact h3 k hk j hj
/-- may somebody have this port next? -/
def f0 (ws : Nat → List Int) (ts : Nat → Bool) (z : List Int) (i : Nat) : Bool := !ts i && om ws ts z (i / 8)
def f1 (ts : Nat → Bool) (i : Nat) : Bool := !ts i && (fo ts (i / 8)).isNone
def tk (ws : Nat → List Int) (ts : Nat → Bool) (z : List Int) (n : Nat) : Option Nat := ((List.range n).find? (f0 ws ts z)).or ((List.range n).find? (f1 ts))
theorem find_none {f : Nat → Bool} {n : Nat} (h : ∀ j, j < n → f j = false) : (List.range n).find? f = none := by
  rw [List.find?_eq_none]
  intro x hx
  rw [h x (List.mem_range.1 hx)]
  decide
theorem find_some {f : Nat → Bool} {n i : Nat} (hi : i < n) (h3 : f i = true) (h : ∀ j, j < i → f j = false) : (List.range n).find? f = some i := by
  rw [List.find?_range_eq_some]
  exact ⟨h3, List.mem_range.2 hi, fun j hj => by rw [h j hj]; rfl⟩
end Go.Proofs.YtjkkonpangcnjaaDoor
