/- The document's own Blocks of somebody, by a contract. -/
import Derived.Test.YtjkkonpangcnjaaDoorPoGive
namespace Go.Proofs.YtjkkonpangcnjaaDoor
open Go.RowKit

/-- is a block somebody's? -/
def ome (ws : Nat → List Int) (z : List Int) (o : Option Nat) : Bool := match o with | some i => eqz (ws i) z | none => false
def om (ws : Nat → List Int) (ts : Nat → Bool) (z : List Int) (k : Nat) : Bool := ome ws z (fo ts k)
/-- the numbers of somebody's blocks. -/
def bl (ws : Nat → List Int) (ts : Nat → Bool) (z : List Int) : Nat → List Nat
  | 0 => []
  | k + 1 => bl ws ts z k ++ (if om ws ts z k = true then [k] else [])
theorem bl_len (ws : Nat → List Int) (ts : Nat → Bool) (z : List Int) (k : Nat) : (bl ws ts z k).length ≤ k := by
  induction k with
  | zero => exact Nat.le_refl _
  | succ k ih => simp only [bl]; rw [List.length_append]; split <;> simp <;> omega
def iv (l : List Nat) : List Value := l.map fun x => Value.int .i64 (x : Nat)
/-- what is kept in the loop. -/
def Kb (w : World) (B BW BT n : Nat) (ws : Nat → List Int) (ts : Nat → Bool) (z : List Int) (W : World) : Prop := RP B BW BT n ws ts W ∧ SixIn w.heap.size z W ∧ Below w.heap.size w W ∧ B < w.heap.size ∧ BW < w.heap.size ∧ BT < w.heap.size
theorem Kb.kept {w : World} {B BW BT n : Nat} {ws : Nat → List Int} {ts : Nat → Bool} {z : List Int} {W W' : World} (h : Kb w B BW BT n ws ts z W) (hb : Below W.heap.size W W') : Kb w B BW BT n ws ts z W' := ⟨h.1.kept hb, h.2.1.kept hb, bt h.2.2.1 hb, h.2.2.2⟩
theorem Kb.grown {w : World} {B BW BT n : Nat} {ws : Nat → List Int} {ts : Nat → Bool} {z : List Int} {W W' : World} (h : Kb w B BW BT n ws ts z W) {r : Option Nat} (hg : W.grownBy W' r) (hr : ∀ k, r = some k → w.heap.size + 1 ≤ k) : Kb w B BW BT n ws ts z W' := by
  have hne : ∀ g, g ≤ w.heap.size → some g ≠ r := fun g hgl e => by have := hr g e.symm; omega
  have hs := h.2.2.1.size
  have hz := h.2.1.lt
  obtain ⟨e1, e2, e3⟩ := h.2.2.2
  refine ⟨⟨(hg.block _ (by omega) (hne B (by omega))).trans h.1.1, h.1.2.1.same (hg.block _ (by omega) (hne BW (by omega))), h.1.2.2.same (hg.block _ (by omega) (hne BT (by omega)))⟩, (hg.block _ hz (hne _ (Nat.le_refl _))).trans h.2.1, h.2.2.1.grown hg hs (fun k e => by have := hr k e; omega), h.2.2.2⟩
attribute [local go_sem ↓] hload_shut
end Go.Proofs.YtjkkonpangcnjaaDoor
