/- The document's own Has, Give and Free of ports, by contracts. -/
import Derived.Test.YtjkkonpangcnjaaDoorPoOwn
namespace Go.Proofs.YtjkkonpangcnjaaDoor
open Go.RowKit

/-- nothing that was there has turned but the blocks that are told. -/
def Fr (O : Nat → Prop) (w w' : World) : Prop := w'.os = w.os ∧ w'.tape = w.tape ∧ w'.output = w.output ∧ w.heap.size ≤ w'.heap.size ∧ ∀ g, g < w.heap.size → ¬ O g → w'.heap[g]? = w.heap[g]?
theorem Fr.refl (O : Nat → Prop) (w : World) : Fr O w w := ⟨rfl, rfl, rfl, Nat.le_refl _, fun _ _ _ => rfl⟩
theorem Fr.of {O : Nat → Prop} {w w' : World} (h : Below w.heap.size w w') : Fr O w w' := ⟨h.os, h.tape, h.output, h.size, fun g hg _ => h.block g hg⟩
theorem Fr.trans {O : Nat → Prop} {a b c : World} (h1 : Fr O a b) (h2 : Fr O b c) : Fr O a c :=
  ⟨h2.1.trans h1.1, h2.2.1.trans h1.2.1, h2.2.2.1.trans h1.2.2.1, Nat.le_trans h1.2.2.2.1 h2.2.2.2.1, fun g hg hO => (h2.2.2.2.2 g (Nat.lt_of_lt_of_le hg h1.2.2.2.1) hO).trans (h1.2.2.2.2 g hg hO)⟩
theorem Fr.mono {O O' : Nat → Prop} {w w' : World} (h : Fr O w w') (hO : ∀ g, O g → O' g) : Fr O' w w' := ⟨h.1, h.2.1, h.2.2.1, h.2.2.2.1, fun g hg hn => h.2.2.2.2 g hg (fun ho => hn (hO g ho))⟩
theorem Fr.below {O : Nat → Prop} {base : Nat} {w0 w w' : World} (h : Fr O w w') (hb : Below base w0 w) (hO : ∀ g, O g → base ≤ g) (hs : base ≤ w.heap.size) : Below base w0 w' :=
  ⟨h.1.trans hb.os, h.2.1.trans hb.tape, h.2.2.1.trans hb.output, Nat.le_trans hb.size h.2.2.2.1, fun g hg => (h.2.2.2.2 g (Nat.lt_of_lt_of_le hg hs) (fun ho => absurd (hO g ho) (by omega))).trans (hb.block g hg)⟩
def upd {α : Type} (f : Nat → α) (i : Nat) (x : α) : Nat → α := fun j => if j = i then x else f j
theorem BoolRow.set {B n : Nat} {ts : Nat → Bool} {w : World} (h : BoolRow B n ts w) (i : Nat) (x : Bool) : BoolRow B n (upd ts i x) (w.setCell ⟨B, i, none⟩ (.bool x)) := by
  obtain ⟨cs, h1, h2, h3⟩ := h
  refine ⟨cs.setIfInBounds i (.bool x), ?_, by simpa using h2, fun j hj => ?_⟩
  · rw [setCell_eq_setRow w B i _ 4 (0, 0) (.bool x) h1, setRow_heap w B _ _ 4 (0, 0) h1]
  · unfold upd
    by_cases e : j = i
    · subst e
      rw [if_pos rfl, Array.getElem?_setIfInBounds_self_of_lt (by omega)]
    · rw [if_neg e, Array.getElem?_setIfInBounds_ne (fun h => e h.symm)]
      exact h3 j hj
theorem RP.ne {B BW BT n : Nat} {ws : Nat → List Int} {ts : Nat → Bool} {w : World} (h : RP B BW BT n ws ts w) : B ≠ BW ∧ B ≠ BT ∧ BW ≠ BT := by
  obtain ⟨h1, h2, h3⟩ := h
  refine ⟨?_, ?_, h2.ne h3⟩
  · rintro rfl
    obtain ⟨cs, h, _⟩ := h2
    rw [h1] at h
    cases h
  · rintro rfl
    obtain ⟨cs, h, _⟩ := h3
    rw [h1] at h
    cases h
theorem setCell_fr (w : World) (B i : Nat) (v : Value) : Fr (fun g => g = B) w (w.setCell ⟨B, i, none⟩ v) :=
  ⟨rfl, rfl, rfl, by simp, fun g _ hg => Below.heap_setCell w ⟨B, i, none⟩ v g hg⟩
theorem RP.setT {B BW BT n : Nat} {ws : Nat → List Int} {ts : Nat → Bool} {w : World} (h : RP B BW BT n ws ts w) (i : Nat) (x : Bool) : RP B BW BT n ws (upd ts i x) (w.setCell ⟨BT, i, none⟩ (.bool x)) := by
  have hn := h.ne
  exact ⟨(Below.heap_setCell w ⟨BT, i, none⟩ _ B hn.2.1).trans h.1, h.2.1.same (Below.heap_setCell w ⟨BT, i, none⟩ _ BW hn.2.2), h.2.2.set i x⟩
/-- is a port taken? -/
def hs (ts : Nat → Bool) (n : Nat) (p : Int) : Bool := decide (1024 ≤ p) && (decide (p < 1024 + (n : Int)) && ts (p - 1024).toNat)
theorem hs_lo {ts : Nat → Bool} {n : Nat} {p : Int} (h : p < 1024) : hs ts n p = false := by unfold hs; rw [decide_eq_false (by omega)]; rfl
theorem hs_hi {ts : Nat → Bool} {n : Nat} {p : Int} (h : 1024 + (n : Int) ≤ p) : hs ts n p = false := by unfold hs; rw [decide_eq_false (show ¬ p < 1024 + (n : Int) by omega)]; simp
theorem hs_in {ts : Nat → Bool} {n : Nat} (i : Nat) (h : i < n) : hs ts n (1024 + (i : Int)) = ts i := by
  unfold hs
  rw [decide_eq_true (show (1024 : Int) ≤ 1024 + (i : Int) by omega), decide_eq_true (show (1024 : Int) + (i : Int) < 1024 + (n : Int) by omega), show ((1024 : Int) + (i : Int) - 1024).toNat = i by omega]
  simp
theorem port_cases (n : Nat) (p : Int) : p < 1024 ∨ 1024 + (n : Int) ≤ p ∨ ∃ i : Nat, i < n ∧ p = 1024 + (i : Int) := by
  by_cases h1 : p < 1024
  · exact .inl h1
  · by_cases h2 : 1024 + (n : Int) ≤ p
    · exact .inr (.inl h2)
    · exact .inr (.inr ⟨(p - 1024).toNat, by omega, by omega⟩)
set_option maxRecDepth 100000 in
set_option maxHeartbeats 1000000 in
theorem rhas_any (B BW BT n : Nat) (ws : Nat → List Int) (ts : Nat → Bool) (p : Int) (w : World) (h : RP B BW BT n ws ts w) (hn : n ≤ 128) :
    Calls Tryd.prog 44 #[.pointer (some ⟨B, 0, none⟩), .int .i64 p] w fun e w' => e = .returned (.bool (hs ts n p)) ∧ w' = w := by
  have l1 := h.taken
  have hn' : (n : Int) ≤ 128 := by omega
  rcases port_cases n p with h1 | h1 | ⟨i, hi, rfl⟩
  · rw [hs_lo h1]
    clear h
    go_enter Tryd.func44, Tryd.ntmps44
    go_wp2
    go_ret
    exact ⟨rfl, rfl⟩
  · rw [hs_hi h1]
    clear h
    have h2 : ¬ p < 1024 + (n : Int) := by omega
    have h3 : 1024 ≤ p := by omega
    clear h1
    go_enter Tryd.func44, Tryd.ntmps44
    go_wp2
    go_ret
    exact ⟨rfl, rfl⟩
  · rw [hs_in i hi]
    have c1 := (h.2.2.cell i hi).1
    clear h
    have j1 : (i : Int) < (n : Int) := by omega
    have j2 : (1024 : Int) + (i : Int) < 1024 + (n : Int) := by omega
    have j3 : (1024 : Int) ≤ 1024 + (i : Int) := by omega
    have j4 : IntKind.i64.wrap ((1024 : Int) + (i : Int) - 1024) = (i : Int) := by rw [IntKind.wrap_i64]; omega
    go_enter Tryd.func44, Tryd.ntmps44
    go_wp2
    go_ret
    exact ⟨rfl, rfl⟩
end Go.Proofs.YtjkkonpangcnjaaDoor
