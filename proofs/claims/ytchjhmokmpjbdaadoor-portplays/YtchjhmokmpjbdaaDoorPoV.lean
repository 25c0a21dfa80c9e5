/- What is kept while both sides play: the document's own ports, the program's, and what the statement itself holds. -/
import Derived.Test.YtchjhmokmpjbdaaDoorPoIf2
namespace Go.Proofs.YtchjhmokmpjbdaaDoor
open Go.RowKit

/-- both sides' ports, each in blocks of its own, behind the world w0. -/
def VP (PP : Value → Nat → (Nat → List Int) → (Nat → Bool) → (Nat → Prop) → World → Prop) (w0 : World) (B BW BT n : Nat) (ws : Nat → List Int) (ts : Nat → Bool) (pv : Value) (ws2 : Nat → List Int) (ts2 : Nat → Bool) (O : Nat → Prop) (W : World) : Prop :=
  RP B BW BT n ws ts W ∧ PP pv n ws2 ts2 O W ∧ (∀ g, O g → w0.heap.size ≤ g ∧ g ≠ B ∧ g ≠ BW ∧ g ≠ BT) ∧ (w0.heap.size ≤ B ∧ w0.heap.size ≤ BW ∧ w0.heap.size ≤ BT) ∧ Below w0.heap.size w0 W
theorem VP.below {PP : Value → Nat → (Nat → List Int) → (Nat → Bool) → (Nat → Prop) → World → Prop} (I : IKept PP) {w0 : World} {B BW BT n : Nat} {ws : Nat → List Int} {ts : Nat → Bool} {pv : Value} {ws2 : Nat → List Int} {ts2 : Nat → Bool} {O : Nat → Prop} {W W' : World}
    (h : VP PP w0 B BW BT n ws ts pv ws2 ts2 O W) (hb : Below W.heap.size W W') : VP PP w0 B BW BT n ws ts pv ws2 ts2 O W' := by
  obtain ⟨h1, h2, h3, h4, h5⟩ := h
  have k := I pv n ws2 ts2 O W h2
  exact ⟨h1.kept hb, k.2 W' hb.size (fun g hg => hb.block g (k.1 g hg)), h3, h4, bt h5 hb⟩
theorem VP.ref {PP : Value → Nat → (Nat → List Int) → (Nat → Bool) → (Nat → Prop) → World → Prop} (I : IKept PP) {w0 : World} {B BW BT n : Nat} {ws : Nat → List Int} {ts : Nat → Bool} {pv : Value} {ws2 : Nat → List Int} {ts2 : Nat → Bool} {O : Nat → Prop} {W W' : World} {ws' : Nat → List Int} {ts' : Nat → Bool}
    (h : VP PP w0 B BW BT n ws ts pv ws2 ts2 O W) (hr : RP B BW BT n ws' ts' W') (hf : Fr (fun g => g = BW ∨ g = BT) W W') : VP PP w0 B BW BT n ws' ts' pv ws2 ts2 O W' := by
  obtain ⟨h1, h2, h3, h4, h5⟩ := h
  have k := I pv n ws2 ts2 O W h2
  exact ⟨hr, k.2 W' hf.2.2.2.1 (fun g hg => hf.2.2.2.2 g (k.1 g hg) (fun e => by rcases e with e | e; exact (h3 g hg).2.2.1 e; exact (h3 g hg).2.2.2 e)), h3, h4, hf.below h5 (fun g e => by rcases e with e | e <;> rw [e]; exact h4.2.1; exact h4.2.2) h5.size⟩
theorem VP.prog {PP : Value → Nat → (Nat → List Int) → (Nat → Bool) → (Nat → Prop) → World → Prop} (_I : IKept PP) {w0 : World} {B BW BT n : Nat} {ws : Nat → List Int} {ts : Nat → Bool} {pv : Value} {ws2 : Nat → List Int} {ts2 : Nat → Bool} {O : Nat → Prop} {W W' : World} {ws' : Nat → List Int} {ts' : Nat → Bool}
    (h : VP PP w0 B BW BT n ws ts pv ws2 ts2 O W) (q : PQ PP pv n ws' ts' O W W') : ∃ O', VP PP w0 B BW BT n ws ts pv ws' ts' O' W' ∧ Fr O W W' ∧ ∀ g, O' g → O g ∨ W.heap.size ≤ g := by
  obtain ⟨h1, h2, h3, h4, h5⟩ := h
  obtain ⟨O', p', hf, hO⟩ := q
  have hs := h5.size
  have b0 := h1.lt
  have b1 := h1.2.1.lt
  have b2 := h1.2.2.lt
  refine ⟨O', ⟨⟨(hf.2.2.2.2 B b0 (fun e => (h3 B e).2.1 rfl)).trans h1.1, h1.2.1.same (hf.2.2.2.2 BW b1 (fun e => (h3 BW e).2.2.1 rfl)), h1.2.2.same (hf.2.2.2.2 BT b2 (fun e => (h3 BT e).2.2.2 rfl))⟩, p', fun g hg => ?_, h4, hf.below h5 (fun g e => (h3 g e).1) hs⟩, hf, hO⟩
  rcases hO g hg with e | e
  · exact h3 g e
  · exact ⟨by omega, by omega, by omega, by omega⟩
/-- .. and the step that is played. -/
def VS (PP : Value → Nat → (Nat → List Int) → (Nat → Bool) → (Nat → Prop) → World → Prop) (w0 : World) (B BW BT n : Nat) (ws : Nat → List Int) (ts : Nat → Bool) (pv : Value) (ws2 : Nat → List Int) (ts2 : Nat → Bool) (O : Nat → Prop) (B9 : Nat) (s : List Int) (W : World) : Prop :=
  VP PP w0 B BW BT n ws ts pv ws2 ts2 O W ∧ StIn B9 s W ∧ ¬ O B9
theorem StIn.neT {B B' n : Nat} {s : List Int} {ts : Nat → Bool} {w : World} (h : StIn B s w) (h' : BoolRow B' n ts w) : B ≠ B' := by
  rintro rfl
  obtain ⟨cs, h1, _⟩ := h'
  unfold StIn at h
  rw [h] at h1
  cases h1
theorem StIn.neW {B B' n : Nat} {s : List Int} {ws : Nat → List Int} {w : World} (h : StIn B s w) (h' : SixRow B' n ws w) : B ≠ B' := by
  rintro rfl
  obtain ⟨cs, h1, _⟩ := h'
  unfold StIn at h
  rw [h] at h1
  cases h1
theorem VS.below {PP : Value → Nat → (Nat → List Int) → (Nat → Bool) → (Nat → Prop) → World → Prop} (I : IKept PP) {w0 : World} {B BW BT n : Nat} {ws : Nat → List Int} {ts : Nat → Bool} {pv : Value} {ws2 : Nat → List Int} {ts2 : Nat → Bool} {O : Nat → Prop} {B9 : Nat} {s : List Int} {W W' : World}
    (h : VS PP w0 B BW BT n ws ts pv ws2 ts2 O B9 s W) (hb : Below W.heap.size W W') : VS PP w0 B BW BT n ws ts pv ws2 ts2 O B9 s W' := ⟨h.1.below I hb, h.2.1.kept hb, h.2.2⟩
theorem VS.ref {PP : Value → Nat → (Nat → List Int) → (Nat → Bool) → (Nat → Prop) → World → Prop} (I : IKept PP) {w0 : World} {B BW BT n : Nat} {ws : Nat → List Int} {ts : Nat → Bool} {pv : Value} {ws2 : Nat → List Int} {ts2 : Nat → Bool} {O : Nat → Prop} {B9 : Nat} {s : List Int} {W W' : World} {ws' : Nat → List Int} {ts' : Nat → Bool}
    (h : VS PP w0 B BW BT n ws ts pv ws2 ts2 O B9 s W) (hr : RP B BW BT n ws' ts' W') (hf : Fr (fun g => g = BW ∨ g = BT) W W') : VS PP w0 B BW BT n ws' ts' pv ws2 ts2 O B9 s W' := by
  refine ⟨h.1.ref I hr hf, h.2.1.same (hf.2.2.2.2 B9 h.2.1.lt (fun e => ?_)), h.2.2⟩
  rcases e with e | e
  · exact h.2.1.neW h.1.1.2.1 e
  · exact h.2.1.neT h.1.1.2.2 e
theorem VS.prog {PP : Value → Nat → (Nat → List Int) → (Nat → Bool) → (Nat → Prop) → World → Prop} (I : IKept PP) {w0 : World} {B BW BT n : Nat} {ws : Nat → List Int} {ts : Nat → Bool} {pv : Value} {ws2 : Nat → List Int} {ts2 : Nat → Bool} {O : Nat → Prop} {B9 : Nat} {s : List Int} {W W' : World} {ws' : Nat → List Int} {ts' : Nat → Bool}
    (h : VS PP w0 B BW BT n ws ts pv ws2 ts2 O B9 s W) (q : PQ PP pv n ws' ts' O W W') : ∃ O', VS PP w0 B BW BT n ws ts pv ws' ts' O' B9 s W' ∧ Fr O W W' ∧ ∀ g, O' g → O g ∨ W.heap.size ≤ g := by
  obtain ⟨O', hv, hf, hO⟩ := h.1.prog I q
  have hlt := h.2.1.lt
  refine ⟨O', ⟨hv, h.2.1.same (hf.2.2.2.2 B9 hlt h.2.2), fun e => ?_⟩, hf, hO⟩
  rcases hO B9 e with e | e
  · exact h.2.2 e
  · omega
/-- .. and an address of the statement's own. -/
def VZ (PP : Value → Nat → (Nat → List Int) → (Nat → Bool) → (Nat → Prop) → World → Prop) (w0 : World) (B BW BT n : Nat) (ws : Nat → List Int) (ts : Nat → Bool) (pv : Value) (ws2 : Nat → List Int) (ts2 : Nat → Bool) (O : Nat → Prop) (B9 : Nat) (s : List Int) (D : Nat) (z : List Int) (W : World) : Prop :=
  VS PP w0 B BW BT n ws ts pv ws2 ts2 O B9 s W ∧ SixIn D z W ∧ ¬ O D ∧ (D ≠ B ∧ D ≠ BW ∧ D ≠ BT ∧ D ≠ B9 ∧ w0.heap.size ≤ D)
theorem VZ.below {PP : Value → Nat → (Nat → List Int) → (Nat → Bool) → (Nat → Prop) → World → Prop} (I : IKept PP) {w0 : World} {B BW BT n : Nat} {ws : Nat → List Int} {ts : Nat → Bool} {pv : Value} {ws2 : Nat → List Int} {ts2 : Nat → Bool} {O : Nat → Prop} {B9 : Nat} {s : List Int} {D : Nat} {z : List Int} {W W' : World}
    (h : VZ PP w0 B BW BT n ws ts pv ws2 ts2 O B9 s D z W) (hb : Below W.heap.size W W') : VZ PP w0 B BW BT n ws ts pv ws2 ts2 O B9 s D z W' := ⟨h.1.below I hb, h.2.1.kept hb, h.2.2⟩
theorem VZ.prog {PP : Value → Nat → (Nat → List Int) → (Nat → Bool) → (Nat → Prop) → World → Prop} (I : IKept PP) {w0 : World} {B BW BT n : Nat} {ws : Nat → List Int} {ts : Nat → Bool} {pv : Value} {ws2 : Nat → List Int} {ts2 : Nat → Bool} {O : Nat → Prop} {B9 : Nat} {s : List Int} {D : Nat} {z : List Int} {W W' : World} {ws' : Nat → List Int} {ts' : Nat → Bool}
    (h : VZ PP w0 B BW BT n ws ts pv ws2 ts2 O B9 s D z W) (q : PQ PP pv n ws' ts' O W W') : ∃ O', VZ PP w0 B BW BT n ws ts pv ws' ts' O' B9 s D z W' ∧ Fr O W W' ∧ ∀ g, O' g → O g ∨ W.heap.size ≤ g := by
  obtain ⟨O', hv, hf, hO⟩ := h.1.prog I q
  have hlt := h.2.1.lt
  refine ⟨O', ⟨hv, (hf.2.2.2.2 D hlt h.2.2.1).trans h.2.1, fun e => ?_, h.2.2.2⟩, hf, hO⟩
  rcases hO D e with e | e
  · exact h.2.2.1 e
  · omega
/-- a new block is none of the program's. -/
theorem VP.fresh {PP : Value → Nat → (Nat → List Int) → (Nat → Bool) → (Nat → Prop) → World → Prop} (I : IKept PP) {w0 : World} {B BW BT n : Nat} {ws : Nat → List Int} {ts : Nat → Bool} {pv : Value} {ws2 : Nat → List Int} {ts2 : Nat → Bool} {O : Nat → Prop} {W : World}
    (h : VP PP w0 B BW BT n ws ts pv ws2 ts2 O W) : ¬ O W.heap.size := fun e => Nat.lt_irrefl _ ((I pv n ws2 ts2 O W h.2.1).1 _ e)
theorem VS.withZ {PP : Value → Nat → (Nat → List Int) → (Nat → Bool) → (Nat → Prop) → World → Prop} (I : IKept PP) {w0 : World} {B BW BT n : Nat} {ws : Nat → List Int} {ts : Nat → Bool} {pv : Value} {ws2 : Nat → List Int} {ts2 : Nat → Bool} {O : Nat → Prop} {B9 : Nat} {s : List Int} {W : World}
    (h : VS PP w0 B BW BT n ws ts pv ws2 ts2 O B9 s W) : VZ PP w0 B BW BT n ws ts pv ws2 ts2 O B9 s W.heap.size [] (W.alloc (.cells zero6 33)) := by
  have a1 := h.1.1.lt
  have a2 := h.1.1.2.1.lt
  have a3 := h.1.1.2.2.lt
  have a4 := h.2.1.lt
  have a5 := h.1.2.2.2.2.size
  exact ⟨h.below I (al_below _ _), zero_new W, h.1.fresh I, by omega, by omega, by omega, by omega, a5⟩
theorem VZ.setZ {PP : Value → Nat → (Nat → List Int) → (Nat → Bool) → (Nat → Prop) → World → Prop} (I : IKept PP) {w0 : World} {B BW BT n : Nat} {ws : Nat → List Int} {ts : Nat → Bool} {pv : Value} {ws2 : Nat → List Int} {ts2 : Nat → Bool} {O : Nat → Prop} {B9 : Nat} {s : List Int} {D : Nat} {z : List Int} {W W' : World}
    (h : VZ PP w0 B BW BT n ws ts pv ws2 ts2 O B9 s D z W) (on : Only D W W') (z' : List Int) (p : SixIn D z' W') : VZ PP w0 B BW BT n ws ts pv ws2 ts2 O B9 s D z' W' := by
  obtain ⟨⟨⟨h1, h2, h3, h4, h5⟩, hs, hs2⟩, _, hO, d1, d2, d3, d4, d5⟩ := h
  have k := I pv n ws2 ts2 O W h2
  exact ⟨⟨⟨⟨(on.2.2.2.2 B (Ne.symm d1)).trans h1.1, h1.2.1.same (on.2.2.2.2 BW (Ne.symm d2)), h1.2.2.same (on.2.2.2.2 BT (Ne.symm d3))⟩, k.2 W' (by rw [on.2.2.2.1]; exact Nat.le_refl _) (fun g hg => on.2.2.2.2 g (fun e => hO (e ▸ hg))), h3, h4, on.below h5 d5⟩, hs.same (on.2.2.2.2 B9 (Ne.symm d4)), hs2⟩, p, hO, d1, d2, d3, d4, d5⟩
/-- an address of a row, loaded, held shut for a walk. -/
theorem SixRow.hl {B n : Nat} {ws : Nat → List Int} {w : World} (h : SixRow B n ws w) (i : Nat) (hi : i < n) : (hload (.pointer (some ⟨B, i * 8, none⟩))).run Tryd.prog w = .ok (.agg (sixC (ws i))) w := by
  rw [Nat.mul_comm i 8]
  exact run_loadAt_mid w B (8 * i) 33 (sixC (ws i)).toList _ (h.range i hi) Tryd.underlying33 rfl (by kernel_rfl)
theorem SixIn.heldq {B : Nat} {z0 : List Int} {w : World} (p : SixIn B z0 w) (z : List Int) : ∃ w', (qstore (.pointer (some ⟨B, 0, none⟩)) (.agg (sixC z))).run Tryd.prog w = .ok () w' ∧ SixIn B z w' ∧ Only B w w' := by
  refine ⟨w.setRow B (sixC z), ?_, p.stored z, only_setRow _ _ _⟩
  unfold qstore
  simp only [Instr.storeAt, Instr.sureAddr, Sem.run_bind, Sem.run_pure, Result.andThen_ok]
  exact run_storeVar_row w B 33 33 _ (sixC z) p (by kernel_rfl) rfl (by unfold sixC; simp [Value.oneCell'])
end Go.Proofs.YtchjhmokmpjbdaaDoor
