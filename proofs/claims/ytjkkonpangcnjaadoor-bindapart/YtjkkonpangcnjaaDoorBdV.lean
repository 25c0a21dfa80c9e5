/- What is kept while both sides play: the document's own table, the program's, and blocks of the statement's own. -/
import Derived.Test.YtjkkonpangcnjaaDoorBdK
namespace Go.Proofs.YtjkkonpangcnjaaDoor
open Go.RowKit

/-- both sides' tables, each in blocks of its own, behind the world w0, and blocks that hold what they hold. -/
def VX (TP : Value → Nat → (Nat → List Int) → (Nat → Bool) → List (List Int) → (Nat → Prop) → World → Prop) (w0 : World) (tv : Value) (B m : Nat) (ws2 : Nat → List Int) (ts2 : Nat → Bool) (bs2 : List (List Int)) (O : Nat → Prop) (ws : Nat → List Int) (ts : Nat → Bool) (bs : List (List Int)) (Od : Nat → Prop) (Ks : List (Nat × Obj)) (W : World) : Prop :=
  TP tv m ws2 ts2 bs2 O W ∧ DT B m ws ts bs Od W ∧ (∀ g, O g → w0.heap.size ≤ g ∧ ¬ Od g) ∧ (∀ g, Od g → w0.heap.size ≤ g) ∧ Below w0.heap.size w0 W ∧ ∀ p ∈ Ks, W.heap[p.1]? = some p.2 ∧ ¬ O p.1 ∧ ¬ Od p.1
theorem obj_lt {W : World} {g : Nat} {o : Obj} (h : W.heap[g]? = some o) : g < W.heap.size := (Array.getElem?_eq_some_iff.1 h).1
theorem VX.below {TP : Value → Nat → (Nat → List Int) → (Nat → Bool) → List (List Int) → (Nat → Prop) → World → Prop} (I : JKept TP) {w0 : World} {tv : Value} {B m : Nat} {ws2 : Nat → List Int} {ts2 : Nat → Bool} {bs2 : List (List Int)} {O : Nat → Prop} {ws : Nat → List Int} {ts : Nat → Bool} {bs : List (List Int)} {Od : Nat → Prop} {Ks : List (Nat × Obj)} {W W' : World}
    (h : VX TP w0 tv B m ws2 ts2 bs2 O ws ts bs Od Ks W) (hb : Below W.heap.size W W') : VX TP w0 tv B m ws2 ts2 bs2 O ws ts bs Od Ks W' := by
  obtain ⟨h1, h2, h3, h4, h5, h6⟩ := h
  have k := I tv m ws2 ts2 bs2 O W h1
  exact ⟨k.2 W' hb.size (fun g hg => hb.block g (k.1 g hg)), h2.same (fun g hg => hb.block g (h2.lt g hg)), h3, h4, bt h5 hb, fun p hp => ⟨(hb.block p.1 (obj_lt (h6 p hp).1)).trans (h6 p hp).1, (h6 p hp).2⟩⟩
theorem VX.doc {TP : Value → Nat → (Nat → List Int) → (Nat → Bool) → List (List Int) → (Nat → Prop) → World → Prop} (I : JKept TP) {w0 : World} {tv : Value} {B m : Nat} {ws2 : Nat → List Int} {ts2 : Nat → Bool} {bs2 : List (List Int)} {O : Nat → Prop} {ws : Nat → List Int} {ts : Nat → Bool} {bs : List (List Int)} {Od : Nat → Prop} {Ks : List (Nat × Obj)} {W W' : World} {ws' : Nat → List Int} {ts' : Nat → Bool} {bs' : List (List Int)} {Od' : Nat → Prop}
    (h : VX TP w0 tv B m ws2 ts2 bs2 O ws ts bs Od Ks W) (p' : DT B m ws' ts' bs' Od' W') (hf : Fr Od W W') (hO : ∀ g, Od' g → Od g ∨ W.heap.size ≤ g) : VX TP w0 tv B m ws2 ts2 bs2 O ws' ts' bs' Od' Ks W' := by
  obtain ⟨h1, h2, h3, h4, h5, h6⟩ := h
  have k := I tv m ws2 ts2 bs2 O W h1
  have hs := h5.size
  refine ⟨k.2 W' hf.2.2.2.1 (fun g hg => hf.2.2.2.2 g (k.1 g hg) (h3 g hg).2), p', fun g hg => ⟨(h3 g hg).1, fun e => ?_⟩, fun g e => ?_, hf.below h5 h4 hs, fun p hp => ?_⟩
  · rcases hO g e with e | e
    · exact (h3 g hg).2 e
    · exact absurd (k.1 g hg) (by omega)
  · rcases hO g e with e | e
    · exact h4 g e
    · omega
  · obtain ⟨a1, a2, a3⟩ := h6 p hp
    refine ⟨(hf.2.2.2.2 p.1 (obj_lt a1) a3).trans a1, a2, fun e => ?_⟩
    rcases hO p.1 e with e | e
    · exact a3 e
    · exact absurd (obj_lt a1) (by omega)
theorem VX.prog {TP : Value → Nat → (Nat → List Int) → (Nat → Bool) → List (List Int) → (Nat → Prop) → World → Prop} {w0 : World} {tv : Value} {B m : Nat} {ws2 : Nat → List Int} {ts2 : Nat → Bool} {bs2 : List (List Int)} {O : Nat → Prop} {ws : Nat → List Int} {ts : Nat → Bool} {bs : List (List Int)} {Od : Nat → Prop} {Ks : List (Nat × Obj)} {W W' : World} {ws' : Nat → List Int} {ts' : Nat → Bool} {bs' : List (List Int)}
    (h : VX TP w0 tv B m ws2 ts2 bs2 O ws ts bs Od Ks W) (q : TQ TP tv m ws' ts' bs' O W W') : ∃ O', VX TP w0 tv B m ws' ts' bs' O' ws ts bs Od Ks W' ∧ Fr O W W' := by
  obtain ⟨h1, h2, h3, h4, h5, h6⟩ := h
  obtain ⟨O', p', hf, hO⟩ := q
  have hs := h5.size
  refine ⟨O', ⟨p', h2.same (fun g hg => hf.2.2.2.2 g (h2.lt g hg) (fun e => (h3 g e).2 hg)), fun g hg => ?_, h4, hf.below h5 (fun g e => (h3 g e).1) hs, fun p hp => ?_⟩, hf⟩
  · rcases hO g hg with e | e
    · exact h3 g e
    · exact ⟨by omega, fun e' => absurd (h2.lt g e') (by omega)⟩
  · obtain ⟨a1, a2, a3⟩ := h6 p hp
    refine ⟨(hf.2.2.2.2 p.1 (obj_lt a1) a2).trans a1, fun e => ?_, a3⟩
    rcases hO p.1 e with e | e
    · exact a2 e
    · exact absurd (obj_lt a1) (by omega)
/-- a new block of the statement's own. -/
theorem VX.add {TP : Value → Nat → (Nat → List Int) → (Nat → Bool) → List (List Int) → (Nat → Prop) → World → Prop} (I : JKept TP) {w0 : World} {tv : Value} {B m : Nat} {ws2 : Nat → List Int} {ts2 : Nat → Bool} {bs2 : List (List Int)} {O : Nat → Prop} {ws : Nat → List Int} {ts : Nat → Bool} {bs : List (List Int)} {Od : Nat → Prop} {Ks : List (Nat × Obj)} {W W' : World}
    (h : VX TP w0 tv B m ws2 ts2 bs2 O ws ts bs Od Ks W) (hb : Below W.heap.size W W') {o : Obj} (ho : W'.heap[W.heap.size]? = some o) : VX TP w0 tv B m ws2 ts2 bs2 O ws ts bs Od ((W.heap.size, o) :: Ks) W' := by
  have k := (I tv m ws2 ts2 bs2 O W h.1).1
  have d := h.2.1.lt
  obtain ⟨h1, h2, h3, h4, h5, h6⟩ := h.below I hb
  refine ⟨h1, h2, h3, h4, h5, fun p hp => ?_⟩
  rcases List.mem_cons.1 hp with rfl | hp
  · exact ⟨ho, fun e => absurd (k _ e) (by omega), fun e => absurd (d _ e) (by omega)⟩
  · exact h6 p hp
/-- the newest of them is written. -/
theorem VX.put {TP : Value → Nat → (Nat → List Int) → (Nat → Bool) → List (List Int) → (Nat → Prop) → World → Prop} (I : JKept TP) {w0 : World} {tv : Value} {B m : Nat} {ws2 : Nat → List Int} {ts2 : Nat → Bool} {bs2 : List (List Int)} {O : Nat → Prop} {ws : Nat → List Int} {ts : Nat → Bool} {bs : List (List Int)} {Od : Nat → Prop} {Ks : List (Nat × Obj)} {E : Nat} {o o' : Obj} {W W' : World}
    (h : VX TP w0 tv B m ws2 ts2 bs2 O ws ts bs Od ((E, o) :: Ks) W) (hE : w0.heap.size ≤ E) (hne : ∀ p ∈ Ks, p.1 ≠ E) (on : Only E W W') (ho : W'.heap[E]? = some o') : VX TP w0 tv B m ws2 ts2 bs2 O ws ts bs Od ((E, o') :: Ks) W' := by
  obtain ⟨h1, h2, h3, h4, h5, h6⟩ := h
  have k := I tv m ws2 ts2 bs2 O W h1
  obtain ⟨e1, e2, e3⟩ := h6 (E, o) (List.mem_cons_self ..)
  have hk : ∀ g, g ≠ E → W'.heap[g]? = W.heap[g]? := on.2.2.2.2
  refine ⟨k.2 W' (by rw [on.2.2.2.1]; exact Nat.le_refl _) (fun g hg => hk g (fun e => e2 (e ▸ hg))), h2.same (fun g hg => hk g (fun e => e3 (e ▸ hg))), h3, h4, on.below h5 hE, fun p hp => ?_⟩
  rcases List.mem_cons.1 hp with rfl | hp
  · exact ⟨ho, e2, e3⟩
  · obtain ⟨a1, a2⟩ := h6 p (List.mem_cons_of_mem _ hp)
    exact ⟨(hk p.1 (hne p hp)).trans a1, a2⟩
theorem VX.drop {TP : Value → Nat → (Nat → List Int) → (Nat → Bool) → List (List Int) → (Nat → Prop) → World → Prop} {w0 : World} {tv : Value} {B m : Nat} {ws2 : Nat → List Int} {ts2 : Nat → Bool} {bs2 : List (List Int)} {O : Nat → Prop} {ws : Nat → List Int} {ts : Nat → Bool} {bs : List (List Int)} {Od : Nat → Prop} {K : Nat × Obj} {Ks : List (Nat × Obj)} {W : World}
    (h : VX TP w0 tv B m ws2 ts2 bs2 O ws ts bs Od (K :: Ks) W) : VX TP w0 tv B m ws2 ts2 bs2 O ws ts bs Od Ks W := ⟨h.1, h.2.1, h.2.2.1, h.2.2.2.1, h.2.2.2.2.1, fun p hp => h.2.2.2.2.2 p (List.mem_cons_of_mem _ hp)⟩
theorem RT.other {B P BW BT n : Nat} {ws : Nat → List Int} {ts : Nat → Bool} {v : Value} {bs : List (List Int)} {O Od : Nat → Prop} {W W' : World} (h : RT B P BW BT n ws ts v bs W) (hOd : Od = fun g => g = B ∨ g = P ∨ g = BW ∨ g = BT ∨ v.ownBlock = some g) (hf : Fr O W W') (hO : ∀ g, O g → ¬ Od g) : RT B P BW BT n ws ts v bs W' := by
  subst hOd
  have hs : ∀ g, g < W.heap.size → (g = B ∨ g = P ∨ g = BW ∨ g = BT ∨ v.ownBlock = some g) → W'.heap[g]? = W.heap[g]? := fun g hg e => hf.2.2.2.2 g hg (fun eO => hO g eO e)
  exact ⟨(hs B h.lt (.inl rfl)).trans h.1, ⟨(hs P h.2.1.lt (.inr (.inl rfl))).trans h.2.1.1, h.2.1.2.1.same (hs BW h.2.1.2.1.lt (.inr (.inr (.inl rfl)))), h.2.1.2.2.same (hs BT h.2.1.2.2.lt (.inr (.inr (.inr (.inl rfl)))))⟩, owns_same h.2.2 (fun g e => hs g (owns_lt h.2.2 g e).1 (.inr (.inr (.inr (.inr e)))))⟩
/-- is there a bind of that kind at that port? -/
def nb (bs : List (List Int)) (kind p : Int) : Bool := match prt bs p with | none => false | some k => el (bs.getD k []) 0 == kind
/-- a step's flow. -/
def sf (s : List Int) : List Int := [el s 9, el s 10, el s 11, el s 12, el s 13, el s 14, el s 15, el s 16, el s 17, el s 18, el s 19, el s 20, el s 21, el s 22, el s 23, el s 24, el s 25, el s 26, el s 27]
theorem sf_el (s : List Int) (j : Nat) (hj : j < 19) : el (sf s) j = el s (9 + j) := by
  rcases (by omega : j = 0 ∨ j = 1 ∨ j = 2 ∨ j = 3 ∨ j = 4 ∨ j = 5 ∨ j = 6 ∨ j = 7 ∨ j = 8 ∨ j = 9 ∨ j = 10 ∨ j = 11 ∨ j = 12 ∨ j = 13 ∨ j = 14 ∨ j = 15 ∨ j = 16 ∨ j = 17 ∨ j = 18) with rfl | rfl | rfl | rfl | rfl | rfl | rfl | rfl | rfl | rfl | rfl | rfl | rfl | rfl | rfl | rfl | rfl | rfl | rfl <;> rfl
theorem StIn.fl {B : Nat} {s : List Int} {w : World} (p : StIn B s w) : (fload (.pointer (some ⟨B, 9, none⟩))).run Tryd.prog w = .ok (.agg (flC (sf s))) w :=
  run_loadAt_mid w B 9 35 (flC (sf s)).toList _ (fun j v hv => by
    have hj : j < 19 := (List.getElem?_eq_some_iff.1 hv).1
    rw [p.cellAt (9 + j) (by omega), ← sf_el s j hj, ← flC_at (sf s) j hj]
    simpa using hv) Tryd.underlying35 rfl (by kernel_rfl)
theorem tells_fe (b : Bool) : Tells (ev (fe b)) (fe b) := tells_ev _
end Go.Proofs.YtjkkonpangcnjaaDoor
