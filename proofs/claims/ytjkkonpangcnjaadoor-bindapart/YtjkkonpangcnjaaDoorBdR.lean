/- Calls of the program's table that only read; what is kept while BindApart plays. -/
import Derived.Test.YtjkkonpangcnjaaDoorBdV
import Derived.Test.YtjkkonpangcnjaaDoorBdQ
namespace Go.Proofs.YtjkkonpangcnjaaDoor
open Go.RowKit

theorem TQ.of {TP : Value → Nat → (Nat → List Int) → (Nat → Bool) → List (List Int) → (Nat → Prop) → World → Prop} (I : JKept TP) {v : Value} {m : Nat} {ws : Nat → List Int} {ts : Nat → Bool} {bs : List (List Int)} {O : Nat → Prop} {w w' : World} (h : TP v m ws ts bs O w) (hb : Below w.heap.size w w') : TQ TP v m ws ts bs O w w' := by
  have k := I v m ws ts bs O w h
  exact ⟨O, k.2 w' hb.size (fun g hg => hb.block g (k.1 g hg)), Fr.of hb, fun _ e => .inl e⟩
def RNear (TP : Value → Nat → (Nat → List Int) → (Nat → Bool) → List (List Int) → (Nat → Prop) → World → Prop) : Prop := ∀ v m ws ts bs O w kind p x e, m ≤ 16 → bs.length ≤ 128 → BI m ws ts bs → TP v m ws ts bs O w → Nr bs kind p x e →
  Calls Tryd.prog 19 #[v, .int .i64 kind, .int .i64 p] w fun r w' => r = .returned (.tuple #[.agg (bdC x), ev e]) ∧ Below w.heap.size w w'
def RFind (TP : Value → Nat → (Nat → List Int) → (Nat → Bool) → List (List Int) → (Nat → Prop) → World → Prop) : Prop := ∀ v m ws ts bs O w f x e, m ≤ 16 → bs.length ≤ 128 → BI m ws ts bs → TP v m ws ts bs O w → Fd bs f x e →
  Calls Tryd.prog 21 #[v, .agg (flC f)] w fun r w' => r = .returned (.tuple #[.agg (bdC x), ev e]) ∧ Below w.heap.size w w'
def RAll (TP : Value → Nat → (Nat → List Int) → (Nat → Bool) → List (List Int) → (Nat → Prop) → World → Prop) : Prop := ∀ v m ws ts bs O w, m ≤ 16 → bs.length ≤ 128 → BI m ws ts bs → TP v m ws ts bs O w →
  Calls Tryd.prog 22 #[v] w fun r w' => ∃ b, r = .returned b ∧ BdRow 0 w' b bs ∧ Below w.heap.size w w'
/-- what only reads writes nothing that was there. -/
def JR (TP : Value → Nat → (Nat → List Int) → (Nat → Bool) → List (List Int) → (Nat → Prop) → World → Prop) : Prop := RNear TP ∧ RFind TP ∧ RAll TP
theorem RNear.j {TP : Value → Nat → (Nat → List Int) → (Nat → Bool) → List (List Int) → (Nat → Prop) → World → Prop} (I : JKept TP) (h : RNear TP) : JNear TP := fun v m ws ts bs O w kind p x e h1 h2 h3 h4 h5 => (h v m ws ts bs O w kind p x e h1 h2 h3 h4 h5).mono fun _ _ ⟨e1, e2⟩ => ⟨e1, TQ.of I h4 e2⟩
theorem RFind.j {TP : Value → Nat → (Nat → List Int) → (Nat → Bool) → List (List Int) → (Nat → Prop) → World → Prop} (I : JKept TP) (h : RFind TP) : JFind TP := fun v m ws ts bs O w f x e h1 h2 h3 h4 h5 => (h v m ws ts bs O w f x e h1 h2 h3 h4 h5).mono fun _ _ ⟨e1, e2⟩ => ⟨e1, TQ.of I h4 e2⟩
theorem RAll.j {TP : Value → Nat → (Nat → List Int) → (Nat → Bool) → List (List Int) → (Nat → Prop) → World → Prop} (I : JKept TP) (h : RAll TP) : JAll TP := fun v m ws ts bs O w h1 h2 h3 h4 => (h v m ws ts bs O w h1 h2 h3 h4).mono fun _ _ ⟨b, e1, e2, e3⟩ => ⟨b, e1, e2, TQ.of I h4 e3⟩
/-- the program's table behind the world w0, and blocks that hold what they hold. -/
def VY (TP : Value → Nat → (Nat → List Int) → (Nat → Bool) → List (List Int) → (Nat → Prop) → World → Prop) (w0 : World) (tv : Value) (m : Nat) (ws : Nat → List Int) (ts : Nat → Bool) (bs : List (List Int)) (O : Nat → Prop) (Ks : List (Nat × Obj)) (W : World) : Prop :=
  TP tv m ws ts bs O W ∧ (∀ g, O g → w0.heap.size ≤ g) ∧ Below w0.heap.size w0 W ∧ ∀ p ∈ Ks, W.heap[p.1]? = some p.2 ∧ ¬ O p.1
theorem VY.below {TP : Value → Nat → (Nat → List Int) → (Nat → Bool) → List (List Int) → (Nat → Prop) → World → Prop} (I : JKept TP) {w0 : World} {tv : Value} {m : Nat} {ws : Nat → List Int} {ts : Nat → Bool} {bs : List (List Int)} {O : Nat → Prop} {Ks : List (Nat × Obj)} {W W' : World}
    (h : VY TP w0 tv m ws ts bs O Ks W) (hb : Below W.heap.size W W') : VY TP w0 tv m ws ts bs O Ks W' := by
  obtain ⟨h1, h3, h5, h6⟩ := h
  have k := I tv m ws ts bs O W h1
  exact ⟨k.2 W' hb.size (fun g hg => hb.block g (k.1 g hg)), h3, bt h5 hb, fun p hp => ⟨(hb.block p.1 (obj_lt (h6 p hp).1)).trans (h6 p hp).1, (h6 p hp).2⟩⟩
theorem VY.prog {TP : Value → Nat → (Nat → List Int) → (Nat → Bool) → List (List Int) → (Nat → Prop) → World → Prop} {w0 : World} {tv : Value} {m : Nat} {ws : Nat → List Int} {ts : Nat → Bool} {bs : List (List Int)} {O : Nat → Prop} {Ks : List (Nat × Obj)} {W W' : World} {ws' : Nat → List Int} {ts' : Nat → Bool} {bs' : List (List Int)}
    (h : VY TP w0 tv m ws ts bs O Ks W) (q : TQ TP tv m ws' ts' bs' O W W') : ∃ O', VY TP w0 tv m ws' ts' bs' O' Ks W' ∧ Fr O W W' := by
  obtain ⟨h1, h3, h5, h6⟩ := h
  obtain ⟨O', p', hf, hO⟩ := q
  have hs := h5.size
  refine ⟨O', ⟨p', fun g hg => ?_, hf.below h5 h3 hs, fun p hp => ?_⟩, hf⟩
  · rcases hO g hg with e | e
    · exact h3 g e
    · omega
  · obtain ⟨a1, a2⟩ := h6 p hp
    refine ⟨(hf.2.2.2.2 p.1 (obj_lt a1) a2).trans a1, fun e => ?_⟩
    rcases hO p.1 e with e | e
    · exact a2 e
    · exact absurd (obj_lt a1) (by omega)
theorem VY.add {TP : Value → Nat → (Nat → List Int) → (Nat → Bool) → List (List Int) → (Nat → Prop) → World → Prop} (I : JKept TP) {w0 : World} {tv : Value} {m : Nat} {ws : Nat → List Int} {ts : Nat → Bool} {bs : List (List Int)} {O : Nat → Prop} {Ks : List (Nat × Obj)} {W W' : World}
    (h : VY TP w0 tv m ws ts bs O Ks W) (hb : Below W.heap.size W W') {o : Obj} (ho : W'.heap[W.heap.size]? = some o) : VY TP w0 tv m ws ts bs O ((W.heap.size, o) :: Ks) W' := by
  have k := (I tv m ws ts bs O W h.1).1
  obtain ⟨h1, h3, h5, h6⟩ := h.below I hb
  refine ⟨h1, h3, h5, fun p hp => ?_⟩
  rcases List.mem_cons.1 hp with rfl | hp
  · exact ⟨ho, fun e => absurd (k _ e) (by omega)⟩
  · exact h6 p hp
theorem VY.drop {TP : Value → Nat → (Nat → List Int) → (Nat → Bool) → List (List Int) → (Nat → Prop) → World → Prop} {w0 : World} {tv : Value} {m : Nat} {ws : Nat → List Int} {ts : Nat → Bool} {bs : List (List Int)} {O : Nat → Prop} {K : Nat × Obj} {Ks : List (Nat × Obj)} {W : World}
    (h : VY TP w0 tv m ws ts bs O (K :: Ks) W) : VY TP w0 tv m ws ts bs O Ks W := ⟨h.1, h.2.1, h.2.2.1, fun p hp => h.2.2.2 p (List.mem_cons_of_mem _ hp)⟩
theorem VY.put {TP : Value → Nat → (Nat → List Int) → (Nat → Bool) → List (List Int) → (Nat → Prop) → World → Prop} (I : JKept TP) {w0 : World} {tv : Value} {m : Nat} {ws : Nat → List Int} {ts : Nat → Bool} {bs : List (List Int)} {O : Nat → Prop} {Ks : List (Nat × Obj)} {E : Nat} {o o' : Obj} {W W' : World}
    (h : VY TP w0 tv m ws ts bs O ((E, o) :: Ks) W) (hE : w0.heap.size ≤ E) (hne : ∀ p ∈ Ks, p.1 ≠ E) (on : Only E W W') (ho : W'.heap[E]? = some o') : VY TP w0 tv m ws ts bs O ((E, o') :: Ks) W' := by
  obtain ⟨h1, h3, h5, h6⟩ := h
  have k := I tv m ws ts bs O W h1
  obtain ⟨e1, e2⟩ := h6 (E, o) (List.mem_cons_self ..)
  have hk : ∀ g, g ≠ E → W'.heap[g]? = W.heap[g]? := on.2.2.2.2
  refine ⟨k.2 W' (by rw [on.2.2.2.1]; exact Nat.le_refl _) (fun g hg => hk g (fun e => e2 (e ▸ hg))), h3, on.below h5 hE, fun p hp => ?_⟩
  rcases List.mem_cons.1 hp with rfl | hp
  · exact ⟨ho, e2⟩
  · obtain ⟨a1, a2⟩ := h6 p (List.mem_cons_of_mem _ hp)
    exact ⟨(hk p.1 (hne p hp)).trans a1, a2⟩
/-- the one known fact, call by call. -/
theorem fb1 {TP : Value → Nat → (Nat → List Int) → (Nat → Bool) → List (List Int) → (Nat → Prop) → World → Prop} (I : JI TP) (v : Value) (O : Nat → Prop) (W : World) (h : TP v 1 (fun _ => []) (fun _ => false) [] O W) :
    Calls Tryd.prog 11 #[v, .agg #[.int .i64 17, .int .i64 0, .int .i64 0, .int .i64 0, .int .i64 0, .int .i64 0, .int .i64 0, .int .i64 0, .int .i64 0, .int .i64 0, .int .i64 0, .int .i64 0, .int .i64 0, .int .i64 0, .int .i64 0, .int .i64 0, .int .i64 0, .int .i64 0, .int .i64 0], .int .i64 5, .int .i64 6, .int .i64 0] W fun r w' => r = .returned (.tuple #[.agg (bdC (mkb f17 1024 5 6 0)), .nilIface]) ∧ TQ TP v 1 (upd (fun _ => []) 0 (cli f17)) (upd (fun _ => false) 0 true) [mkb f17 1024 5 6 0] O W w' :=
  I.2.2.2.1 v 1 _ _ _ O W f17 5 6 0 _ 0 _ _ _ (by omega) (by simp) (BI.start 1) h mk17
theorem bi17 : BI 1 (upd (fun _ => []) 0 (cli f17)) (upd (fun _ => false) 0 true) [mkb f17 1024 5 6 0] := ((BI.start 1).make mk17).1
theorem fb2 {TP : Value → Nat → (Nat → List Int) → (Nat → Bool) → List (List Int) → (Nat → Prop) → World → Prop} (I : JI TP) (v : Value) (O : Nat → Prop) (W : World) (h : TP v 1 (upd (fun _ => []) 0 (cli f17)) (upd (fun _ => false) 0 true) [mkb f17 1024 5 6 0] O W) :
    Calls Tryd.prog 16 #[v, .int .i64 30] W fun r w' => ∃ a cap ts', r = .returned (.tuple #[.slice a 1 cap, .nilIface]) ∧ TQ TP v 1 (upd (fun _ => []) 0 (cli f17)) ts' [] O W w' ∧ BI 1 (upd (fun _ => []) 0 (cli f17)) ts' [] := by
  refine ((I.2.2.2.2.2.2.2.1 v 1 _ _ _ O W 30 (by omega) (by simp) bi17 h).2 (by decide +kernel)).mono ?_
  rintro r w' ⟨b, h1, h2, h3⟩
  have he := bi17.expire 30
  simp only [List.length_singleton] at h2 h3 he
  rw [es17.1] at h2
  rw [es17.2] at h3 he
  obtain ⟨a, cap, rfl, _⟩ := h2
  exact ⟨a, cap, _, h1, h3, he.1⟩
theorem fb3 {TP : Value → Nat → (Nat → List Int) → (Nat → Bool) → List (List Int) → (Nat → Prop) → World → Prop} (R : JR TP) (v : Value) (O : Nat → Prop) (ws : Nat → List Int) (ts : Nat → Bool) (W : World) (hb : BI 1 ws ts []) (h : TP v 1 ws ts [] O W) :
    Calls Tryd.prog 22 #[v] W fun r w' => ∃ a cap, r = .returned (.slice a 0 cap) ∧ Below W.heap.size W w' := by
  refine (R.2.2 v 1 ws ts [] O W (by omega) (by simp) hb h).mono ?_
  rintro r w' ⟨b, h1, ⟨a, cap, rfl, _⟩, h3⟩
  exact ⟨a, cap, h1, h3⟩
/-- a bind's store, held shut for a walk. -/
def bstore (x y : Value) : Sem Unit := Instr.storeAt 41 x y
theorem bstore_shut (x y : Value) : Instr.storeAt 41 x y = bstore x y := rfl
theorem BdIn.held {B : Nat} {b0 : List Int} {w : World} (p : BdIn B b0 w) (b : List Int) : ∃ w', (bstore (.pointer (some ⟨B, 0, none⟩)) (.agg (bdC b))).run Tryd.prog w = .ok () w' ∧ BdIn B b w' ∧ Only B w w' := by
  refine ⟨w.setCells B 0 (bdC b).toList, ?_, ?_, setCells_only B _ _ w⟩
  · exact run_storeAt_mid w B 0 41 (bdC b) (fun j hj => by
      have hj2 : j < 23 := hj
      rw [Nat.zero_add, p.cell j hj2]
      refine ⟨rfl, by unfold BdIn at p; simp [World.frozen?, p]⟩) (by kernel_rfl) (by unfold bdC; simp [Value.oneCell'])
  · obtain ⟨cs', e1, e2, e3⟩ := setCells_row B 41 (bdC b).toList 0 w _ p
    have hs0 : (bdC b0).size = 23 := rfl
    have hs1 : (bdC b).size = 23 := rfl
    have hl : (bdC b).toList.length = 23 := rfl
    have he : cs' = bdC b := by
     apply Array.ext_getElem?
     intro i
     by_cases hi : i < 23
     · rw [e3 i (by rw [hs0]; exact hi), if_pos (by rw [hl]; omega), Nat.sub_zero]
       simp
     · rw [Array.getElem?_eq_none (by rw [e2, hs0]; omega), Array.getElem?_eq_none (by rw [hs1]; omega)]
    unfold BdIn
    rw [e1, he]
/-- a row of binds at an index: all of it, its flow, its numbers. -/
theorem row_fl {w : World} {g o : Nat} {b : List Int} (h : w.rangeAt g o (bdC b).toList) : (fload (.pointer (some ⟨g, o, none⟩))).run Tryd.prog w = .ok (.agg (flC b)) w :=
  run_loadAt_mid w g o 35 (flC b).toList _ (fun j v hv => by
    have hj : j < 19 := (List.getElem?_eq_some_iff.1 hv).1
    have h1 : (flC b)[j]? = some v := by simpa using hv
    rw [flC_at b j hj] at h1
    refine h j v ?_
    have h2 := bdC_at b j (by omega)
    rw [h1] at h2
    simpa using h2) Tryd.underlying35 rfl (by kernel_rfl)
theorem row_cell {w : World} {g o : Nat} {b : List Int} (h : w.rangeAt g o (bdC b).toList) (j : Nat) (hj : j < 23) : w.cell? ⟨g, o + j, none⟩ = some (.int .i64 (el b j)) := h j _ (by have := bdC_at b j hj; simpa using this)
end Go.Proofs.YtjkkonpangcnjaaDoor
