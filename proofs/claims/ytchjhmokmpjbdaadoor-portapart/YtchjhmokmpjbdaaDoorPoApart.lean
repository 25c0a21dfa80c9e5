/- What PortApart keeps; its one known fact. -/
import Derived.Test.YtchjhmokmpjbdaaDoorPoVA
import Derived.Test.YtchjhmokmpjbdaaDoorPoPick
namespace Go.Proofs.YtchjhmokmpjbdaaDoor
open Go.RowKit

theorem VA.appA {PP : Value → Nat → (Nat → List Int) → (Nat → Bool) → (Nat → Prop) → World → Prop} (I : IKept PP) {w0 : World} {pv : Value} {n : Nat} {ws : Nat → List Int} {ts : Nat → Bool} {O : Nat → Prop} {va va' : Value} {ps ps' : List Nat} {vb : Value} {zs : List (List Int)} {W W' : World}
    (h : VA PP w0 pv n ws ts O va ps vb zs W) (ow : OwI w0.heap.size W' va' ps') (hg : W.grownBy W' va.ownBlock) (hn : va'.ownBlock = va.ownBlock ∨ va'.ownBlock = some W.heap.size) : VA PP w0 pv n ws ts O va' ps' vb zs W' := by
  obtain ⟨h1, h2, h3, h4, h5, h6, h7⟩ := h
  have k := I pv n ws ts O W h1
  refine ⟨k.2 W' hg.size (fun g hO => hg.block g (k.1 g hO) (fun e => h5 g e.symm hO)), ow, owns_same h3 (fun g e => hg.block g (owns_lt h3 g e).1 (fun e' => owns_ne h2 h3 g e'.symm e)), h4, fun g e hO => ?_, h6, h7.grown hg h7.size (fun g e => (owns_lt h2 g e).2)⟩
  rcases hn with e' | e'
  · exact h5 g (e'.symm.trans e) hO
  · have : W.heap.size = g := Option.some.inj (e'.symm.trans e)
    exact absurd (k.1 g hO) (by omega)
theorem VA.appB {PP : Value → Nat → (Nat → List Int) → (Nat → Bool) → (Nat → Prop) → World → Prop} (I : IKept PP) {w0 : World} {pv : Value} {n : Nat} {ws : Nat → List Int} {ts : Nat → Bool} {O : Nat → Prop} {va : Value} {ps : List Nat} {vb vb' : Value} {zs zs' : List (List Int)} {W W' : World}
    (h : VA PP w0 pv n ws ts O va ps vb zs W) (ow : OwZ w0.heap.size W' vb' zs') (hg : W.grownBy W' vb.ownBlock) (hn : vb'.ownBlock = vb.ownBlock ∨ vb'.ownBlock = some W.heap.size) : VA PP w0 pv n ws ts O va ps vb' zs' W' := by
  obtain ⟨h1, h2, h3, h4, h5, h6, h7⟩ := h
  have k := I pv n ws ts O W h1
  refine ⟨k.2 W' hg.size (fun g hO => hg.block g (k.1 g hO) (fun e => h6 g e.symm hO)), owns_same h2 (fun g e => hg.block g (owns_lt h2 g e).1 (fun e' => owns_ne h2 h3 g e e'.symm)), ow, h4, h5, fun g e hO => ?_, h7.grown hg h7.size (fun g e => (owns_lt h3 g e).2)⟩
  rcases hn with e' | e'
  · exact h6 g (e'.symm.trans e) hO
  · have : W.heap.size = g := Option.some.inj (e'.symm.trans e)
    exact absurd (k.1 g hO) (by omega)
theorem oka : Ok6 [1] := by intro j hj; rcases (by omega : j = 0 ∨ j = 1 ∨ j = 2 ∨ j = 3 ∨ j = 4 ∨ j = 5 ∨ j = 6 ∨ j = 7) with rfl | rfl | rfl | rfl | rfl | rfl | rfl | rfl <;> exact ⟨by decide, by decide⟩
theorem okb : Ok6 [2] := by intro j hj; rcases (by omega : j = 0 ∨ j = 1 ∨ j = 2 ∨ j = 3 ∨ j = 4 ∨ j = 5 ∨ j = 6 ∨ j = 7) with rfl | rfl | rfl | rfl | rfl | rfl | rfl | rfl <;> exact ⟨by decide, by decide⟩
theorem tka : tk (fun _ => []) (fun _ => false) [1] (8 * 1) = some 0 := by decide +kernel
theorem tkb : tk (upd (fun _ => []) 0 [1]) (upd (fun _ => false) 0 true) [2] (8 * 1) = none := by decide +kernel
theorem OwI.nil (base : Nat) (w : World) : OwI base w (.slice none 0 0) [] := World.ownsRow_nil _ _ _ _
theorem OwZ.nil (base : Nat) (w : World) : OwZ base w (.slice none 0 0) [] := World.ownsRow_nil _ _ _ _
/-- .. and the step that is played. -/
def VT (PP : Value → Nat → (Nat → List Int) → (Nat → Bool) → (Nat → Prop) → World → Prop) (w0 : World) (pv : Value) (n : Nat) (ws : Nat → List Int) (ts : Nat → Bool) (O : Nat → Prop) (va : Value) (ps : List Nat) (vb : Value) (zs : List (List Int)) (D : Nat) (s : List Int) (W : World) : Prop := VA PP w0 pv n ws ts O va ps vb zs W ∧ StIn D s W ∧ ¬ O D
theorem VA.withS {PP : Value → Nat → (Nat → List Int) → (Nat → Bool) → (Nat → Prop) → World → Prop} (I : IKept PP) {w0 : World} {pv : Value} {n : Nat} {ws : Nat → List Int} {ts : Nat → Bool} {O : Nat → Prop} {va : Value} {ps : List Nat} {vb : Value} {zs : List (List Int)} {W W' : World}
    (h : VA PP w0 pv n ws ts O va ps vb zs W) (hb : Below W.heap.size W W') {s : List Int} (p : StIn W.heap.size s W') : VT PP w0 pv n ws ts O va ps vb zs W.heap.size s W' := ⟨h.below I hb, p, fun e => Nat.lt_irrefl _ ((I pv n ws ts O W h.1).1 _ e)⟩
theorem VT.below {PP : Value → Nat → (Nat → List Int) → (Nat → Bool) → (Nat → Prop) → World → Prop} (I : IKept PP) {w0 : World} {pv : Value} {n : Nat} {ws : Nat → List Int} {ts : Nat → Bool} {O : Nat → Prop} {va : Value} {ps : List Nat} {vb : Value} {zs : List (List Int)} {D : Nat} {s : List Int} {W W' : World}
    (h : VT PP w0 pv n ws ts O va ps vb zs D s W) (hb : Below W.heap.size W W') : VT PP w0 pv n ws ts O va ps vb zs D s W' := ⟨h.1.below I hb, h.2.1.kept hb, h.2.2⟩
theorem VT.prog {PP : Value → Nat → (Nat → List Int) → (Nat → Bool) → (Nat → Prop) → World → Prop} {w0 : World} {pv : Value} {n : Nat} {ws : Nat → List Int} {ts : Nat → Bool} {O : Nat → Prop} {va : Value} {ps : List Nat} {vb : Value} {zs : List (List Int)} {D : Nat} {s : List Int} {W W' : World} {ws' : Nat → List Int} {ts' : Nat → Bool}
    (h : VT PP w0 pv n ws ts O va ps vb zs D s W) (q : PQ PP pv n ws' ts' O W W') : ∃ O', VT PP w0 pv n ws' ts' O' va ps vb zs D s W' := by
  obtain ⟨O', hv, hf, hO⟩ := h.1.prog q
  have hlt := h.2.1.lt
  refine ⟨O', hv, h.2.1.same (hf.2.2.2.2 D hlt h.2.2), fun e => ?_⟩
  rcases hO D e with e | e
  · exact h.2.2 e
  · omega
theorem StIn.own {w : World} {base : Nat} {e : TypeId} {size : Nat} {v : Value} {n : Nat} {xs : List Value} (h : w.ownsRow base e size v n xs) (he : e ≠ 37) {D : Nat} {s : List Int} (p : StIn D s w) : some D ≠ v.ownBlock := by
  rcases h.2 with ⟨rfl, _⟩ | ⟨g, cap, cur, rfl, _, k, _⟩
  · simp [Value.ownBlock]
  · intro e'
    have e1 : D = g := by simpa [Value.ownBlock] using e'
    unfold StIn at p
    rw [e1, k] at p
    injection p with p
    injection p with _ p
    exact he p
theorem VT.appA {PP : Value → Nat → (Nat → List Int) → (Nat → Bool) → (Nat → Prop) → World → Prop} (I : IKept PP) {w0 : World} {pv : Value} {n : Nat} {ws : Nat → List Int} {ts : Nat → Bool} {O : Nat → Prop} {va va' : Value} {ps ps' : List Nat} {vb : Value} {zs : List (List Int)} {D : Nat} {s : List Int} {W W' : World}
    (h : VT PP w0 pv n ws ts O va ps vb zs D s W) (ow : OwI w0.heap.size W' va' ps') (hg : W.grownBy W' va.ownBlock) (hn : va'.ownBlock = va.ownBlock ∨ va'.ownBlock = some W.heap.size) : VT PP w0 pv n ws ts O va' ps' vb zs D s W' :=
  ⟨h.1.appA I ow hg hn, h.2.1.same (hg.block D h.2.1.lt (h.2.1.own h.1.2.1 (by decide))), h.2.2⟩
theorem VT.appB {PP : Value → Nat → (Nat → List Int) → (Nat → Bool) → (Nat → Prop) → World → Prop} (I : IKept PP) {w0 : World} {pv : Value} {n : Nat} {ws : Nat → List Int} {ts : Nat → Bool} {O : Nat → Prop} {va : Value} {ps : List Nat} {vb vb' : Value} {zs zs' : List (List Int)} {D : Nat} {s : List Int} {W W' : World}
    (h : VT PP w0 pv n ws ts O va ps vb zs D s W) (ow : OwZ w0.heap.size W' vb' zs') (hg : W.grownBy W' vb.ownBlock) (hn : vb'.ownBlock = vb.ownBlock ∨ vb'.ownBlock = some W.heap.size) : VT PP w0 pv n ws ts O va ps vb' zs' D s W' :=
  ⟨h.1.appB I ow hg hn, h.2.1.same (hg.block D h.2.1.lt (h.2.1.own h.1.2.2.1 (by decide))), h.2.2⟩
/-- whom a step names, loaded, the numbers in the open. -/
theorem at_whox {ops : Array Oper} {rest : List Oper} {o : Oper} {f : Act} {w : World} {Q : Exit → Act → World → Prop} (hgd : o.guard = none) (x : Operand) (ho : o.op = .load 33 x)
    {B : Nat} {s : List Int} (hx : f.eval x = .pointer (some ⟨B, 1, none⟩)) (p : StIn B s w)
    (hK : wpList Tryd.prog ops Q rest (f.put o.dst (.agg #[.int .i64 (el (wh s) 0), .int .i64 (el (wh s) 1), .int .i64 (el (wh s) 2), .int .i64 (el (wh s) 3), .int .i64 (el (wh s) 4), .int .i64 (el (wh s) 5), .int .i64 (el (wh s) 6), .int .i64 (el (wh s) 7)])) w) : wpList Tryd.prog ops Q (o :: rest) f w := at_who hgd x ho hx p hK
theorem six_list (z : List Int) (w : World) : ∀ ad, (some (⟨w.heap.size, 0, none⟩ : Addr)) = some ad → ∀ (j : Nat) u, (sixC z).toList[j]? = some u → (w.alloc (.cells (sixC z) 33)).cell? (ad.add j) = some u := by
  intro ad e j u hu
  cases e
  rw [add_pl, Nat.zero_add]
  have := cell_of_row (w.alloc (.cells (sixC z) 33)) w.heap.size j _ _ _ (heap_alloc_new w _)
  rw [this]
  simpa using hu
theorem OwI.shape {base : Nat} {w : World} {v : Value} {ps : List Nat} (h : OwI base w v ps) : ∃ ao cap, v = .slice ao ps.length cap ∧ (0 < ps.length → ∃ g, ao = some ⟨g, 0, none⟩) := by
  rcases h.2 with ⟨rfl, hn⟩ | ⟨g, cap, cur, rfl, _⟩
  · exact ⟨none, 0, by rw [hn], fun h => by omega⟩
  · exact ⟨_, cap, rfl, fun _ => ⟨g, rfl⟩⟩
theorem OwZ.shape {base : Nat} {w : World} {v : Value} {zs : List (List Int)} (h : OwZ base w v zs) : ∃ ao cap, v = .slice ao zs.length cap ∧ (0 < zs.length → ∃ g, ao = some ⟨g, 0, none⟩) := by
  rcases h.2 with ⟨rfl, hn⟩ | ⟨g, cap, cur, rfl, _⟩
  · exact ⟨none, 0, by rw [hn], fun h => by omega⟩
  · exact ⟨_, cap, rfl, fun _ => ⟨g, rfl⟩⟩
theorem OwI.at {base : Nat} {w : World} {g n cap : Nat} {ps : List Nat} (h : OwI base w (.slice (some ⟨g, 0, none⟩) n cap) ps) (k : Nat) (hk : k < ps.length) : w.cell? ⟨g, k, none⟩ = some (.int .i64 (1024 + ((ps.getD k 0 : Nat) : Int))) := by
  obtain ⟨g', cap', e, _, _, hc⟩ := h.form (by omega)
  injection e with e1 _ _
  injection e1 with e1
  injection e1 with e1
  subst e1
  exact hc k hk
set_option maxRecDepth 100000 in
theorem OwZ.at {base : Nat} {w : World} {g n cap : Nat} {zs : List (List Int)} (h : OwZ base w (.slice (some ⟨g, 0, none⟩) n cap) zs) (k : Nat) (hk : k < zs.length) : (hload (.pointer (some ⟨g, k * 8, none⟩))).run Tryd.prog w = .ok (.agg (sixC (zs.getD k []))) w := by
  obtain ⟨g', cap', e, _, _, hc⟩ := h.form (by omega)
  injection e with e1 _ _
  injection e1 with e1
  injection e1 with e1
  subst e1
  rw [Nat.mul_comm k 8]
  exact run_loadAt_mid w g (8 * k) 33 (sixC (zs.getD k [])).toList _ (hc k hk) Tryd.underlying33 rfl (by kernel_rfl)
set_option maxRecDepth 100000 in
/-- two addresses that are one. -/
theorem eq_one {a b : List Int} (h : eqz a b = true) (w : World) : (Op.equalIn 10000 33 (.agg (sixC a)) (.agg (sixC b))).run Tryd.prog w = .ok true w := by
  have := eq_six a b w
  rw [h] at this
  exact this
/-- behind calls of ports that lie behind w0. -/
theorem PQ.out {PP : Value → Nat → (Nat → List Int) → (Nat → Bool) → (Nat → Prop) → World → Prop} {v : Value} {n : Nat} {ws : Nat → List Int} {ts : Nat → Bool} {O : Nat → Prop} {w0 w w' : World} (q : PQ PP v n ws ts O w w') (hO : ∀ g, O g → w0.heap.size ≤ g) (hb : Below w0.heap.size w0 w) : ∃ O', PP v n ws ts O' w' ∧ (∀ g, O' g → w0.heap.size ≤ g) ∧ Below w0.heap.size w0 w' := by
  obtain ⟨O', p', hf, hO'⟩ := q
  have hs := hb.size
  refine ⟨O', p', fun g hg => ?_, hf.below hb hO hs⟩
  rcases hO' g hg with e | e
  · exact hO g e
  · omega
theorem fa1 {PP : Value → Nat → (Nat → List Int) → (Nat → Bool) → (Nat → Prop) → World → Prop} (I : PI PP) (v : Value) (O : Nat → Prop) (W : World) (h : PP v (8 * 1) (fun _ => []) (fun _ => false) O W) :
    Calls Tryd.prog 9 #[v, .agg #[.int .i64 1, .int .i64 0, .int .i64 0, .int .i64 0, .int .i64 0, .int .i64 0, .int .i64 0, .int .i64 0]] W fun r W' => r = .returned (.tuple #[.int .i64 1024, .nilIface]) ∧ PQ PP v (8 * 1) (upd (fun _ => []) 0 [1]) (upd (fun _ => false) 0 true) O W W' := (I.2.2.1 v 1 _ _ O [1] W (by omega) h).2.2 0 oka tka (by omega)
theorem fa2 {PP : Value → Nat → (Nat → List Int) → (Nat → Bool) → (Nat → Prop) → World → Prop} (I : PI PP) (v : Value) (O : Nat → Prop) (W : World) (h : PP v (8 * 1) (upd (fun _ => []) 0 [1]) (upd (fun _ => false) 0 true) O W) :
    Calls Tryd.prog 9 #[v, .agg #[.int .i64 2, .int .i64 0, .int .i64 0, .int .i64 0, .int .i64 0, .int .i64 0, .int .i64 0, .int .i64 0]] W fun r W' => r = .returned (.tuple #[.int .i64 0, err 3]) ∧ PQ PP v (8 * 1) (upd (fun _ => []) 0 [1]) (upd (fun _ => false) 0 true) O W W' := (I.2.2.1 v 1 _ _ O [2] W (by omega) h).2.1 okb tkb
theorem fa0 {PP : Value → Nat → (Nat → List Int) → (Nat → Bool) → (Nat → Prop) → World → Prop} (I : PI PP) (W : World) :
    Calls Tryd.prog 5 #[.int .i64 1] W fun e w' => ∃ v O, e = .returned (.tuple #[v, .nilIface]) ∧ PP v (8 * 1) (fun _ => []) (fun _ => false) O w' ∧ (∀ g, O g → W.heap.size ≤ g) ∧ Below W.heap.size W w' := I.2.1.2 1 W (by omega) (by omega)
end Go.Proofs.YtchjhmokmpjbdaaDoor
