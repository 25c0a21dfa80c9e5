/- Slices of ports and of addresses cut and put together anew; what is kept behind it. -/
import Derived.Test.YtchjhmokmpjbdaaDoorPoApart
namespace Go.Proofs.YtchjhmokmpjbdaaDoor
open Go.RowKit

theorem VA.fresh {PP : Value → Nat → (Nat → List Int) → (Nat → Bool) → (Nat → Prop) → World → Prop} (I : IKept PP) {w0 : World} {pv : Value} {n : Nat} {ws : Nat → List Int} {ts : Nat → Bool} {O : Nat → Prop} {va va' : Value} {ps ps' : List Nat} {vb vb' : Value} {zs zs' : List (List Int)} {W W' : World}
    (h : VA PP w0 pv n ws ts O va ps vb zs W) (hb : Below W.heap.size W W') (ha : OwI W.heap.size W' va' ps') (hz : OwZ W.heap.size W' vb' zs') : VA PP w0 pv n ws ts O va' ps' vb' zs' W' := by
  obtain ⟨h1, h2, h3, h4, h5, h6, h7⟩ := h
  have k := I pv n ws ts O W h1
  have hs := h7.size
  have weak : ∀ {e : TypeId} {size : Nat} {v : Value} {m : Nat} {xs : List Value}, W'.ownsRow W.heap.size e size v m xs → W'.ownsRow w0.heap.size e size v m xs := fun h => by
    refine ⟨h.1, ?_⟩
    rcases h.2 with h2 | ⟨g, cap, cur, e, hb', rest⟩
    · exact .inl h2
    · exact .inr ⟨g, cap, cur, e, by omega, rest⟩
  exact ⟨k.2 W' hb.size (fun g hg => hb.block g (k.1 g hg)), weak ha, weak hz, h4, fun g e hO => absurd (k.1 g hO) (by have := (owns_lt ha g e).2; omega), fun g e hO => absurd (k.1 g hO) (by have := (owns_lt hz g e).2; omega), bt h7 hb⟩
/-- a part of ports put behind others. -/
theorem ap_I {w : World} {ops : Array Oper} {rest : List Oper} {o : Oper} {a : Act} {Q : Exit → Act → World → Prop} (hgd : o.guard = none) (s x : Operand)
    (ho : o.op = .call { callee := .builtin .append, args := #[s, x], argTypes := #[53, 53] })
    (base : Nat) (v : Value) (l : List Nat) (hs : a.eval s = v) (hown : OwI base w v l) (ad : Addr) (m c : Nat) (l2 : List Nat) (hx : a.eval x = .slice (some ad) m c) (hl : l2.length = m)
    (hc : ∀ j, j < m → w.cell? (ad.add j) = some (.int .i64 (1024 + ((l2.getD j 0 : Nat) : Int)))) (hlen : l.length + m ≤ 4000000) (hbase : base ≤ w.heap.size)
    (h : ∀ v' w', OwI base w' v' (l ++ l2) → w.grownBy w' v.ownBlock → wpList Tryd.prog ops Q rest (a.put o.dst v') w') : wpList Tryd.prog ops Q (o :: rest) a w := by
  refine apI hgd s x ho base v l.length (pv1 l) hs hown (some ad) m c (pv1 l2) hx (by rw [pv1_len, hl]; omega) (fun e => by cases e) ?_ ?_ hlen hbase ?_
  · intro ad' e j u hu
    cases e
    have hj : j < l2.length := by have := (List.getElem?_eq_some_iff.1 hu).1; rwa [pv1_len] at this
    rw [hc j (by omega), ← hu, pv1_at l2 j hj]
  · intro u hu
    unfold pv1 at hu
    obtain ⟨p, _, rfl⟩ := List.mem_map.1 hu
    rfl
  · intro v' w' h1 h2 _
    refine h v' w' ?_ h2
    unfold OwI
    rw [pv1_app, List.length_append, hl]
    exact h1
/-- a part of addresses put behind others. -/
theorem ap_Z {w : World} {ops : Array Oper} {rest : List Oper} {o : Oper} {a : Act} {Q : Exit → Act → World → Prop} (hgd : o.guard = none) (s x : Operand)
    (ho : o.op = .call { callee := .builtin .append, args := #[s, x], argTypes := #[46, 46] })
    (base : Nat) (v : Value) (l : List (List Int)) (hs : a.eval s = v) (hown : OwZ base w v l) (ad : Addr) (m c : Nat) (l2 : List (List Int)) (hx : a.eval x = .slice (some ad) m c) (hl : l2.length = m)
    (hc : ∀ j, j < m → ∀ i, i < 8 → w.cell? (ad.add (8 * j + i)) = some (.int .i64 (el (l2.getD j []) i))) (hlen : l.length + m ≤ 4000000) (hbase : base ≤ w.heap.size)
    (h : ∀ v' w', OwZ base w' v' (l ++ l2) → w.grownBy w' v.ownBlock → wpList Tryd.prog ops Q rest (a.put o.dst v') w') : wpList Tryd.prog ops Q (o :: rest) a w := by
  refine ap6 hgd s x ho base v l.length (zv1 l) hs hown (some ad) m c (zv1 l2) hx (by rw [zv1_len, hl]) (fun e => by cases e) ?_ ?_ hlen hbase ?_
  · intro ad' e j u hu
    cases e
    have hj : j < l2.length * 8 := by have := (List.getElem?_eq_some_iff.1 hu).1; rwa [zv1_len] at this
    have h8 := zv1_at l2 (j / 8) (j % 8) (by omega) (by omega)
    rw [show 8 * (j / 8) + j % 8 = j by omega, hu] at h8
    have h9 := hc (j / 8) (by omega) (j % 8) (by omega)
    rw [show 8 * (j / 8) + j % 8 = j by omega] at h9
    rw [h9, h8]
  · intro u hu
    unfold zv1 at hu
    obtain ⟨z, _, h2⟩ := List.mem_flatMap.1 hu
    unfold sixC at h2
    simp at h2
    rcases h2 with rfl | rfl | rfl | rfl | rfl | rfl | rfl | rfl <;> rfl
  · intro v' w' h1 h2 _
    refine h v' w' ?_ h2
    unfold OwZ
    rw [zv1_app, List.length_append, hl]
    exact h1
theorem OwI.cap {base : Nat} {w : World} {g n cap : Nat} {ps : List Nat} (h : OwI base w (.slice (some ⟨g, 0, none⟩) n cap) ps) (hp : 0 < ps.length) : ps.length ≤ cap ∧ cap ≤ maxLen := by
  obtain ⟨g', cap', e, h1, h2, _⟩ := h.form hp
  injection e with _ _ e3
  subst e3
  exact ⟨h1, h2⟩
theorem OwZ.cap {base : Nat} {w : World} {g n cap : Nat} {zs : List (List Int)} (h : OwZ base w (.slice (some ⟨g, 0, none⟩) n cap) zs) (hp : 0 < zs.length) : zs.length ≤ cap ∧ cap ≤ maxLen := by
  obtain ⟨g', cap', e, h1, h2, _⟩ := h.form hp
  injection e with _ _ e3
  subst e3
  exact ⟨h1, h2⟩
theorem OwZ.cells {base : Nat} {w : World} {g n cap : Nat} {zs : List (List Int)} (h : OwZ base w (.slice (some ⟨g, 0, none⟩) n cap) zs) (k i : Nat) (hk : k < zs.length) (hi : i < 8) : w.cell? ⟨g, 8 * k + i, none⟩ = some (.int .i64 (el (zs.getD k []) i)) := by
  obtain ⟨g', cap', e, _, _, hc⟩ := h.form (by omega)
  injection e with e1 _ _
  injection e1 with e1
  injection e1 with e1
  subst e1
  exact hc k hk i _ (by have := sixC_at (zs.getD k []) i hi; simpa using this)
/-- a slice's part, held shut for a walk. -/
def slq (t : TypeId) (x : Value) (lo hi mx : Option Value) : Sem Value := Instr.sliceAt t x lo hi mx
theorem slq_shut (t : TypeId) (x : Value) (lo hi mx : Option Value) : Instr.sliceAt t x lo hi mx = slq t x lo hi mx := rfl
theorem headI (g n ca q : Nat) (hq : q ≤ ca) (w : World) : (slq 53 (.slice (some ⟨g, 0, none⟩) n ca) none (some (.int .i64 (q : Int))) none).run Tryd.prog w = .ok (.slice (some ⟨g, 0, none⟩) q ca) w := by
  have j1 : (q : Int) ≤ (ca : Int) := by omega
  have u := Tryd.underlying53
  have z := Tryd.sizeOf3
  unfold slq
  go_simp
theorem tailI (g n ca q : Nat) (hq : q + 1 ≤ n) (hn : n ≤ ca) : ∃ ad : Addr, (∀ w, (slq 53 (.slice (some ⟨g, 0, none⟩) n ca) (some (.int .i64 ((q : Int) + 1))) none none).run Tryd.prog w = .ok (.slice (some ad) (n - (q + 1)) (ca - (q + 1))) w) ∧ (q + 1 < n → ad = ⟨g, (q + 1) * 1, none⟩) := by
  have j1 : (q : Int) + 1 ≤ (n : Int) := by omega
  have u := Tryd.underlying53
  have z := Tryd.sizeOf3
  by_cases h : ca = q + 1
  · subst h
    refine ⟨⟨g, 0, none⟩, fun w => ?_, fun h => by omega⟩
    unfold slq
    go_simp
    intro h9
    omega
  · refine ⟨⟨g, (q + 1) * 1, none⟩, fun w => ?_, fun _ => rfl⟩
    unfold slq
    go_simp
    intro h9
    omega
theorem headZ (g n ca q : Nat) (hq : q ≤ ca) (w : World) : (slq 46 (.slice (some ⟨g, 0, none⟩) n ca) none (some (.int .i64 (q : Int))) none).run Tryd.prog w = .ok (.slice (some ⟨g, 0, none⟩) q ca) w := by
  have j1 : (q : Int) ≤ (ca : Int) := by omega
  have u := Tryd.underlying46
  have z := Tryd.sizeOf33
  unfold slq
  go_simp
theorem tailZ (g n ca q : Nat) (hq : q + 1 ≤ n) (hn : n ≤ ca) : ∃ ad : Addr, (∀ w, (slq 46 (.slice (some ⟨g, 0, none⟩) n ca) (some (.int .i64 ((q : Int) + 1))) none none).run Tryd.prog w = .ok (.slice (some ad) (n - (q + 1)) (ca - (q + 1))) w) ∧ (q + 1 < n → ad = ⟨g, (q + 1) * 8, none⟩) := by
  have j1 : (q : Int) + 1 ≤ (n : Int) := by omega
  have u := Tryd.underlying46
  have z := Tryd.sizeOf33
  by_cases h : ca = q + 1
  · subst h
    refine ⟨⟨g, 0, none⟩, fun w => ?_, fun h => by omega⟩
    unfold slq
    go_simp
    intro h9
    omega
  · refine ⟨⟨g, (q + 1) * 8, none⟩, fun w => ?_, fun _ => rfl⟩
    unfold slq
    go_simp
    intro h9
    omega
end Go.Proofs.YtchjhmokmpjbdaaDoor
