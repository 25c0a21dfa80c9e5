/- A slice of bytes that the call itself has made, and append onto it, as laws for a walk. -/
import Derived.Test.YtlaljflcgbbhdaaDoorP4Sum
import Derived.Laws.AppendOwnNone
namespace Go.Proofs.YtlaljflcgbbhdaaDoor
open Go.RowKit

theorem Tryd.infoByte : (Tryd.prog.info? 5).map (fun i => (i.zero, i.size, i.bytes)) = some (some (.int .u8 0), 1, 1) := by kernel_rfl

/-- v is a slice of the call's own (or nil), of the bytes zs. -/
def Own (base : Nat) (w : World) (v : Value) (zs : List Int) : Prop :=
  SM.Oct zs ∧ w.ownsRow base 5 1 v zs.length (zs.map (Value.int .u8))
theorem Own.nil (base : Nat) (w : World) : Own base w (.slice none 0 0) [] := ⟨SM.oct_nil, World.ownsRow_nil _ _ _ _⟩
theorem Own.row8 {base : Nat} {w : World} {v : Value} {zs : List Int} (h : Own base w v zs) : ∃ a cap, v = .slice a zs.length cap ∧ Row8 w a zs.length cap zs ∧ ∀ b off, a = some ⟨b, off, none⟩ → base ≤ b ∧ b < w.heap.size ∧ v.ownBlock = some b ∧ off = 0 := by
  obtain ⟨ho, h1, h2⟩ := h
  rcases h2 with ⟨rfl, hn⟩ | ⟨g, cap, cur, rfl, hb, hg, hnc, hcm, hcs, htake⟩
  · have : zs = [] := List.eq_nil_of_length_eq_zero hn
    subst this
    exact ⟨none, 0, rfl, ⟨rfl, by simp [maxLen], ho, fun _ => ⟨rfl, rfl⟩, fun hp => absurd hp (by simp)⟩, fun b off h => by cases h⟩
  · refine ⟨_, cap, rfl, ⟨rfl, by omega, ho, fun h => by (cases h), fun hp => ⟨g, 0, rfl, fun i hi => ?_⟩⟩, fun b off h => ?_⟩
    · have hc := (World.ownsRow.cellAt (w := w) (base := base) (e := 5) (size := 1) (g := g) (n := zs.length) (cap := cap) (xs := zs.map (Value.int .u8)) ⟨h1, .inr ⟨g, cap, cur, rfl, hb, hg, hnc, hcm, hcs, htake⟩⟩ i (by omega))
      rw [Nat.zero_add, hc]
      simp [hi]
    · simp at h
      obtain ⟨rfl, rfl⟩ := h
      exact ⟨hb, (Array.getElem?_eq_some_iff.1 hg).1, rfl, rfl⟩
theorem Own.kept {base : Nat} {w w' : World} {v : Value} {zs : List Int} (h : Own base w v zs) (hb : Below w.heap.size w w') : Own base w' v zs := by
  refine ⟨h.1, h.2.1, ?_⟩
  rcases h.2.2 with h2 | ⟨g, cap, cur, rfl, hb', hg, rest⟩
  · exact .inl h2
  · exact .inr ⟨g, cap, cur, rfl, hb', by rw [hb.block g (Array.getElem?_eq_some_iff.1 hg).1]; exact hg, rest⟩
/-- an own slice is as it was where another own one, of later blocks, has grown. -/
theorem Own.other {base : Nat} {w w' : World} {v : Value} {zs : List Int} (h : Own base w v zs) {row : Option Nat} (hg : w.grownBy w' row) (hne : v.ownBlock = none ∨ v.ownBlock ≠ row) : Own base w' v zs :=
  ⟨h.1, h.2.kept hg hne⟩

/-- append(v, x...) where v is the call's own. -/
theorem wpList_app {w : World} {ops : Array Oper} {rest : List Oper} {o : Oper} {a : Act} {Q : Exit → Act → World → Prop} (hgd : o.guard = none) (s x : Operand)
    (ho : o.op = .call { callee := .builtin .append, args := #[s, x], argTypes := #[22, 22] })
    (base : Nat) (v : Value) (zs : List Int) (hs : a.eval s = v) (hown : Own base w v zs) (ao : Option Addr) (len cap : Nat) (ys : List Int)
    (hx : a.eval x = .slice ao len cap) (hrow : Row8 w ao len cap ys) (hlen : zs.length + len ≤ 1000000000) (hbase : base ≤ w.heap.size)
    (h : ∀ v' w', Own base w' v' (zs ++ ys) → w.grownBy w' v.ownBlock → wpList Tryd.prog ops Q rest (a.put o.dst v') w') : wpList Tryd.prog ops Q (o :: rest) a w := by
  obtain ⟨i0, hi, hz0, hz1, hz2⟩ := info_parts Tryd.infoByte
  obtain ⟨r1, r2, r3, r4, r5⟩ := hrow
  cases ao with
  | none =>
    obtain ⟨rfl, rfl⟩ := r4 rfl
    have : ys = [] := List.eq_nil_of_length_eq_zero r1
    subst this
    refine wpList_append_own_none hgd s x 22 ho base 5 i0 1 Tryd.underlying22 hi v zs.length _ hs hown.2 hx ?_
    exact h v w (by simpa using hown) (World.grownBy.refl _ _)
  | some ad =>
    refine wpList_append_own _ hgd s x 22 ho base 5 i0 (.int .u8 0) 1 1 Tryd.underlying22 hi hz0 hz1 hz2 rfl (by decide) v zs.length _ hs hown.2 ad len cap (ys.map (Value.int .u8)) hx (by simp [r1]) ?_ (ints_oneCell .u8 ys) (by unfold maxLen; omega) (by omega) hbase ?_
    · intro j u hu
      have hj : j < ys.length := by
        have := (List.getElem?_eq_some_iff.1 hu).1
        simpa using this
      obtain ⟨b, off, h6, h7⟩ := r5 (by omega)
      have hc := h7 j (by omega)
      obtain rfl : ad = ⟨b, off, none⟩ := by simpa using h6
      have e : (⟨b, off, none⟩ : Addr).add j = ⟨b, off + j, none⟩ := by unfold Addr.add; split <;> simp_all
      rw [e, hc]
      rw [List.getElem?_map] at hu
      simp [hj] at hu ⊢
      exact hu
    · intro v' w' h1 h2 _
      refine h v' w' ⟨SM.oct_append _ _ hown.1 r3, ?_⟩ h2
      rw [List.map_append, List.length_append, r1]
      exact h1
end Go.Proofs.YtlaljflcgbbhdaaDoor
