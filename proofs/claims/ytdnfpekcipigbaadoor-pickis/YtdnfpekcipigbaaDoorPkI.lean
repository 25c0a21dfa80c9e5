/- Own ints: append; the first of a range. -/
import Derived.Test.YtdnfpekcipigbaaDoorPkBase
namespace Go.Proofs.YtdnfpekcipigbaaDoor
open Go.RowKit
theorem find_none {f : Nat → Bool} {n : Nat} (h : ∀ j, j < n → f j = false) : (List.range n).find? f = none := by
  rw [List.find?_eq_none]
  intro x hx
  rw [h x (List.mem_range.1 hx)]
  decide
theorem find_some {f : Nat → Bool} {n i : Nat} (hi : i < n) (h3 : f i = true) (h : ∀ j, j < i → f j = false) : (List.range n).find? f = some i := by
  rw [List.find?_range_eq_some]
  exact ⟨h3, List.mem_range.2 hi, fun j hj => by rw [h j hj]; rfl⟩
theorem Tryd.infoInt : (Tryd.prog.info? 3).map (fun i => (i.zero, i.size, i.bytes)) = some (some (.int .i64 0), 1, 8) := by kernel_rfl
theorem app_int {w : World} {ops : Array Oper} {rest : List Oper} {o : Oper} {a : Act} {Q : Exit → Act → World → Prop} (hgd : o.guard = none) (s x : Operand)
    (ho : o.op = .call { callee := .builtin .append, args := #[s, x], argTypes := #[49, 49] })
    (base : Nat) (v : Value) (xs : List Value) (hs : a.eval s = v) (hown : OwnG 3 base w v xs) (B m : Nat) (ys : List Value) (hx : a.eval x = .slice (some ⟨B, 0, none⟩) m m) (hm : ys.length = m)
    (hc : ∀ (j : Nat) u, ys[j]? = some u → w.cell? ⟨B, j, none⟩ = some u) (h1 : ∀ u ∈ ys, u.oneCell' = true) (hlen : xs.length + m ≤ 4000000) (hbase : base ≤ w.heap.size)
    (h : ∀ v' w', OwnG 3 base w' v' (xs ++ ys) → w.grownBy w' v.ownBlock → wpList Tryd.prog ops Q rest (a.put o.dst v') w') : wpList Tryd.prog ops Q (o :: rest) a w := by
  obtain ⟨i0, hi, hz0, hz1, hz2⟩ := info_parts Tryd.infoInt
  refine wpList_append_own _ hgd s x 49 ho base 3 i0 (.int .i64 0) 1 8 Tryd.underlying49 hi hz0 hz1 hz2 rfl (by decide) v xs.length xs hs hown ⟨B, 0, none⟩ m m ys hx (by omega) ?_ h1 (by unfold maxLen; omega) (by omega) hbase ?_
  · intro j u hu
    rw [add_pl, Nat.zero_add]
    exact hc j u hu
  · intro v' w' h2 h3 _
    refine h v' w' ?_ h3
    unfold OwnG
    rw [List.length_append, hm]
    exact h2
end Go.Proofs.YtdnfpekcipigbaaDoor
