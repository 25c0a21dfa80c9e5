/- Package pick's score and Score by contracts. -/
import Derived.Test.YtdnfpekcipigbaaDoorPlB
namespace Go.Proofs.YtdnfpekcipigbaaDoor
open Go.RowKit

theorem with1 (x y : Int) (B : Nat) (W : World) (hx : 0 ≤ x ∧ x < 2147483648) (hy : 0 ≤ y ∧ y ≤ 65535) (h : Ints B [y] W) :
    Calls Tryd.prog 27 #[.int .i64 x, .slice (some ⟨B, 0, none⟩) 1 1] W fun e w' => e = .returned (.int .i64 (mx x y)) ∧ w' = W :=
  with_any x B 0 1 1 [y] W rfl (by omega) hx (fun z hz => by rw [List.mem_singleton] at hz; rw [hz]; exact hy) (fun j hj => by rw [Nat.zero_add]; exact h.cell j hj)
/-- eight numbers mixed in. -/
def mx8 (x : Int) (z : List Int) : Int := mxs x [el z 0, el z 1, el z 2, el z 3, el z 4, el z 5, el z 6, el z 7]
theorem with8 (x : Int) (z : List Int) (B off : Nat) (W : World) (hx : 0 ≤ x ∧ x < 2147483648) (hz : s6 z = true) (h : W.rangeAt B off (sixC z).toList) :
    Calls Tryd.prog 27 #[.int .i64 x, .slice (some ⟨B, off, none⟩) 8 8] W fun e w' => e = .returned (.int .i64 (mx8 x z)) ∧ w' = W := by
  have hok := (s6_iff z).1 hz
  refine with_any x B off 8 8 [el z 0, el z 1, el z 2, el z 3, el z 4, el z 5, el z 6, el z 7] W rfl (by omega) hx ?_ ?_
  · intro y hy
    simp only [List.mem_cons, List.not_mem_nil, or_false] at hy
    rcases hy with rfl | rfl | rfl | rfl | rfl | rfl | rfl | rfl
    · exact hok 0 (by omega)
    · exact hok 1 (by omega)
    · exact hok 2 (by omega)
    · exact hok 3 (by omega)
    · exact hok 4 (by omega)
    · exact hok 5 (by omega)
    · exact hok 6 (by omega)
    · exact hok 7 (by omega)
  · intro j hj
    refine h j _ ?_
    rcases (by omega : j = 0 ∨ j = 1 ∨ j = 2 ∨ j = 3 ∨ j = 4 ∨ j = 5 ∨ j = 6 ∨ j = 7) with rfl | rfl | rfl | rfl | rfl | rfl | rfl | rfl <;> rfl
set_option maxRecDepth 100000 in
set_option maxHeartbeats 1000000 in
theorem score_any (x id : Int) (w : World) (hx : 0 ≤ x ∧ x < 2147483648) (hd : 0 ≤ id ∧ id ≤ 65535) :
    Calls Tryd.prog 20 #[.int .i64 x, .int .i64 id] w fun e w' => e = .returned (.int .i64 ((mx x id).tdiv 256)) ∧ Below w.heap.size w w' := by
  have HW := hide (with1 x id w.heap.size (w.alloc (.cells #[.int .i64 id] 3)) hx hd (ints_new w [id]))
  have HB := hide (al_below w (.cells #[.int .i64 id] 3))
  have hin := mx_in (x := x) (n := id) hx.1 hd.1
  clear hx hd
  generalize mx x id = z at HW hin ⊢
  have HT := hide (show z.tdiv 256 = z / 256 from Int.tdiv_eq_ediv_of_nonneg hin.1)
  go_enter Tryd.func20, Tryd.ntmps20
  go_wp2_with (go_at_call 27; (with_reducible refine HW.out.mono ?_); rintro e w2 ⟨rfl, hw⟩; rw [hw]; clear hw w2)
  go_ret
  exact ⟨by rw [HT.out]; rfl, HB.out⟩
end Go.Proofs.YtdnfpekcipigbaaDoor
