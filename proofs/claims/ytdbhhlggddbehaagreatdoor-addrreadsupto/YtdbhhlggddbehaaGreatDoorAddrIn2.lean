/- In by a contract, where it has an answer. -/
import Derived.Test.YtdbhhlggddbehaaGreatDoorAddrIn
import Derived.Test.YtdbhhlggddbehaaGreatDoorAddrParse
import Derived.Test.YtdbhhlggddbehaaGreatDoorAddrEq
namespace Go.Proofs.YtdbhhlggddbehaaGreatDoor
open Go.RowKit Go.Shelf

theorem eq_inF (a p : List Int) (n : Int) : eqz (fz a n 8) (fz p n 8) = inF a p n := by
  rw [Bool.eq_iff_iff, eqz_iff]
  unfold inF
  rw [List.all_eq_true]
  constructor
  · intro h j hj
    have := h j (List.mem_range.1 hj)
    rw [el_fz a n 8 j (List.mem_range.1 hj), el_fz p n 8 j (List.mem_range.1 hj), if_pos (List.mem_range.1 hj), if_pos (List.mem_range.1 hj)] at this
    simpa using this
  · intro h j hj
    have := h j (List.mem_range.2 hj)
    rw [el_fz a n 8 j hj, el_fz p n 8 j hj, if_pos hj, if_pos hj]
    simpa using this

set_option maxHeartbeats 8000000 in
set_option maxRecDepth 100000 in
theorem in_ok (a p : List Int) (n : Int) (w : World) (ha : Ok6 a) (hp : Ok6 p) (h0 : 0 ≤ n) (h1 : n ≤ 128) : Calls Tryz.prog 11 #[six a, six p, .int .i64 n] w fun e w' => e = .returned (.tuple #[.bool (inF a p n), .nilIface]) ∧ Below w.heap.size w w' := by
  have hC := fun w => check_ok a w ha
  have hD := fun w => check_ok p w hp
  have hX := fun w => first_any a n w h0 h1 ha
  have hY := fun w => first_any p n w h0 h1 hp
  have hS : SixIn (w.heap.size + 1) p ((((w.alloc (.cells #[.int .i64 (el a 0), .int .i64 (el a 1), .int .i64 (el a 2), .int .i64 (el a 3), .int .i64 (el a 4), .int .i64 (el a 5), .int .i64 (el a 6), .int .i64 (el a 7)] 23)).alloc (.cells #[.int .i64 (el p 0), .int .i64 (el p 1), .int .i64 (el p 2), .int .i64 (el p 3), .int .i64 (el p 4), .int .i64 (el p 5), .int .i64 (el p 6), .int .i64 (el p 7)] 23)).alloc (.cells #[.int .i64 (el a 0), .int .i64 (el a 1), .int .i64 (el a 2), .int .i64 (el a 3), .int .i64 (el a 4), .int .i64 (el a 5), .int .i64 (el a 6), .int .i64 (el a 7)] 23)).alloc (.cells #[.int .i64 (el p 0), .int .i64 (el p 1), .int .i64 (el p 2), .int .i64 (el p 3), .int .i64 (el p 4), .int .i64 (el p 5), .int .i64 (el p 6), .int .i64 (el p 7)] 23)) :=
    ((by have := six_new p (w.alloc (.cells #[.int .i64 (el a 0), .int .i64 (el a 1), .int .i64 (el a 2), .int .i64 (el a 3), .int .i64 (el a 4), .int .i64 (el a 5), .int .i64 (el a 6), .int .i64 (el a 7)] 23)); simp only [World.size_alloc] at this; exact this : SixIn (w.heap.size + 1) p ((w.alloc (.cells #[.int .i64 (el a 0), .int .i64 (el a 1), .int .i64 (el a 2), .int .i64 (el a 3), .int .i64 (el a 4), .int .i64 (el a 5), .int .i64 (el a 6), .int .i64 (el a 7)] 23)).alloc (.cells #[.int .i64 (el p 0), .int .i64 (el p 1), .int .i64 (el p 2), .int .i64 (el p 3), .int .i64 (el p 4), .int .i64 (el p 5), .int .i64 (el p 6), .int .i64 (el p 7)] 23))).kept ((Below.refl _ _).alloc (Nat.le_refl _) _)).kept ((Below.refl _ _).alloc (Nat.le_refl _) _)
  have hB : Below w.heap.size w ((((w.alloc (.cells #[.int .i64 (el a 0), .int .i64 (el a 1), .int .i64 (el a 2), .int .i64 (el a 3), .int .i64 (el a 4), .int .i64 (el a 5), .int .i64 (el a 6), .int .i64 (el a 7)] 23)).alloc (.cells #[.int .i64 (el p 0), .int .i64 (el p 1), .int .i64 (el p 2), .int .i64 (el p 3), .int .i64 (el p 4), .int .i64 (el p 5), .int .i64 (el p 6), .int .i64 (el p 7)] 23)).alloc (.cells #[.int .i64 (el a 0), .int .i64 (el a 1), .int .i64 (el a 2), .int .i64 (el a 3), .int .i64 (el a 4), .int .i64 (el a 5), .int .i64 (el a 6), .int .i64 (el a 7)] 23)).alloc (.cells #[.int .i64 (el p 0), .int .i64 (el p 1), .int .i64 (el p 2), .int .i64 (el p 3), .int .i64 (el p 4), .int .i64 (el p 5), .int .i64 (el p 6), .int .i64 (el p 7)] 23)) := ((((Below.refl _ _).alloc (Nat.le_refl _) _).alloc (by simp) _).alloc (by simp; omega) _).alloc (by simp; omega) _
  have hE := eq_six (fz a n 8) (fz p n 8)
  have hI : eqz (fz a n 8) (fz p n 8) = inF a p n := eq_inF a p n
  rw [hI] at hE
  clear hI
  generalize inF a p n = r at hE ⊢
  unfold six sixC at hC hD
  unfold six at hX hY ⊢
  go_enter Tryz.func11, Tryz.ntmps11
  go_wp2_with (first
    | (go_at_call_of 8 (Value.agg #[.int .i64 (el a 0), .int .i64 (el a 1), .int .i64 (el a 2), .int .i64 (el a 3), .int .i64 (el a 4), .int .i64 (el a 5), .int .i64 (el a 6), .int .i64 (el a 7)]); refine (hC _).mono ?_; rintro e w1 ⟨rfl, rfl⟩)
    | (go_at_call_of 8 (Value.agg #[.int .i64 (el p 0), .int .i64 (el p 1), .int .i64 (el p 2), .int .i64 (el p 3), .int .i64 (el p 4), .int .i64 (el p 5), .int .i64 (el p 6), .int .i64 (el p 7)]); refine (hD _).mono ?_; rintro e w1 ⟨rfl, rfl⟩))
  go_region_with (first
    | (go_at_call_of 25 (Value.agg #[.int .i64 (el a 0), .int .i64 (el a 1), .int .i64 (el a 2), .int .i64 (el a 3), .int .i64 (el a 4), .int .i64 (el a 5), .int .i64 (el a 6), .int .i64 (el a 7)]); refine (hX _).mono ?_; rintro e w5 ⟨rfl, hb5⟩; have hb6 := Below.trans ((Below.refl _ _).drew) hb5; obtain ⟨⟨q0, -, -⟩, ⟨q1, -, -⟩, ⟨q2, -, -⟩, ⟨q3, -, -⟩, ⟨q4, -, -⟩, ⟨q5, -, -⟩, ⟨q6, -, -⟩, ⟨q7, -, -⟩⟩ := (hS.kept hb6).all)
    | (go_at_call_of 25 (Value.agg #[.int .i64 (el p 0), .int .i64 (el p 1), .int .i64 (el p 2), .int .i64 (el p 3), .int .i64 (el p 4), .int .i64 (el p 5), .int .i64 (el p 6), .int .i64 (el p 7)]); refine (hY _).mono ?_; rintro e w7 ⟨rfl, hb7⟩))
  all_goals
    go_wp2_with fail
    go_ret2
    exact ⟨rfl, bt hB (bt hb6 hb7)⟩
end Go.Proofs.YtdbhhlggddbehaaGreatDoor
