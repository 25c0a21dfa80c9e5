/- Into by contracts, where it has no answer. -/
import Derived.Test.YtbgclnonlgflkaaDoorEmbed3
namespace Go.Proofs.YtbgclnonlgflkaaDoor
open Go.RowKit Go.Shelf
attribute [local go_sem] Oper.semAt_some

/-- the world in which Into calls Check, and what lies there. -/
theorem into_head (p : List Int) (f : Int) (w : World) : ∃ W0, W0 = ((w.alloc (.cells #[.int .i64 (el p 0), .int .i64 (el p 1), .int .i64 (el p 2), .int .i64 (el p 3), .int .i64 (el p 4), .int .i64 (el p 5), .int .i64 (el p 6), .int .i64 (el p 7)] 23)).alloc (.cells #[.int .i64 f] 3)).alloc (.cells #[.int .i64 0, .int .i64 0, .int .i64 0, .int .i64 0, .int .i64 0, .int .i64 0, .int .i64 0, .int .i64 0] 23) ∧ Boxed W0 (w.heap.size + 1) 3 (.int .i64 f) ∧ SixIn (w.heap.size + 1 + 1) [] W0 ∧ Below w.heap.size w W0 := by
  have hB1 : Below w.heap.size w (w.alloc (.cells #[.int .i64 (el p 0), .int .i64 (el p 1), .int .i64 (el p 2), .int .i64 (el p 3), .int .i64 (el p 4), .int .i64 (el p 5), .int .i64 (el p 6), .int .i64 (el p 7)] 23)) := (Below.refl _ _).alloc (Nat.le_refl _) _
  have hF1 := Boxed.new (w.alloc (.cells #[.int .i64 (el p 0), .int .i64 (el p 1), .int .i64 (el p 2), .int .i64 (el p 3), .int .i64 (el p 4), .int .i64 (el p 5), .int .i64 (el p 6), .int .i64 (el p 7)] 23)) 3 (.int .i64 f)
  have hB2 := hB1.alloc (hB1.size) (.cells #[.int .i64 f] 3)
  have hT3 := noughts_in ((w.alloc (.cells #[.int .i64 (el p 0), .int .i64 (el p 1), .int .i64 (el p 2), .int .i64 (el p 3), .int .i64 (el p 4), .int .i64 (el p 5), .int .i64 (el p 6), .int .i64 (el p 7)] 23)).alloc (.cells #[.int .i64 f] 3))
  have hB3 := hB2.alloc (hB2.size) (.cells #[.int .i64 0, .int .i64 0, .int .i64 0, .int .i64 0, .int .i64 0, .int .i64 0, .int .i64 0, .int .i64 0] 23)
  have hF3 := hF1.alloc (.cells #[.int .i64 0, .int .i64 0, .int .i64 0, .int .i64 0, .int .i64 0, .int .i64 0, .int .i64 0, .int .i64 0] 23)
  unfold noughts at hT3
  simp only [World.size_alloc] at hT3 hF3
  exact ⟨_, rfl, hF3, hT3, hB3⟩

set_option maxHeartbeats 4000000 in
set_option maxRecDepth 100000 in
theorem into_bad1 (p : List Int) (n f k : Int) (w : World) (h : PF p n k) (hk : k ≠ 0) :
    Calls Tryd.prog 9 #[six p, .int .i64 n, .int .i64 f] w fun e w' => e = .returned (.tuple #[six [], errv k]) ∧ Below w.heap.size w w' := by
  have hC := fun w => echeck_any p n k w h
  unfold errv at hC ⊢
  rw [if_neg hk] at hC ⊢
  clear h hk
  obtain ⟨W0, hW0, hF3, hT3, hB3⟩ := into_head p f w
  have HW := hide hW0
  clear hW0
  unfold six at hC
  unfold six
  refine (callsIn_wide (n := 3)).1 ?_
  refine callsIn_of_wp_marks Tryd.func9 rfl trivial ?_ rfl
  simp only [Tryd.ntmps9, List.size_toArray, List.length_cons, List.length_nil, Nat.reduceAdd, Nat.reduceSub, Array.replicate_succ, Array.replicate_zero, List.push_toArray, List.append_toArray, List.nil_append, List.cons_append]
  gi_wp2_with (refine ⟨trivial, ?_⟩; gi_at_call 6; refine (callsIn_wide.2 (hC _)).mono ?_; rintro e w1 ⟨rfl, hb1⟩; rw [← HW.out] at hb1; have hT4 := hT3.kept hb1; have hB4 := hB3.trans (hb1.mono hB3.size); obtain ⟨⟨c0, f0, -⟩, ⟨c1, f1, -⟩, ⟨c2, f2, -⟩, ⟨c3, f3, -⟩, ⟨c4, f4, -⟩, ⟨c5, f5, -⟩, ⟨c6, f6, -⟩, ⟨c7, f7, -⟩⟩ := hT4.all; clear hF3 hT3 hB3)
  have h8 := hT4.put8 []
  have hb8 := below8 hB4 (Nat.le_trans (Nat.le_succ _) (Nat.le_succ _)) []
  unfold W8 at h8 hb8
  obtain ⟨⟨d0, -, -⟩, ⟨d1, -, -⟩, ⟨d2, -, -⟩, ⟨d3, -, -⟩, ⟨d4, -, -⟩, ⟨d5, -, -⟩, ⟨d6, -, -⟩, ⟨d7, -, -⟩⟩ := h8.all
  have e0 : ∀ j, el [] j = 0 := fun j => by simp [el]
  simp only [e0] at d0 d1 d2 d3 d4 d5 d6 d7 hb8 ⊢
  refine ⟨.tuple #[.agg #[.int .i64 0, .int .i64 0, .int .i64 0, .int .i64 0, .int .i64 0, .int .i64 0, .int .i64 0, .int .i64 0], .iface 24 (.int .i64 k)], ?_, rfl, hb8⟩
  clear h8 hb8 hT4 c0 c1 c2 c3 c4 c5 c6 c7 f0 f1 f2 f3 f4 f5 f6 f7
  simp [results, Tryd.results9, go_sem, d0, d1, d2, d3, d4, d5, d6, d7]

set_option maxHeartbeats 4000000 in
set_option maxRecDepth 100000 in
theorem into_bad2 (p : List Int) (n f : Int) (w : World) (h : PF p n 0) (hf : ¬ IsF f) :
    Calls Tryd.prog 9 #[six p, .int .i64 n, .int .i64 f] w fun e w' => e = .returned (.tuple #[six [], errv 1]) ∧ Below w.heap.size w w' := by
  have hC := fun w => echeck_any p n 0 w h
  unfold errv at hC ⊢
  rw [if_pos rfl] at hC
  rw [if_neg (by decide)]
  have HF := hide hf
  clear h hf
  obtain ⟨W0, hW0, hF3, hT3, hB3⟩ := into_head p f w
  have HW := hide hW0
  clear hW0
  unfold six at hC
  unfold six
  refine (callsIn_wide (n := 3)).1 ?_
  refine callsIn_of_wp_marks Tryd.func9 rfl trivial ?_ rfl
  simp only [Tryd.ntmps9, List.size_toArray, List.length_cons, List.length_nil, Nat.reduceAdd, Nat.reduceSub, Array.replicate_succ, Array.replicate_zero, List.push_toArray, List.append_toArray, List.nil_append, List.cons_append]
  gi_wp2_with (first
    | (refine ⟨trivial, ?_⟩; gi_at_call 6; refine (callsIn_wide.2 (hC _)).mono ?_; rintro e w1 ⟨rfl, hb1⟩; rw [← HW.out] at hb1; have cf := (boxed_kept hF3 hb1).cell; have hT4 := hT3.kept hb1; have hB4 := hB3.trans (hb1.mono hB3.size); obtain ⟨⟨c0, f0, -⟩, ⟨c1, f1, -⟩, ⟨c2, f2, -⟩, ⟨c3, f3, -⟩, ⟨c4, f4, -⟩, ⟨c5, f5, -⟩, ⟨c6, f6, -⟩, ⟨c7, f7, -⟩⟩ := hT4.all; clear hF3 hT3 hB3)
    | (refine ⟨trivial, ?_⟩; gi_at_call 21; refine (callsIn_wide.2 (c4_bad _ _ HF.out)).mono ?_; rintro e w2 ⟨rfl, rfl⟩))
  have h8 := hT4.put8 []
  have hb8 := below8 hB4 (Nat.le_trans (Nat.le_succ _) (Nat.le_succ _)) []
  unfold W8 at h8 hb8
  obtain ⟨⟨d0, -, -⟩, ⟨d1, -, -⟩, ⟨d2, -, -⟩, ⟨d3, -, -⟩, ⟨d4, -, -⟩, ⟨d5, -, -⟩, ⟨d6, -, -⟩, ⟨d7, -, -⟩⟩ := h8.all
  have e0 : ∀ j, el [] j = 0 := fun j => by simp [el]
  simp only [e0] at d0 d1 d2 d3 d4 d5 d6 d7 hb8 ⊢
  refine ⟨.tuple #[.agg #[.int .i64 0, .int .i64 0, .int .i64 0, .int .i64 0, .int .i64 0, .int .i64 0, .int .i64 0, .int .i64 0], .iface 24 (.int .i64 1)], ?_, rfl, hb8⟩
  clear h8 hb8 hT4 c0 c1 c2 c3 c4 c5 c6 c7 f0 f1 f2 f3 f4 f5 f6 f7
  simp [results, Tryd.results9, go_sem, d0, d1, d2, d3, d4, d5, d6, d7]
end Go.Proofs.YtbgclnonlgflkaaDoor
