/- The statement's own function EmbedBack: it returns true whatever comes. -/
import Derived.Test.YtbgclnonlgflkaaEmbedMath
import Derived.Test.YtbgclnonlgflkaaSixIn
namespace Go.Proofs.Ytbgclnonlgflkaa
open Go.RowKit Go.Shelf

/-- what Into gives begins with the prefix. -/
theorem tz_in (p : List Int) (q : Nat) (f : Int) (h : Ok6 p) : inF (tz p q f) p (8 * q) = true := by
  unfold inF
  rw [List.all_eq_true]
  intro j hj
  rw [List.mem_range] at hj
  rw [beq_iff_eq]
  have h1 := nb_in p q f h (2 * j) (by omega)
  have h2 := nb_in p q f h (2 * j + 1) (by omega)
  have b1 := byt_in p h (2 * j) (by omega)
  have b2 := byt_in p h (2 * j + 1) (by omega)
  unfold fel
  rw [el_tz p q f j hj, el_byt p j]
  unfold tw
  rcases (by omega : 2 * j + 2 ≤ q ∨ 2 * j + 1 = q ∨ q ≤ 2 * j) with e | e | e
  · rw [nb_old p q f (2 * j) (by omega), nb_old p q f (2 * j + 1) (by omega)]
  · rw [nb_old p q f (2 * j) (by omega)]
    rw [show shf (8 * q) j = 8 by unfold shf; omega, show (2 : Int) ^ 8 = 256 from rfl]
    omega
  · rw [show shf (8 * q) j = 16 by unfold shf; omega, show (2 : Int) ^ 16 = 65536 from rfl]
    omega
/-- two fours are in one address only if they are one. -/
theorem tz_eq (p : List Int) (q : Nat) (f g : Int) (h : Ok6 p) (hq : q ≤ 12) (hf : IsF f) (hg : IsF g) : eqz (tz p q f) (tz p q g) = (f == g) := by
  rw [Bool.eq_iff_iff, eqz_iff, beq_iff_eq]
  constructor
  · intro e
    rw [← tz_gat p q f h hq hf, ← tz_gat p q g h hq hg]
    have hb : ∀ i, i < 16 → byt (tz p q f) i = byt (tz p q g) i := fun i hi => by
      unfold byt
      rw [e (i / 2) (by omega)]
    unfold gat
    rw [hb _ (pos_lt hq (by omega)), hb _ (pos_lt hq (by omega)), hb _ (pos_lt hq (by omega)), hb _ (pos_lt hq (by omega))]
  · rintro rfl j _
    rfl

theorem six_fact : six (tz [100, 65435] 12 167772161) = .agg #[.int .i64 100, .int .i64 65435, .int .i64 0, .int .i64 0, .int .i64 0, .int .i64 0, .int .i64 2560, .int .i64 1] := by kernel_rfl
theorem ok_fact : Ok6 [100, 65435] := by
  intro k hk
  rcases (by omega : k = 0 ∨ k = 1 ∨ k = 2 ∨ k = 3 ∨ k = 4 ∨ k = 5 ∨ k = 6 ∨ k = 7) with rfl | rfl | rfl | rfl | rfl | rfl | rfl | rfl <;> exact ⟨by decide, by decide⟩
theorem into_fact (w : World) : Calls Try.prog 4 #[.agg #[.int .i64 100, .int .i64 65435, .int .i64 0, .int .i64 0, .int .i64 0, .int .i64 0, .int .i64 0, .int .i64 0], .int .i64 96, .int .i64 167772161] w fun e w' => e = .returned (.tuple #[.agg #[.int .i64 100, .int .i64 65435, .int .i64 0, .int .i64 0, .int .i64 0, .int .i64 0, .int .i64 2560, .int .i64 1], .nilIface]) ∧ Below w.heap.size w w' := by
  have h := into_ok [100, 65435] 12 167772161 w ok_fact (by unfold LongP; decide) (by decide +kernel) ⟨by decide, by decide⟩
  rw [into_six [100, 65435] 12 167772161 ok_fact (by unfold LongP; decide) (by decide +kernel), six_fact] at h
  exact h

/-- Into has an answer, or an error. -/
theorem into_no (p : List Int) (n f : Int) (h : ¬ (PF p n 0 ∧ IsF f)) : ∃ k : Int, ∀ w, Calls Try.prog 4 #[six p, .int .i64 n, .int .i64 f] w fun e w' => e = .returned (.tuple #[six [], .iface 42 (.int .i64 k)]) ∧ Below w.heap.size w w' := by
  obtain ⟨k, hk⟩ := pf_ex p n
  by_cases h0 : k = 0
  · subst h0
    refine ⟨1, fun w => ?_⟩
    exact into_bad2 p n f w hk (fun hf => h ⟨hk, hf⟩)
  · refine ⟨k, fun w => ?_⟩
    have := into_bad1 p n f k w hk h0
    unfold errv at this
    rw [if_neg h0] at this
    exact this
theorem pf_ok {p : List Int} {n : Int} (h : PF p n 0) : Ok6 p ∧ ∃ q : Nat, n = 8 * q ∧ LongP (8 * q) ∧ q ≤ 12 ∧ shp p q = false := by
  rcases h with ⟨_, h⟩ | ⟨_, _, h⟩ | ⟨_, _, _, h⟩ | ⟨h1, h2, h3, _⟩
  · exact absurd h (by decide)
  · exact absurd h (by decide)
  · exact absurd h (by decide)
  · obtain ⟨q, rfl, e, _, h12⟩ := long_q h2
    rw [e] at h3
    exact ⟨h1, q, rfl, h2, h12, h3⟩

set_option maxHeartbeats 8000000 in
set_option maxRecDepth 100000 in
theorem eback_bad (p : List Int) (n f g : Int) (w : World) (h : ¬ (PF p n 0 ∧ IsF f)) : Calls Try.prog 3 #[six p, .int .i64 n, .int .i64 f, .int .i64 g] w fun e w' => e = .returned (.bool true) ∧ Below w.heap.size w w' := by
  obtain ⟨k, hC⟩ := into_no p n f h
  clear h
  have hF := into_fact
  have hE := fun w => eq_agg 100 65435 0 0 0 0 2560 1 100 65435 0 0 0 0 2560 1 w
  have hS := six_new p w
  unfold six at hC ⊢
  go_enter Try.func3, Try.ntmps3
  go_wp2_with (first
    | (go_at_call_of 4 (Value.int .i64 167772161); refine (hF _).mono ?_; rintro e w1 ⟨rfl, hb1⟩; have HB1 := hide (bt ((Below.refl w.heap.size w).alloc (Nat.le_refl _) _) hb1); have HS1 := hide ((hS.kept hb1).kept ((Below.refl _ _).alloc (Nat.le_refl _) (.cells #[.int .i64 100, .int .i64 65435, .int .i64 0, .int .i64 0, .int .i64 0, .int .i64 0, .int .i64 2560, .int .i64 1] 23))); obtain ⟨⟨q0, -, -⟩, ⟨q1, -, -⟩, ⟨q2, -, -⟩, ⟨q3, -, -⟩, ⟨q4, -, -⟩, ⟨q5, -, -⟩, ⟨q6, -, -⟩, ⟨q7, -, -⟩⟩ := HS1.out.all; clear hb1 hS)
    | (go_at_call_of 4 (Value.int .i64 f); refine (hC _).mono ?_; rintro e w2 ⟨rfl, hb2⟩; have HB2 := hide (bt (HB1.out.alloc HB1.out.size _) hb2); clear hb2))
  go_ret
  exact ⟨rfl, HB2.out.alloc HB2.out.size _⟩

set_option maxHeartbeats 8000000 in
set_option maxRecDepth 100000 in
theorem eback_ok (p : List Int) (n f g : Int) (w : World) (h : PF p n 0) (hf : IsF f) : Calls Try.prog 3 #[six p, .int .i64 n, .int .i64 f, .int .i64 g] w fun e w' => e = .returned (.bool true) ∧ Below w.heap.size w w' := by
  obtain ⟨hp, q, rfl, hl, hq, hs⟩ := pf_ok h
  have hA := fun w => into_ok p q f w hp hl hs hf
  rw [into_six p q f hp hl hs] at hA
  have hO := fun w => out_long (tz p q f) q w (tz_ok p q f hp) hl
  rw [tz_shp p q f hp hs, acc_gat (tz p q f) q (tz_ok p q f hp) hq, tz_gat p q f hp hq hf] at hO
  simp only [Bool.false_eq_true, if_false] at hO
  have hI := fun w => in_ok (tz p q f) p (8 * q) w (tz_ok p q f hp) hp (by omega) (by omega)
  rw [tz_in p q f hp] at hI
  have hF := into_fact
  have hE := fun w => eq_agg 100 65435 0 0 0 0 2560 1 100 65435 0 0 0 0 2560 1 w
  have hS := six_new p w
  by_cases hg : IsF g
  · have hG := fun w => into_ok p q g w hp hl hs hg
    rw [into_six p q g hp hl hs] at hG
    have hQ := fun w => eq_six (tz p q f) (tz p q g) w
    rw [tz_eq p q f g hp hq hf hg] at hQ
    clear h hp hl hs hf hg
    unfold six at hA hO hI hG ⊢
    generalize tz p q f = a at hA hO hI hQ
    generalize tz p q g = b at hG hQ
    go_enter Try.func3, Try.ntmps3
    go_wp2_with (first
      | (go_at_call_of 4 (Value.int .i64 167772161); refine (hF _).mono ?_; rintro e w1 ⟨rfl, hb1⟩; have HB1 := hide (bt ((Below.refl w.heap.size w).alloc (Nat.le_refl _) _) hb1); have HS1 := hide ((hS.kept hb1).kept ((Below.refl _ _).alloc (Nat.le_refl _) (.cells #[.int .i64 100, .int .i64 65435, .int .i64 0, .int .i64 0, .int .i64 0, .int .i64 0, .int .i64 2560, .int .i64 1] 23))); obtain ⟨⟨q0, -, -⟩, ⟨q1, -, -⟩, ⟨q2, -, -⟩, ⟨q3, -, -⟩, ⟨q4, -, -⟩, ⟨q5, -, -⟩, ⟨q6, -, -⟩, ⟨q7, -, -⟩⟩ := HS1.out.all; clear hb1 hS)
      | (go_at_call_of 4 (Value.int .i64 f); refine (hA _).mono ?_; rintro e w2 ⟨rfl, hb2⟩; have HB2 := hide (bt (HB1.out.alloc HB1.out.size _) hb2); have HS2 := hide ((HS1.out.kept hb2).kept ((Below.refl _ _).alloc (Nat.le_refl _) (.cells #[.int .i64 (el a 0), .int .i64 (el a 1), .int .i64 (el a 2), .int .i64 (el a 3), .int .i64 (el a 4), .int .i64 (el a 5), .int .i64 (el a 6), .int .i64 (el a 7)] 23))); have HT2 := hide (six_new a w2); clear hb2 HS1 HB1 q0 q1 q2 q3 q4 q5 q6 q7; obtain ⟨⟨t0, -, -⟩, ⟨t1, -, -⟩, ⟨t2, -, -⟩, ⟨t3, -, -⟩, ⟨t4, -, -⟩, ⟨t5, -, -⟩, ⟨t6, -, -⟩, ⟨t7, -, -⟩⟩ := HT2.out.all)
      | (go_at_call 5; refine (hO _).mono ?_; rintro e w3 ⟨rfl, hb3⟩; have HB3 := hide (bt (HB2.out.alloc HB2.out.size _) hb3); have HS3 := hide (HS2.out.kept hb3); have HT3 := hide (HT2.out.kept hb3); clear hb3 HS2 HT2 HB2 t0 t1 t2 t3 t4 t5 t6 t7; obtain ⟨⟨q0, -, -⟩, ⟨q1, -, -⟩, ⟨q2, -, -⟩, ⟨q3, -, -⟩, ⟨q4, -, -⟩, ⟨q5, -, -⟩, ⟨q6, -, -⟩, ⟨q7, -, -⟩⟩ := HS3.out.all; obtain ⟨⟨t0, -, -⟩, ⟨t1, -, -⟩, ⟨t2, -, -⟩, ⟨t3, -, -⟩, ⟨t4, -, -⟩, ⟨t5, -, -⟩, ⟨t6, -, -⟩, ⟨t7, -, -⟩⟩ := HT3.out.all)
      | (go_at_call 6; refine (hI _).mono ?_; rintro e w4 ⟨rfl, hb4⟩; have HB4 := hide (bt HB3.out hb4); have HS4 := hide (HS3.out.kept hb4); have HT4 := hide (HT3.out.kept hb4); clear hb4 HS3 HT3 HB3 q0 q1 q2 q3 q4 q5 q6 q7 t0 t1 t2 t3 t4 t5 t6 t7; obtain ⟨⟨q0, -, -⟩, ⟨q1, -, -⟩, ⟨q2, -, -⟩, ⟨q3, -, -⟩, ⟨q4, -, -⟩, ⟨q5, -, -⟩, ⟨q6, -, -⟩, ⟨q7, -, -⟩⟩ := HS4.out.all)
      | (go_at_call_of 4 (Value.int .i64 g); refine (hG _).mono ?_; rintro e w5 ⟨rfl, hb5⟩; have HB5 := hide (bt HB4.out hb5); have HT5 := hide ((HT4.out.kept hb5).kept ((Below.refl _ _).alloc (Nat.le_refl _) (.cells #[.int .i64 (el b 0), .int .i64 (el b 1), .int .i64 (el b 2), .int .i64 (el b 3), .int .i64 (el b 4), .int .i64 (el b 5), .int .i64 (el b 6), .int .i64 (el b 7)] 23))); clear hb5 HS4 HT4 HB4 q0 q1 q2 q3 q4 q5 q6 q7; obtain ⟨⟨t0, -, -⟩, ⟨t1, -, -⟩, ⟨t2, -, -⟩, ⟨t3, -, -⟩, ⟨t4, -, -⟩, ⟨t5, -, -⟩, ⟨t6, -, -⟩, ⟨t7, -, -⟩⟩ := HT5.out.all))
    go_ret
    exact ⟨rfl, HB5.out.alloc HB5.out.size _⟩
  · obtain ⟨k, hG⟩ := into_no p (8 * q) g (fun e => hg e.2)
    clear h hp hl hs hf hg
    unfold six at hA hO hI hG ⊢
    generalize tz p q f = a at hA hO hI
    go_enter Try.func3, Try.ntmps3
    go_wp2_with (first
      | (go_at_call_of 4 (Value.int .i64 167772161); refine (hF _).mono ?_; rintro e w1 ⟨rfl, hb1⟩; have HB1 := hide (bt ((Below.refl w.heap.size w).alloc (Nat.le_refl _) _) hb1); have HS1 := hide ((hS.kept hb1).kept ((Below.refl _ _).alloc (Nat.le_refl _) (.cells #[.int .i64 100, .int .i64 65435, .int .i64 0, .int .i64 0, .int .i64 0, .int .i64 0, .int .i64 2560, .int .i64 1] 23))); obtain ⟨⟨q0, -, -⟩, ⟨q1, -, -⟩, ⟨q2, -, -⟩, ⟨q3, -, -⟩, ⟨q4, -, -⟩, ⟨q5, -, -⟩, ⟨q6, -, -⟩, ⟨q7, -, -⟩⟩ := HS1.out.all; clear hb1 hS)
      | (go_at_call_of 4 (Value.int .i64 f); refine (hA _).mono ?_; rintro e w2 ⟨rfl, hb2⟩; have HB2 := hide (bt (HB1.out.alloc HB1.out.size _) hb2); have HS2 := hide ((HS1.out.kept hb2).kept ((Below.refl _ _).alloc (Nat.le_refl _) (.cells #[.int .i64 (el a 0), .int .i64 (el a 1), .int .i64 (el a 2), .int .i64 (el a 3), .int .i64 (el a 4), .int .i64 (el a 5), .int .i64 (el a 6), .int .i64 (el a 7)] 23))); have HT2 := hide (six_new a w2); clear hb2 HS1 HB1 q0 q1 q2 q3 q4 q5 q6 q7; obtain ⟨⟨t0, -, -⟩, ⟨t1, -, -⟩, ⟨t2, -, -⟩, ⟨t3, -, -⟩, ⟨t4, -, -⟩, ⟨t5, -, -⟩, ⟨t6, -, -⟩, ⟨t7, -, -⟩⟩ := HT2.out.all)
      | (go_at_call 5; refine (hO _).mono ?_; rintro e w3 ⟨rfl, hb3⟩; have HB3 := hide (bt (HB2.out.alloc HB2.out.size _) hb3); have HS3 := hide (HS2.out.kept hb3); have HT3 := hide (HT2.out.kept hb3); clear hb3 HS2 HT2 HB2 t0 t1 t2 t3 t4 t5 t6 t7; obtain ⟨⟨q0, -, -⟩, ⟨q1, -, -⟩, ⟨q2, -, -⟩, ⟨q3, -, -⟩, ⟨q4, -, -⟩, ⟨q5, -, -⟩, ⟨q6, -, -⟩, ⟨q7, -, -⟩⟩ := HS3.out.all; obtain ⟨⟨t0, -, -⟩, ⟨t1, -, -⟩, ⟨t2, -, -⟩, ⟨t3, -, -⟩, ⟨t4, -, -⟩, ⟨t5, -, -⟩, ⟨t6, -, -⟩, ⟨t7, -, -⟩⟩ := HT3.out.all)
      | (go_at_call 6; refine (hI _).mono ?_; rintro e w4 ⟨rfl, hb4⟩; have HB4 := hide (bt HB3.out hb4); have HS4 := hide (HS3.out.kept hb4); have HT4 := hide (HT3.out.kept hb4); clear hb4 HS3 HT3 HB3 q0 q1 q2 q3 q4 q5 q6 q7 t0 t1 t2 t3 t4 t5 t6 t7; obtain ⟨⟨q0, -, -⟩, ⟨q1, -, -⟩, ⟨q2, -, -⟩, ⟨q3, -, -⟩, ⟨q4, -, -⟩, ⟨q5, -, -⟩, ⟨q6, -, -⟩, ⟨q7, -, -⟩⟩ := HS4.out.all)
      | (go_at_call_of 4 (Value.int .i64 g); refine (hG _).mono ?_; rintro e w5 ⟨rfl, hb5⟩; have HB5 := hide (bt HB4.out hb5); clear hb5 HS4 HT4 HB4 q0 q1 q2 q3 q4 q5 q6 q7))
    go_ret
    exact ⟨rfl, HB5.out.alloc HB5.out.size _⟩
theorem eback_walk (p : List Int) (n f g : Int) (w : World) : Calls Try.prog 3 #[six p, .int .i64 n, .int .i64 f, .int .i64 g] w fun e w' => e = .returned (.bool true) ∧ Below w.heap.size w w' := by
  by_cases h : PF p n 0 ∧ IsF f
  · exact eback_ok p n f g w h.1 h.2
  · exact eback_bad p n f g w h
end Go.Proofs.Ytbgclnonlgflkaa
