/- The document's own Long and PrefixFault, as the statement calls them, by contracts. -/
import Derived.Test.YtnhjabiciaoocaaDoorJEmEmbed1
import Derived.Test.YtnhjabiciaoocaaDoorEmRefSix
import Derived.Test.YtnhjabiciaoocaaDoorProg
import Derived.Deep.CutBlock
namespace Go.Proofs.YtnhjabiciaoocaaDoor.Em
open Go.RowKit Go.Shelf
theorem rlong_yes (n : Int) (w : World) (h : LongP n) : Calls Tryd.prog 26 #[.int .i64 n] w fun e w' => e = .returned (.bool true) ∧ w' = w := by
  rcases h with rfl | rfl | rfl | rfl | rfl | rfl
  all_goals
    go_enter Tryd.func26, Tryd.ntmps26
    go_wp2
    go_ret
    exact ⟨rfl, rfl⟩
theorem rlong_no (n : Int) (w : World) (h : ¬ LongP n) : Calls Tryd.prog 26 #[.int .i64 n] w fun e w' => e = .returned (.bool false) ∧ w' = w := by
  have h1 : (n == 32) = false := by simpa using fun e => h (.inl e)
  have h2 : (n == 40) = false := by simpa using fun e => h (.inr (.inl e))
  have h3 : (n == 48) = false := by simpa using fun e => h (.inr (.inr (.inl e)))
  have h4 : (n == 56) = false := by simpa using fun e => h (.inr (.inr (.inr (.inl e))))
  have h5 : (n == 64) = false := by simpa using fun e => h (.inr (.inr (.inr (.inr (.inl e)))))
  have h6 : (n == 96) = false := by simpa using fun e => h (.inr (.inr (.inr (.inr (.inr e)))))
  clear h
  go_enter Tryd.func26, Tryd.ntmps26
  go_wp2
  go_ret
  exact ⟨rfl, rfl⟩
theorem rpf_bad1 (p : List Int) (n : Int) (w : World) (h : ¬ Ok6 p) : Calls Tryd.prog 12 #[six p, .int .i64 n] w fun e w' => e = .returned (.int .i64 1) ∧ Below w.heap.size w w' := by
  have hC := fun w => fault_bad p w h
  unfold six at hC ⊢
  go_enter Tryd.func12, Tryd.ntmps12
  go_wp2_with (go_at_call 10; refine (hC _).mono ?_; rintro e w1 ⟨rfl, hb1⟩)
  go_ret
  exact ⟨rfl, bt ((Below.refl _ _).alloc (Nat.le_refl _) _) hb1⟩
theorem rpf_bad2 (p : List Int) (n : Int) (w : World) (h : Ok6 p) (hn : ¬ LongP n) : Calls Tryd.prog 12 #[six p, .int .i64 n] w fun e w' => e = .returned (.int .i64 1) ∧ Below w.heap.size w w' := by
  have hC := fun w => fault_ok p w h
  unfold six at hC ⊢
  go_enter Tryd.func12, Tryd.ntmps12
  go_wp2_with (first
    | (go_at_call 10; refine (hC _).mono ?_; rintro e w1 ⟨rfl, hb1⟩)
    | (go_at_call 26; refine (rlong_no _ _ hn).mono ?_; rintro e w2 ⟨rfl, rfl⟩))
  go_ret
  exact ⟨rfl, bt ((Below.refl _ _).alloc (Nat.le_refl _) _) hb1⟩
set_option maxHeartbeats 4000000 in
theorem rpf_shape (p : List Int) (q : Nat) (w : World) (h : Ok6 p) (hn : LongP (8 * q)) : Calls Tryd.prog 12 #[six p, .int .i64 (8 * q)] w fun e w' => e = .returned (.int .i64 (if shp p q then 2 else 0)) ∧ Below w.heap.size w w' := by
  have hC := fun w => fault_ok p w h
  have hD := fun w => bytesof_any p w h
  have hS := six_new p w
  have hq : q ≤ 12 := by unfold LongP at hn; omega
  obtain ⟨R, hR⟩ : ∃ R : Int, R = (if shp p q then 2 else 0) := ⟨_, rfl⟩
  rw [← hR]
  have HR := hide hR
  have HN := hide hn
  clear hn hR
  unfold six at hC hD ⊢
  go_enter Tryd.func12, Tryd.ntmps12
  go_wp2_with (first
    | (go_at_call 10; refine (hC _).mono ?_; rintro e w1 ⟨rfl, hb1⟩; have HB1 := hide (bt ((Below.refl w.heap.size w).alloc (Nat.le_refl _) _) hb1); obtain ⟨⟨q0, -, -⟩, ⟨q1, -, -⟩, ⟨q2, -, -⟩, ⟨q3, -, -⟩, ⟨q4, -, -⟩, ⟨q5, -, -⟩, ⟨q6, -, -⟩, ⟨q7, -, -⟩⟩ := (hS.kept hb1).all; clear hb1 hS)
    | (go_at_call 26; refine (rlong_yes _ _ HN.out).mono ?_; rintro e w2 ⟨rfl, rfl⟩)
    | (go_at_call 27; refine (hD _).mono ?_; rintro e w3 ⟨v, rfl, ho, hb3⟩; have HB3 := hide (bt HB1.out hb3); obtain ⟨g, cap, rfl, hcap, hg0, hg, hB⟩ := own_bys ho; clear hb3 ho hg0 q0 q1 q2 q3 q4 q5 q6 q7))
  clear hC hD
  go_loop [8] (fun t => ∃ k : Nat, k ≤ 16 ∧ Hid (∀ j, j < k → (j = 8 ∨ q ≤ j) → byt p j = 0) ∧ t = .int .i64 k) (fun t => 16 - (intOf t).toNat)
  case atStart => exact ⟨0, by omega, hide (fun i hi => absurd hi (by omega)), rfl⟩
  case round =>
    obtain ⟨k, hk, HI, rfl⟩ := hrel
    by_cases hlt : k < 16
    · have hck := hB k hlt
      have HB := hide hB
      clear hB
      by_cases h8 : k = 8 ∨ q ≤ k
      · by_cases hz : byt p k = 0
        · have HI2 := hide (show ∀ j, j < k + 1 → (j = 8 ∨ q ≤ j) → byt p j = 0 from fun j hj hh => if e : j = k then by rw [e]; exact hz else HI.out j (by omega) hh)
          rw [hz] at hck
          clear hz
          by_cases h9 : k = 8
          · have h9b : ((k : Int) == 8) = true := by rw [beq_iff_eq]; omega
            clear h8 h9
            go_wp2
            go_round
            case rel => exact ⟨k + 1, by omega, HI2, by go_num⟩
            case measure => simp [intOf]; omega
          · have h9b : ((k : Int) == 8) = false := by rw [beq_eq_false_iff_ne]; omega
            have hge : (8 * (q : Int)) ≤ 8 * (k : Int) := by omega
            clear h8 h9
            go_wp2
            go_round
            case rel => exact ⟨k + 1, by omega, HI2, by go_num⟩
            case measure => simp [intOf]; omega
        · have HS := hide (shp_yes k hlt h8 hz)
          have hzb : (byt p k == 0) = false := by simpa using hz
          generalize byt p k = x at hck hz hzb
          by_cases h9 : k = 8
          · have h9b : ((k : Int) == 8) = true := by rw [beq_iff_eq]; omega
            clear h8 h9
            go_wp2
            go_ret
            exact ⟨by rw [HR.out, HS.out]; rfl, HB3.out⟩
          · have h9b : ((k : Int) == 8) = false := by rw [beq_eq_false_iff_ne]; omega
            have hge : (8 * (q : Int)) ≤ 8 * (k : Int) := by omega
            clear h8 h9
            go_wp2
            go_ret
            exact ⟨by rw [HR.out, HS.out]; rfl, HB3.out⟩
      · have HI2 := hide (show ∀ j, j < k + 1 → (j = 8 ∨ q ≤ j) → byt p j = 0 from fun j hj hh => if e : j = k then absurd (by rw [← e]; exact hh) h8 else HI.out j (by omega) hh)
        have h9b : ((k : Int) == 8) = false := by rw [beq_eq_false_iff_ne]; omega
        have hge : ¬ (8 * (q : Int)) ≤ 8 * (k : Int) := by omega
        clear h8
        go_wp2
        go_round
        case rel => exact ⟨k + 1, by omega, HI2, by go_num⟩
        case measure => simp [intOf]; omega
    · obtain rfl : k = 16 := by omega
      go_wp2
      go_ret
      refine ⟨?_, HB3.out⟩
      have : shp p q = false := shape_no p q (HI.out 8 (by omega) (.inl rfl)) (fun j hj => HI.out (q + j) (by omega) (.inr (by omega)))
      rw [HR.out, this]
      rfl
theorem rpf_any (p : List Int) (n k : Int) (w : World) (h : PF p n k) : Calls Tryd.prog 12 #[six p, .int .i64 n] w fun e w' => e = .returned (.int .i64 k) ∧ Below w.heap.size w w' := by
  rcases h with ⟨h1, rfl⟩ | ⟨h1, h2, rfl⟩ | ⟨h1, h2, h3, rfl⟩ | ⟨h1, h2, h3, rfl⟩
  · exact rpf_bad1 p n w h1
  · exact rpf_bad2 p n w h1 h2
  · obtain ⟨q, rfl, e, _, _⟩ := long_q h2
    rw [e] at h3
    have := rpf_shape p q w h1 h2
    rw [h3] at this
    exact this
  · obtain ⟨q, rfl, e, _, _⟩ := long_q h2
    rw [e] at h3
    have := rpf_shape p q w h1 h2
    rw [h3] at this
    exact this
end Go.Proofs.YtnhjabiciaoocaaDoor.Em
