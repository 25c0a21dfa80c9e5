/- Word, SixFault and FlowFault of the document's own. -/
import Derived.Test.YtdeofopandobhaaDoorPkF
namespace Go.Proofs.YtdeofopandobhaaDoor
open Go.RowKit
theorem word_yes (n : Int) (w : World) (h : Word n) : Calls Tryd.prog 12 #[.int .i64 n] w fun e w' => e = .returned (.bool true) ∧ w' = w := by
  obtain ⟨h1, h2⟩ := h
  go_enter Tryd.func12, Tryd.ntmps12
  go_wp2
  go_ret
  exact ⟨rfl, rfl⟩
theorem word_no (n : Int) (w : World) (h : ¬ Word n) : Calls Tryd.prog 12 #[.int .i64 n] w fun e w' => e = .returned (.bool false) ∧ w' = w := by
  by_cases h1 : 0 ≤ n
  · have h2 : ¬ n ≤ 65535 := fun h2 => h ⟨h1, h2⟩
    clear h
    go_enter Tryd.func12, Tryd.ntmps12
    go_wp2
    go_ret
    exact ⟨rfl, rfl⟩
  · clear h
    go_enter Tryd.func12, Tryd.ntmps12
    go_wp2
    go_ret
    exact ⟨rfl, rfl⟩
set_option maxHeartbeats 1000000 in
theorem fault_any (z : List Int) (w : World) : Calls Tryd.prog 13 #[six z] w fun e w' => ((Ok6 z ∧ e = .returned (.int .i64 0)) ∨ (¬ Ok6 z ∧ e = .returned (.int .i64 1))) ∧ Below w.heap.size w w' := by
  have hS := six_new z w
  have hB : Below w.heap.size w (w.alloc (.cells #[.int .i64 (el z 0), .int .i64 (el z 1), .int .i64 (el z 2), .int .i64 (el z 3), .int .i64 (el z 4), .int .i64 (el z 5), .int .i64 (el z 6), .int .i64 (el z 7)] 23)) := (Below.refl _ _).alloc (Nat.le_refl _) _
  unfold six
  go_enter Tryd.func13, Tryd.ntmps13
  go_wp2
  generalize w.alloc (.cells #[.int .i64 (el z 0), .int .i64 (el z 1), .int .i64 (el z 2), .int .i64 (el z 3), .int .i64 (el z 4), .int .i64 (el z 5), .int .i64 (el z 6), .int .i64 (el z 7)] 23) = W at hS hB ⊢
  go_loop [3] (fun t => ∃ k : Nat, k ≤ 8 ∧ (∀ j, j < k → Word (el z j)) ∧ t = .int .i64 k) (fun t => 8 - (intOf t).toNat)
  case atStart => exact ⟨0, by omega, fun i hi => absurd hi (by omega), rfl⟩
  case round =>
    obtain ⟨k, hk, hin, rfl⟩ := hrel
    have HI := hide hin
    clear hin
    by_cases hlt : k < 8
    · have hc := (hS.facts k hlt).1
      by_cases hx : Word (el z k)
      · have HX := hide hx
        generalize el z k = x at hc hx
        go_wp2_with (go_at_call 12; refine (word_yes _ _ hx).mono ?_; rintro e w' ⟨rfl, rfl⟩)
        go_round
        case rel => exact ⟨k + 1, by omega, fun i hi => if h : i = k then by subst h; exact HX.out else HI.out i (by omega), by go_num⟩
        case measure => simp [intOf]; omega
      · have HX := hide hx
        generalize el z k = x at hc hx
        go_wp2_with (go_at_call 12; refine (word_no _ _ hx).mono ?_; rintro e w' ⟨rfl, rfl⟩)
        go_ret
        exact ⟨.inr ⟨fun h => HX.out (h k hlt), rfl⟩, hB⟩
    · go_wp2
      go_ret
      obtain rfl : k = 8 := by omega
      exact ⟨.inl ⟨HI.out, rfl⟩, hB⟩
theorem fault_ok (z : List Int) (w : World) (h : Ok6 z) : Calls Tryd.prog 13 #[.agg (sixC z)] w fun e w' => e = .returned (.int .i64 0) ∧ Below w.heap.size w w' :=
  (fault_any z w).mono fun e w' ⟨hh, hb⟩ => by
    rcases hh with ⟨_, he⟩ | ⟨hn, _⟩
    · exact ⟨he, hb⟩
    · exact absurd h hn
theorem fault_bad (z : List Int) (w : World) (h : ¬ Ok6 z) : Calls Tryd.prog 13 #[.agg (sixC z)] w fun e w' => e = .returned (.int .i64 1) ∧ Below w.heap.size w w' :=
  (fault_any z w).mono fun e w' ⟨hh, hb⟩ => by
    rcases hh with ⟨hn, _⟩ | ⟨_, he⟩
    · exact absurd hn h
    · exact ⟨he, hb⟩
theorem word_any (n : Int) (w : World) : Calls Tryd.prog 12 #[.int .i64 n] w fun e w' => e = .returned (.bool (wd n)) ∧ w' = w := by
  cases h : wd n
  · exact word_no n w (fun h' => by rw [(wd_iff n).2 h'] at h; cases h)
  · exact word_yes n w ((wd_iff n).1 h)
theorem six_any (z : List Int) (w : World) : Calls Tryd.prog 13 #[.agg (sixC z)] w fun e w' => e = .returned (.int .i64 (fe (s6 z))) ∧ Below w.heap.size w w' := by
  cases h : s6 z
  · exact fault_bad z w (fun h' => by rw [(s6_iff z).2 h'] at h; cases h)
  · exact fault_ok z w ((s6_iff z).1 h)
attribute [local go_sem ↓] hload_shut
set_option maxRecDepth 100000 in
set_option maxHeartbeats 2000000 in
theorem rff_any (f : List Int) (w : World) : Calls Tryd.prog 5 #[.agg (flC f)] w fun e w' => e = .returned (.int .i64 (fe (okf f))) ∧ Below w.heap.size w w' := by
  have HB := hide (al_below w (.cells (flC f) 25))
  have HP := hide (fl_new f w)
  have H9 := hide (fun W => word_any (el f 9) W)
  have H18 := hide (fun W => word_any (el f 18) W)
  have HC := hide (fun W => six_any (cli f) W)
  have HD := hide (fun W => six_any (dst f) W)
  unfold okf
  generalize wd (el f 9) = p9 at H9 ⊢
  generalize wd (el f 18) = p18 at H18 ⊢
  generalize s6 (cli f) = sc at HC ⊢
  generalize s6 (dst f) = sd at HD ⊢
  obtain ⟨k, hk⟩ : ∃ x, el f 0 = x := ⟨_, rfl⟩
  rw [hk]
  have HKd := hide hk
  clear hk
  go_enter Tryd.func5, Tryd.ntmps5
  go_upto_region 1 with fail
  generalize w.alloc _ = W at HB HP ⊢
  have c0 := HP.out.cell 0 (by omega)
  have c9 := HP.out.cell 9 (by omega)
  have c18 := HP.out.cell 18 (by omega)
  have g1 := HP.out.hc
  generalize el f 9 = x9 at c9 H9
  generalize el f 18 = x18 at c18 H18
  rw [HKd.out] at c0
  clear HKd
  go_upto_region 3 with (first
    | (go_at_call 12; (with_reducible refine (H9.out _).mono ?_); rintro e w1 ⟨rfl, rfl⟩)
    | (go_at_call 12; refine (H18.out _).mono ?_; rintro e w1 ⟨rfl, rfl⟩))
  by_cases k6 : k = 6
  · subst k6
    cases sc
    · rw [show fe false = 1 from rfl] at HC
      go_wp2_with (first
      | (go_at_call 13; (with_reducible refine (HC.out _).mono ?_); rintro e w2 ⟨rfl, hb2⟩; replace HB := hide (bt HB.out hb2); replace HP := hide (HP.out.kept hb2); have g2 := HP.out.hd; clear hb2)
      | (go_at_call 13; (with_reducible refine (HD.out _).mono ?_); rintro e w3 ⟨rfl, hb3⟩; replace HB := hide (bt HB.out hb3); clear hb3))
      go_ret
      exact ⟨rfl, HB.out⟩
    · rw [show fe true = 0 from rfl] at HC
      cases sd
      · rw [show fe false = 1 from rfl] at HD
        go_wp2_with (first
      | (go_at_call 13; (with_reducible refine (HC.out _).mono ?_); rintro e w2 ⟨rfl, hb2⟩; replace HB := hide (bt HB.out hb2); replace HP := hide (HP.out.kept hb2); have g2 := HP.out.hd; clear hb2)
      | (go_at_call 13; (with_reducible refine (HD.out _).mono ?_); rintro e w3 ⟨rfl, hb3⟩; replace HB := hide (bt HB.out hb3); clear hb3))
        go_ret
        exact ⟨rfl, HB.out⟩
      · rw [show fe true = 0 from rfl] at HD
        cases p9
        · go_wp2_with (first
      | (go_at_call 13; (with_reducible refine (HC.out _).mono ?_); rintro e w2 ⟨rfl, hb2⟩; replace HB := hide (bt HB.out hb2); replace HP := hide (HP.out.kept hb2); have g2 := HP.out.hd; clear hb2)
      | (go_at_call 13; (with_reducible refine (HD.out _).mono ?_); rintro e w3 ⟨rfl, hb3⟩; replace HB := hide (bt HB.out hb3); clear hb3))
          go_ret
          exact ⟨rfl, HB.out⟩
        · cases p18
          · go_wp2_with (first
      | (go_at_call 13; (with_reducible refine (HC.out _).mono ?_); rintro e w2 ⟨rfl, hb2⟩; replace HB := hide (bt HB.out hb2); replace HP := hide (HP.out.kept hb2); have g2 := HP.out.hd; clear hb2)
      | (go_at_call 13; (with_reducible refine (HD.out _).mono ?_); rintro e w3 ⟨rfl, hb3⟩; replace HB := hide (bt HB.out hb3); clear hb3))
            go_ret
            exact ⟨rfl, HB.out⟩
          · go_wp2_with (first
      | (go_at_call 13; (with_reducible refine (HC.out _).mono ?_); rintro e w2 ⟨rfl, hb2⟩; replace HB := hide (bt HB.out hb2); replace HP := hide (HP.out.kept hb2); have g2 := HP.out.hd; clear hb2)
      | (go_at_call 13; (with_reducible refine (HD.out _).mono ?_); rintro e w3 ⟨rfl, hb3⟩; replace HB := hide (bt HB.out hb3); clear hb3))
            go_ret
            exact ⟨rfl, HB.out⟩
  · by_cases k17 : k = 17
    · subst k17
      cases sc
      · rw [show fe false = 1 from rfl] at HC
        go_wp2_with (first
      | (go_at_call 13; (with_reducible refine (HC.out _).mono ?_); rintro e w2 ⟨rfl, hb2⟩; replace HB := hide (bt HB.out hb2); replace HP := hide (HP.out.kept hb2); have g2 := HP.out.hd; clear hb2)
      | (go_at_call 13; (with_reducible refine (HD.out _).mono ?_); rintro e w3 ⟨rfl, hb3⟩; replace HB := hide (bt HB.out hb3); clear hb3))
        go_ret
        exact ⟨rfl, HB.out⟩
      · rw [show fe true = 0 from rfl] at HC
        cases sd
        · rw [show fe false = 1 from rfl] at HD
          go_wp2_with (first
      | (go_at_call 13; (with_reducible refine (HC.out _).mono ?_); rintro e w2 ⟨rfl, hb2⟩; replace HB := hide (bt HB.out hb2); replace HP := hide (HP.out.kept hb2); have g2 := HP.out.hd; clear hb2)
      | (go_at_call 13; (with_reducible refine (HD.out _).mono ?_); rintro e w3 ⟨rfl, hb3⟩; replace HB := hide (bt HB.out hb3); clear hb3))
          go_ret
          exact ⟨rfl, HB.out⟩
        · rw [show fe true = 0 from rfl] at HD
          cases p9
          · go_wp2_with (first
      | (go_at_call 13; (with_reducible refine (HC.out _).mono ?_); rintro e w2 ⟨rfl, hb2⟩; replace HB := hide (bt HB.out hb2); replace HP := hide (HP.out.kept hb2); have g2 := HP.out.hd; clear hb2)
      | (go_at_call 13; (with_reducible refine (HD.out _).mono ?_); rintro e w3 ⟨rfl, hb3⟩; replace HB := hide (bt HB.out hb3); clear hb3))
            go_ret
            exact ⟨rfl, HB.out⟩
          · cases p18
            · go_wp2_with (first
      | (go_at_call 13; (with_reducible refine (HC.out _).mono ?_); rintro e w2 ⟨rfl, hb2⟩; replace HB := hide (bt HB.out hb2); replace HP := hide (HP.out.kept hb2); have g2 := HP.out.hd; clear hb2)
      | (go_at_call 13; (with_reducible refine (HD.out _).mono ?_); rintro e w3 ⟨rfl, hb3⟩; replace HB := hide (bt HB.out hb3); clear hb3))
              go_ret
              exact ⟨rfl, HB.out⟩
            · go_wp2_with (first
      | (go_at_call 13; (with_reducible refine (HC.out _).mono ?_); rintro e w2 ⟨rfl, hb2⟩; replace HB := hide (bt HB.out hb2); replace HP := hide (HP.out.kept hb2); have g2 := HP.out.hd; clear hb2)
      | (go_at_call 13; (with_reducible refine (HD.out _).mono ?_); rintro e w3 ⟨rfl, hb3⟩; replace HB := hide (bt HB.out hb3); clear hb3))
              go_ret
              exact ⟨rfl, HB.out⟩
    · have n6 : (k != 6) = true := by simpa using k6
      have n17 : (k != 17) = true := by simpa using k17
      have m6 : (k == 6) = false := by simpa using k6
      have m17 : (k == 17) = false := by simpa using k17
      have HM := hide (And.intro m6 m17)
      clear k6 k17 m6 m17
      go_wp2
      go_ret
      refine ⟨?_, HB.out⟩
      rw [HM.out.1, HM.out.2]
      rfl
end Go.Proofs.YtdeofopandobhaaDoor
