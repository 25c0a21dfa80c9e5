/- The document's own SegFault, by a contract. -/
import Derived.Test.YtbbbcfihnjidaaaDoorShRw
namespace Go.Proofs.YtbbbcfihnjidaaaDoor
open Go.RowKit

theorem sf_1 (z : List Int) (len : Nat) (h : ¬ ((el z 0 = 6 ∨ el z 0 = 17) ∧ ((0 ≤ el z 1 ∧ el z 1 ≤ 65535) ∧ (0 ≤ el z 2 ∧ el z 2 ≤ 65535)))) : sf z len = 1 := by
  unfold sf
  rw [if_pos]
  rw [← ups2, ← kn_iff] at h
  cases h1 : kn (el z 0)
  · rfl
  · cases h2 : ups 65535 [el z 1, el z 2]
    · rfl
    · exact absurd ⟨h1, h2⟩ h
theorem sf_t (z : List Int) (len : Nat) (h6 : el z 0 = 6) (h1 : up 65535 (el z 1) = true) (h2 : up 65535 (el z 2) = true) : sf z len = if os z = false then 1 else if 300 < len then 3 else 0 := by
  unfold sf
  rw [if_neg, if_pos h6]
  rw [(kn_iff _).2 (.inl h6), (ups2 _ _ _).2 ⟨up_true h1, up_true h2⟩]
  decide
theorem sf_u (z : List Int) (len : Nat) (h17 : el z 0 = 17) (h1 : up 65535 (el z 1) = true) (h2 : up 65535 (el z 2) = true) : sf z len = if ups 0 [el z 3, el z 4, el z 5, el z 6] = false then 2 else if 300 < len then 3 else 0 := by
  unfold sf
  rw [if_neg, if_neg (by omega)]
  rw [(kn_iff _).2 (.inr h17), (ups2 _ _ _).2 ⟨up_true h1, up_true h2⟩]
  decide
theorem os_no (z : List Int) (h : ¬ (((0 ≤ el z 3 ∧ el z 3 ≤ 4294967295) ∧ (0 ≤ el z 4 ∧ el z 4 ≤ 4294967295)) ∧ (0 ≤ el z 5 ∧ el z 5 ≤ 31) ∧ (0 ≤ el z 6 ∧ el z 6 ≤ 65535))) : os z = false := Bool.eq_false_iff.2 (fun h' => h ((os_iff z).1 h'))
theorem zs_no (z : List Int) (h : ¬ (el z 3 = 0 ∧ el z 4 = 0 ∧ el z 5 = 0 ∧ el z 6 = 0)) : ups 0 [el z 3, el z 4, el z 5, el z 6] = false := Bool.eq_false_iff.2 (fun h' => h (by have := (ups4 0 _ _ _ _).1 h'; omega))
set_option maxRecDepth 100000 in
set_option maxHeartbeats 8000000 in
theorem rfault_none (z : List Int) (a : Option Addr) (len cap : Nat) (w : World) (_hm : len ≤ maxLen) (h6 : ¬ el z 0 = 6) (h17 : ¬ el z 0 = 17) :
    Calls Tryd.prog 15 #[.agg (sgC z a len cap)] w fun e w' => e = .returned (.int .i64 (sf z len)) ∧ Below w.heap.size w w' := by
  unfold maxLen at _hm
  have HB := hide (al_below w (.cells (sgC z a len cap) 36))
  have HP := hide (sg_new w z a len cap)
  obtain ⟨R, hR⟩ : ∃ R, R = sf z len := ⟨_, rfl⟩
  rw [← hR]
  have HR := hide (show R = 1 by rw [hR, sf_1 z len (by omega)])
  have n6 : (el z 0 != 6) = true := by simpa using h6
  have n17 : (el z 0 != 17) = true := by simpa using h17
  clear hR h6 h17
  go_enter Tryd.func15, Tryd.ntmps15
  go_upto_region 1 with fail
  generalize w.alloc (.cells (sgC z a len cap) 36) = W at HB HP ⊢
  have l0 := HP.out.c0
  have l1 := HP.out.c1
  have l2 := HP.out.c2
  have l3 := HP.out.c3
  have l4 := HP.out.c4
  have l5 := HP.out.c5
  have l6 := HP.out.c6
  have l7 := HP.out.c7
  go_wp2_with (go_at_call 23; refine (word_any _ _).mono ?_; rintro e w' ⟨rfl, hw⟩; rw [hw]; clear hw w')
  go_ret
  exact ⟨by rw [HR.out]; rfl, HB.out⟩
set_option maxRecDepth 100000 in
set_option maxHeartbeats 8000000 in
theorem rfault_port (z : List Int) (a : Option Addr) (len cap : Nat) (w : World) (_hm : len ≤ maxLen) (h : el z 0 = 6 ∨ el z 0 = 17) (hp : up 65535 (el z 1) = false ∨ up 65535 (el z 2) = false) :
    Calls Tryd.prog 15 #[.agg (sgC z a len cap)] w fun e w' => e = .returned (.int .i64 (sf z len)) ∧ Below w.heap.size w w' := by
  unfold maxLen at _hm
  have HB := hide (al_below w (.cells (sgC z a len cap) 36))
  have HP := hide (sg_new w z a len cap)
  obtain ⟨R, hR⟩ : ∃ R, R = sf z len := ⟨_, rfl⟩
  rw [← hR]
  have HR := hide (show R = 1 by
    rw [hR, sf_1 z len (fun h' => ?_)]
    have a1 := (up_iff _ _).2 h'.2.1
    have a2 := (up_iff _ _).2 h'.2.2
    rw [a1, a2] at hp
    rcases hp with h | h <;> cases h)
  clear hR
  have n6 : (el z 0 != 6) = decide (el z 0 = 17) := by
    rcases h with h | h <;> rw [h] <;> rfl
  generalize hu1 : up 65535 (el z 1) = u1 at hp
  rcases h with h | h
  case' inl =>
    have k6 : (el z 0 != 6) = false := by rw [h]; rfl
    have n17 : (el z 0 != 17) = true := by rw [h]; rfl
  case' inr =>
    have k6 : (el z 0 != 6) = true := by rw [h]; rfl
    have n17 : (el z 0 != 17) = false := by rw [h]; rfl
  all_goals
    clear n6 h
    cases u1
    · clear hp
      go_enter Tryd.func15, Tryd.ntmps15
      go_upto_region 1 with fail
      generalize w.alloc (.cells (sgC z a len cap) 36) = W at HB HP ⊢
      have l0 := HP.out.c0
      have l1 := HP.out.c1
      have l2 := HP.out.c2
      have l3 := HP.out.c3
      have l4 := HP.out.c4
      have l5 := HP.out.c5
      have l6 := HP.out.c6
      have l7 := HP.out.c7
      go_wp2_with (go_at_call 23; refine (word_any _ _).mono ?_; rintro e w' ⟨rfl, hw⟩; rw [hw]; clear hw w')
      go_ret
      exact ⟨by rw [HR.out]; rfl, HB.out⟩
    · have hu2 : up 65535 (el z 2) = false := by simpa using hp
      clear hp
      go_enter Tryd.func15, Tryd.ntmps15
      go_upto_region 1 with fail
      generalize w.alloc (.cells (sgC z a len cap) 36) = W at HB HP ⊢
      have l0 := HP.out.c0
      have l1 := HP.out.c1
      have l2 := HP.out.c2
      have l3 := HP.out.c3
      have l4 := HP.out.c4
      have l5 := HP.out.c5
      have l6 := HP.out.c6
      have l7 := HP.out.c7
      go_wp2_with (go_at_call 23; refine (word_any _ _).mono ?_; rintro e w' ⟨rfl, hw⟩; rw [hw]; clear hw w')
      go_ret
      exact ⟨by rw [HR.out]; rfl, HB.out⟩
set_option maxRecDepth 100000 in
set_option maxHeartbeats 8000000 in
theorem rfault_tcp (z : List Int) (a : Option Addr) (len cap : Nat) (w : World) (hm : len ≤ maxLen) (h6 : el z 0 = 6) (hu1 : up 65535 (el z 1) = true) (hu2 : up 65535 (el z 2) = true) :
    Calls Tryd.prog 15 #[.agg (sgC z a len cap)] w fun e w' => e = .returned (.int .i64 (sf z len)) ∧ Below w.heap.size w w' := by
  unfold maxLen at hm
  have HB := hide (al_below w (.cells (sgC z a len cap) 36))
  have HP := hide (sg_new w z a len cap)
  obtain ⟨R, hR⟩ : ∃ R, R = sf z len := ⟨_, rfl⟩
  rw [← hR]
  rw [sf_t z len h6 hu1 hu2] at hR
  have k6 : (el z 0 != 6) = false := by rw [h6]; rfl
  have e17 : (el z 0 == 17) = false := by rw [h6]; rfl
  have n17 : (el z 0 != 17) = true := by rw [h6]; rfl
  generalize hu6 : up 65535 (el z 6) = u6
  clear h6
  go_enter Tryd.func15, Tryd.ntmps15
  go_upto_region 1 with fail
  generalize w.alloc (.cells (sgC z a len cap) 36) = W at HB HP ⊢
  have l0 := HP.out.c0
  have l1 := HP.out.c1
  have l2 := HP.out.c2
  have l3 := HP.out.c3
  have l4 := HP.out.c4
  have l5 := HP.out.c5
  have l6 := HP.out.c6
  have l7 := HP.out.c7
  go_upto_region 8 with (go_at_call 23; refine (word_any _ _).mono ?_; rintro e w' ⟨rfl, hw⟩; rw [hw]; clear hw w')
  by_cases c0 : el z 3 < 0
  · have HR := hide (show R = 1 by rw [hR, if_pos (os_no z (by omega))])
    clear hR
    go_wp2
    go_ret
    exact ⟨by rw [HR.out]; rfl, HB.out⟩
  · skip
    by_cases c1 : 4294967295 < el z 3
    · have HR := hide (show R = 1 by rw [hR, if_pos (os_no z (by omega))])
      clear hR
      go_wp2
      go_ret
      exact ⟨by rw [HR.out]; rfl, HB.out⟩
    · skip
      by_cases c2 : el z 4 < 0
      · have HR := hide (show R = 1 by rw [hR, if_pos (os_no z (by omega))])
        clear hR
        go_wp2
        go_ret
        exact ⟨by rw [HR.out]; rfl, HB.out⟩
      · skip
        by_cases c3 : 4294967295 < el z 4
        · have HR := hide (show R = 1 by rw [hR, if_pos (os_no z (by omega))])
          clear hR
          go_wp2
          go_ret
          exact ⟨by rw [HR.out]; rfl, HB.out⟩
        · skip
          by_cases c4 : el z 5 < 0
          · have HR := hide (show R = 1 by rw [hR, if_pos (os_no z (by omega))])
            clear hR
            go_wp2
            go_ret
            exact ⟨by rw [HR.out]; rfl, HB.out⟩
          · skip
            by_cases c5 : 31 < el z 5
            · have HR := hide (show R = 1 by rw [hR, if_pos (os_no z (by omega))])
              clear hR
              go_wp2
              go_ret
              exact ⟨by rw [HR.out]; rfl, HB.out⟩
            · skip
              cases u6
              · have HR := hide (show R = 1 by rw [hR, if_pos (os_no z (fun h => by have := (up_iff 65535 (el z 6)).2 h.2.2; rw [hu6] at this; cases this))])
                clear hR
                go_wp2
                go_ret
                exact ⟨by rw [HR.out]; rfl, HB.out⟩
              · have ho : os z = true := (os_iff z).2 ⟨⟨⟨by omega, by omega⟩, by omega, by omega⟩, ⟨by omega, by omega⟩, up_true hu6⟩
                rw [if_neg (by rw [ho]; decide)] at hR
                clear ho
                by_cases hl : 300 < len
                · have HR := hide (show R = 3 by rw [hR, if_pos hl])
                  clear hR
                  go_wp2
                  go_ret
                  exact ⟨by rw [HR.out]; rfl, HB.out⟩
                · have HR := hide (show R = 0 by rw [hR, if_neg hl])
                  clear hR
                  go_wp2
                  go_ret
                  exact ⟨by rw [HR.out]; rfl, HB.out⟩
set_option maxRecDepth 100000 in
set_option maxHeartbeats 8000000 in
theorem rfault_udp (z : List Int) (a : Option Addr) (len cap : Nat) (w : World) (hm : len ≤ maxLen) (h17 : el z 0 = 17) (hu1 : up 65535 (el z 1) = true) (hu2 : up 65535 (el z 2) = true) :
    Calls Tryd.prog 15 #[.agg (sgC z a len cap)] w fun e w' => e = .returned (.int .i64 (sf z len)) ∧ Below w.heap.size w w' := by
  unfold maxLen at hm
  have HB := hide (al_below w (.cells (sgC z a len cap) 36))
  have HP := hide (sg_new w z a len cap)
  obtain ⟨R, hR⟩ : ∃ R, R = sf z len := ⟨_, rfl⟩
  rw [← hR]
  rw [sf_u z len h17 hu1 hu2] at hR
  have k6 : (el z 0 != 6) = true := by rw [h17]; rfl
  have e17 : (el z 0 == 17) = true := by rw [h17]; rfl
  have n17 : (el z 0 != 17) = false := by rw [h17]; rfl
  clear h17
  go_enter Tryd.func15, Tryd.ntmps15
  go_upto_region 1 with fail
  generalize w.alloc (.cells (sgC z a len cap) 36) = W at HB HP ⊢
  have l0 := HP.out.c0
  have l1 := HP.out.c1
  have l2 := HP.out.c2
  have l3 := HP.out.c3
  have l4 := HP.out.c4
  have l5 := HP.out.c5
  have l6 := HP.out.c6
  have l7 := HP.out.c7
  go_upto_region 5 with (go_at_call 23; refine (word_any _ _).mono ?_; rintro e w' ⟨rfl, hw⟩; rw [hw]; clear hw w')
  by_cases c3 : el z 3 = 0
  case neg =>
    have n3 : (el z 3 != 0) = true := by simpa using c3
    have HR := hide (show R = 2 by rw [hR, if_pos (zs_no z (by omega))])
    clear hR
    go_wp2
    go_ret
    exact ⟨by rw [HR.out]; rfl, HB.out⟩
  have n3 : (el z 3 != 0) = false := by rw [c3]; rfl
  by_cases c4 : el z 4 = 0
  case neg =>
    have n4 : (el z 4 != 0) = true := by simpa using c4
    have HR := hide (show R = 2 by rw [hR, if_pos (zs_no z (by omega))])
    clear hR
    go_wp2
    go_ret
    exact ⟨by rw [HR.out]; rfl, HB.out⟩
  have n4 : (el z 4 != 0) = false := by rw [c4]; rfl
  by_cases c5 : el z 5 = 0
  case neg =>
    have n5 : (el z 5 != 0) = true := by simpa using c5
    have HR := hide (show R = 2 by rw [hR, if_pos (zs_no z (by omega))])
    clear hR
    go_wp2
    go_ret
    exact ⟨by rw [HR.out]; rfl, HB.out⟩
  have n5 : (el z 5 != 0) = false := by rw [c5]; rfl
  by_cases c6 : el z 6 = 0
  case neg =>
    have n6 : (el z 6 != 0) = true := by simpa using c6
    have HR := hide (show R = 2 by rw [hR, if_pos (zs_no z (by omega))])
    clear hR
    go_wp2
    go_ret
    exact ⟨by rw [HR.out]; rfl, HB.out⟩
  have n6 : (el z 6 != 0) = false := by rw [c6]; rfl
  have hu6 : up 65535 (el z 6) = true := (up_iff _ _).2 (by omega)
  rw [if_neg (by rw [(ups4 0 _ _ _ _).2 (by omega)]; decide)] at hR
  rw [c3] at l3
  rw [c4] at l4
  rw [c5] at l5
  rw [c6] at l6 hu6
  have z3 : ((0 : Int) != 0) = false := rfl
  clear n3 n4 n5 n6 c3 c4 c5 c6
  by_cases hl : 300 < len
  · have HR := hide (show R = 3 by rw [hR, if_pos hl])
    clear hR
    go_wp2_with (go_at_call 23; refine (word_any _ _).mono ?_; rintro e w' ⟨rfl, hw⟩; rw [hw]; clear hw w')
    go_ret
    exact ⟨by rw [HR.out]; rfl, HB.out⟩
  · have HR := hide (show R = 0 by rw [hR, if_neg hl])
    clear hR
    go_wp2_with (go_at_call 23; refine (word_any _ _).mono ?_; rintro e w' ⟨rfl, hw⟩; rw [hw]; clear hw w')
    go_ret
    exact ⟨by rw [HR.out]; rfl, HB.out⟩
theorem rfault_any (z : List Int) (a : Option Addr) (len cap : Nat) (w : World) (hm : len ≤ maxLen) :
    Calls Tryd.prog 15 #[.agg (sgC z a len cap)] w fun e w' => e = .returned (.int .i64 (sf z len)) ∧ Below w.heap.size w w' := by
  by_cases h : el z 0 = 6 ∨ el z 0 = 17
  · cases h1 : up 65535 (el z 1)
    · exact rfault_port z a len cap w hm h (.inl h1)
    · cases h2 : up 65535 (el z 2)
      · exact rfault_port z a len cap w hm h (.inr h2)
      · rcases h with h | h
        · exact rfault_tcp z a len cap w hm h h1 h2
        · exact rfault_udp z a len cap w hm h h1 h2
  · exact rfault_none z a len cap w hm (fun h' => h (.inl h')) (fun h' => h (.inr h'))
end Go.Proofs.YtbbbcfihnjidaaaDoor
