/- The document's own SegFault, by a contract. The document's own word and SegOf, by contracts. The document's own SegOf of bytes of the right length, by contracts. The document's own SegOf of TCP's bytes of the right length, by contracts. Segments in numbers, third part: when bytes that are read and written anew are the same. -/
import Derived.Test.YtkhahbghmdccaaaGreatDoorK22
import Derived.Below
import Derived.OpenShut
import Derived.Test.YtkhahbghmdccaaaGreatDoorProg
import Derived.WalkKit
import Derived.LaidEql
import Derived.BigQuiet
import Derived.Laws.AppendOwnNone
import Derived.Laws.MakeOwn
import Derived.Deep.RegionLaw
import Derived.Lib.Bytes
import Derived.Deep.MidRow
import Derived.Laws.ResultCell
import Derived.Deep.CutBlock
import Derived.Deep.QuietTactic
import Derived.OwnWalk
import Derived.Deep.RegionHeld3
import Derived.Deep.DrawnRows
import Derived.Test.YtkhahbghmdccaaaGreatDoorK04
import Derived.Test.YtkhahbghmdccaaaGreatDoorK12
import Derived.Test.YtkhahbghmdccaaaGreatDoorK21
import Derived.Test.YtkhahbghmdccaaaGreatDoorK16
namespace Go.Proofs.YtkhahbghmdccaaaGreatDoor
open Go.RowKit
theorem sf_1 (z : List Int) (len : Nat) (h : ¬ ((el z 0 = 6 ∨ el z 0 = 17) ∧ ((0 ≤ el z 1 ∧ el z 1 ≤ 65535) ∧ (0 ≤ el z 2 ∧ el z 2 ≤ 65535)))) : sf z len = 1 := by
  unfold sf
  rw [if_pos]
  rw [← ups2, ← kn_iff] at h
  cases h1 : kn (el z 0)
  · rfl
  · cases h2 : ups 65535 [el z 1, el z 2]
    · rfl
    · exact absurd ⟨h1, h2⟩ h
theorem sf_t (z : List Int) (len : Nat) (h6 : el z 0 = 6) (h1 : up 65535 (el z 1) = true) (h2 : up 65535 (el z 2) = true) : sf z len = if os z = false then 1 else if 300 < len then 3 else 0 := by
  unfold sf
  rw [if_neg, if_pos h6]
  rw [(kn_iff _).2 (.inl h6), (ups2 _ _ _).2 ⟨up_true h1, up_true h2⟩]
  decide
theorem sf_u (z : List Int) (len : Nat) (h17 : el z 0 = 17) (h1 : up 65535 (el z 1) = true) (h2 : up 65535 (el z 2) = true) : sf z len = if ups 0 [el z 3, el z 4, el z 5, el z 6] = false then 2 else if 300 < len then 3 else 0 := by
  unfold sf
  rw [if_neg, if_neg (by omega)]
  rw [(kn_iff _).2 (.inr h17), (ups2 _ _ _).2 ⟨up_true h1, up_true h2⟩]
  decide
theorem os_no (z : List Int) (h : ¬ (((0 ≤ el z 3 ∧ el z 3 ≤ 4294967295) ∧ (0 ≤ el z 4 ∧ el z 4 ≤ 4294967295)) ∧ (0 ≤ el z 5 ∧ el z 5 ≤ 31) ∧ (0 ≤ el z 6 ∧ el z 6 ≤ 65535))) : os z = false := Bool.eq_false_iff.2 (fun h' => h ((os_iff z).1 h'))
theorem zs_no (z : List Int) (h : ¬ (el z 3 = 0 ∧ el z 4 = 0 ∧ el z 5 = 0 ∧ el z 6 = 0)) : ups 0 [el z 3, el z 4, el z 5, el z 6] = false := Bool.eq_false_iff.2 (fun h' => h (by have := (ups4 0 _ _ _ _).1 h'; omega))
set_option maxRecDepth 100000 in
set_option maxHeartbeats 8000000 in
theorem rfault_none (z : List Int) (a : Option Addr) (len cap : Nat) (w : World) (_hm : len ≤ maxLen) (h6 : ¬ el z 0 = 6) (h17 : ¬ el z 0 = 17) :
    Calls Tryz.prog 57 #[.agg (sgC z a len cap)] w fun e w' => e = .returned (.int .i64 (sf z len)) ∧ Below w.heap.size w w' := by
  unfold maxLen at _hm
  have HB := hide (al_below w (.cells (sgC z a len cap) 39))
  have HP := hide (sg_new w z a len cap)
  obtain ⟨R, hR⟩ : ∃ R, R = sf z len := ⟨_, rfl⟩
  rw [← hR]
  have HR := hide (show R = 1 by rw [hR, sf_1 z len (by omega)])
  have n6 : (el z 0 != 6) = true := by simpa using h6
  have n17 : (el z 0 != 17) = true := by simpa using h17
  clear hR h6 h17
  go_enter Tryz.func57, Tryz.ntmps57
  go_upto_region 1 with fail
  generalize w.alloc (.cells (sgC z a len cap) 39) = W at HB HP ⊢
  have l0 := HP.out.c0
  have l1 := HP.out.c1
  have l2 := HP.out.c2
  have l3 := HP.out.c3
  have l4 := HP.out.c4
  have l5 := HP.out.c5
  have l6 := HP.out.c6
  have l7 := HP.out.c7
  go_wp2_with (go_at_call 26; refine (sgword_any _ _).mono ?_; rintro e w' ⟨rfl, hw⟩; rw [hw]; clear hw w')
  go_ret
  exact ⟨by rw [HR.out]; rfl, HB.out⟩
set_option maxRecDepth 100000 in
set_option maxHeartbeats 8000000 in
theorem rfault_port (z : List Int) (a : Option Addr) (len cap : Nat) (w : World) (_hm : len ≤ maxLen) (h : el z 0 = 6 ∨ el z 0 = 17) (hp : up 65535 (el z 1) = false ∨ up 65535 (el z 2) = false) :
    Calls Tryz.prog 57 #[.agg (sgC z a len cap)] w fun e w' => e = .returned (.int .i64 (sf z len)) ∧ Below w.heap.size w w' := by
  unfold maxLen at _hm
  have HB := hide (al_below w (.cells (sgC z a len cap) 39))
  have HP := hide (sg_new w z a len cap)
  obtain ⟨R, hR⟩ : ∃ R, R = sf z len := ⟨_, rfl⟩
  rw [← hR]
  have HR := hide (show R = 1 by
    rw [hR, sf_1 z len (fun h' => ?_)]
    have a1 := (up_iff _ _).2 h'.2.1
    have a2 := (up_iff _ _).2 h'.2.2
    rw [a1, a2] at hp
    rcases hp with h | h <;> cases h)
  clear hR
  have n6 : (el z 0 != 6) = decide (el z 0 = 17) := by
    rcases h with h | h <;> rw [h] <;> rfl
  generalize hu1 : up 65535 (el z 1) = u1 at hp
  rcases h with h | h
  case' inl =>
    have k6 : (el z 0 != 6) = false := by rw [h]; rfl
    have n17 : (el z 0 != 17) = true := by rw [h]; rfl
  case' inr =>
    have k6 : (el z 0 != 6) = true := by rw [h]; rfl
    have n17 : (el z 0 != 17) = false := by rw [h]; rfl
  all_goals
    clear n6 h
    cases u1
    · clear hp
      go_enter Tryz.func57, Tryz.ntmps57
      go_upto_region 1 with fail
      generalize w.alloc (.cells (sgC z a len cap) 39) = W at HB HP ⊢
      have l0 := HP.out.c0
      have l1 := HP.out.c1
      have l2 := HP.out.c2
      have l3 := HP.out.c3
      have l4 := HP.out.c4
      have l5 := HP.out.c5
      have l6 := HP.out.c6
      have l7 := HP.out.c7
      go_wp2_with (go_at_call 26; refine (sgword_any _ _).mono ?_; rintro e w' ⟨rfl, hw⟩; rw [hw]; clear hw w')
      go_ret
      exact ⟨by rw [HR.out]; rfl, HB.out⟩
    · have hu2 : up 65535 (el z 2) = false := by simpa using hp
      clear hp
      go_enter Tryz.func57, Tryz.ntmps57
      go_upto_region 1 with fail
      generalize w.alloc (.cells (sgC z a len cap) 39) = W at HB HP ⊢
      have l0 := HP.out.c0
      have l1 := HP.out.c1
      have l2 := HP.out.c2
      have l3 := HP.out.c3
      have l4 := HP.out.c4
      have l5 := HP.out.c5
      have l6 := HP.out.c6
      have l7 := HP.out.c7
      go_wp2_with (go_at_call 26; refine (sgword_any _ _).mono ?_; rintro e w' ⟨rfl, hw⟩; rw [hw]; clear hw w')
      go_ret
      exact ⟨by rw [HR.out]; rfl, HB.out⟩
set_option maxRecDepth 100000 in
set_option maxHeartbeats 8000000 in
theorem rfault_tcp (z : List Int) (a : Option Addr) (len cap : Nat) (w : World) (hm : len ≤ maxLen) (h6 : el z 0 = 6) (hu1 : up 65535 (el z 1) = true) (hu2 : up 65535 (el z 2) = true) :
    Calls Tryz.prog 57 #[.agg (sgC z a len cap)] w fun e w' => e = .returned (.int .i64 (sf z len)) ∧ Below w.heap.size w w' := by
  unfold maxLen at hm
  have HB := hide (al_below w (.cells (sgC z a len cap) 39))
  have HP := hide (sg_new w z a len cap)
  obtain ⟨R, hR⟩ : ∃ R, R = sf z len := ⟨_, rfl⟩
  rw [← hR]
  rw [sf_t z len h6 hu1 hu2] at hR
  have k6 : (el z 0 != 6) = false := by rw [h6]; rfl
  have e17 : (el z 0 == 17) = false := by rw [h6]; rfl
  have n17 : (el z 0 != 17) = true := by rw [h6]; rfl
  generalize hu6 : up 65535 (el z 6) = u6
  clear h6
  go_enter Tryz.func57, Tryz.ntmps57
  go_upto_region 1 with fail
  generalize w.alloc (.cells (sgC z a len cap) 39) = W at HB HP ⊢
  have l0 := HP.out.c0
  have l1 := HP.out.c1
  have l2 := HP.out.c2
  have l3 := HP.out.c3
  have l4 := HP.out.c4
  have l5 := HP.out.c5
  have l6 := HP.out.c6
  have l7 := HP.out.c7
  go_upto_region 8 with (go_at_call 26; refine (sgword_any _ _).mono ?_; rintro e w' ⟨rfl, hw⟩; rw [hw]; clear hw w')
  by_cases c0 : el z 3 < 0
  · have HR := hide (show R = 1 by rw [hR, if_pos (os_no z (by omega))])
    clear hR
    go_wp2
    go_ret
    exact ⟨by rw [HR.out]; rfl, HB.out⟩
  · skip
    by_cases c1 : 4294967295 < el z 3
    · have HR := hide (show R = 1 by rw [hR, if_pos (os_no z (by omega))])
      clear hR
      go_wp2
      go_ret
      exact ⟨by rw [HR.out]; rfl, HB.out⟩
    · skip
      by_cases c2 : el z 4 < 0
      · have HR := hide (show R = 1 by rw [hR, if_pos (os_no z (by omega))])
        clear hR
        go_wp2
        go_ret
        exact ⟨by rw [HR.out]; rfl, HB.out⟩
      · skip
        by_cases c3 : 4294967295 < el z 4
        · have HR := hide (show R = 1 by rw [hR, if_pos (os_no z (by omega))])
          clear hR
          go_wp2
          go_ret
          exact ⟨by rw [HR.out]; rfl, HB.out⟩
        · skip
          by_cases c4 : el z 5 < 0
          · have HR := hide (show R = 1 by rw [hR, if_pos (os_no z (by omega))])
            clear hR
            go_wp2
            go_ret
            exact ⟨by rw [HR.out]; rfl, HB.out⟩
          · skip
            by_cases c5 : 31 < el z 5
            · have HR := hide (show R = 1 by rw [hR, if_pos (os_no z (by omega))])
              clear hR
              go_wp2
              go_ret
              exact ⟨by rw [HR.out]; rfl, HB.out⟩
            · skip
              cases u6
              · have HR := hide (show R = 1 by rw [hR, if_pos (os_no z (fun h => by have := (up_iff 65535 (el z 6)).2 h.2.2; rw [hu6] at this; cases this))])
                clear hR
                go_wp2
                go_ret
                exact ⟨by rw [HR.out]; rfl, HB.out⟩
              · have ho : os z = true := (os_iff z).2 ⟨⟨⟨by omega, by omega⟩, by omega, by omega⟩, ⟨by omega, by omega⟩, up_true hu6⟩
                rw [if_neg (by rw [ho]; decide)] at hR
                clear ho
                by_cases hl : 300 < len
                · have HR := hide (show R = 3 by rw [hR, if_pos hl])
                  clear hR
                  go_wp2
                  go_ret
                  exact ⟨by rw [HR.out]; rfl, HB.out⟩
                · have HR := hide (show R = 0 by rw [hR, if_neg hl])
                  clear hR
                  go_wp2
                  go_ret
                  exact ⟨by rw [HR.out]; rfl, HB.out⟩
set_option maxRecDepth 100000 in
set_option maxHeartbeats 8000000 in
theorem rfault_udp (z : List Int) (a : Option Addr) (len cap : Nat) (w : World) (hm : len ≤ maxLen) (h17 : el z 0 = 17) (hu1 : up 65535 (el z 1) = true) (hu2 : up 65535 (el z 2) = true) :
    Calls Tryz.prog 57 #[.agg (sgC z a len cap)] w fun e w' => e = .returned (.int .i64 (sf z len)) ∧ Below w.heap.size w w' := by
  unfold maxLen at hm
  have HB := hide (al_below w (.cells (sgC z a len cap) 39))
  have HP := hide (sg_new w z a len cap)
  obtain ⟨R, hR⟩ : ∃ R, R = sf z len := ⟨_, rfl⟩
  rw [← hR]
  rw [sf_u z len h17 hu1 hu2] at hR
  have k6 : (el z 0 != 6) = true := by rw [h17]; rfl
  have e17 : (el z 0 == 17) = true := by rw [h17]; rfl
  have n17 : (el z 0 != 17) = false := by rw [h17]; rfl
  clear h17
  go_enter Tryz.func57, Tryz.ntmps57
  go_upto_region 1 with fail
  generalize w.alloc (.cells (sgC z a len cap) 39) = W at HB HP ⊢
  have l0 := HP.out.c0
  have l1 := HP.out.c1
  have l2 := HP.out.c2
  have l3 := HP.out.c3
  have l4 := HP.out.c4
  have l5 := HP.out.c5
  have l6 := HP.out.c6
  have l7 := HP.out.c7
  go_upto_region 5 with (go_at_call 26; refine (sgword_any _ _).mono ?_; rintro e w' ⟨rfl, hw⟩; rw [hw]; clear hw w')
  by_cases c3 : el z 3 = 0
  case neg =>
    have n3 : (el z 3 != 0) = true := by simpa using c3
    have HR := hide (show R = 2 by rw [hR, if_pos (zs_no z (by omega))])
    clear hR
    go_wp2
    go_ret
    exact ⟨by rw [HR.out]; rfl, HB.out⟩
  have n3 : (el z 3 != 0) = false := by rw [c3]; rfl
  by_cases c4 : el z 4 = 0
  case neg =>
    have n4 : (el z 4 != 0) = true := by simpa using c4
    have HR := hide (show R = 2 by rw [hR, if_pos (zs_no z (by omega))])
    clear hR
    go_wp2
    go_ret
    exact ⟨by rw [HR.out]; rfl, HB.out⟩
  have n4 : (el z 4 != 0) = false := by rw [c4]; rfl
  by_cases c5 : el z 5 = 0
  case neg =>
    have n5 : (el z 5 != 0) = true := by simpa using c5
    have HR := hide (show R = 2 by rw [hR, if_pos (zs_no z (by omega))])
    clear hR
    go_wp2
    go_ret
    exact ⟨by rw [HR.out]; rfl, HB.out⟩
  have n5 : (el z 5 != 0) = false := by rw [c5]; rfl
  by_cases c6 : el z 6 = 0
  case neg =>
    have n6 : (el z 6 != 0) = true := by simpa using c6
    have HR := hide (show R = 2 by rw [hR, if_pos (zs_no z (by omega))])
    clear hR
    go_wp2
    go_ret
    exact ⟨by rw [HR.out]; rfl, HB.out⟩
  have n6 : (el z 6 != 0) = false := by rw [c6]; rfl
  have hu6 : up 65535 (el z 6) = true := (up_iff _ _).2 (by omega)
  rw [if_neg (by rw [(ups4 0 _ _ _ _).2 (by omega)]; decide)] at hR
  rw [c3] at l3
  rw [c4] at l4
  rw [c5] at l5
  rw [c6] at l6 hu6
  have z3 : ((0 : Int) != 0) = false := rfl
  clear n3 n4 n5 n6 c3 c4 c5 c6
  by_cases hl : 300 < len
  · have HR := hide (show R = 3 by rw [hR, if_pos hl])
    clear hR
    go_wp2_with (go_at_call 26; refine (sgword_any _ _).mono ?_; rintro e w' ⟨rfl, hw⟩; rw [hw]; clear hw w')
    go_ret
    exact ⟨by rw [HR.out]; rfl, HB.out⟩
  · have HR := hide (show R = 0 by rw [hR, if_neg hl])
    clear hR
    go_wp2_with (go_at_call 26; refine (sgword_any _ _).mono ?_; rintro e w' ⟨rfl, hw⟩; rw [hw]; clear hw w')
    go_ret
    exact ⟨by rw [HR.out]; rfl, HB.out⟩
theorem rfault_any (z : List Int) (a : Option Addr) (len cap : Nat) (w : World) (hm : len ≤ maxLen) :
    Calls Tryz.prog 57 #[.agg (sgC z a len cap)] w fun e w' => e = .returned (.int .i64 (sf z len)) ∧ Below w.heap.size w w' := by
  by_cases h : el z 0 = 6 ∨ el z 0 = 17
  · cases h1 : up 65535 (el z 1)
    · exact rfault_port z a len cap w hm h (.inl h1)
    · cases h2 : up 65535 (el z 2)
      · exact rfault_port z a len cap w hm h (.inr h2)
      · rcases h with h | h
        · exact rfault_tcp z a len cap w hm h h1 h2
        · exact rfault_udp z a len cap w hm h h1 h2
  · exact rfault_none z a len cap w hm (fun h' => h (.inl h')) (fun h' => h (.inr h'))
end Go.Proofs.YtkhahbghmdccaaaGreatDoor

namespace Go.Proofs.YtkhahbghmdccaaaGreatDoor
open Go.RowKit
attribute [local go_sem ↓] Go.wp_at_zero Go.wp_at_succ
theorem alloc_drewN (w : World) (n : Nat) (o : Obj) : (w.drewN n).alloc o = (w.alloc o).drewN n := rfl
theorem setCell_drewN (w : World) (n : Nat) (a : Addr) (v : Value) : (w.drewN n).setCell a v = (w.setCell a v).drewN n := rfl
attribute [local go_sem] alloc_drewN setCell_drewN
theorem word_at (g off len cap : Nat) (zs : List Int) (w : World) (x : Int) (hr : Row8 w (some ⟨g, off, none⟩) len cap zs) (h0 : 0 ≤ x) (h1 : x + 1 < len) :
    Calls Tryz.prog 102 #[.slice (some ⟨g, off, none⟩) len cap, .int .i64 x] w fun e w' => e = .returned (.int .i64 (P4.wd zs x.toNat)) ∧ ∃ n, w' = w.drewN n := by
  obtain ⟨j, rfl⟩ := Int.eq_ofNat_of_zero_le h0
  obtain ⟨hz, hm, hoct, _, hcs⟩ := hr
  obtain ⟨b, o, e, hcell⟩ := hcs (by omega)
  cases e
  have c0 := hcell j (by omega)
  have c1 := hcell (j + 1) (by omega)
  have b0 := hoct j
  have b1 := hoct (j + 1)
  have HW := hide (show P4.wd zs (Int.toNat (j : Int)) = 256 * zs.getD j 0 + zs.getD (j + 1) 0 from rfl)
  clear hcell hcs hoct
  generalize zs.getD j 0 = y0 at c0 b0 HW
  generalize zs.getD (j + 1) 0 = y1 at c1 b1 HW
  unfold maxLen at hm
  have i0 : (0 : Int) ≤ (j : Int) := by omega
  have i1 : (j : Int) < (len : Int) := by omega
  have i2 : (j : Int) + 1 < (len : Int) := by omega
  have q0 : IntKind.i64.wrap ((j : Int) + 1) = (j : Int) + 1 := by rw [IntKind.wrap_i64]; omega
  have q1 : IntKind.i64.wrap y0 = y0 := by rw [IntKind.wrap_i64]; omega
  have q2 : IntKind.i64.wrap y1 = y1 := by rw [IntKind.wrap_i64]; omega
  have q3 : IntKind.i64.wrap (256 * y0) = 256 * y0 := by rw [IntKind.wrap_i64]; omega
  have q4 : IntKind.i64.wrap (256 * y0 + y1) = 256 * y0 + y1 := by rw [IntKind.wrap_i64]; omega
  clear h0 h1
  go_enter Tryz.func102, Tryz.ntmps102
  go_upto_region 1 with fail
  go_quiet (fail)
  go_wp2
  go_ret
  exact ⟨by rw [HW.out]; rfl, _, rfl⟩
theorem word_b (g off len cap : Nat) (zs : List Int) (w : World) (x : Int) (hr : Row8 w (some ⟨g, off, none⟩) len cap zs) (h0 : 0 ≤ x) (h1 : x + 1 < len) :
    Calls Tryz.prog 102 #[.slice (some ⟨g, off, none⟩) len cap, .int .i64 x] w fun e w' => e = .returned (.int .i64 (P4.wd zs x.toNat)) ∧ Below w.heap.size w w' :=
  (word_at g off len cap zs w x hr h0 h1).mono fun e w' ⟨h1, n, h2⟩ => ⟨h1, by rw [h2]; exact (Below.refl _ _).trans ⟨rfl, rfl, rfl, Nat.le_refl _, fun _ _ => rfl⟩⟩
theorem wd_bd (zs : List Int) (ho : SM.Oct zs) (j : Nat) : 0 ≤ P4.wd zs j ∧ P4.wd zs j ≤ 65535 := by
  have := ho j
  have := ho (j + 1)
  unfold P4.wd
  omega
theorem wd_num (zs : List Int) (j : Nat) : P4.wd zs j = num (zs.drop j) 2 := by rw [num_2]; unfold P4.wd; omega
theorem rdz_wd_udp (zs : List Int) : rdz 17 zs = [17, P4.wd zs 0, P4.wd zs 2, 0, 0, 0, 0] := by
  rw [wd_num, wd_num]; rfl
theorem rdz_wd_tcp (zs : List Int) : rdz 6 zs = [6, P4.wd zs 0, P4.wd zs 2, 65536 * P4.wd zs 4 + P4.wd zs 6, 65536 * P4.wd zs 8 + P4.wd zs 10, zs.getD 13 0, P4.wd zs 14] := by
  have e4 : 65536 * P4.wd zs 4 + P4.wd zs 6 = num (zs.drop 4) 4 := by rw [num_4]; unfold P4.wd; simp only [Nat.reduceAdd]; omega
  have e8 : 65536 * P4.wd zs 8 + P4.wd zs 10 = num (zs.drop 8) 4 := by rw [num_4]; unfold P4.wd; simp only [Nat.reduceAdd]; omega
  have e13 : zs.getD 13 0 = num (zs.drop 13) 1 := (num_1 zs 13).symm
  rw [e4, e8, e13, wd_num, wd_num, wd_num]; rfl
def Rq (w : World) (B : Nat) (z : List Int) (a : Option Addr) (n c : Nat) (W : World) : Prop := SgIn B z a n c W ∧ SgIn w.heap.size [] none 0 0 W ∧ w.heap.size ≠ B ∧ w.heap.size ≤ B ∧ Below w.heap.size w W
theorem Rq.kept {w : World} {B : Nat} {z : List Int} {a : Option Addr} {n c : Nat} {W W' : World} (h : Rq w B z a n c W) (hb : Below W.heap.size W W') : Rq w B z a n c W' := ⟨h.1.kept hb, h.2.1.kept hb, h.2.2.1, h.2.2.2.1, bt h.2.2.2.2 hb⟩
theorem Rq.set {w : World} {B : Nat} {z : List Int} {a : Option Addr} {n c : Nat} {W : World} (h : Rq w B z a n c W) (j : Nat) (x : Int) (z' : List Int) (hz : (sgC z a n c).setIfInBounds j (.int .i64 x) = sgC z' a n c) : Rq w B z' a n c (W.setCell ⟨B, j, none⟩ (.int .i64 x)) := by
  have ho := only_setCell W B j _ _ (.int .i64 x) h.1
  have := setCell_heap_same W B j _ _ (.int .i64 x) h.1
  rw [hz] at this
  exact ⟨this, ho.sg h.2.1 h.2.2.1, h.2.2.1, h.2.2.2.1, ho.below h.2.2.2.2 h.2.2.2.1⟩
end Go.Proofs.YtkhahbghmdccaaaGreatDoor

namespace Go.Proofs.YtkhahbghmdccaaaGreatDoor
open Go.RowKit
attribute [local go_sem ↓] Go.wp_at_zero Go.wp_at_succ
attribute [local go_sem] alloc_drewN setCell_drewN
theorem rq_new (w W : World) (N : Nat) (z : List Int) (a : Option Addr) (n c : Nat) (hP : SgIn w.heap.size [] none 0 0 W) (hB : Below w.heap.size w W) : Rq w W.heap.size z a n c ((W.alloc (.cells (sgC z a n c) 39)).drewN N) := by
  have hb : Below W.heap.size W ((W.alloc (.cells (sgC z a n c) 39)).drewN N) := (al_below _ _).trans ⟨rfl, rfl, rfl, Nat.le_refl _, fun _ _ => rfl⟩
  exact ⟨sg_new W z a n c, hP.kept hb, Nat.ne_of_lt hP.lt, Nat.le_of_lt hP.lt, bt hB hb⟩
set_option maxRecDepth 100000 in
set_option maxHeartbeats 8000000 in
theorem rseg_udp_ok (over : Int) (g off len cap : Nat) (zs : List Int) (w : World) (hr : Row8 w (some ⟨g, off, none⟩) len cap zs) (ho : up 65535 over = true) (h1 : 8 ≤ len) (h2 : len ≤ 308) (hcl : len ≤ cap) (hcm : cap ≤ maxLen) (hs : P4.wd zs 4 = (len : Int)) (r : Bool) (hrr : P4.wd zs 6 = sck (rdz 17 zs) over (zs.drop 8) ↔ r = true) :
    Calls Tryz.prog 74 #[.int .i64 17, .slice (some ⟨g, off, none⟩) len cap, .int .i64 over] w fun e w' => ((r = false ∧ e = .returned (.tuple #[sg0, .int .i64 6])) ∨ (r = true ∧ ∃ a' c', e = .returned (.tuple #[.agg (sgC (rdz 17 zs) a' (len - 8) c'), .int .i64 0]) ∧ Row8 w' a' (len - 8) c' (zs.drop 8))) ∧ Below w.heap.size w w' := by
  have hlen := hr.1
  have hoct := hr.2.2.1
  have HB := hide (al_below w (.cells zero7 39))
  have HP := hide (zero_new w)
  unfold zero7 at HB HP
  have HRow := hide hr
  have HW := hide (fun W x h h0 h1 => word_b g off len cap zs W x h h0 h1)
  obtain ⟨ao, hao⟩ : ∃ ao, (if cap = 8 then some (⟨g, off, none⟩ : Addr) else some ⟨g, off + 8, none⟩) = ao := ⟨_, rfl⟩
  have HPart := hide (fun W (h : Row8 W (some ⟨g, off, none⟩) len cap zs) => h.behind 8 (by omega) hcl ao hao)
  have hcm' := hcm
  unfold maxLen at hcm'
  have iH : (8 : Int) ≤ (len : Int) := by omega
  have iHM : ¬ (308 : Int) < (len : Int) := by omega
  have iH0 : ¬ (len : Int) < 8 := by omega
  have ilc : (len : Int) ≤ (cap : Int) := by omega
  have f4 : (P4.wd zs 4 != (len : Int)) = false := by simpa using hs
  have HOk := hide (okg_udp zs hoct (len - 8) (by omega))
  have HC := hide (fun W a' c' (h : Row8 W a' (len - 8) c' (zs.drop 8)) => rcheck_any (rdz 17 zs) a' (len - 8) c' over (zs.drop 8) W HOk.out ho h)
  rw [rdz_wd_udp] at HC hrr HOk ⊢
  have fr : (P4.wd zs 6 != sck [17, P4.wd zs 0, P4.wd zs 2, 0, 0, 0, 0] over (zs.drop 8)) = !r := by
    cases r
    · have : ¬ (P4.wd zs 6 = sck [17, P4.wd zs 0, P4.wd zs 2, 0, 0, 0, 0] over (zs.drop 8)) := fun h => by have := hrr.1 h; cases this
      simpa using this
    · simpa using hrr.2 rfl
  generalize sck [17, P4.wd zs 0, P4.wd zs 2, 0, 0, 0, 0] over (zs.drop 8) = C at HC fr
  clear hs hr hrr HOk
  go_enter Tryz.func74, Tryz.ntmps74
  go_upto_region 1 with fail
  generalize w.alloc _ = W at HB HP ⊢
  go_upto_region 9 with (go_at_call 26; refine (sgword_any _ _).mono ?_; rintro e w' ⟨rfl, hw⟩; rw [hw]; clear hw w')
  have HR0 := hide (HRow.out.below HB.out)
  have HA := hide (fun m x h0 h1 => word_at g off len cap zs (W.drewN m) x (HR0.out.drewN m) h0 h1)
  have HA' := hide (fun x h0 h1 => word_at g off len cap zs W.drew x (HR0.out.drewN 1) h0 h1)
  have HZ := hide (fun m x h0 h1 => word_at g off len cap zs ((W.alloc (.cells #[.int .i64 0, .int .i64 0, .int .i64 0, .int .i64 0, .int .i64 0, .int .i64 0, .int .i64 0, .slice none 0 0] 39)).drewN m) x ((HR0.out.below (al_below _ _)).drewN m) h0 h1)
  have HZ' := hide (fun x h0 h1 => word_at g off len cap zs (W.alloc (.cells #[.int .i64 0, .int .i64 0, .int .i64 0, .int .i64 0, .int .i64 0, .int .i64 0, .int .i64 0, .slice none 0 0] 39)).drew x ((HR0.out.below (al_below _ _)).drewN 1) h0 h1)
  go_cut [10] from 12 (fun v10 Wc => v10 = .pointer (some ⟨W.heap.size, 0, none⟩) ∧ ∃ N, Wc = (W.alloc (.cells #[.int .i64 17, .int .i64 (P4.wd zs 0), .int .i64 (P4.wd zs 2), .int .i64 0, .int .i64 0, .int .i64 0, .int .i64 0, .slice ao (len - 8) (cap - 8)] 39)).drewN N)
  case first =>
    go_region_held3 (fun _ => True)
      (trivial)
      (first
        | (go_at_call 102; (with_reducible refine (HA.out _ _ (by omega) (by omega)).mono ?_); rintro e w2 ⟨rfl, n2, rfl⟩)
        | (go_at_call 102; (with_reducible refine (HA'.out _ (by omega) (by omega)).mono ?_); rintro e w2 ⟨rfl, n2, rfl⟩)
        | (go_at_call 102; (with_reducible refine (HZ.out _ _ (by omega) (by omega)).mono ?_); rintro e w2 ⟨rfl, n2, rfl⟩)
        | (go_at_call 102; (with_reducible refine (HZ'.out _ (by omega) (by omega)).mono ?_); rintro e w2 ⟨rfl, n2, rfl⟩))
    all_goals
      go_wp2_with fail
      go_meet
      exact ⟨rfl, _, rfl⟩
  case rest =>
    obtain ⟨rfl, N, rfl⟩ := hcut
    have HQ := hide (rq_new w W N [17, P4.wd zs 0, P4.wd zs 2, 0, 0, 0, 0] ao (len - 8) (cap - 8) HP.out HB.out)
    clear HA HA' HZ HZ' hao HR0 HB HP
    replace HQ : Hid (Rq w W.heap.size [17, P4.wd zs 0, P4.wd zs 2, 0, 0, 0, 0] ao (len - 8) (cap - 8) ((W.alloc (.cells #[.int .i64 17, .int .i64 (P4.wd zs 0), .int .i64 (P4.wd zs 2), .int .i64 0, .int .i64 0, .int .i64 0, .int .i64 0, .slice ao (len - 8) (cap - 8)] 39)).drewN N)) := HQ
    generalize (W.alloc (.cells #[.int .i64 17, .int .i64 (P4.wd zs 0), .int .i64 (P4.wd zs 2), .int .i64 0, .int .i64 0, .int .i64 0, .int .i64 0, .slice ao (len - 8) (cap - 8)] 39)).drewN N = W1 at HQ ⊢
    generalize W.heap.size = B at HQ ⊢
    go_upto_region 21 with (go_at_call 102; refine (HW.out _ _ (HRow.out.below HQ.out.2.2.2.2) (by omega) (by omega)).mono ?_; rintro e w3 ⟨rfl, hb3⟩; replace HQ := hide (HQ.out.kept hb3); clear hb3)
    go_upto_if 105 with (first
      | (refine at_load rfl (.tmp 10) rfl rfl HQ.out.1 ?_)
      | (go_at_call 84; refine (HC.out _ _ _ (HPart.out _ (HRow.out.below HQ.out.2.2.2.2))).mono ?_; rintro e w6 ⟨rfl, hb6⟩; replace HQ := hide (HQ.out.kept hb6); clear hb6))
    cases r
    · go_wp2_with (first | (refine at_store rfl (.tmp 6) (.tmp 106) rfl rfl HQ.out.2.1 [] none 0 0 rfl ?_; intro w5 p5 on5; replace HQ := hide (on5.below HQ.out.2.2.2.2 (Nat.le_refl _)); replace p5 := hide p5; clear on5))
      try simp only [Exit.inBlock, Exit.then]
      refine bodyPost_ret (results_sg rfl _ _ w.heap.size [] none 0 0 rfl p5.out) rfl ?_
      exact ⟨rfl, HQ.out⟩
    · have HR9 := hide (HPart.out _ (HRow.out.below HQ.out.2.2.2.2))
      go_wp2_with (first
        | (refine at_load rfl (.tmp 10) rfl rfl HQ.out.1 ?_)
        | (refine at_store rfl (.tmp 6) (.tmp 107) rfl rfl HQ.out.2.1 [17, P4.wd zs 0, P4.wd zs 2, 0, 0, 0, 0] ao (len - 8) (cap - 8) rfl ?_; intro w5 p5 on5; replace HQ := hide (on5.below HQ.out.2.2.2.2 (Nat.le_refl _)); replace p5 := hide p5; clear on5))
      try simp only [Exit.inBlock, Exit.then]
      refine bodyPost_ret (results_sg rfl _ _ w.heap.size [17, P4.wd zs 0, P4.wd zs 2, 0, 0, 0, 0] ao (len - 8) (cap - 8) rfl p5.out) rfl ?_
      exact ⟨⟨ao, cap - 8, rfl, HPart.out _ (HRow.out.below HQ.out)⟩, HQ.out⟩
end Go.Proofs.YtkhahbghmdccaaaGreatDoor

namespace Go.Proofs.YtkhahbghmdccaaaGreatDoor
open Go.RowKit
attribute [local go_sem ↓] Go.wp_at_zero Go.wp_at_succ
attribute [local go_sem] alloc_drewN setCell_drewN
set_option maxRecDepth 100000 in
set_option maxHeartbeats 8000000 in
theorem rseg_tcp_ok (over : Int) (g off len cap : Nat) (zs : List Int) (w : World) (hr : Row8 w (some ⟨g, off, none⟩) len cap zs) (ho : up 65535 over = true) (h1 : 20 ≤ len) (h2 : len ≤ 320) (hcl : len ≤ cap) (hcm : cap ≤ maxLen) (hs : zs.getD 12 0 = 80 ∧ zs.getD 13 0 ≤ 31 ∧ P4.wd zs 18 = 0) (r : Bool) (hrr : P4.wd zs 16 = sck (rdz 6 zs) over (zs.drop 20) ↔ r = true) :
    Calls Tryz.prog 74 #[.int .i64 6, .slice (some ⟨g, off, none⟩) len cap, .int .i64 over] w fun e w' => ((r = false ∧ e = .returned (.tuple #[sg0, .int .i64 6])) ∨ (r = true ∧ ∃ a' c', e = .returned (.tuple #[.agg (sgC (rdz 6 zs) a' (len - 20) c'), .int .i64 0]) ∧ Row8 w' a' (len - 20) c' (zs.drop 20))) ∧ Below w.heap.size w w' := by
  have hlen := hr.1
  have hoct := hr.2.2.1
  have HB := hide (al_below w (.cells zero7 39))
  have HP := hide (zero_new w)
  unfold zero7 at HB HP
  have HRow := hide hr
  have HW := hide (fun W x h h0 h1 => word_b g off len cap zs W x h h0 h1)
  obtain ⟨ao, hao⟩ : ∃ ao, (if cap = 20 then some (⟨g, off, none⟩ : Addr) else some ⟨g, off + 20, none⟩) = ao := ⟨_, rfl⟩
  have HPart := hide (fun W (h : Row8 W (some ⟨g, off, none⟩) len cap zs) => h.behind 20 (by omega) hcl ao hao)
  have hcm' := hcm
  unfold maxLen at hcm'
  have iH : (20 : Int) ≤ (len : Int) := by omega
  have iHM : ¬ (320 : Int) < (len : Int) := by omega
  have iH0 : ¬ (len : Int) < 20 := by omega
  have ilc : (len : Int) ≤ (cap : Int) := by omega
  have w4 := wd_bd zs hoct 4
  have w6 := wd_bd zs hoct 6
  have w8 := wd_bd zs hoct 8
  have w10 := wd_bd zs hoct 10
  have HC12 := hide (fun W (h : Row8 W (some ⟨g, off, none⟩) len cap zs) => show W.cell? ⟨g, off + 12, none⟩ = some (.int .u8 (zs.getD 12 0)) ∧ W.cell? ⟨g, off + 13, none⟩ = some (.int .u8 (zs.getD 13 0)) by
    obtain ⟨_, _, _, _, h5⟩ := h
    obtain ⟨b, o, e, hc⟩ := h5 (by omega)
    cases e
    exact ⟨hc 12 (by omega), hc 13 (by omega)⟩)
  have b13 := hoct 13
  have i12 : (12 : Int) < (len : Int) := by omega
  have i13 : (13 : Int) < (len : Int) := by omega
  have h18 : (P4.wd zs 18 != 0) = false := by simpa using hs.2.2
  have HS := hide hs
  have HOk := hide ((okg_tcp zs hoct (len - 20) (by omega)).2 hs.2.1)
  have HC := hide (fun W a' c' (h : Row8 W a' (len - 20) c' (zs.drop 20)) => rcheck_any (rdz 6 zs) a' (len - 20) c' over (zs.drop 20) W HOk.out ho h)
  rw [rdz_wd_tcp] at HC hrr HOk ⊢
  have fr : (P4.wd zs 16 != sck [6, P4.wd zs 0, P4.wd zs 2, 65536 * P4.wd zs 4 + P4.wd zs 6, 65536 * P4.wd zs 8 + P4.wd zs 10, zs.getD 13 0, P4.wd zs 14] over (zs.drop 20)) = !r := by
    cases r
    · have : ¬ (P4.wd zs 16 = sck [6, P4.wd zs 0, P4.wd zs 2, 65536 * P4.wd zs 4 + P4.wd zs 6, 65536 * P4.wd zs 8 + P4.wd zs 10, zs.getD 13 0, P4.wd zs 14] over (zs.drop 20)) := fun h => by have := hrr.1 h; cases this
      simpa using this
    · simpa using hrr.2 rfl
  generalize sck [6, P4.wd zs 0, P4.wd zs 2, 65536 * P4.wd zs 4 + P4.wd zs 6, 65536 * P4.wd zs 8 + P4.wd zs 10, zs.getD 13 0, P4.wd zs 14] over (zs.drop 20) = C at HC fr
  clear hs hr hrr HOk
  generalize zs.getD 13 0 = z13 at HC HC12 b13 HS ⊢
  go_enter Tryz.func74, Tryz.ntmps74
  go_upto_region 1 with fail
  generalize w.alloc _ = W at HB HP ⊢
  go_upto_region 9 with (go_at_call 26; refine (sgword_any _ _).mono ?_; rintro e w' ⟨rfl, hw⟩; rw [hw]; clear hw w')
  have HR0 := hide (HRow.out.below HB.out)
  have HA := hide (fun m x h0 h1 => word_at g off len cap zs (W.drewN m) x (HR0.out.drewN m) h0 h1)
  have HA' := hide (fun x h0 h1 => word_at g off len cap zs W.drew x (HR0.out.drewN 1) h0 h1)
  have HZ := hide (fun m x h0 h1 => word_at g off len cap zs ((W.alloc (.cells #[.int .i64 0, .int .i64 0, .int .i64 0, .int .i64 0, .int .i64 0, .int .i64 0, .int .i64 0, .slice none 0 0] 39)).drewN m) x ((HR0.out.below (al_below _ _)).drewN m) h0 h1)
  have HZ' := hide (fun x h0 h1 => word_at g off len cap zs (W.alloc (.cells #[.int .i64 0, .int .i64 0, .int .i64 0, .int .i64 0, .int .i64 0, .int .i64 0, .int .i64 0, .slice none 0 0] 39)).drew x ((HR0.out.below (al_below _ _)).drewN 1) h0 h1)
  go_cut [10] from 12 (fun v10 Wc => v10 = .pointer (some ⟨W.heap.size, 0, none⟩) ∧ ∃ N, Wc = (W.alloc (.cells #[.int .i64 6, .int .i64 (P4.wd zs 0), .int .i64 (P4.wd zs 2), .int .i64 0, .int .i64 0, .int .i64 0, .int .i64 0, .slice ao (len - 20) (cap - 20)] 39)).drewN N)
  case first =>
    go_region_held3 (fun _ => True)
      (trivial)
      (first
        | (go_at_call 102; (with_reducible refine (HA.out _ _ (by omega) (by omega)).mono ?_); rintro e w2 ⟨rfl, n2, rfl⟩)
        | (go_at_call 102; (with_reducible refine (HA'.out _ (by omega) (by omega)).mono ?_); rintro e w2 ⟨rfl, n2, rfl⟩)
        | (go_at_call 102; (with_reducible refine (HZ.out _ _ (by omega) (by omega)).mono ?_); rintro e w2 ⟨rfl, n2, rfl⟩)
        | (go_at_call 102; (with_reducible refine (HZ'.out _ (by omega) (by omega)).mono ?_); rintro e w2 ⟨rfl, n2, rfl⟩))
    all_goals
      go_wp2_with fail
      go_meet
      exact ⟨rfl, _, rfl⟩
  case rest =>
    obtain ⟨rfl, N, rfl⟩ := hcut
    have HQ := hide (rq_new w W N [6, P4.wd zs 0, P4.wd zs 2, 0, 0, 0, 0] ao (len - 20) (cap - 20) HP.out HB.out)
    clear HA HA' HZ HZ' hao HR0 HB HP
    replace HQ : Hid (Rq w W.heap.size [6, P4.wd zs 0, P4.wd zs 2, 0, 0, 0, 0] ao (len - 20) (cap - 20) ((W.alloc (.cells #[.int .i64 6, .int .i64 (P4.wd zs 0), .int .i64 (P4.wd zs 2), .int .i64 0, .int .i64 0, .int .i64 0, .int .i64 0, .slice ao (len - 20) (cap - 20)] 39)).drewN N)) := HQ
    generalize (W.alloc (.cells #[.int .i64 6, .int .i64 (P4.wd zs 0), .int .i64 (P4.wd zs 2), .int .i64 0, .int .i64 0, .int .i64 0, .int .i64 0, .slice ao (len - 20) (cap - 20)] 39)).drewN N = W1 at HQ ⊢
    generalize W.heap.size = B at HQ ⊢
    go_upto_region 14 with (go_at_call 102; refine (HW.out _ _ (HRow.out.below HQ.out.2.2.2.2) (by omega) (by omega)).mono ?_; rintro e w3 ⟨rfl, hb3⟩; replace HQ := hide (HQ.out.kept hb3); clear hb3)
    have x3 : _ = some (Value.int .i64 0) := HQ.out.1.cellAt 3
    have y3 := HQ.out.1.frz 3
    go_upto_region 15 with (go_at_call 102; refine (HW.out _ _ (HRow.out.below HQ.out.2.2.2.2) (by omega) (by omega)).mono ?_; rintro e w3 ⟨rfl, hb3⟩; replace HQ := hide (HQ.out.kept hb3); clear hb3; clear x3 y3; have x3 : _ = some (Value.int .i64 0) := HQ.out.1.cellAt 3; have y3 := HQ.out.1.frz 3)
    replace HQ := hide (HQ.out.set 3 (65536 * P4.wd zs 4 + P4.wd zs 6) [6, P4.wd zs 0, P4.wd zs 2, 65536 * P4.wd zs 4 + P4.wd zs 6, 0, 0, 0] rfl)
    clear x3 y3
    generalize World.setCell _ _ _ = W1 at HQ ⊢
    have x4 : _ = some (Value.int .i64 0) := HQ.out.1.cellAt 4
    have y4 := HQ.out.1.frz 4
    go_upto_region 16 with (go_at_call 102; refine (HW.out _ _ (HRow.out.below HQ.out.2.2.2.2) (by omega) (by omega)).mono ?_; rintro e w3 ⟨rfl, hb3⟩; replace HQ := hide (HQ.out.kept hb3); clear hb3; clear x4 y4; have x4 : _ = some (Value.int .i64 0) := HQ.out.1.cellAt 4; have y4 := HQ.out.1.frz 4)
    replace HQ := hide (HQ.out.set 4 (65536 * P4.wd zs 8 + P4.wd zs 10) [6, P4.wd zs 0, P4.wd zs 2, 65536 * P4.wd zs 4 + P4.wd zs 6, 65536 * P4.wd zs 8 + P4.wd zs 10, 0, 0] rfl)
    clear x4 y4
    generalize World.setCell _ _ _ = W1 at HQ ⊢
    have x5 : _ = some (Value.int .i64 0) := HQ.out.1.cellAt 5
    have y5 := HQ.out.1.frz 5
    obtain ⟨-, c13⟩ := HC12.out _ (HRow.out.below HQ.out.2.2.2.2)
    go_upto_region 17 with fail
    replace HQ := hide (HQ.out.set 5 z13 [6, P4.wd zs 0, P4.wd zs 2, 65536 * P4.wd zs 4 + P4.wd zs 6, 65536 * P4.wd zs 8 + P4.wd zs 10, z13, 0] rfl)
    clear x5 y5 c13
    generalize World.setCell _ _ _ = W1 at HQ ⊢
    have x6 : _ = some (Value.int .i64 0) := HQ.out.1.cellAt 6
    have y6 := HQ.out.1.frz 6
    go_upto_region 18 with (go_at_call 102; refine (HW.out _ _ (HRow.out.below HQ.out.2.2.2.2) (by omega) (by omega)).mono ?_; rintro e w3 ⟨rfl, hb3⟩; replace HQ := hide (HQ.out.kept hb3); clear hb3; clear x6 y6; have x6 : _ = some (Value.int .i64 0) := HQ.out.1.cellAt 6; have y6 := HQ.out.1.frz 6)
    replace HQ := hide (HQ.out.set 6 (P4.wd zs 14) [6, P4.wd zs 0, P4.wd zs 2, 65536 * P4.wd zs 4 + P4.wd zs 6, 65536 * P4.wd zs 8 + P4.wd zs 10, z13, P4.wd zs 14] rfl)
    clear x6 y6
    generalize World.setCell _ _ _ = W1 at HQ ⊢
    go_upto_region 19 with (go_at_call 102; refine (HW.out _ _ (HRow.out.below HQ.out.2.2.2.2) (by omega) (by omega)).mono ?_; rintro e w3 ⟨rfl, hb3⟩; replace HQ := hide (HQ.out.kept hb3); clear hb3)
    obtain ⟨c12, -⟩ := HC12.out _ (HRow.out.below HQ.out.2.2.2.2)
    generalize hz12 : zs.getD 12 0 = z12 at c12
    have Z12 := hide hz12
    clear hz12
    have x5 : _ = some (Value.int .i64 z13) := HQ.out.1.cellAt 5
    have n12 : (z12 != 80) = false := by rw [← Z12.out, HS.out.1]; rfl
    have h13 : ¬ 31 < z13 := by have := HS.out.2.1; omega
    go_upto_region 21 with (go_at_call 102; refine (HW.out _ _ (HRow.out.below HQ.out.2.2.2.2) (by omega) (by omega)).mono ?_; rintro e w3 ⟨rfl, hb3⟩; replace HQ := hide (HQ.out.kept hb3); clear hb3; clear x5; have x5 : _ = some (Value.int .i64 z13) := HQ.out.1.cellAt 5)
    clear x5 c12
    go_upto_if 105 with (first
      | (refine at_load rfl (.tmp 10) rfl rfl HQ.out.1 ?_)
      | (go_at_call 84; refine (HC.out _ _ _ (HPart.out _ (HRow.out.below HQ.out.2.2.2.2))).mono ?_; rintro e w6 ⟨rfl, hb6⟩; replace HQ := hide (HQ.out.kept hb6); clear hb6))
    cases r
    · go_wp2_with (first | (refine at_store rfl (.tmp 6) (.tmp 106) rfl rfl HQ.out.2.1 [] none 0 0 rfl ?_; intro w5 p5 on5; replace HQ := hide (on5.below HQ.out.2.2.2.2 (Nat.le_refl _)); replace p5 := hide p5; clear on5))
      try simp only [Exit.inBlock, Exit.then]
      refine bodyPost_ret (results_sg rfl _ _ w.heap.size [] none 0 0 rfl p5.out) rfl ?_
      exact ⟨rfl, HQ.out⟩
    · go_wp2_with (first
        | (refine at_load rfl (.tmp 10) rfl rfl HQ.out.1 ?_)
        | (refine at_store rfl (.tmp 6) (.tmp 107) rfl rfl HQ.out.2.1 [6, P4.wd zs 0, P4.wd zs 2, 65536 * P4.wd zs 4 + P4.wd zs 6, 65536 * P4.wd zs 8 + P4.wd zs 10, z13, P4.wd zs 14] ao (len - 20) (cap - 20) rfl ?_; intro w5 p5 on5; replace HQ := hide (on5.below HQ.out.2.2.2.2 (Nat.le_refl _)); replace p5 := hide p5; clear on5))
      try simp only [Exit.inBlock, Exit.then]
      refine bodyPost_ret (results_sg rfl _ _ w.heap.size [6, P4.wd zs 0, P4.wd zs 2, 65536 * P4.wd zs 4 + P4.wd zs 6, 65536 * P4.wd zs 8 + P4.wd zs 10, z13, P4.wd zs 14] ao (len - 20) (cap - 20) rfl p5.out) rfl ?_
      exact ⟨⟨ao, cap - 20, rfl, HPart.out _ (HRow.out.below HQ.out)⟩, HQ.out⟩
end Go.Proofs.YtkhahbghmdccaaaGreatDoor

namespace Go.Proofs.YtkhahbghmdccaaaGreatDoor
open Go.RowKit
theorem mix_getD (h zs : List Int) (H : Nat) (hl : h.length = H) (j : Nat) : (h ++ zs.drop H).getD j 0 = if j < H then h.getD j 0 else zs.getD j 0 := by
  split
  · rename_i hj; exact getD_app _ _ _ (by omega)
  · rename_i hj
    rw [List.getD_eq_getElem?_getD, List.getElem?_append_right (by omega), ← List.getD_eq_getElem?_getD, P4.getD_drop, hl, show H + (j - H) = j by omega]
theorem mix_len (h zs : List Int) (H : Nat) (hl : h.length = H) (hz : H ≤ zs.length) : (h ++ zs.drop H).length = zs.length := by
  rw [List.length_append, List.length_drop]
  omega
theorem mix_take (h zs : List Int) (H c : Nat) (hl : h.length = H) (hz : H ≤ zs.length) (hc : c ≤ H) : (h ++ zs.drop H).take c = zs.take c ↔ ∀ j, j < c → h.getD j 0 = zs.getD j 0 := by
  constructor
  · intro e j hj
    have g := congrArg (fun l => l.getD j 0) e
    simp only [P4.getD_take hj, mix_getD h zs H hl] at g
    rw [if_pos (by omega)] at g
    exact g
  · intro e
    apply P4.ext_getD (by rw [List.length_take, List.length_take, mix_len h zs H hl hz])
    intro j hj
    rw [List.length_take] at hj
    rw [P4.getD_take (by omega), P4.getD_take (by omega), mix_getD h zs H hl, if_pos (by omega)]
    exact e j (by omega)
theorem mix_drop (h zs : List Int) (H c : Nat) (hl : h.length = H) (hz : H ≤ zs.length) : (h ++ zs.drop H).drop c = zs.drop c ↔ ∀ j, c ≤ j → j < H → h.getD j 0 = zs.getD j 0 := by
  constructor
  · intro e j hj hj2
    have g := congrArg (fun l => l.getD (j - c) 0) e
    simp only [P4.getD_drop, mix_getD h zs H hl] at g
    rw [show c + (j - c) = j by omega, if_pos hj2] at g
    exact g
  · intro e
    apply P4.ext_getD (by rw [List.length_drop, List.length_drop, mix_len h zs H hl hz])
    intro j _
    rw [P4.getD_drop, P4.getD_drop, mix_getD h zs H hl]
    split
    · exact e _ (by omega) (by assumption)
    · rfl
theorem mix_same (h zs : List Int) (H : Nat) (hl : h.length = H) (hz : H ≤ zs.length) : h ++ zs.drop H = zs ↔ ∀ j, j < H → h.getD j 0 = zs.getD j 0 := by
  have := mix_drop h zs H 0 hl hz
  simp only [List.drop_zero, Nat.zero_le, true_implies] at this
  exact this
theorem udp_eb (zs : List Int) (over : Int) (ho : SM.Oct zs) (h1 : 8 ≤ zs.length) (h2 : zs.length ≤ 308) : eb (rdz 17 zs) over (zs.drop 8) = hdU (zs.getD 0 0 * 256 + zs.getD 1 0) (zs.getD 2 0 * 256 + zs.getD 3 0) zs.length (sck (rdz 17 zs) over (zs.drop 8)) ++ zs.drop 8 := by
  obtain ⟨e0, e1, e2, -⟩ := rdz_udp zs
  have hd : (zs.drop 8).length = zs.length - 8 := List.length_drop
  rw [eb_udp _ _ _ (okg_udp zs ho _ (by omega)) (by rw [e0]; decide), e1, e2, hd, show (8 : Int) + ((zs.length - 8 : Nat) : Int) = (zs.length : Int) by omega]
theorem udp_like (zs : List Int) (over : Int) (ho : SM.Oct zs) (h1 : 8 ≤ zs.length) (h2 : zs.length ≤ 308) : ((eb (rdz 17 zs) over (zs.drop 8)).take 6 = zs.take 6 ∧ (eb (rdz 17 zs) over (zs.drop 8)).drop 8 = zs.drop 8) ↔ P4.wd zs 4 = (zs.length : Int) := by
  rw [udp_eb zs over ho h1 h2]
  generalize sck (rdz 17 zs) over (zs.drop 8) = C
  rw [mix_take _ zs 8 6 rfl h1 (by omega), mix_drop _ zs 8 8 rfl h1]
  have o0 := ho 0; have o1 := ho 1; have o2 := ho 2; have o3 := ho 3; have o4 := ho 4; have o5 := ho 5
  constructor
  · rintro ⟨e, -⟩
    have e4 := e 4 (by omega)
    have e5 := e 5 (by omega)
    simp only [hdU, List.getD_cons_zero, List.getD_cons_succ] at e4 e5
    unfold P4.wd
    simp only [Nat.reduceAdd]
    omega
  · intro e
    unfold P4.wd at e
    simp only [Nat.reduceAdd] at e
    refine ⟨fun j hj => ?_, fun j _ _ => by omega⟩
    rcases (by omega : j = 0 ∨ j = 1 ∨ j = 2 ∨ j = 3 ∨ j = 4 ∨ j = 5) with rfl | rfl | rfl | rfl | rfl | rfl <;> simp only [hdU, List.getD_cons_zero, List.getD_cons_succ] <;> omega
theorem udp_same (zs : List Int) (over : Int) (ho : SM.Oct zs) (h1 : 8 ≤ zs.length) (h2 : zs.length ≤ 308) (hov : up 65535 over = true) (he : P4.wd zs 4 = (zs.length : Int)) : eb (rdz 17 zs) over (zs.drop 8) = zs ↔ P4.wd zs 6 = sck (rdz 17 zs) over (zs.drop 8) := by
  rw [udp_eb zs over ho h1 h2]
  have hC := sck_in (rdz 17 zs) over (zs.drop 8) (P4.oct_drop _ ho _) hov
  generalize sck (rdz 17 zs) over (zs.drop 8) = C at hC
  rw [mix_same _ zs 8 rfl h1]
  have o0 := ho 0; have o1 := ho 1; have o2 := ho 2; have o3 := ho 3; have o4 := ho 4; have o5 := ho 5; have o6 := ho 6; have o7 := ho 7
  unfold P4.wd at he ⊢
  simp only [Nat.reduceAdd] at he ⊢
  constructor
  · intro e
    have e6 := e 6 (by omega)
    have e7 := e 7 (by omega)
    simp only [hdU, List.getD_cons_zero, List.getD_cons_succ] at e6 e7
    omega
  · intro e j hj
    rcases (by omega : j = 0 ∨ j = 1 ∨ j = 2 ∨ j = 3 ∨ j = 4 ∨ j = 5 ∨ j = 6 ∨ j = 7) with rfl | rfl | rfl | rfl | rfl | rfl | rfl | rfl <;> simp only [hdU, List.getD_cons_zero, List.getD_cons_succ] <;> omega
theorem tcp_eb (zs : List Int) (over : Int) (ho : SM.Oct zs) (h1 : 20 ≤ zs.length) (h2 : zs.length ≤ 320) (h13 : zs.getD 13 0 ≤ 31) : eb (rdz 6 zs) over (zs.drop 20) = hdT (zs.getD 0 0 * 256 + zs.getD 1 0) (zs.getD 2 0 * 256 + zs.getD 3 0) (((zs.getD 4 0 * 256 + zs.getD 5 0) * 256 + zs.getD 6 0) * 256 + zs.getD 7 0) (((zs.getD 8 0 * 256 + zs.getD 9 0) * 256 + zs.getD 10 0) * 256 + zs.getD 11 0) (zs.getD 13 0) (zs.getD 14 0 * 256 + zs.getD 15 0) (sck (rdz 6 zs) over (zs.drop 20)) ++ zs.drop 20 := by
  obtain ⟨e0, e1, e2, e3, e4, e5, e6⟩ := rdz_tcp zs
  have hd : (zs.drop 20).length = zs.length - 20 := List.length_drop
  rw [eb_tcp _ _ _ ((okg_tcp zs ho _ (by omega)).2 h13) e0, e1, e2, e3, e4, e5, e6]
theorem tcp_like (zs : List Int) (over : Int) (ho : SM.Oct zs) (h1 : 20 ≤ zs.length) (h2 : zs.length ≤ 320) (h13 : zs.getD 13 0 ≤ 31) : ((eb (rdz 6 zs) over (zs.drop 20)).take 16 = zs.take 16 ∧ (eb (rdz 6 zs) over (zs.drop 20)).drop 18 = zs.drop 18) ↔ zs.getD 12 0 = 80 ∧ zs.getD 13 0 ≤ 31 ∧ P4.wd zs 18 = 0 := by
  rw [tcp_eb zs over ho h1 h2 h13]
  generalize sck (rdz 6 zs) over (zs.drop 20) = C
  rw [mix_take _ zs 20 16 rfl h1 (by omega), mix_drop _ zs 20 18 rfl h1]
  have o0 := ho 0; have o1 := ho 1; have o2 := ho 2; have o3 := ho 3; have o4 := ho 4; have o5 := ho 5; have o6 := ho 6; have o7 := ho 7
  have o8 := ho 8; have o9 := ho 9; have o10 := ho 10; have o11 := ho 11; have o12 := ho 12; have o13 := ho 13; have o14 := ho 14; have o15 := ho 15; have o18 := ho 18; have o19 := ho 19
  unfold P4.wd
  simp only [Nat.reduceAdd]
  constructor
  · rintro ⟨e, e'⟩
    have e12 := e 12 (by omega)
    have e18 := e' 18 (by omega) (by omega)
    have e19 := e' 19 (by omega) (by omega)
    simp only [hdT, List.getD_cons_zero, List.getD_cons_succ] at e12 e18 e19
    omega
  · intro e
    refine ⟨fun j hj => ?_, fun j hj hj2 => ?_⟩
    · rcases (by omega : j = 0 ∨ j = 1 ∨ j = 2 ∨ j = 3 ∨ j = 4 ∨ j = 5 ∨ j = 6 ∨ j = 7 ∨ j = 8 ∨ j = 9 ∨ j = 10 ∨ j = 11 ∨ j = 12 ∨ j = 13 ∨ j = 14 ∨ j = 15) with rfl | rfl | rfl | rfl | rfl | rfl | rfl | rfl | rfl | rfl | rfl | rfl | rfl | rfl | rfl | rfl <;> simp only [hdT, List.getD_cons_zero, List.getD_cons_succ] <;> omega
    · rcases (by omega : j = 18 ∨ j = 19) with rfl | rfl <;> simp only [hdT, List.getD_cons_zero, List.getD_cons_succ] <;> omega
theorem tcp_same (zs : List Int) (over : Int) (ho : SM.Oct zs) (h1 : 20 ≤ zs.length) (h2 : zs.length ≤ 320) (hov : up 65535 over = true) (he : zs.getD 12 0 = 80 ∧ zs.getD 13 0 ≤ 31 ∧ P4.wd zs 18 = 0) : eb (rdz 6 zs) over (zs.drop 20) = zs ↔ P4.wd zs 16 = sck (rdz 6 zs) over (zs.drop 20) := by
  rw [tcp_eb zs over ho h1 h2 he.2.1]
  have hC := sck_in (rdz 6 zs) over (zs.drop 20) (P4.oct_drop _ ho _) hov
  generalize sck (rdz 6 zs) over (zs.drop 20) = C at hC
  rw [mix_same _ zs 20 rfl h1]
  have o0 := ho 0; have o1 := ho 1; have o2 := ho 2; have o3 := ho 3; have o4 := ho 4; have o5 := ho 5; have o6 := ho 6; have o7 := ho 7
  have o8 := ho 8; have o9 := ho 9; have o10 := ho 10; have o11 := ho 11; have o12 := ho 12; have o13 := ho 13; have o14 := ho 14; have o15 := ho 15; have o16 := ho 16; have o17 := ho 17; have o18 := ho 18; have o19 := ho 19
  unfold P4.wd at he ⊢
  simp only [Nat.reduceAdd] at he ⊢
  constructor
  · intro e
    have e16 := e 16 (by omega)
    have e17 := e 17 (by omega)
    simp only [hdT, List.getD_cons_zero, List.getD_cons_succ] at e16 e17
    omega
  · intro e j hj
    rcases (by omega : j = 0 ∨ j = 1 ∨ j = 2 ∨ j = 3 ∨ j = 4 ∨ j = 5 ∨ j = 6 ∨ j = 7 ∨ j = 8 ∨ j = 9 ∨ j = 10 ∨ j = 11 ∨ j = 12 ∨ j = 13 ∨ j = 14 ∨ j = 15 ∨ j = 16 ∨ j = 17 ∨ j = 18 ∨ j = 19) with rfl | rfl | rfl | rfl | rfl | rfl | rfl | rfl | rfl | rfl | rfl | rfl | rfl | rfl | rfl | rfl | rfl | rfl | rfl | rfl <;> simp only [hdT, List.getD_cons_zero, List.getD_cons_succ] <;> omega
end Go.Proofs.YtkhahbghmdccaaaGreatDoor
