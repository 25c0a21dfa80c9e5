/- The document's own SegFault, by a contract. The document's own size, Packed4 and Packed6, by contracts. The document's own Packed6, by a contract. -/
import Derived.Test.YtkhahbghmdccaaaGreatDoorR23
import Derived.Below
import Derived.OpenShut
import Derived.Test.YtkhahbghmdccaaaGreatDoorProg
import Derived.WalkKit
import Derived.LaidEql
import Derived.BigQuiet
import Derived.Laws.AppendOwnNone
import Derived.Laws.MakeOwn
import Derived.Deep.RegionLaw
import Derived.Lib.Bytes
import Derived.Deep.MidRow
import Derived.Laws.ResultCell
import Derived.Deep.CutBlock
import Derived.Deep.QuietTactic
import Derived.OwnWalk
import Derived.Deep.RegionHeld3
import Derived.Deep.DrawnRows
import Derived.Test.YtkhahbghmdccaaaGreatDoorR04
import Derived.Test.YtkhahbghmdccaaaGreatDoorR05
import Derived.Test.YtkhahbghmdccaaaGreatDoorR07
import Derived.Test.YtkhahbghmdccaaaGreatDoorR16
import Derived.Test.YtkhahbghmdccaaaGreatDoorR19
import Derived.Test.YtkhahbghmdccaaaGreatDoorR21
namespace Go.Proofs.YtkhahbghmdccaaaGreatDoor
open Go.RowKit
theorem sf_1 (z : List Int) (len : Nat) (h : ¬ ((el z 0 = 6 ∨ el z 0 = 17) ∧ ((0 ≤ el z 1 ∧ el z 1 ≤ 65535) ∧ (0 ≤ el z 2 ∧ el z 2 ≤ 65535)))) : sf z len = 1 := by
  unfold sf
  rw [if_pos]
  rw [← ups2, ← kn_iff] at h
  cases h1 : kn (el z 0)
  · rfl
  · cases h2 : ups 65535 [el z 1, el z 2]
    · rfl
    · exact absurd ⟨h1, h2⟩ h
theorem sf_t (z : List Int) (len : Nat) (h6 : el z 0 = 6) (h1 : up 65535 (el z 1) = true) (h2 : up 65535 (el z 2) = true) : sf z len = if os z = false then 1 else if 300 < len then 3 else 0 := by
  unfold sf
  rw [if_neg, if_pos h6]
  rw [(kn_iff _).2 (.inl h6), (ups2 _ _ _).2 ⟨up_true h1, up_true h2⟩]
  decide
theorem sf_u (z : List Int) (len : Nat) (h17 : el z 0 = 17) (h1 : up 65535 (el z 1) = true) (h2 : up 65535 (el z 2) = true) : sf z len = if ups 0 [el z 3, el z 4, el z 5, el z 6] = false then 2 else if 300 < len then 3 else 0 := by
  unfold sf
  rw [if_neg, if_neg (by omega)]
  rw [(kn_iff _).2 (.inr h17), (ups2 _ _ _).2 ⟨up_true h1, up_true h2⟩]
  decide
theorem os_no (z : List Int) (h : ¬ (((0 ≤ el z 3 ∧ el z 3 ≤ 4294967295) ∧ (0 ≤ el z 4 ∧ el z 4 ≤ 4294967295)) ∧ (0 ≤ el z 5 ∧ el z 5 ≤ 31) ∧ (0 ≤ el z 6 ∧ el z 6 ≤ 65535))) : os z = false := Bool.eq_false_iff.2 (fun h' => h ((os_iff z).1 h'))
theorem zs_no (z : List Int) (h : ¬ (el z 3 = 0 ∧ el z 4 = 0 ∧ el z 5 = 0 ∧ el z 6 = 0)) : ups 0 [el z 3, el z 4, el z 5, el z 6] = false := Bool.eq_false_iff.2 (fun h' => h (by have := (ups4 0 _ _ _ _).1 h'; omega))
set_option maxRecDepth 100000 in
set_option maxHeartbeats 8000000 in
theorem rfault_none (z : List Int) (a : Option Addr) (len cap : Nat) (w : World) (_hm : len ≤ maxLen) (h6 : ¬ el z 0 = 6) (h17 : ¬ el z 0 = 17) :
    Calls Tryz.prog 57 #[.agg (sgC z a len cap)] w fun e w' => e = .returned (.int .i64 (sf z len)) ∧ Below w.heap.size w w' := by
  unfold maxLen at _hm
  have HB := hide (al_below w (.cells (sgC z a len cap) 39))
  have HP := hide (sg_new w z a len cap)
  obtain ⟨R, hR⟩ : ∃ R, R = sf z len := ⟨_, rfl⟩
  rw [← hR]
  have HR := hide (show R = 1 by rw [hR, sf_1 z len (by omega)])
  have n6 : (el z 0 != 6) = true := by simpa using h6
  have n17 : (el z 0 != 17) = true := by simpa using h17
  clear hR h6 h17
  go_enter Tryz.func57, Tryz.ntmps57
  go_upto_region 1 with fail
  generalize w.alloc (.cells (sgC z a len cap) 39) = W at HB HP ⊢
  have l0 := HP.out.c0
  have l1 := HP.out.c1
  have l2 := HP.out.c2
  have l3 := HP.out.c3
  have l4 := HP.out.c4
  have l5 := HP.out.c5
  have l6 := HP.out.c6
  have l7 := HP.out.c7
  go_wp2_with (go_at_call 26; refine (sgword_any _ _).mono ?_; rintro e w' ⟨rfl, hw⟩; rw [hw]; clear hw w')
  go_ret
  exact ⟨by rw [HR.out]; rfl, HB.out⟩
set_option maxRecDepth 100000 in
set_option maxHeartbeats 8000000 in
theorem rfault_port (z : List Int) (a : Option Addr) (len cap : Nat) (w : World) (_hm : len ≤ maxLen) (h : el z 0 = 6 ∨ el z 0 = 17) (hp : up 65535 (el z 1) = false ∨ up 65535 (el z 2) = false) :
    Calls Tryz.prog 57 #[.agg (sgC z a len cap)] w fun e w' => e = .returned (.int .i64 (sf z len)) ∧ Below w.heap.size w w' := by
  unfold maxLen at _hm
  have HB := hide (al_below w (.cells (sgC z a len cap) 39))
  have HP := hide (sg_new w z a len cap)
  obtain ⟨R, hR⟩ : ∃ R, R = sf z len := ⟨_, rfl⟩
  rw [← hR]
  have HR := hide (show R = 1 by
    rw [hR, sf_1 z len (fun h' => ?_)]
    have a1 := (up_iff _ _).2 h'.2.1
    have a2 := (up_iff _ _).2 h'.2.2
    rw [a1, a2] at hp
    rcases hp with h | h <;> cases h)
  clear hR
  have n6 : (el z 0 != 6) = decide (el z 0 = 17) := by
    rcases h with h | h <;> rw [h] <;> rfl
  generalize hu1 : up 65535 (el z 1) = u1 at hp
  rcases h with h | h
  case' inl =>
    have k6 : (el z 0 != 6) = false := by rw [h]; rfl
    have n17 : (el z 0 != 17) = true := by rw [h]; rfl
  case' inr =>
    have k6 : (el z 0 != 6) = true := by rw [h]; rfl
    have n17 : (el z 0 != 17) = false := by rw [h]; rfl
  all_goals
    clear n6 h
    cases u1
    · clear hp
      go_enter Tryz.func57, Tryz.ntmps57
      go_upto_region 1 with fail
      generalize w.alloc (.cells (sgC z a len cap) 39) = W at HB HP ⊢
      have l0 := HP.out.c0
      have l1 := HP.out.c1
      have l2 := HP.out.c2
      have l3 := HP.out.c3
      have l4 := HP.out.c4
      have l5 := HP.out.c5
      have l6 := HP.out.c6
      have l7 := HP.out.c7
      go_wp2_with (go_at_call 26; refine (sgword_any _ _).mono ?_; rintro e w' ⟨rfl, hw⟩; rw [hw]; clear hw w')
      go_ret
      exact ⟨by rw [HR.out]; rfl, HB.out⟩
    · have hu2 : up 65535 (el z 2) = false := by simpa using hp
      clear hp
      go_enter Tryz.func57, Tryz.ntmps57
      go_upto_region 1 with fail
      generalize w.alloc (.cells (sgC z a len cap) 39) = W at HB HP ⊢
      have l0 := HP.out.c0
      have l1 := HP.out.c1
      have l2 := HP.out.c2
      have l3 := HP.out.c3
      have l4 := HP.out.c4
      have l5 := HP.out.c5
      have l6 := HP.out.c6
      have l7 := HP.out.c7
      go_wp2_with (go_at_call 26; refine (sgword_any _ _).mono ?_; rintro e w' ⟨rfl, hw⟩; rw [hw]; clear hw w')
      go_ret
      exact ⟨by rw [HR.out]; rfl, HB.out⟩
set_option maxRecDepth 100000 in
set_option maxHeartbeats 8000000 in
theorem rfault_tcp (z : List Int) (a : Option Addr) (len cap : Nat) (w : World) (hm : len ≤ maxLen) (h6 : el z 0 = 6) (hu1 : up 65535 (el z 1) = true) (hu2 : up 65535 (el z 2) = true) :
    Calls Tryz.prog 57 #[.agg (sgC z a len cap)] w fun e w' => e = .returned (.int .i64 (sf z len)) ∧ Below w.heap.size w w' := by
  unfold maxLen at hm
  have HB := hide (al_below w (.cells (sgC z a len cap) 39))
  have HP := hide (sg_new w z a len cap)
  obtain ⟨R, hR⟩ : ∃ R, R = sf z len := ⟨_, rfl⟩
  rw [← hR]
  rw [sf_t z len h6 hu1 hu2] at hR
  have k6 : (el z 0 != 6) = false := by rw [h6]; rfl
  have e17 : (el z 0 == 17) = false := by rw [h6]; rfl
  have n17 : (el z 0 != 17) = true := by rw [h6]; rfl
  generalize hu6 : up 65535 (el z 6) = u6
  clear h6
  go_enter Tryz.func57, Tryz.ntmps57
  go_upto_region 1 with fail
  generalize w.alloc (.cells (sgC z a len cap) 39) = W at HB HP ⊢
  have l0 := HP.out.c0
  have l1 := HP.out.c1
  have l2 := HP.out.c2
  have l3 := HP.out.c3
  have l4 := HP.out.c4
  have l5 := HP.out.c5
  have l6 := HP.out.c6
  have l7 := HP.out.c7
  go_upto_region 8 with (go_at_call 26; refine (sgword_any _ _).mono ?_; rintro e w' ⟨rfl, hw⟩; rw [hw]; clear hw w')
  by_cases c0 : el z 3 < 0
  · have HR := hide (show R = 1 by rw [hR, if_pos (os_no z (by omega))])
    clear hR
    go_wp2
    go_ret
    exact ⟨by rw [HR.out]; rfl, HB.out⟩
  · skip
    by_cases c1 : 4294967295 < el z 3
    · have HR := hide (show R = 1 by rw [hR, if_pos (os_no z (by omega))])
      clear hR
      go_wp2
      go_ret
      exact ⟨by rw [HR.out]; rfl, HB.out⟩
    · skip
      by_cases c2 : el z 4 < 0
      · have HR := hide (show R = 1 by rw [hR, if_pos (os_no z (by omega))])
        clear hR
        go_wp2
        go_ret
        exact ⟨by rw [HR.out]; rfl, HB.out⟩
      · skip
        by_cases c3 : 4294967295 < el z 4
        · have HR := hide (show R = 1 by rw [hR, if_pos (os_no z (by omega))])
          clear hR
          go_wp2
          go_ret
          exact ⟨by rw [HR.out]; rfl, HB.out⟩
        · skip
          by_cases c4 : el z 5 < 0
          · have HR := hide (show R = 1 by rw [hR, if_pos (os_no z (by omega))])
            clear hR
            go_wp2
            go_ret
            exact ⟨by rw [HR.out]; rfl, HB.out⟩
          · skip
            by_cases c5 : 31 < el z 5
            · have HR := hide (show R = 1 by rw [hR, if_pos (os_no z (by omega))])
              clear hR
              go_wp2
              go_ret
              exact ⟨by rw [HR.out]; rfl, HB.out⟩
            · skip
              cases u6
              · have HR := hide (show R = 1 by rw [hR, if_pos (os_no z (fun h => by have := (up_iff 65535 (el z 6)).2 h.2.2; rw [hu6] at this; cases this))])
                clear hR
                go_wp2
                go_ret
                exact ⟨by rw [HR.out]; rfl, HB.out⟩
              · have ho : os z = true := (os_iff z).2 ⟨⟨⟨by omega, by omega⟩, by omega, by omega⟩, ⟨by omega, by omega⟩, up_true hu6⟩
                rw [if_neg (by rw [ho]; decide)] at hR
                clear ho
                by_cases hl : 300 < len
                · have HR := hide (show R = 3 by rw [hR, if_pos hl])
                  clear hR
                  go_wp2
                  go_ret
                  exact ⟨by rw [HR.out]; rfl, HB.out⟩
                · have HR := hide (show R = 0 by rw [hR, if_neg hl])
                  clear hR
                  go_wp2
                  go_ret
                  exact ⟨by rw [HR.out]; rfl, HB.out⟩
set_option maxRecDepth 100000 in
set_option maxHeartbeats 8000000 in
theorem rfault_udp (z : List Int) (a : Option Addr) (len cap : Nat) (w : World) (hm : len ≤ maxLen) (h17 : el z 0 = 17) (hu1 : up 65535 (el z 1) = true) (hu2 : up 65535 (el z 2) = true) :
    Calls Tryz.prog 57 #[.agg (sgC z a len cap)] w fun e w' => e = .returned (.int .i64 (sf z len)) ∧ Below w.heap.size w w' := by
  unfold maxLen at hm
  have HB := hide (al_below w (.cells (sgC z a len cap) 39))
  have HP := hide (sg_new w z a len cap)
  obtain ⟨R, hR⟩ : ∃ R, R = sf z len := ⟨_, rfl⟩
  rw [← hR]
  rw [sf_u z len h17 hu1 hu2] at hR
  have k6 : (el z 0 != 6) = true := by rw [h17]; rfl
  have e17 : (el z 0 == 17) = true := by rw [h17]; rfl
  have n17 : (el z 0 != 17) = false := by rw [h17]; rfl
  clear h17
  go_enter Tryz.func57, Tryz.ntmps57
  go_upto_region 1 with fail
  generalize w.alloc (.cells (sgC z a len cap) 39) = W at HB HP ⊢
  have l0 := HP.out.c0
  have l1 := HP.out.c1
  have l2 := HP.out.c2
  have l3 := HP.out.c3
  have l4 := HP.out.c4
  have l5 := HP.out.c5
  have l6 := HP.out.c6
  have l7 := HP.out.c7
  go_upto_region 5 with (go_at_call 26; refine (sgword_any _ _).mono ?_; rintro e w' ⟨rfl, hw⟩; rw [hw]; clear hw w')
  by_cases c3 : el z 3 = 0
  case neg =>
    have n3 : (el z 3 != 0) = true := by simpa using c3
    have HR := hide (show R = 2 by rw [hR, if_pos (zs_no z (by omega))])
    clear hR
    go_wp2
    go_ret
    exact ⟨by rw [HR.out]; rfl, HB.out⟩
  have n3 : (el z 3 != 0) = false := by rw [c3]; rfl
  by_cases c4 : el z 4 = 0
  case neg =>
    have n4 : (el z 4 != 0) = true := by simpa using c4
    have HR := hide (show R = 2 by rw [hR, if_pos (zs_no z (by omega))])
    clear hR
    go_wp2
    go_ret
    exact ⟨by rw [HR.out]; rfl, HB.out⟩
  have n4 : (el z 4 != 0) = false := by rw [c4]; rfl
  by_cases c5 : el z 5 = 0
  case neg =>
    have n5 : (el z 5 != 0) = true := by simpa using c5
    have HR := hide (show R = 2 by rw [hR, if_pos (zs_no z (by omega))])
    clear hR
    go_wp2
    go_ret
    exact ⟨by rw [HR.out]; rfl, HB.out⟩
  have n5 : (el z 5 != 0) = false := by rw [c5]; rfl
  by_cases c6 : el z 6 = 0
  case neg =>
    have n6 : (el z 6 != 0) = true := by simpa using c6
    have HR := hide (show R = 2 by rw [hR, if_pos (zs_no z (by omega))])
    clear hR
    go_wp2
    go_ret
    exact ⟨by rw [HR.out]; rfl, HB.out⟩
  have n6 : (el z 6 != 0) = false := by rw [c6]; rfl
  have hu6 : up 65535 (el z 6) = true := (up_iff _ _).2 (by omega)
  rw [if_neg (by rw [(ups4 0 _ _ _ _).2 (by omega)]; decide)] at hR
  rw [c3] at l3
  rw [c4] at l4
  rw [c5] at l5
  rw [c6] at l6 hu6
  have z3 : ((0 : Int) != 0) = false := rfl
  clear n3 n4 n5 n6 c3 c4 c5 c6
  by_cases hl : 300 < len
  · have HR := hide (show R = 3 by rw [hR, if_pos hl])
    clear hR
    go_wp2_with (go_at_call 26; refine (sgword_any _ _).mono ?_; rintro e w' ⟨rfl, hw⟩; rw [hw]; clear hw w')
    go_ret
    exact ⟨by rw [HR.out]; rfl, HB.out⟩
  · have HR := hide (show R = 0 by rw [hR, if_neg hl])
    clear hR
    go_wp2_with (go_at_call 26; refine (sgword_any _ _).mono ?_; rintro e w' ⟨rfl, hw⟩; rw [hw]; clear hw w')
    go_ret
    exact ⟨by rw [HR.out]; rfl, HB.out⟩
theorem rfault_any (z : List Int) (a : Option Addr) (len cap : Nat) (w : World) (hm : len ≤ maxLen) :
    Calls Tryz.prog 57 #[.agg (sgC z a len cap)] w fun e w' => e = .returned (.int .i64 (sf z len)) ∧ Below w.heap.size w w' := by
  by_cases h : el z 0 = 6 ∨ el z 0 = 17
  · cases h1 : up 65535 (el z 1)
    · exact rfault_port z a len cap w hm h (.inl h1)
    · cases h2 : up 65535 (el z 2)
      · exact rfault_port z a len cap w hm h (.inr h2)
      · rcases h with h | h
        · exact rfault_tcp z a len cap w hm h h1 h2
        · exact rfault_udp z a len cap w hm h h1 h2
  · exact rfault_none z a len cap w hm (fun h' => h (.inl h')) (fun h' => h (.inr h'))
end Go.Proofs.YtkhahbghmdccaaaGreatDoor

namespace Go.Proofs.YtkhahbghmdccaaaGreatDoor
open Go.RowKit
theorem Row8.pastx {B : Nat} {w w' : World} (on : Only B w w') (hB : ∀ j x, w.cell? ⟨B, j, none⟩ ≠ some (.int .u8 x)) {a : Option Addr} {n c : Nat} {zs : List Int} (r : Row8 w a n c zs) : Row8 w' a n c zs := by
  refine ⟨r.1, r.2.1, r.2.2.1, r.2.2.2.1, fun hp => ?_⟩
  obtain ⟨b, off, e, hc⟩ := r.2.2.2.2 hp
  refine ⟨b, off, e, fun i hi => ?_⟩
  have h := hc i hi
  have hne : b ≠ B := by
    rintro rfl
    exact hB _ _ h
  rw [← h]
  unfold World.cell?
  rw [on.2.2.2.2 b hne]
theorem V4.PkIn.no8 {B : Nat} {s d t k i : Int} {a : Option Addr} {len cap : Nat} {w : World} (p : V4.PkIn B s d t k i a len cap w) (j : Nat) (x : Int) : w.cell? ⟨B, j, none⟩ ≠ some (.int .u8 x) := by
  rw [cell_of_row w B j _ _ _ p]
  by_cases h : j < 6
  · rcases (by omega : j = 0 ∨ j = 1 ∨ j = 2 ∨ j = 3 ∨ j = 4 ∨ j = 5) with rfl | rfl | rfl | rfl | rfl | rfl <;> intro h <;> cases h
  · rw [Array.getElem?_eq_none (by show 6 ≤ j; omega)]; intro h; cases h
theorem V6.PkIn.no8 {B : Nat} {s d : List Int} {h k : Int} {a : Option Addr} {len cap : Nat} {w : World} (p : V6.PkIn B s d h k a len cap w) (j : Nat) (x : Int) : w.cell? ⟨B, j, none⟩ ≠ some (.int .u8 x) := by
  rw [p.cellAt]
  by_cases h : j < 19
  · rcases (by omega : j = 0 ∨ j = 1 ∨ j = 2 ∨ j = 3 ∨ j = 4 ∨ j = 5 ∨ j = 6 ∨ j = 7 ∨ j = 8 ∨ j = 9 ∨ j = 10 ∨ j = 11 ∨ j = 12 ∨ j = 13 ∨ j = 14 ∨ j = 15 ∨ j = 16 ∨ j = 17 ∨ j = 18) with rfl | rfl | rfl | rfl | rfl | rfl | rfl | rfl | rfl | rfl | rfl | rfl | rfl | rfl | rfl | rfl | rfl | rfl | rfl <;> intro h <;> cases h
  · rw [Array.getElem?_eq_none (by show 19 ≤ j; omega)]; intro h; cases h
def pstore (x y : Value) : Sem Unit := Instr.storeAt 65 x y
theorem pstore_shut (x y : Value) : Instr.storeAt 65 x y = pstore x y := rfl
theorem V4.PkIn.held {B : Nat} {s0 d0 t0 k0 i0 : Int} {a0 : Option Addr} {len0 cap0 : Nat} {w : World} (p : V4.PkIn B s0 d0 t0 k0 i0 a0 len0 cap0 w) (s d t k i : Int) (a : Option Addr) (len cap : Nat) :
    ∃ w', (pstore (.pointer (some ⟨B, 0, none⟩)) (.agg #[.int .i64 s, .int .i64 d, .int .i64 t, .int .i64 k, .int .i64 i, .slice a len cap])).run Tryz.prog w = .ok () w' ∧ V4.PkIn B s d t k i a len cap w' ∧ Only B w w' := by
  refine ⟨w.setRow B #[.int .i64 s, .int .i64 d, .int .i64 t, .int .i64 k, .int .i64 i, .slice a len cap], ?_, p.stored s d t k i a len cap, only_setRow _ _ _⟩
  unfold pstore
  simp only [Instr.storeAt, Instr.sureAddr, Sem.run_bind, Sem.run_pure, Result.andThen_ok]
  exact run_storeVar_row w B 65 65 _ #[.int .i64 s, .int .i64 d, .int .i64 t, .int .i64 k, .int .i64 i, .slice a len cap] p (by kernel_rfl) rfl (by simp [Value.oneCell'])
theorem V4.pk_result {fn : Func} {p : Tmp} (h : fn.results = #[.cell p 65]) (tmps : Array Value) (w : World) (B : Nat) (s d t k i : Int) (a : Option Addr) (len cap : Nat)
    (ht : tmps.getD p undef = .pointer (some ⟨B, 0, none⟩)) (hg : V4.PkIn B s d t k i a len cap w) : (results fn tmps).run Tryz.prog w = .ok (V4.pk s d t k i a len cap) w :=
  results_cell_row h tmps w B 65 _ (0, 0) _ ht hg Tryz.underlying65 rfl (by kernel_rfl)
theorem rover6_ok (s d : List Int) (k n : Int) (w : World) (hs : Ok6 s) (hd : Ok6 d) (hk : up 255 k = true) (hn : up 320 n = true) :
    Calls Tryz.prog 104 #[.agg (sixC s), .agg (sixC d), .int .i64 k, .int .i64 n] w fun e w' => e = .returned (.tuple #[.int .i64 (o6 s d k n), .int .i64 0]) ∧ Below w.heap.size w w' :=
  rover6_any s d k n w hs hd _ _ (fun W a1 c1 a2 c2 r1 r2 => roverof_ok a1 16 c1 _ a2 16 c2 _ k n W r1 r2 (by rw [List.length_append, by16_len, by16_len]; omega) hk hn)
theorem rover4_o (s d k n : Int) (w : World) (hs : up 4294967295 s = true) (hd : up 4294967295 d = true) (hk : up 255 k = true) (hn : up 320 n = true) :
    Calls Tryz.prog 73 #[.int .i64 s, .int .i64 d, .int .i64 k, .int .i64 n] w fun e w' => e = .returned (.tuple #[.int .i64 (o4 s d k n), .int .i64 0]) ∧ Below w.heap.size w w' := rover4_ok s d k n w hs hd hk hn
theorem sbx_len (z : List Int) (C : Int) (data : List Int) : (sbx z C data).length = hn (el z 0) + data.length := by
  unfold sbx hn hdT hdU
  split <;> simp <;> omega
set_option maxRecDepth 100000 in
set_option maxHeartbeats 1000000 in
theorem size_any (z : List Int) (a : Option Addr) (len cap : Nat) (data : List Int) (w : World) (h : Okg z len) (hr : Row8 w a len cap data) (N : Nat) (hN : hn (el z 0) + len = N) :
    Calls Tryz.prog 82 #[.agg (sgC z a len cap)] w fun e w' => e = .returned (.int .i64 N) ∧ Below w.heap.size w w' := by
  have HB := hide (al_below w (.cells (sgC z a len cap) 39))
  have HP := hide (sg_new w z a len cap)
  have HS := hide (fun W hr' => rbytes_any z a len cap 0 data W h (by omega) hr')
  have HL := hide (show (sbx z 0 data).length = N by rw [sbx_len, hr.1]; exact hN)
  have HR := hide hr
  generalize sbx z 0 data = X at HS HL
  clear hr h hN
  go_enter Tryz.func82, Tryz.ntmps82
  go_upto_region 1 with fail
  generalize w.alloc (.cells (sgC z a len cap) 39) = W at HB HP ⊢
  go_wp2_with (first
    | (refine at_load rfl (.tmp 1) rfl rfl HP.out ?_)
    | (go_at_call 83; refine (HS.out _ (HR.out.below HB.out)).mono ?_; rintro e w1 ⟨v1, rfl, o1, hb1⟩; obtain ⟨a1, c1, hv1, -, -⟩ := o1.row8; rw [HL.out] at hv1; subst hv1; replace HB := hide (bt HB.out hb1); clear hb1 o1))
  go_ret
  exact ⟨rfl, HB.out⟩
def K4 (w : World) (z : List Int) (a : Option Addr) (len cap : Nat) (W : World) : Prop := SgIn w.heap.size z a len cap W ∧ V4.PkIn (w.heap.size + 1) 0 0 0 0 0 none 0 0 W ∧ Below w.heap.size w W
theorem K4.kept {w : World} {z : List Int} {a : Option Addr} {len cap : Nat} {W W' : World} (h : K4 w z a len cap W) (hb : Below W.heap.size W W') : K4 w z a len cap W' := ⟨h.1.kept hb, h.2.1.kept hb, bt h.2.2 hb⟩
theorem K4.start (w : World) (z : List Int) (a : Option Addr) (len cap : Nat) : K4 w z a len cap ((w.alloc (.cells (sgC z a len cap) 39)).alloc (.cells V4.zero4 65)) := by
  have b1 := al_below w (.cells (sgC z a len cap) 39)
  have b2 := al_below (w.alloc (.cells (sgC z a len cap) 39)) (.cells V4.zero4 65)
  have p2 := V4.zero_new (w.alloc (.cells (sgC z a len cap) 39))
  rw [World.size_alloc] at p2
  exact ⟨(sg_new w z a len cap).kept b2, p2, bt b1 b2⟩
attribute [local go_sem ↓] gload_shut pstore_shut Go.wp_at_zero Go.wp_at_succ
set_option maxRecDepth 100000 in
set_option maxHeartbeats 4000000 in
theorem packed4_any (z : List Int) (a : Option Addr) (len cap : Nat) (data : List Int) (src dst ttl : Int) (w : World) (h : Okg z len) (hr : Row8 w a len cap data) (h1 : up 4294967295 src = true) (h2 : up 4294967295 dst = true) (N : Nat) (hN : hn (el z 0) + len = N) (hN2 : N ≤ 320) :
    Calls Tryz.prog 29 #[.agg (sgC z a len cap), .int .i64 src, .int .i64 dst, .int .i64 ttl] w fun e w' => ∃ a1 c1, e = .returned (V4.pk src dst ttl (el z 0) 0 a1 N c1) ∧ Row8 w' a1 N c1 (eb z (o4 src dst (el z 0) N) data) ∧ Below w.heap.size w w' := by
  have HV := hide (K4.start w z a len cap)
  have hk : up 255 (el z 0) = true := by rcases (kn_iff _).1 (okg_kn h) with e | e <;> rw [e] <;> rfl
  have HZ := hide (fun W (hb : Below w.heap.size w W) => size_any z a len cap data W h (hr.below hb) N hN)
  have HO := hide (fun W => rover4_o src dst (el z 0) N W h1 h2 hk (decide_eq_true (by omega)))
  have hi := o4_in src dst (el z 0) N
  have hlen := hr.1
  generalize o4 src dst (el z 0) N = O at HO hi ⊢
  have HC := hide (fun W (hb : Below w.heap.size w W) => rcheck_any z a len cap O data W h hi (hr.below hb))
  have HY := hide (fun W (hb : Below w.heap.size w W) => rbytes_any z a len cap (sck z O data) data W h (sck_in z O data hr.2.2.1 hi) (hr.below hb))
  rw [sbx_eb z O data (by rw [hlen]; exact h)] at HY
  have HL := hide (show (eb z O data).length = N by rw [eb_len, hlen]; exact hN)
  generalize eb z O data = E at HY HL ⊢
  generalize sck z O data = C at HC HY
  unfold V4.zero4 at HV
  clear h hr h1 h2 hN hk hi hlen
  go_enter Tryz.func29, Tryz.ntmps29
  go_upto_region 1 with fail
  generalize (World.alloc _ _).alloc _ = W0 at HV ⊢
  replace HV := hide (HV.out.kept (Below.refl _ _).drew)
  have lg := HV.out.1.gl
  have l0 := HV.out.1.c0
  go_region_held3 (fun w' => w'.cell? ⟨w.heap.size, 0, none⟩ = some (.int .i64 (el z 0)) ∧ (gload (.pointer (some ⟨w.heap.size, 0, none⟩))).run Tryz.prog w' = .ok (.agg (sgC z a len cap)) w')
    (first
      | go_keep
      | exact ⟨HV.out.1.c0, HV.out.1.gl⟩)
    (first
      | (go_at_call 82; refine (HZ.out _ HV.out.2.2).mono ?_; rintro e w1 ⟨rfl, hb1⟩; replace HV := hide (HV.out.kept hb1); clear hb1 lg l0; have lg := HV.out.1.gl; have l0 := HV.out.1.c0)
      | (go_at_call 73; refine (HO.out _).mono ?_; rintro e w2 ⟨rfl, hb2⟩; replace HV := hide (HV.out.kept hb2); clear hb2 lg l0; have lg := HV.out.1.gl; have l0 := HV.out.1.c0))
  clear lg l0
  go_upto_region 2 with fail
  replace HV := hide (HV.out.kept (Below.refl _ _).drew)
  have lg := HV.out.1.gl
  have l0 := HV.out.1.c0
  go_region_held3 (fun w' => w'.cell? ⟨w.heap.size, 0, none⟩ = some (.int .i64 (el z 0)) ∧ (gload (.pointer (some ⟨w.heap.size, 0, none⟩))).run Tryz.prog w' = .ok (.agg (sgC z a len cap)) w')
    (first
      | go_keep
      | exact ⟨HV.out.1.c0, HV.out.1.gl⟩
      | exact ⟨HS5.out.c0, HS5.out.gl⟩)
    (first
      | (go_at_call 84; refine (HC.out _ HV.out.2.2).mono ?_; rintro e w3 ⟨rfl, hb3⟩; replace HV := hide (HV.out.kept hb3); clear hb3 lg l0; have lg := HV.out.1.gl; have l0 := HV.out.1.c0)
      | (go_at_call 83; refine (HY.out _ HV.out.2.2).mono ?_; rintro e w4 ⟨v4, rfl, own4, hb4⟩; obtain ⟨a4, c4, hv4, hr4, -⟩ := own4.row8; rw [HL.out] at hv4 hr4; subst hv4; replace HV := hide (HV.out.kept hb4); obtain ⟨w5, hst, p5, on5⟩ := HV.out.2.1.held src dst ttl (el z 0) 0 a4 N c4; replace hr4 := hide (Row8.pastx on5 HV.out.2.1.no8 hr4); replace p5 := hide p5; have HS5 := hide (on5.sg HV.out.1 (by omega)); have HB := hide (on5.below HV.out.2.2 (Nat.le_succ _)); clear on5 hb4 own4 lg l0; have lg := HV.out.1.gl; have l0 := HV.out.1.c0))
  go_wp2_with fail
  try simp only [Exit.inBlock, Exit.then]
  refine bodyPost_ret (V4.pk_result rfl _ _ (w.heap.size + 1) src dst ttl (el z 0) 0 a4 N c4 rfl p5.out) rfl ?_
  exact ⟨a4, c4, rfl, hr4.out, HB.out⟩
end Go.Proofs.YtkhahbghmdccaaaGreatDoor

namespace Go.Proofs.YtkhahbghmdccaaaGreatDoor
open Go.RowKit
def K6 (w : World) (z : List Int) (a : Option Addr) (len cap : Nat) (x y : List Int) (W : World) : Prop := SgIn w.heap.size z a len cap W ∧ SixIn (w.heap.size + 1) x W ∧ SixIn (w.heap.size + 1 + 1) y W ∧ V6.PkIn (w.heap.size + 1 + 1 + 1) [] [] 0 0 none 0 0 W ∧ Below w.heap.size w W
theorem K6.kept {w : World} {z : List Int} {a : Option Addr} {len cap : Nat} {x y : List Int} {W W' : World} (h : K6 w z a len cap x y W) (hb : Below W.heap.size W W') : K6 w z a len cap x y W' := ⟨h.1.kept hb, h.2.1.kept hb, h.2.2.1.kept hb, h.2.2.2.1.kept hb, bt h.2.2.2.2 hb⟩
theorem K6.start (w : World) (z : List Int) (a : Option Addr) (len cap : Nat) (x y : List Int) : K6 w z a len cap x y ((((w.alloc (.cells (sgC z a len cap) 39)).alloc (.cells (sixC x) 23)).alloc (.cells (sixC y) 23)).alloc (.cells V6.zero6 101)) := by
  have s1 : (w.alloc (.cells (sgC z a len cap) 39)).heap.size = w.heap.size + 1 := World.size_alloc _ _
  have b1 : Below w.heap.size w (w.alloc (.cells (sgC z a len cap) 39)) := al_below w _
  have p1 := sg_new w z a len cap
  generalize w.alloc (.cells (sgC z a len cap) 39) = w1 at s1 b1 p1 ⊢
  have s2 : (w1.alloc (.cells (sixC x) 23)).heap.size = w.heap.size + 1 + 1 := by rw [World.size_alloc, s1]
  have b2 : Below w1.heap.size w1 (w1.alloc (.cells (sixC x) 23)) := al_below w1 _
  have p2 : SixIn w1.heap.size x (w1.alloc (.cells (sixC x) 23)) := six_new x w1
  rw [s1] at p2
  generalize w1.alloc (.cells (sixC x) 23) = w2 at s2 b2 p2 ⊢
  have s3 : (w2.alloc (.cells (sixC y) 23)).heap.size = w.heap.size + 1 + 1 + 1 := by rw [World.size_alloc, s2]
  have b3 : Below w2.heap.size w2 (w2.alloc (.cells (sixC y) 23)) := al_below w2 _
  have p3 : SixIn w2.heap.size y (w2.alloc (.cells (sixC y) 23)) := six_new y w2
  rw [s2] at p3
  generalize w2.alloc (.cells (sixC y) 23) = w3 at s3 b3 p3 ⊢
  have b4 : Below w3.heap.size w3 (w3.alloc (.cells V6.zero6 101)) := al_below w3 _
  have p4 := V6.zero_new w3
  rw [s3] at p4
  exact ⟨((p1.kept b2).kept b3).kept b4, (p2.kept b3).kept b4, p3.kept b4, p4, bt (bt (bt b1 b2) b3) b4⟩
def Ld (b : Nat) (z : List Int) (a : Option Addr) (len cap : Nat) (x y : List Int) (W : World) : Prop :=
  W.cell? ⟨b, 0, none⟩ = some (.int .i64 (el z 0)) ∧ (gload (.pointer (some ⟨b, 0, none⟩))).run Tryz.prog W = .ok (.agg (sgC z a len cap)) W ∧
  (hload (.pointer (some ⟨b + 1, 0, none⟩))).run Tryz.prog W = .ok (.agg #[.int .i64 (el x 0), .int .i64 (el x 1), .int .i64 (el x 2), .int .i64 (el x 3), .int .i64 (el x 4), .int .i64 (el x 5), .int .i64 (el x 6), .int .i64 (el x 7)]) W ∧
  (hload (.pointer (some ⟨b + 1 + 1, 0, none⟩))).run Tryz.prog W = .ok (.agg #[.int .i64 (el y 0), .int .i64 (el y 1), .int .i64 (el y 2), .int .i64 (el y 3), .int .i64 (el y 4), .int .i64 (el y 5), .int .i64 (el y 6), .int .i64 (el y 7)]) W
theorem ld_of {b : Nat} {z : List Int} {a : Option Addr} {len cap : Nat} {x y : List Int} {W : World} (h1 : SgIn b z a len cap W) (h2 : SixIn (b + 1) x W) (h3 : SixIn (b + 1 + 1) y W) : Ld b z a len cap x y W := ⟨h1.c0, h1.gl, h2.hl, h3.hl⟩
attribute [local go_sem ↓] gload_shut hload_shut V6.hstore_shut Go.wp_at_zero Go.wp_at_succ
set_option maxRecDepth 100000 in
set_option maxHeartbeats 8000000 in
theorem packed6_any (z : List Int) (a : Option Addr) (len cap : Nat) (data : List Int) (x y : List Int) (hop : Int) (w : World) (h : Okg z len) (hr : Row8 w a len cap data) (h1 : Ok6 x) (h2 : Ok6 y) (N : Nat) (hN : hn (el z 0) + len = N) (hN2 : N ≤ 320) :
    Calls Tryz.prog 55 #[.agg (sgC z a len cap), .agg (sixC x), .agg (sixC y), .int .i64 hop] w fun e w' => ∃ a1 c1, e = .returned (V6.pk x y hop (el z 0) a1 N c1) ∧ Row8 w' a1 N c1 (eb z (o6 x y (el z 0) N) data) ∧ Below w.heap.size w w' := by
  have HV := hide (K6.start w z a len cap x y)
  have hk : up 255 (el z 0) = true := by rcases (kn_iff _).1 (okg_kn h) with e | e <;> rw [e] <;> rfl
  have HZ := hide (fun W (hb : Below w.heap.size w W) => size_any z a len cap data W h (hr.below hb) N hN)
  have HO := hide (fun W => rover6_ok x y (el z 0) N W h1 h2 hk (decide_eq_true (by omega)))
  have hi := o6_in x y (el z 0) N h1 h2
  have hlen := hr.1
  generalize o6 x y (el z 0) N = O at HO hi ⊢
  have HC := hide (fun W (hb : Below w.heap.size w W) => rcheck_any z a len cap O data W h hi (hr.below hb))
  have HY := hide (fun W (hb : Below w.heap.size w W) => rbytes_any z a len cap (sck z O data) data W h (sck_in z O data hr.2.2.1 hi) (hr.below hb))
  rw [sbx_eb z O data (by rw [hlen]; exact h)] at HY
  have HL := hide (show (eb z O data).length = N by rw [eb_len, hlen]; exact hN)
  generalize eb z O data = E at HY HL ⊢
  generalize sck z O data = C at HC HY
  unfold V6.zero6 at HV
  unfold sixC at HO
  clear h hr h1 h2 hN hk hi hlen
  go_enter Tryz.func55, Tryz.ntmps55
  go_upto_region 1 with fail
  generalize (World.alloc (World.alloc (World.alloc _ _) _) _).alloc _ = W0 at HV ⊢
  replace HV := hide (HV.out.kept (Below.refl _ _).drew)
  obtain ⟨l0, lg, lx, ly⟩ := ld_of HV.out.1 HV.out.2.1 HV.out.2.2.1
  go_region_held3 (fun w' => w'.cell? ⟨w.heap.size, 0, none⟩ = some (.int .i64 (el z 0)) ∧ (gload (.pointer (some ⟨w.heap.size, 0, none⟩))).run Tryz.prog w' = .ok (.agg (sgC z a len cap)) w' ∧
      (hload (.pointer (some ⟨w.heap.size + 1, 0, none⟩))).run Tryz.prog w' = .ok (.agg #[.int .i64 (el x 0), .int .i64 (el x 1), .int .i64 (el x 2), .int .i64 (el x 3), .int .i64 (el x 4), .int .i64 (el x 5), .int .i64 (el x 6), .int .i64 (el x 7)]) w' ∧
      (hload (.pointer (some ⟨w.heap.size + 1 + 1, 0, none⟩))).run Tryz.prog w' = .ok (.agg #[.int .i64 (el y 0), .int .i64 (el y 1), .int .i64 (el y 2), .int .i64 (el y 3), .int .i64 (el y 4), .int .i64 (el y 5), .int .i64 (el y 6), .int .i64 (el y 7)]) w')
    (first
      | go_keep
      | exact ld_of HV.out.1 HV.out.2.1 HV.out.2.2.1)
    (first
      | (go_at_call 82; refine (HZ.out _ HV.out.2.2.2.2).mono ?_; rintro e w1 ⟨rfl, hb1⟩; replace HV := hide (HV.out.kept hb1); clear hb1 l0 lg lx ly; obtain ⟨l0, lg, lx, ly⟩ := ld_of HV.out.1 HV.out.2.1 HV.out.2.2.1)
      | (go_at_call 104; refine (HO.out _).mono ?_; rintro e w2 ⟨rfl, hb2⟩; replace HV := hide (HV.out.kept hb2); clear hb2 l0 lg lx ly; obtain ⟨l0, lg, lx, ly⟩ := ld_of HV.out.1 HV.out.2.1 HV.out.2.2.1))
  clear l0 lg lx ly
  go_upto_region 2 with fail
  replace HV := hide (HV.out.kept (Below.refl _ _).drew)
  obtain ⟨l0, lg, lx, ly⟩ := ld_of HV.out.1 HV.out.2.1 HV.out.2.2.1
  go_region_held3 (fun w' => w'.cell? ⟨w.heap.size, 0, none⟩ = some (.int .i64 (el z 0)) ∧ (gload (.pointer (some ⟨w.heap.size, 0, none⟩))).run Tryz.prog w' = .ok (.agg (sgC z a len cap)) w' ∧
      (hload (.pointer (some ⟨w.heap.size + 1, 0, none⟩))).run Tryz.prog w' = .ok (.agg #[.int .i64 (el x 0), .int .i64 (el x 1), .int .i64 (el x 2), .int .i64 (el x 3), .int .i64 (el x 4), .int .i64 (el x 5), .int .i64 (el x 6), .int .i64 (el x 7)]) w' ∧
      (hload (.pointer (some ⟨w.heap.size + 1 + 1, 0, none⟩))).run Tryz.prog w' = .ok (.agg #[.int .i64 (el y 0), .int .i64 (el y 1), .int .i64 (el y 2), .int .i64 (el y 3), .int .i64 (el y 4), .int .i64 (el y 5), .int .i64 (el y 6), .int .i64 (el y 7)]) w')
    (first
      | go_keep
      | exact ld_of HV.out.1 HV.out.2.1 HV.out.2.2.1
      | exact HS5.out)
    (first
      | (go_at_call 84; refine (HC.out _ HV.out.2.2.2.2).mono ?_; rintro e w3 ⟨rfl, hb3⟩; replace HV := hide (HV.out.kept hb3); clear hb3 l0 lg lx ly; obtain ⟨l0, lg, lx, ly⟩ := ld_of HV.out.1 HV.out.2.1 HV.out.2.2.1)
      | (go_at_call 83; refine (HY.out _ HV.out.2.2.2.2).mono ?_; rintro e w4 ⟨v4, rfl, own4, hb4⟩; obtain ⟨a4, c4, hv4, hr4, -⟩ := own4.row8; rw [HL.out] at hv4 hr4; subst hv4; replace HV := hide (HV.out.kept hb4); obtain ⟨w5, hst, p5, on5⟩ := HV.out.2.2.2.1.held x y hop (el z 0) a4 N c4; unfold V6.pkC at hst; replace hr4 := hide (Row8.pastx on5 HV.out.2.2.2.1.no8 hr4); replace p5 := hide p5; have HS5 := hide (ld_of (on5.sg HV.out.1 (by omega)) (on5.six HV.out.2.1 (by omega)) (on5.six HV.out.2.2.1 (by omega))); have HB := hide (on5.below HV.out.2.2.2.2 (by omega)); clear on5 hb4 own4 l0 lg lx ly; obtain ⟨l0, lg, lx, ly⟩ := ld_of HV.out.1 HV.out.2.1 HV.out.2.2.1))
  go_wp2_with fail
  try simp only [Exit.inBlock, Exit.then]
  refine bodyPost_ret (V6.pk_result rfl _ _ (w.heap.size + 1 + 1 + 1) x y hop (el z 0) a4 N c4 rfl p5.out) rfl ?_
  exact ⟨a4, c4, rfl, hr4.out, HB.out⟩
end Go.Proofs.YtkhahbghmdccaaaGreatDoor
