/- Package seg: Check, by a contract. -/
import Derived.Test.YtbbbcfihnjidaaaDoorShSeg
namespace Go.Proofs.YtbbbcfihnjidaaaDoor
open Go.RowKit

/-- what is wrong with a segment: 0 where nothing is. -/
def sf (z : List Int) (len : Nat) : Int :=
  if (kn (el z 0) && ups 65535 [el z 1, el z 2]) = false then 1
  else if el z 0 = 6 then (if os z = false then 1 else if 300 < len then 3 else 0)
  else (if ups 0 [el z 3, el z 4, el z 5, el z 6] = false then 2 else if 300 < len then 3 else 0)
/-- an error's value: nil, or the number. -/
def ev (n : Int) : Value := if n = 0 then .nilIface else err n
attribute [local go_sem ↓] gload_shut
set_option maxRecDepth 100000 in
set_option maxHeartbeats 4000000 in
theorem chk_any (z : List Int) (a : Option Addr) (len cap : Nat) (w : World) (hm : len ≤ maxLen) :
    Calls Tryd.prog 24 #[.agg (sgC z a len cap)] w fun e w' => e = .returned (ev (sf z len)) ∧ Below w.heap.size w w' := by
  unfold maxLen at hm
  have HB := hide (al_below w (.cells (sgC z a len cap) 36))
  have HP := hide (sg_new w z a len cap)
  obtain ⟨E, hE⟩ : ∃ E, E = ev (sf z len) := ⟨_, rfl⟩
  rw [← hE]
  unfold sf at hE
  generalize hk : kn (el z 0) = uk at hE
  generalize hu : ups 65535 [el z 1, el z 2] = u1 at hE
  cases uk
  · have HE := hide (show E = err 1 from hE)
    clear hE
    unfold err at HE
    go_enter Tryd.func24, Tryd.ntmps24
    go_upto_region 1 with fail
    generalize w.alloc (.cells (sgC z a len cap) 36) = W at HB HP ⊢
    have l0 := HP.out.c0
    go_wp2_with (go_at_call 32; refine (known_any _ _).mono ?_; rintro e w' ⟨rfl, rfl⟩)
    go_ret
    exact ⟨by rw [HE.out]; rfl, HB.out⟩
  · cases u1
    · have HE := hide (show E = err 1 from hE)
      clear hE
      unfold err at HE
      go_enter Tryd.func24, Tryd.ntmps24
      go_upto_region 1 with fail
      generalize w.alloc (.cells (sgC z a len cap) 36) = W at HB HP ⊢
      have l0 := HP.out.c0
      have l1 := HP.out.c1
      have l2 := HP.out.c2
      go_wp2_with (first
        | (go_at_call 32; refine (known_any _ _).mono ?_; rintro e w' ⟨rfl, rfl⟩)
        | (go_at_call 33; (with_reducible refine (upto2b _ _ _ _).mono ?_); rintro e w1 ⟨rfl, hb1⟩; replace HB := hide (bt HB.out hb1); clear hb1 l0 l1 l2))
      go_ret
      exact ⟨by rw [HE.out]; rfl, HB.out⟩
    · rw [if_neg (by decide)] at hE
      generalize ho : os z = uo at hE
      generalize hn : ups 0 [el z 3, el z 4, el z 5, el z 6] = un at hE
      have HS := hide (fun W => stream_any z a len cap W)
      rw [ho] at HS
      replace hn := hide hn
      go_enter Tryd.func24, Tryd.ntmps24
      go_upto_region 1 with fail
      generalize w.alloc (.cells (sgC z a len cap) 36) = W at HB HP ⊢
      have l0 := HP.out.c0
      have l1 := HP.out.c1
      have l2 := HP.out.c2
      go_upto_region 3 with (first
        | (go_at_call 32; refine (known_any _ _).mono ?_; rintro e w' ⟨rfl, rfl⟩)
        | (go_at_call 33; (with_reducible refine (upto2b _ _ _ _).mono ?_); rintro e w1 ⟨rfl, hb1⟩; replace HB := hide (bt HB.out hb1); replace HP := hide (HP.out.kept hb1); clear hb1 l0 l1 l2))
      clear hu
      have l0 := HP.out.c0
      have l9 := HP.out.gl
      by_cases h6 : el z 0 = 6
      · rw [if_pos h6] at hE
        have e6 : (el z 0 == 6) = true := by simpa using h6
        have e17 : (el z 0 == 17) = false := by rw [h6]; rfl
        clear h6 hk
        cases uo
        · have HE := hide (show E = err 1 from hE)
          clear hE
          unfold err at HE
          go_wp2_with (go_at_call 34; refine (HS.out _).mono ?_; rintro e w2 ⟨rfl, hb2⟩; replace HB := hide (bt HB.out hb2); clear hb2 l0 l9)
          go_ret
          exact ⟨by rw [HE.out]; rfl, HB.out⟩
        · rw [if_neg (by decide)] at hE
          by_cases hl : 300 < len
          · have HE := hide (show E = err 3 by rw [hE, if_pos hl]; rfl)
            clear hE
            unfold err at HE
            go_wp2_with (go_at_call 34; refine (HS.out _).mono ?_; rintro e w2 ⟨rfl, hb2⟩; replace HB := hide (bt HB.out hb2); replace HP := hide (HP.out.kept hb2); clear hb2 l0 l9; have l0 := HP.out.c0; have l7 := HP.out.c7)
            go_ret
            exact ⟨by rw [HE.out]; rfl, HB.out⟩
          · have HE := hide (show E = .nilIface by rw [hE, if_neg hl]; rfl)
            clear hE
            go_wp2_with (go_at_call 34; refine (HS.out _).mono ?_; rintro e w2 ⟨rfl, hb2⟩; replace HB := hide (bt HB.out hb2); replace HP := hide (HP.out.kept hb2); clear hb2 l0 l9; have l0 := HP.out.c0; have l7 := HP.out.c7)
            go_ret
            exact ⟨by rw [HE.out]; rfl, HB.out⟩
      · rw [if_neg h6] at hE
        have e6 : (el z 0 == 6) = false := by simpa using h6
        have e17 : (el z 0 == 17) = true := by unfold kn at hk; rw [e6] at hk; simpa using hk
        have l3 := HP.out.c3
        have l4 := HP.out.c4
        have l5 := HP.out.c5
        have l6 := HP.out.c6
        replace hn := hn.out
        clear h6 hk l9 ho HS
        cases un
        · have HE := hide (show E = err 2 from hE)
          clear hE
          unfold err at HE
          go_wp2_with (go_at_call 33; (with_reducible refine (upto4b _ _ _ _ _ _).mono ?_); rintro e w1 ⟨rfl, hb1⟩; replace HB := hide (bt HB.out hb1); clear hb1 l0 l3 l4 l5 l6)
          go_ret
          exact ⟨by rw [HE.out]; rfl, HB.out⟩
        · rw [if_neg (by decide)] at hE
          by_cases hl : 300 < len
          · have HE := hide (show E = err 3 by rw [hE, if_pos hl]; rfl)
            clear hE
            unfold err at HE
            go_wp2_with (go_at_call 33; (with_reducible refine (upto4b _ _ _ _ _ _).mono ?_); rintro e w1 ⟨rfl, hb1⟩; replace HB := hide (bt HB.out hb1); replace HP := hide (HP.out.kept hb1); clear hb1 l0 l3 l4 l5 l6; have l7 := HP.out.c7)
            go_ret
            exact ⟨by rw [HE.out]; rfl, HB.out⟩
          · have HE := hide (show E = .nilIface by rw [hE, if_neg hl]; rfl)
            clear hE
            go_wp2_with (go_at_call 33; (with_reducible refine (upto4b _ _ _ _ _ _).mono ?_); rintro e w1 ⟨rfl, hb1⟩; replace HB := hide (bt HB.out hb1); replace HP := hide (HP.out.kept hb1); clear hb1 l0 l3 l4 l5 l6; have l7 := HP.out.c7)
            go_ret
            exact ⟨by rw [HE.out]; rfl, HB.out⟩
end Go.Proofs.YtbbbcfihnjidaaaDoor
