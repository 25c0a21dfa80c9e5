/- Package seg: Check, by a contract. Package seg: unchecked and checkOf, by contracts. Package seg: checkOf and Encode, by contracts. Package seg: number and read, by contracts. -/
import Derived.Test.YtkhahbghmdccaaaGreatDoorR02
import Derived.Below
import Derived.OpenShut
import Derived.Test.YtkhahbghmdccaaaGreatDoorProg
import Derived.WalkKit
import Derived.LaidEql
import Derived.BigQuiet
import Derived.Laws.AppendOwnNone
import Derived.Laws.MakeOwn
import Derived.Deep.RegionLaw
import Derived.Lib.Bytes
import Derived.Deep.MidRow
import Derived.Laws.ResultCell
import Derived.Deep.CutBlock
import Derived.Deep.QuietTactic
import Derived.OwnWalk
import Derived.Deep.RegionHeld3
import Derived.Deep.DrawnRows
namespace Go.Proofs.YtkhahbghmdccaaaGreatDoor
open Go.RowKit
def sf (z : List Int) (len : Nat) : Int :=
  if (kn (el z 0) && ups 65535 [el z 1, el z 2]) = false then 1
  else if el z 0 = 6 then (if os z = false then 1 else if 300 < len then 3 else 0)
  else (if ups 0 [el z 3, el z 4, el z 5, el z 6] = false then 2 else if 300 < len then 3 else 0)
def ev (n : Int) : Value := if n = 0 then .nilIface else err n
attribute [local go_sem ↓] gload_shut
set_option maxRecDepth 100000 in
set_option maxHeartbeats 4000000 in
theorem chk_any (z : List Int) (a : Option Addr) (len cap : Nat) (w : World) (hm : len ≤ maxLen) :
    Calls Tryz.prog 140 #[.agg (sgC z a len cap)] w fun e w' => e = .returned (ev (sf z len)) ∧ Below w.heap.size w w' := by
  unfold maxLen at hm
  have HB := hide (al_below w (.cells (sgC z a len cap) 39))
  have HP := hide (sg_new w z a len cap)
  obtain ⟨E, hE⟩ : ∃ E, E = ev (sf z len) := ⟨_, rfl⟩
  rw [← hE]
  unfold sf at hE
  generalize hk : kn (el z 0) = uk at hE
  generalize hu : ups 65535 [el z 1, el z 2] = u1 at hE
  cases uk
  · have HE := hide (show E = err 1 from hE)
    clear hE
    unfold err at HE
    go_enter Tryz.func140, Tryz.ntmps140
    go_upto_region 1 with fail
    generalize w.alloc (.cells (sgC z a len cap) 39) = W at HB HP ⊢
    have l0 := HP.out.c0
    go_wp2_with (go_at_call 186; refine (known_any _ _).mono ?_; rintro e w' ⟨rfl, rfl⟩)
    go_ret
    exact ⟨by rw [HE.out]; rfl, HB.out⟩
  · cases u1
    · have HE := hide (show E = err 1 from hE)
      clear hE
      unfold err at HE
      go_enter Tryz.func140, Tryz.ntmps140
      go_upto_region 1 with fail
      generalize w.alloc (.cells (sgC z a len cap) 39) = W at HB HP ⊢
      have l0 := HP.out.c0
      have l1 := HP.out.c1
      have l2 := HP.out.c2
      go_wp2_with (first
        | (go_at_call 186; refine (known_any _ _).mono ?_; rintro e w' ⟨rfl, rfl⟩)
        | (go_at_call 141; (with_reducible refine (upto2b _ _ _ _).mono ?_); rintro e w1 ⟨rfl, hb1⟩; replace HB := hide (bt HB.out hb1); clear hb1 l0 l1 l2))
      go_ret
      exact ⟨by rw [HE.out]; rfl, HB.out⟩
    · rw [if_neg (by decide)] at hE
      generalize ho : os z = uo at hE
      generalize hn : ups 0 [el z 3, el z 4, el z 5, el z 6] = un at hE
      have HS := hide (fun W => stream_any z a len cap W)
      rw [ho] at HS
      replace hn := hide hn
      go_enter Tryz.func140, Tryz.ntmps140
      go_upto_region 1 with fail
      generalize w.alloc (.cells (sgC z a len cap) 39) = W at HB HP ⊢
      have l0 := HP.out.c0
      have l1 := HP.out.c1
      have l2 := HP.out.c2
      go_upto_region 3 with (first
        | (go_at_call 186; refine (known_any _ _).mono ?_; rintro e w' ⟨rfl, rfl⟩)
        | (go_at_call 141; (with_reducible refine (upto2b _ _ _ _).mono ?_); rintro e w1 ⟨rfl, hb1⟩; replace HB := hide (bt HB.out hb1); replace HP := hide (HP.out.kept hb1); clear hb1 l0 l1 l2))
      clear hu
      have l0 := HP.out.c0
      have l9 := HP.out.gl
      by_cases h6 : el z 0 = 6
      · rw [if_pos h6] at hE
        have e6 : (el z 0 == 6) = true := by simpa using h6
        have e17 : (el z 0 == 17) = false := by rw [h6]; rfl
        clear h6 hk
        cases uo
        · have HE := hide (show E = err 1 from hE)
          clear hE
          unfold err at HE
          go_wp2_with (go_at_call 189; refine (HS.out _).mono ?_; rintro e w2 ⟨rfl, hb2⟩; replace HB := hide (bt HB.out hb2); clear hb2 l0 l9)
          go_ret
          exact ⟨by rw [HE.out]; rfl, HB.out⟩
        · rw [if_neg (by decide)] at hE
          by_cases hl : 300 < len
          · have HE := hide (show E = err 3 by rw [hE, if_pos hl]; rfl)
            clear hE
            unfold err at HE
            go_wp2_with (go_at_call 189; refine (HS.out _).mono ?_; rintro e w2 ⟨rfl, hb2⟩; replace HB := hide (bt HB.out hb2); replace HP := hide (HP.out.kept hb2); clear hb2 l0 l9; have l0 := HP.out.c0; have l7 := HP.out.c7)
            go_ret
            exact ⟨by rw [HE.out]; rfl, HB.out⟩
          · have HE := hide (show E = .nilIface by rw [hE, if_neg hl]; rfl)
            clear hE
            go_wp2_with (go_at_call 189; refine (HS.out _).mono ?_; rintro e w2 ⟨rfl, hb2⟩; replace HB := hide (bt HB.out hb2); replace HP := hide (HP.out.kept hb2); clear hb2 l0 l9; have l0 := HP.out.c0; have l7 := HP.out.c7)
            go_ret
            exact ⟨by rw [HE.out]; rfl, HB.out⟩
      · rw [if_neg h6] at hE
        have e6 : (el z 0 == 6) = false := by simpa using h6
        have e17 : (el z 0 == 17) = true := by unfold kn at hk; rw [e6] at hk; simpa using hk
        have l3 := HP.out.c3
        have l4 := HP.out.c4
        have l5 := HP.out.c5
        have l6 := HP.out.c6
        replace hn := hn.out
        clear h6 hk l9 ho HS
        cases un
        · have HE := hide (show E = err 2 from hE)
          clear hE
          unfold err at HE
          go_wp2_with (go_at_call 141; (with_reducible refine (upto4b _ _ _ _ _ _).mono ?_); rintro e w1 ⟨rfl, hb1⟩; replace HB := hide (bt HB.out hb1); clear hb1 l0 l3 l4 l5 l6)
          go_ret
          exact ⟨by rw [HE.out]; rfl, HB.out⟩
        · rw [if_neg (by decide)] at hE
          by_cases hl : 300 < len
          · have HE := hide (show E = err 3 by rw [hE, if_pos hl]; rfl)
            clear hE
            unfold err at HE
            go_wp2_with (go_at_call 141; (with_reducible refine (upto4b _ _ _ _ _ _).mono ?_); rintro e w1 ⟨rfl, hb1⟩; replace HB := hide (bt HB.out hb1); replace HP := hide (HP.out.kept hb1); clear hb1 l0 l3 l4 l5 l6; have l7 := HP.out.c7)
            go_ret
            exact ⟨by rw [HE.out]; rfl, HB.out⟩
          · have HE := hide (show E = .nilIface by rw [hE, if_neg hl]; rfl)
            clear hE
            go_wp2_with (go_at_call 141; (with_reducible refine (upto4b _ _ _ _ _ _).mono ?_); rintro e w1 ⟨rfl, hb1⟩; replace HB := hide (bt HB.out hb1); replace HP := hide (HP.out.kept hb1); clear hb1 l0 l3 l4 l5 l6; have l7 := HP.out.c7)
            go_ret
            exact ⟨by rw [HE.out]; rfl, HB.out⟩
end Go.Proofs.YtkhahbghmdccaaaGreatDoor

namespace Go.Proofs.YtkhahbghmdccaaaGreatDoor
open Go.RowKit
attribute [local go_sem ↓] Go.wp_at_zero Go.wp_at_succ
theorem write12 (W0 : World) (v : Value) (zs : List Int) (x y : Int) (B : Nat) (w : World) (hg : Gr W0 w v zs) (hl : Ints B [x, y] w) (hz : zs.length ≤ 1000000) :
    Calls Tryz.prog 180 #[v, .int .i64 1, .slice (some ⟨B, 0, none⟩) 2 2] w fun e w' => ∃ v', e = .returned v' ∧ Gr W0 w' v' (zs ++ wsn 1 [x, y] 2) :=
  write_any W0 v zs 1 B 2 [x, y] w hg hl rfl (by omega) (by omega) hz
theorem write23 (W0 : World) (v : Value) (zs : List Int) (x y u : Int) (B : Nat) (w : World) (hg : Gr W0 w v zs) (hl : Ints B [x, y, u] w) (hz : zs.length ≤ 1000000) :
    Calls Tryz.prog 180 #[v, .int .i64 2, .slice (some ⟨B, 0, none⟩) 3 3] w fun e w' => ∃ v', e = .returned v' ∧ Gr W0 w' v' (zs ++ wsn 2 [x, y, u] 3) :=
  write_any W0 v zs 2 B 3 [x, y, u] w hg hl rfl (by omega) (by omega) hz
theorem ints3 (w : World) (x y u : Int) : Ints w.heap.size [x, y, u] (w.alloc (.cells #[.int .i64 x, .int .i64 y, .int .i64 u] 3)) := ints_new w [x, y, u]
def ub (z : List Int) (data : List Int) : List Int :=
  if el z 0 = 6 then (((wsn 2 [el z 1, el z 2] 2 ++ wsn 4 [el z 3, el z 4] 2) ++ wsn 1 [80, el z 5] 2) ++ wsn 2 [el z 6, 0, 0] 3) ++ data
  else (wsn 2 [el z 1, el z 2] 2 ++ wsn 2 [8 + (data.length : Int), 0] 2) ++ data
set_option maxRecDepth 100000 in
set_option maxHeartbeats 4000000 in
theorem unc_tcp (z : List Int) (a : Option Addr) (len cap : Nat) (data : List Int) (w : World) (h6 : el z 0 = 6) (hl : len ≤ 300) (hr : Row8 w a len cap data) :
    Calls Tryz.prog 142 #[.agg (sgC z a len cap)] w fun e w' => ∃ v, e = .returned v ∧ Own w.heap.size w' v (ub z data) ∧ Below w.heap.size w w' := by
  have HB := hide (al_below w (.cells (sgC z a len cap) 39))
  have HP := hide (sg_new w z a len cap)
  have HU := hide (show ub z data = (((wsn 2 [el z 1, el z 2] 2 ++ wsn 4 [el z 3, el z 4] 2) ++ wsn 1 [80, el z 5] 2) ++ wsn 2 [el z 6, 0, 0] 3) ++ data from if_pos h6)
  have W1 := hide (fun W0 W B v zs hg hi hz => write22 W0 v zs (el z 1) (el z 2) B W hg hi hz)
  have W2 := hide (fun W0 W B v zs hg hi hz => write24 W0 v zs (el z 3) (el z 4) B W hg hi hz)
  have W3 := hide (fun W0 W B v zs hg hi hz => write12 W0 v zs 80 (el z 5) B W hg hi hz)
  have W4 := hide (fun W0 W B v zs hg hi hz => write23 W0 v zs (el z 6) 0 0 B W hg hi hz)
  have L1 := hide (wsn_len 2 [el z 1, el z 2] 2)
  have L2 := hide (wsn_len 4 [el z 3, el z 4] 2)
  have L3 := hide (wsn_len 1 [80, el z 5] 2)
  have L4 := hide (wsn_len 2 [el z 6, 0, 0] 3)
  generalize ub z data = U at HU ⊢
  generalize wsn 2 [el z 1, el z 2] 2 = Z1 at HU W1 L1
  generalize wsn 4 [el z 3, el z 4] 2 = Z2 at HU W2 L2
  generalize wsn 1 [80, el z 5] 2 = Z3 at HU W3 L3
  generalize wsn 2 [el z 6, 0, 0] 3 = Z4 at HU W4 L4
  have e6 : (el z 0 == 6) = true := by simpa using h6
  have HR := hide hr
  have HM := hide (show (((Z1 ++ Z2) ++ Z3) ++ Z4).length + len ≤ 1000000000 by
    have := L1.out; have := L2.out; have := L3.out; have := L4.out
    simp only [List.length_append]; omega)
  have M1 := hide (show Z1.length ≤ 1000000 by have := L1.out; omega)
  have M2 := hide (show (Z1 ++ Z2).length ≤ 1000000 by have := L1.out; have := L2.out; rw [List.length_append]; omega)
  have M3 := hide (show ((Z1 ++ Z2) ++ Z3).length ≤ 1000000 by have := L1.out; have := L2.out; have := L3.out; simp only [List.length_append]; omega)
  clear h6 hr L1 L2 L3 L4
  go_enter Tryz.func142, Tryz.ntmps142
  go_upto_region 1 with fail
  generalize w.alloc (.cells (sgC z a len cap) 39) = W at HB HP ⊢
  have l1 := HP.out.c1
  have l2 := HP.out.c2
  go_upto_region 2 with (go_at_call 180; refine (W1.out W _ _ _ [] ((Gr.nil W).below (al_below _ _)) (ints2 W _ _) (by simp)).mono ?_; rintro e w1 ⟨v1, rfl, hg1⟩; rw [List.nil_append] at hg1; replace hg1 := hide hg1; clear l1 l2)
  have HP1 := hide (HP.out.kept hg1.out.2)
  have l0 := HP1.out.c0
  have l3 := HP1.out.c3
  have l4 := HP1.out.c4
  go_upto_region 4 with (go_at_call 180; refine (W2.out W _ _ _ _ (hg1.out.below (al_below _ _)) (ints2 w1 _ _) M1.out).mono ?_; rintro e w2 ⟨v2, rfl, hg2⟩; replace hg2 := hide hg2; clear l0 l3 l4)
  have HP2 := hide (HP.out.kept hg2.out.2)
  have l5 := HP2.out.c5
  go_upto_region 5 with (go_at_call 180; refine (W3.out W _ _ _ _ (hg2.out.below (al_below _ _)) (ints2 w2 _ _) M2.out).mono ?_; rintro e w3 ⟨v3, rfl, hg3⟩; replace hg3 := hide hg3; clear l5)
  have HP3 := hide (HP.out.kept hg3.out.2)
  have l6 := HP3.out.c6
  go_upto_region 7 with (go_at_call 180; refine (W4.out W _ _ _ _ (hg3.out.below (al_below _ _)) (ints3 w3 _ _ _) M3.out).mono ?_; rintro e w4 ⟨v4, rfl, hg4⟩; replace hg4 := hide hg4; clear l6)
  have HP4 := hide (HP.out.kept hg4.out.2)
  have l7 := HP4.out.c7
  go_wp2_with (at_builtin; refine gr_app rfl (.tmp 40) (.tmp 42) rfl rfl hg4.out rfl ((HR.out.below HB.out).below hg4.out.2) HM.out ?_; intro v5 w5 hg5; replace hg5 := hide hg5; clear l7)
  go_ret
  exact ⟨v5, rfl, HU.out ▸ hg5.out.1.mono HB.out.size, HB.out.trans (hg5.out.2.mono HB.out.size)⟩
set_option maxRecDepth 100000 in
set_option maxHeartbeats 4000000 in
theorem unc_udp (z : List Int) (a : Option Addr) (len cap : Nat) (data : List Int) (w : World) (h6 : ¬ el z 0 = 6) (hl : len ≤ 300) (hr : Row8 w a len cap data) :
    Calls Tryz.prog 142 #[.agg (sgC z a len cap)] w fun e w' => ∃ v, e = .returned v ∧ Own w.heap.size w' v (ub z data) ∧ Below w.heap.size w w' := by
  have HB := hide (al_below w (.cells (sgC z a len cap) 39))
  have HP := hide (sg_new w z a len cap)
  have HU := hide (show ub z data = (wsn 2 [el z 1, el z 2] 2 ++ wsn 2 [8 + (len : Int), 0] 2) ++ data by rw [← hr.1]; exact if_neg h6)
  have W1 := hide (fun W0 W B v zs hg hi hz => write22 W0 v zs (el z 1) (el z 2) B W hg hi hz)
  have W2 := hide (fun W0 W B v zs hg hi hz => write22 W0 v zs (8 + (len : Int)) 0 B W hg hi hz)
  have L1 := hide (wsn_len 2 [el z 1, el z 2] 2)
  have L2 := hide (wsn_len 2 [8 + (len : Int), 0] 2)
  generalize ub z data = U at HU ⊢
  generalize wsn 2 [el z 1, el z 2] 2 = Z1 at HU W1 L1
  generalize wsn 2 [8 + (len : Int), 0] 2 = Z2 at HU W2 L2
  have e6 : (el z 0 == 6) = false := by simpa using h6
  have HH := hide (fun W => head_any (el z 0) W)
  rw [show hn (el z 0) = 8 by unfold hn; rw [if_neg h6]] at HH
  have HR := hide hr
  have HM := hide (show (Z1 ++ Z2).length + len ≤ 1000000000 by
    have := L1.out; have := L2.out
    simp only [List.length_append]; omega)
  have M1 := hide (show Z1.length ≤ 1000000 by have := L1.out; omega)
  have hq : IntKind.i64.wrap (8 + (len : Int)) = 8 + (len : Int) := by rw [IntKind.wrap_i64]; omega
  clear h6 hr L1 L2
  go_enter Tryz.func142, Tryz.ntmps142
  go_upto_region 1 with fail
  generalize w.alloc (.cells (sgC z a len cap) 39) = W at HB HP ⊢
  have l1 := HP.out.c1
  have l2 := HP.out.c2
  go_upto_region 2 with (go_at_call 180; refine (W1.out W _ _ _ [] ((Gr.nil W).below (al_below _ _)) (ints2 W _ _) (by simp)).mono ?_; rintro e w1 ⟨v1, rfl, hg1⟩; rw [List.nil_append] at hg1; replace hg1 := hide hg1; clear l1 l2)
  have HP1 := hide (HP.out.kept hg1.out.2)
  have l0 := HP1.out.c0
  have l7 := HP1.out.c7
  go_upto_region 6 with fail
  have hd : Below w1.heap.size w1 w1.drew := (Below.refl w1.heap.size w1).drew
  have hdal : Below w1.heap.size w1 (w1.drew.alloc (.cells #[.int .i64 (8 + (len : Int)), .int .i64 0] 3)) := bt hd (al_below w1.drew _)
  have HI := hide (show Ints w1.heap.size [8 + (len : Int), 0] (w1.drew.alloc (.cells #[.int .i64 (8 + (len : Int)), .int .i64 0] 3)) from ints2 w1.drew _ _)
  have HG1 := hide (hg1.out.below hdal)
  have HK := hide (fun w' (h : SgIn w.heap.size z a len cap w') => show w'.cell? ⟨w.heap.size, 0, none⟩ = some (.int .i64 (el z 0)) ∧ w'.cell? ⟨w.heap.size, 7, none⟩ = some (.slice a len cap) from ⟨h.c0, h.c7⟩)
  have HPd := hide (HP1.out.kept hd)
  clear hd hdal
  go_region_held3 (fun w' => w'.cell? ⟨w.heap.size, 0, none⟩ = some (.int .i64 (el z 0)) ∧ w'.cell? ⟨w.heap.size, 7, none⟩ = some (.slice a len cap))
    (first
      | go_keep
      | exact HK.out _ HPd.out
      | exact HK.out _ HP2.out)
    (first
      | (go_at_call 179; refine (HH.out _).mono ?_; rintro e w' ⟨rfl, rfl⟩)
      | (go_at_call 180; refine (W2.out W _ _ _ _ HG1.out HI.out M1.out).mono ?_; rintro e w2 ⟨v2, rfl, hg2⟩; have HP2 := hide (HP.out.kept hg2.2); replace hg2 := hide hg2))
  clear l0 l7
  have l7 := HP2.out.c7
  go_wp2_with (at_builtin; refine gr_app rfl (.tmp 40) (.tmp 42) rfl rfl hg2.out rfl ((HR.out.below HB.out).below hg2.out.2) HM.out ?_; intro v5 w5 hg5; replace hg5 := hide hg5; clear l7)
  go_ret
  exact ⟨v5, rfl, HU.out ▸ hg5.out.1.mono HB.out.size, HB.out.trans (hg5.out.2.mono HB.out.size)⟩
end Go.Proofs.YtkhahbghmdccaaaGreatDoor

namespace Go.Proofs.YtkhahbghmdccaaaGreatDoor
open Go.RowKit
attribute [local go_sem ↓] Go.wp_at_zero Go.wp_at_succ
theorem Own.set {base : Nat} {w : World} {g n c : Nat} {zs : List Int} (h : Own base w (.slice (some ⟨g, 0, none⟩) n c) zs) (j : Nat) (v : Int) (hv : 0 ≤ v ∧ v ≤ 255) : Own base (w.setCell ⟨g, j, none⟩ (.int .u8 v)) (.slice (some ⟨g, 0, none⟩) n c) (zs.set j v) := by
  refine ⟨SM.oct_set _ h.1 j v hv.1 hv.2, by simp, ?_⟩
  rcases h.2.2 with ⟨e, _⟩ | ⟨g', cap, cur, e, hb, hg, h1, h2, h3, h4⟩
  · cases e
  · injection e with e1 e2 e3
    cases e1
    subst e3
    refine .inr ⟨g, c, cur.setIfInBounds j (.int .u8 v), by rw [e2, List.length_set], hb, ?_, by rw [List.length_set]; exact h1, h2, by simpa using h3, ?_⟩
    · rw [setCell_eq_setRow w g j _ 5 (0, 0) (.int .u8 v) hg, setRow_heap w g _ _ 5 (0, 0) hg]
    · rw [List.length_set, Array.toList_setIfInBounds, List.map_set, ← h4, List.take_set]
theorem Own.cell {base : Nat} {w : World} {g n c : Nat} {zs : List Int} (h : Own base w (.slice (some ⟨g, 0, none⟩) n c) zs) (j : Nat) (hj : j < n) : w.cell? ⟨g, j, none⟩ = some (.int .u8 (zs.getD j 0)) ∧ w.frozen? ⟨g, j, none⟩ = false := by
  constructor
  · obtain ⟨_, _, _, _, h5⟩ := h.toRow
    obtain ⟨b, o, e, hc⟩ := h5 (by omega)
    cases e
    have := hc j hj
    rwa [Nat.zero_add] at this
  · rcases h.2.2 with ⟨e, _⟩ | ⟨g', cap, cur, e, hb, hg, h1, h2, h3, h4⟩
    · cases e
    · injection e with e1 e2 e3
      cases e1
      simp [World.frozen?, hg]
def ckg (k over T : Int) : Int := if k = 17 ∧ SM.fold (over + T) = 65535 then 65535 else 65535 - SM.fold (over + T)
theorem ckg_in (k over T : Int) (h0 : 0 ≤ over) (h1 : 0 ≤ T) : 0 ≤ ckg k over T ∧ ckg k over T ≤ 65535 := by
  have := SM.fold_bd (over + T) (by omega)
  unfold ckg
  split <;> omega
set_option maxHeartbeats 2000000 in
theorem checkof_any (k over : Int) (a : Option Addr) (n cap : Nat) (zs : List Int) (w : World) (hr : Row8 w a n cap zs) (hn : n ≤ 2000) (ho : up 65535 over = true) :
    Calls Tryz.prog 143 #[.int .i64 k, .slice a n cap, .int .i64 over] w fun e w' => e = .returned (.tuple #[.int .i64 (ckg k over (SM.fold (SM.tot zs n))), .nilIface]) ∧ Below w.heap.size w w' := by
  obtain ⟨ho0, ho1⟩ := up_true ho
  have hT := SM.fold_bd (SM.tot zs n) (SM.tot_bd zs hr.2.2.1 n).1
  have HOf := hide (fun W (h : Row8 W a n cap zs) => of_ok a n cap zs W h hn)
  have HR := hide hr
  clear hr ho
  generalize SM.fold (SM.tot zs n) = T at hT HOf ⊢
  have HAdd := hide (fun W => add_ok over T W ⟨⟨ho0, ho1⟩, hT⟩)
  have hS := SM.fold_bd (over + T) (by omega)
  obtain ⟨C, hC⟩ : ∃ C, C = ckg k over T := ⟨_, rfl⟩
  rw [← hC]
  unfold ckg at hC
  generalize SM.fold (over + T) = S at hS HAdd hC
  have HNot := hide (fun W => not_ok S W hS)
  by_cases hk : k = 17
  · have ek : (k == 17) = true := by simpa using hk
    by_cases hs : S = 65535
    · have es : (S == 65535) = true := by simpa using hs
      have HC := hide (show C = 65535 by rw [hC, if_pos ⟨hk, hs⟩])
      clear hC hk hs
      go_enter Tryz.func143, Tryz.ntmps143
      go_wp2_with (first
        | (go_at_call 182; refine (HOf.out _ HR.out).mono ?_; rintro e w1 ⟨rfl, rfl⟩)
        | (go_at_call 190; refine (HAdd.out _).mono ?_; rintro e w2 ⟨rfl, hb2⟩; replace hb2 := hide hb2))
      go_ret2
      exact ⟨by rw [HC.out]; rfl, hb2.out⟩
    · have es : (S == 65535) = false := by simpa using hs
      have HC := hide (show C = 65535 - S by rw [hC, if_neg (fun h => hs h.2)])
      clear hC hk hs
      go_enter Tryz.func143, Tryz.ntmps143
      go_wp2_with (first
        | (go_at_call 182; refine (HOf.out _ HR.out).mono ?_; rintro e w1 ⟨rfl, rfl⟩)
        | (go_at_call 190; refine (HAdd.out _).mono ?_; rintro e w2 ⟨rfl, hb2⟩; replace hb2 := hide hb2)
        | (go_at_call 183; refine (HNot.out _).mono ?_; rintro e w3 ⟨rfl, hb3⟩; replace hb2 := hide (bt hb2.out hb3); clear hb3))
      go_ret2
      exact ⟨by rw [HC.out]; rfl, hb2.out⟩
  · have ek : (k == 17) = false := by simpa using hk
    have HC := hide (show C = 65535 - S by rw [hC, if_neg (fun h => hk h.1)])
    clear hC hk
    go_enter Tryz.func143, Tryz.ntmps143
    go_wp2_with (first
      | (go_at_call 182; refine (HOf.out _ HR.out).mono ?_; rintro e w1 ⟨rfl, rfl⟩)
      | (go_at_call 190; refine (HAdd.out _).mono ?_; rintro e w2 ⟨rfl, hb2⟩; replace hb2 := hide hb2)
      | (go_at_call 183; refine (HNot.out _).mono ?_; rintro e w3 ⟨rfl, hb3⟩; replace hb2 := hide (bt hb2.out hb3); clear hb3))
    go_ret2
    exact ⟨by rw [HC.out]; rfl, hb2.out⟩
def sck (z : List Int) (over : Int) (data : List Int) : Int := ckg (el z 0) over (SM.fold (SM.tot (ub z data) (ub z data).length))
theorem wsn_oct (n : Nat) (l : List Int) (k : Nat) : SM.Oct (wsn n l k) := by
  induction k with
  | zero => exact SM.oct_nil
  | succ k ih => exact SM.oct_append _ _ ih (nb_oct n _)
theorem ub_oct (z data : List Int) (h : SM.Oct data) : SM.Oct (ub z data) := by
  unfold ub
  split
  · exact SM.oct_append _ _ (SM.oct_append _ _ (SM.oct_append _ _ (SM.oct_append _ _ (wsn_oct _ _ _) (wsn_oct _ _ _)) (wsn_oct _ _ _)) (wsn_oct _ _ _)) h
  · exact SM.oct_append _ _ (SM.oct_append _ _ (wsn_oct _ _ _) (wsn_oct _ _ _)) h
theorem sck_in (z : List Int) (over : Int) (data : List Int) (h : SM.Oct data) (ho : up 65535 over = true) : 0 ≤ sck z over data ∧ sck z over data ≤ 65535 :=
  ckg_in _ _ _ (up_true ho).1 (SM.fold_bd _ (SM.tot_bd _ (ub_oct z data h) _).1).1
theorem ub_len (z data : List Int) : (ub z data).length = hn (el z 0) + data.length := by
  unfold ub hn
  split <;> simp only [List.length_append, wsn_len]
theorem unc_any (z : List Int) (a : Option Addr) (len cap : Nat) (data : List Int) (w : World) (hl : len ≤ 300) (hr : Row8 w a len cap data) :
    Calls Tryz.prog 142 #[.agg (sgC z a len cap)] w fun e w' => ∃ v, e = .returned v ∧ Own w.heap.size w' v (ub z data) ∧ Below w.heap.size w w' := by
  by_cases h6 : el z 0 = 6
  · exact unc_tcp z a len cap data w h6 hl hr
  · exact unc_udp z a len cap data w h6 hl hr
def eb (z : List Int) (over : Int) (data : List Int) : List Int := ((ub z data).set (cn (el z 0)) (sck z over data / 256)).set (cn (el z 0) + 1) (sck z over data % 256)
theorem eb_len (z : List Int) (over : Int) (data : List Int) : (eb z over data).length = hn (el z 0) + data.length := by
  unfold eb
  rw [List.length_set, List.length_set, ub_len]
theorem cn_lt (k : Int) : cn k + 1 < hn k := by
  unfold cn hn
  split <;> omega
theorem hn_le (k : Int) : hn k ≤ 20 := by
  unfold hn
  split <;> omega
theorem sf_len (z : List Int) (len : Nat) (h : sf z len = 0) : len ≤ 300 := by
  unfold sf at h
  rcases Nat.lt_or_ge 300 len with h3 | h3
  · exfalso
    rw [if_pos h3] at h
    split at h
    · cases h
    · split at h <;> split at h <;> cases h
  · exact h3
set_option maxRecDepth 100000 in
set_option maxHeartbeats 4000000 in
theorem enc_err (z : List Int) (a : Option Addr) (len cap : Nat) (over : Int) (w : World) (hm : len ≤ maxLen) (n : Int) (hz : sf z len = n) (hn0 : n ≠ 0) :
    Calls Tryz.prog 89 #[.agg (sgC z a len cap), .int .i64 over] w fun e w' => e = .returned (.tuple #[.slice none 0 0, err n]) ∧ Below w.heap.size w w' := by
  have HB := hide (al_below w (.cells (sgC z a len cap) 39))
  have HP := hide (sg_new w z a len cap)
  have HC := hide (fun W => chk_any z a len cap W hm)
  rw [hz, show ev n = err n from if_neg hn0] at HC
  unfold err at HC ⊢
  clear hz hn0
  go_enter Tryz.func89, Tryz.ntmps89
  go_upto_region 1 with fail
  generalize w.alloc (.cells (sgC z a len cap) 39) = W at HB HP ⊢
  go_wp2_with (first
    | (refine at_load rfl (.tmp 2) rfl rfl HP.out ?_)
    | (go_at_call 140; refine (HC.out _).mono ?_; rintro e w1 ⟨rfl, hb1⟩; replace HB := hide (bt HB.out hb1); clear hb1))
  go_ret2
  exact ⟨rfl, HB.out⟩
set_option maxRecDepth 100000 in
set_option maxHeartbeats 4000000 in
theorem enc_ok (z : List Int) (a : Option Addr) (len cap : Nat) (over : Int) (data : List Int) (w : World) (hz : sf z len = 0) (ho : up 65535 over = true) (hr : Row8 w a len cap data) :
    Calls Tryz.prog 89 #[.agg (sgC z a len cap), .int .i64 over] w fun e w' => ∃ v, e = .returned (.tuple #[v, .nilIface]) ∧ Own w.heap.size w' v (eb z over data) ∧ Below w.heap.size w w' := by
  have HB := hide (al_below w (.cells (sgC z a len cap) 39))
  have HP := hide (sg_new w z a len cap)
  have HC := hide (fun W => chk_any z a len cap W hr.2.1)
  rw [hz, show ev 0 = .nilIface from rfl] at HC
  have hlen := sf_len z len hz
  have HR := hide hr
  have HU := hide (fun W h => unc_any z a len cap data W hlen h)
  have HE := hide (show eb z over data = ((ub z data).set (cn (el z 0)) (sck z over data / 256)).set (cn (el z 0) + 1) (sck z over data % 256) from rfl)
  have hub := ub_len z data
  have hc1 := cn_lt (el z 0)
  have hh := hn_le (el z 0)
  have HCA := hide (fun W => checkat_any (el z 0) W)
  obtain ⟨N, hN⟩ : ∃ N, N = (ub z data).length := ⟨_, rfl⟩
  have hN2 : N ≤ 2000 := by rw [hN, hub, hr.1]; omega
  have hat : cn (el z 0) + 1 < N := by rw [hN, hub]; omega
  have HCO := hide (fun W a c (h : Row8 W a N c (ub z data)) => checkof_any (el z 0) over a N c (ub z data) W h hN2 ho)
  have hck : sck z over data = ckg (el z 0) over (SM.fold (SM.tot (ub z data) N)) := by rw [hN]; rfl
  rw [← hck] at HCO
  have hci := sck_in z over data hr.2.2.1 ho
  have HL := hide hN.symm
  have q1 : IntKind.u8.wrap (sck z over data / 256) = sck z over data / 256 := by rw [IntKind.wrap_u8]; omega
  have q2 : IntKind.u8.wrap (sck z over data) = sck z over data % 256 := by rw [IntKind.wrap_u8]
  have HW1 := hide (show 0 ≤ sck z over data / 256 ∧ sck z over data / 256 ≤ 255 by omega)
  have HW2 := hide (show 0 ≤ sck z over data % 256 ∧ sck z over data % 256 ≤ 255 by omega)
  generalize eb z over data = EB at HE ⊢
  generalize sck z over data = C at HE HCO hci q1 q2 HW1 HW2
  generalize ub z data = U at HU HE HCO HL
  generalize cn (el z 0) = at_ at hat HCA HE
  obtain ⟨hci0, hci1⟩ := hci
  clear hck hN hub hc1 hh hr hz
  go_enter Tryz.func89, Tryz.ntmps89
  go_upto_region 1 with fail
  generalize w.alloc (.cells (sgC z a len cap) 39) = W at HB HP ⊢
  go_upto_region 4 with (first
    | (refine at_load rfl (.tmp 2) rfl rfl HP.out ?_)
    | (go_at_call 140; refine (HC.out _).mono ?_; rintro e w1 ⟨rfl, hb1⟩; replace HB := hide (bt HB.out hb1); replace HP := hide (HP.out.kept hb1); clear hb1))
  go_upto_region 6 with (go_at_call 141; (with_reducible refine (upto1b _ _ _).mono ?_); rintro e w2 ⟨rfl, hb2⟩; replace HB := hide (bt HB.out hb2); replace HP := hide (HP.out.kept hb2); clear hb2)
  go_upto_region 7 with (first
    | (refine at_load rfl (.tmp 2) rfl rfl HP.out ?_)
    | (go_at_call 142; refine (HU.out _ (HR.out.below HB.out)).mono ?_; rintro e w3 ⟨v3, rfl, o3, hb3⟩; replace o3 := o3.mono HB.out.size; replace HB := hide (bt HB.out hb3); replace HP := hide (HP.out.kept hb3); clear hb3))
  obtain ⟨g3, c3, hv3, hc3, hcm3, hbg3, -, hr3⟩ := o3.form (by rw [HL.out]; omega)
  rw [HL.out] at hv3 hc3 hr3
  subst hv3
  replace o3 := hide o3
  have l0 := HP.out.c0
  replace hr3 := hide hr3
  go_upto_region 10 with (go_at_call 143; refine (HCO.out _ _ _ hr3.out).mono ?_; rintro e w4 ⟨rfl, hb4⟩; replace HB := hide (bt HB.out hb4); replace HP := hide (HP.out.kept hb4); replace o3 := hide (o3.out.kept hb4); clear hb4 l0)
  have l0 := HP.out.c0
  go_upto_region 11 with (go_at_call 144; refine (HCA.out _).mono ?_; rintro e w5 ⟨rfl, rfl⟩)
  clear l0 HCA HCO HU HC
  obtain ⟨x1, f1⟩ := o3.out.cell at_ (by omega)
  obtain ⟨x2, f2⟩ := o3.out.cell (at_ + 1) hat
  have HO5 := hide ((o3.out.set at_ (C / 256) HW1.out).set (at_ + 1) (C % 256) HW2.out)
  have HB5 := hide (show Below w.heap.size w ((w5.setCell ⟨g3, at_, none⟩ (.int .u8 (C / 256))).setCell ⟨g3, at_ + 1, none⟩ (.int .u8 (C % 256))) from (HB.out.setCell hbg3 _).setCell hbg3 _)
  generalize U.getD at_ 0 = y1 at x1
  generalize U.getD (at_ + 1) 0 = y2 at x2
  have i1 : (at_ : Int) < (N : Int) := by omega
  have i2 : (at_ : Int) + 1 < (N : Int) := by omega
  clear HP HB o3 hr3
  go_wp2
  go_ret2
  exact ⟨_, rfl, HE.out ▸ HO5.out, HB5.out⟩
end Go.Proofs.YtkhahbghmdccaaaGreatDoor

namespace Go.Proofs.YtkhahbghmdccaaaGreatDoor
open Go.RowKit
attribute [local go_sem ↓] Go.wp_at_zero Go.wp_at_succ
theorem or8 (a x : Nat) (ha : a < 16777216) (hx : x ≤ 255) : bits .or .i64 ((a * 256 : Nat) : Int) (x : Int) = ((a * 256 + x : Nat) : Int) := by
  have e1 : (BitVec.ofInt 64 ((a * 256 : Nat) : Int)).toNat = a * 256 := by rw [BitVec.toNat_ofInt]; omega
  have e2 : (BitVec.ofInt 64 ((x : Nat) : Int)).toNat = x := by rw [BitVec.toNat_ofInt]; omega
  have key : (BitVec.ofInt 64 ((a * 256 : Nat) : Int) ||| BitVec.ofInt 64 ((x : Nat) : Int)).toNat = a * 256 + x := by
    rw [BitVec.toNat_or, e1, e2]
    have := Nat.shiftLeft_add_eq_or_of_lt (show x < 2 ^ 8 by omega) a
    rw [Nat.shiftLeft_eq] at this
    exact this.symm
  show IntKind.i64.wrap (((BitVec.ofInt 64 ((a * 256 : Nat) : Int) ||| BitVec.ofInt 64 ((x : Nat) : Int)).toNat : Nat) : Int) = _
  rw [key, IntKind.wrap_i64]
  omega
theorem or_lo (a x : Int) (ha : 0 ≤ a) (ha2 : a < 16777216) (hx : 0 ≤ x) (hx2 : x < 256) : bits .or .i64 (a * 256) x = a * 256 + x := by
  obtain ⟨m, rfl⟩ := Int.eq_ofNat_of_zero_le ha
  obtain ⟨k, rfl⟩ := Int.eq_ofNat_of_zero_le hx
  have := or8 m k (by omega) (by omega)
  rw [show ((m * 256 : Nat) : Int) = (m : Int) * 256 by omega, show ((m * 256 + k : Nat) : Int) = (m : Int) * 256 + (k : Int) by omega] at this
  exact this
def num (zs : List Int) : Nat → Int
  | 0 => 0
  | k + 1 => num zs k * 256 + zs.getD k 0
theorem num_bd (zs : List Int) (h : SM.Oct zs) (k : Nat) (hk : k < 4) : 0 ≤ num zs k ∧ num zs k < 16777216 := by
  have h0 := h 0; have h1 := h 1; have h2 := h 2
  rcases (by omega : k = 0 ∨ k = 1 ∨ k = 2 ∨ k = 3) with rfl | rfl | rfl | rfl <;> simp only [num] <;> omega
set_option maxHeartbeats 400000 in
theorem number_any (a : Option Addr) (len cap : Nat) (zs : List Int) (w : World) (hl : len ≤ 4) (hp : 0 < len) (w0 : Row8 w a len cap zs) (r : Int) (hr : num zs len = r) :
    Calls Tryz.prog 212 #[.slice a len cap] w fun e w' => e = .returned (.int .i64 r) ∧ w' = w := by
  obtain ⟨hz, hm, hoct, _, hcs⟩ := w0
  obtain ⟨b, off, rfl, hcell⟩ := hcs hp
  have HR := hide hr
  clear hcs hr
  go_enter Tryz.func212, Tryz.ntmps212
  go_wp2
  go_loop [3, 8] (fun t i => ∃ k : Nat, k ≤ len ∧ t = .int .i64 (num zs k) ∧ i = .int .i64 k) (fun _ i => len - (intOf i).toNat)
  case atStart => exact ⟨0, by omega, rfl, rfl⟩
  case round =>
    obtain ⟨k, hk, rfl, rfl⟩ := hrel
    by_cases hlt : k < len
    · have hb := num_bd zs hoct k (by omega)
      have hck := hcell k hlt
      have hok := hoct k
      clear hcell
      have HS := hide (show num zs (k + 1) = num zs k * 256 + zs.getD k 0 from rfl)
      clear hoct
      generalize zs.getD k 0 = z at hck hok HS
      generalize num zs k = t at hb HS ⊢
      have ho := or_lo t z hb.1 hb.2 hok.1 (by omega)
      go_wp2
      go_round
      case rel => exact ⟨k + 1, by omega, by rw [HS.out], by go_num⟩
      case measure => simp [intOf]; omega
    · obtain rfl : k = len := by omega
      go_wp2
      go_ret
      exact ⟨by rw [HR.out]; rfl, rfl⟩
theorem num_congr (xs ys : List Int) (n : Nat) (h : ∀ j, j < n → xs.getD j 0 = ys.getD j 0) : num xs n = num ys n := by
  induction n with
  | zero => rfl
  | succ n ih => simp only [num]; rw [ih (fun j hj => h j (by omega)), h n (by omega)]
theorem number_at (g off len cap : Nat) (zs : List Int) (w : World) (j n c : Nat) (hr : Row8 w (some ⟨g, off, none⟩) len cap zs) (h1 : j + n ≤ len) (h2 : n ≤ 4) (h3 : 0 < n) :
    Calls Tryz.prog 212 #[.slice (some ⟨g, off + j, none⟩) n c] w fun e w' => e = .returned (.int .i64 (num (zs.drop j) n)) ∧ w' = w := by
  have h := hr.part j (j + n) (by omega) h1 (some ⟨g, off + j, none⟩) c (fun b o _ e => by cases e; rfl) (fun e => by cases e)
  rw [show j + n - j = n by omega] at h
  exact number_any _ n c _ w h2 h3 h _ (num_congr _ _ n fun i hi => P4.getD_take hi)
theorem number_at0 (g off len cap : Nat) (zs : List Int) (w : World) (n c : Nat) (hr : Row8 w (some ⟨g, off, none⟩) len cap zs) (h1 : n ≤ len) (h2 : n ≤ 4) (h3 : 0 < n) :
    Calls Tryz.prog 212 #[.slice (some ⟨g, off, none⟩) n c] w fun e w' => e = .returned (.int .i64 (num zs n)) ∧ w' = w := by
  have := number_at g off len cap zs w 0 n c hr (by omega) h2 h3
  exact this
theorem SgIn.ne {B : Nat} {z : List Int} {a : Option Addr} {len cap : Nat} {w : World} (h : SgIn B z a len cap w) {base : Nat} {v : Value} {zs : List Int} (o : Own base w v zs) : v.ownBlock ≠ some B := by
  intro e
  rcases o.2.2 with ⟨rfl, _⟩ | ⟨g, cap, cur, rfl, _, hg, _⟩
  · cases e
  · have : g = B := by simpa [Value.ownBlock] using e
    subst this
    unfold SgIn at h
    rw [h] at hg
    injection hg with hg
    injection hg with _ hg
    cases hg
theorem Own.only {B base : Nat} {w w' : World} (h : Only B w w') {v : Value} {zs : List Int} (o : Own base w v zs) (hB : v.ownBlock ≠ some B) : Own base w' v zs := by
  refine ⟨o.1, o.2.1, ?_⟩
  rcases o.2.2 with h2 | ⟨g, cap, cur, rfl, hb', hg, rest⟩
  · exact .inl h2
  · exact .inr ⟨g, cap, cur, rfl, hb', by rw [h.2.2.2.2 g (fun e => hB (by rw [e]; rfl))]; exact hg, rest⟩
theorem only_setCell (w : World) (B j : Nat) (cs : Array Value) (t : TypeId) (v : Value) (h : w.heap[B]? = some (.cells cs t (0, 0))) : Only B w (w.setCell ⟨B, j, none⟩ v) := by
  rw [setCell_eq_setRow w B j cs t (0, 0) v h]
  exact only_setRow _ _ _
def Rd (w : World) (B : Nat) (z : List Int) (a : Option Addr) (n c : Nat) (D : List Int) (W : World) : Prop := SgIn B z a n c W ∧ Own w.heap.size W (.slice a n c) D ∧ SgIn w.heap.size [] none 0 0 W ∧ w.heap.size ≠ B ∧ w.heap.size ≤ B ∧ Below w.heap.size w W
theorem Rd.only {w : World} {B : Nat} {z : List Int} {a : Option Addr} {n c : Nat} {D : List Int} {W W' : World} (h : Rd w B z a n c D W) (z' : List Int) (ho : Only B W W') (hs : SgIn B z' a n c W') : Rd w B z' a n c D W' :=
  ⟨hs, h.2.1.only ho (h.1.ne h.2.1), ho.sg h.2.2.1 h.2.2.2.1, h.2.2.2.1, h.2.2.2.2.1, ho.below h.2.2.2.2.2 h.2.2.2.2.1⟩
theorem Rd.set {w : World} {B : Nat} {z : List Int} {a : Option Addr} {n c : Nat} {D : List Int} {W : World} (h : Rd w B z a n c D W) (j : Nat) (x : Int) (z' : List Int) (hz : (sgC z a n c).setIfInBounds j (.int .i64 x) = sgC z' a n c) : Rd w B z' a n c D (W.setCell ⟨B, j, none⟩ (.int .i64 x)) := by
  refine h.only z' (only_setCell _ _ _ _ _ _ h.1) ?_
  have := setCell_heap_same W B j _ _ (.int .i64 x) h.1
  rw [hz] at this
  exact this
theorem SgIn.frz {B : Nat} {z : List Int} {a : Option Addr} {len cap : Nat} {w : World} (p : SgIn B z a len cap w) (j : Nat) : w.frozen? ⟨B, j, none⟩ = false := by
  unfold SgIn at p
  simp [World.frozen?, p]
theorem SgIn.held7 {B : Nat} {z0 : List Int} {a0 : Option Addr} {len0 cap0 : Nat} {w : World} (p : SgIn B z0 a0 len0 cap0 w) (k f t : Int) (a : Option Addr) (len cap : Nat) :
    ∃ w', (gstore (.pointer (some ⟨B, 0, none⟩)) (.agg #[.int .i64 k, .int .i64 f, .int .i64 t, .int .i64 0, .int .i64 0, .int .i64 0, .int .i64 0, .slice a len cap])).run Tryz.prog w = .ok () w' ∧ SgIn B [k, f, t, 0, 0, 0, 0] a len cap w' ∧ Only B w w' := p.held [k, f, t, 0, 0, 0, 0] a len cap
def zero7 : Array Value := #[.int .i64 0, .int .i64 0, .int .i64 0, .int .i64 0, .int .i64 0, .int .i64 0, .int .i64 0, .slice none 0 0]
theorem zero_new (w : World) : SgIn w.heap.size [] none 0 0 (w.alloc (.cells zero7 39)) := sg_new w [] none 0 0
attribute [local go_sem ↓] gstore_shut
set_option maxRecDepth 100000 in
set_option maxHeartbeats 8000000 in
theorem read_tcp (k : Int) (g off len cap : Nat) (zs : List Int) (w : World) (hr : Row8 w (some ⟨g, off, none⟩) len cap zs) (hk : k = 6) (hH : 20 ≤ len) (hM : len ≤ 320) (hcl : len ≤ cap) (hcm : cap ≤ maxLen) :
    Calls Tryz.prog 187 #[.int .i64 k, .slice (some ⟨g, off, none⟩) len cap] w fun e w' => ∃ a' c', e = .returned (.agg (sgC [k, num zs 2, num (zs.drop 2) 2, num (zs.drop 4) 4, num (zs.drop 8) 4, num (zs.drop 13) 1, num (zs.drop 14) 2] a' (len - 20) c')) ∧ Own w.heap.size w' (.slice a' (len - 20) c') (zs.drop 20) ∧ Below w.heap.size w w' := by
  unfold maxLen at hcm
  have hcl' : (len : Int) ≤ (cap : Int) := by omega
  have hH' : (20 : Int) ≤ (len : Int) := by omega
  have hHc : (20 : Int) ≤ (cap : Int) := by omega
  have h2c : (2 : Int) ≤ (cap : Int) := by omega
  have h4c : (4 : Int) ≤ (cap : Int) := by omega
  have hn2 : cap ≠ 2 := by omega
  have hb0 : Below w.heap.size w (w.alloc (.cells zero7 39)).drew := ((Below.refl _ _).alloc (Nat.le_refl _) _).drew
  have HA0 := hide (hr.below hb0)
  have HP0 := hide (show SgIn w.heap.size [] none 0 0 (w.alloc (.cells zero7 39)).drew from zero_new w)
  have hb1 : Below (w.alloc (.cells zero7 39)).drew.heap.size (w.alloc (.cells zero7 39)).drew ((w.alloc (.cells zero7 39)).alloc (.cells zero7 39)).drew := al_below (w.alloc (.cells zero7 39)).drew (.cells zero7 39)
  have HB0 := hide hb0
  have HB1 := hide (bt hb0 hb1)
  have HA1 := hide (HA0.out.below hb1)
  have HP1 := hide (HP0.out.kept hb1)
  have HQ1 := hide (show SgIn (w.heap.size + 1) [] none 0 0 ((w.alloc (.cells zero7 39)).alloc (.cells zero7 39)).drew by
    have := zero_new (w.alloc (.cells zero7 39)).drew
    rw [show (w.alloc (.cells zero7 39)).drew.heap.size = w.heap.size + 1 by simp] at this
    exact this)
  have HN0 := hide (fun n c W (h : Row8 W (some ⟨g, off, none⟩) len cap zs) h1 h2 h3 => number_at0 g off len cap zs W n c h h1 h2 h3)
  have HN := hide (fun j n c W (h : Row8 W (some ⟨g, off, none⟩) len cap zs) h1 h2 h3 => number_at g off len cap zs W j n c h h1 h2 h3)
  have HN2 := hide (fun c W (h : Row8 W (some ⟨g, off, none⟩) len cap zs) => number_at g off len cap zs W 2 2 c h (by omega) (by omega) (by omega))
  have HH := hide (fun W => head_any k W)
  rw [show hn k = 20 by unfold hn; rw [if_pos hk]] at HH
  have had : ∃ ad, (if cap = 20 then some (⟨g, off, none⟩ : Addr) else some ⟨g, off + 20, none⟩) = some ad := by split <;> exact ⟨_, rfl⟩
  have hpart := fun W (h : Row8 W (some ⟨g, off, none⟩) len cap zs) => (h.part 20 len hH (Nat.le_refl _) (if cap = 20 then some ⟨g, off, none⟩ else some ⟨g, off + 20, none⟩) (cap - 20) (fun b o hlt e => by cases e; rw [if_neg (by omega)]) (fun e => by split at e <;> cases e)).congr (show (zs.drop 20).take (len - 20) = zs.drop 20 from List.take_of_length_le (by rw [List.length_drop, hr.1]; exact Nat.le_refl _))
  obtain ⟨ao, hao⟩ : ∃ ao, (if cap = 20 then some (⟨g, off, none⟩ : Addr) else some ⟨g, off + 20, none⟩) = ao := ⟨_, rfl⟩
  rw [hao] at hpart had
  have HPart := hide hpart
  have HAD := hide had
  clear hpart had
  have HL := hide (show ([] ++ zs.drop 20).length = len - 20 by rw [List.nil_append, List.length_drop, hr.1])
  have HLen := hide (show ([] : List Int).length + (len - 20) ≤ 1000000000 by simp; omega)
  have HSZ0 := hide (show w.heap.size ≤ (w.alloc (.cells zero7 39)).drew.heap.size from HB0.out.size)
  have HSZ1 := hide HB1.out.size
  have HR := hide hr
  have ek : (k == 6) = true := by simpa using hk
  clear hr hb0 hb1 hk
  unfold zero7 at HA0 HP0 HB0 HB1 HA1 HP1 HQ1 HSZ0 HSZ1
  go_enter Tryz.func187, Tryz.ntmps187
  go_upto_region 1 with fail
  go_cut [5] from 6 to 18 (fun v5 W => ∃ B a5 c5, v5 = .pointer (some ⟨B, 0, none⟩) ∧ Hid (Rd w B [k, num zs 2, num (zs.drop 2) 2, 0, 0, 0, 0] a5 (len - 20) c5 (zs.drop 20) W))
  case first =>
    go_region_held3 (fun _ => True)
      (trivial)
      (first
        | (go_at_call 212; (with_reducible refine (HN0.out _ _ _ HA0.out (by omega) (by omega) (by omega)).mono ?_); rintro e w' ⟨rfl, rfl⟩)
        | (go_at_call 212; (with_reducible refine (HN0.out _ _ _ HA1.out (by omega) (by omega) (by omega)).mono ?_); rintro e w' ⟨rfl, rfl⟩)
        | (go_at_call 212; (with_reducible refine (HN2.out _ _ HA0.out).mono ?_); rintro e w' ⟨rfl, rfl⟩)
        | (go_at_call 212; (with_reducible refine (HN2.out _ _ HA1.out).mono ?_); rintro e w' ⟨rfl, rfl⟩)
        | (go_at_call 179; refine (HH.out _).mono ?_; rintro e w' ⟨rfl, rfl⟩)
        | (refine step_app rfl (.const (.slice none 0 0)) (.tmp 16) rfl w.heap.size _ [] (by rfl) (Own.nil _ _) _ HAD.out (len - 20) (cap - 20) _ (len - 20) HL.out (by rfl) (HPart.out _ HA0.out) HLen.out HSZ0.out ?_; intro a5 c5 w5 o5 g5; have hB5 := HB0.out.grown g5 HB0.out.size (fun k h => by cases h); have hP5 := HP0.out.grown g5 (by intro e; cases e); have hbw := al_below w5 (.cells #[.int .i64 0, .int .i64 0, .int .i64 0, .int .i64 0, .int .i64 0, .int .i64 0, .int .i64 0, .slice none 0 0] 39); have hq5 := zero_new w5; unfold zero7 at hq5; obtain ⟨w6, hst, p6, on6⟩ := hq5.held7 k (num zs 2) (num (zs.drop 2) 2) a5 (len - 20) c5; have HRd := hide (show Rd w w5.heap.size [k, num zs 2, num (zs.drop 2) 2, 0, 0, 0, 0] a5 (len - 20) c5 (zs.drop 20) w6 from ⟨p6, (o5.kept hbw).only on6 (hq5.ne (o5.kept hbw)), on6.sg (hP5.kept hbw) (Nat.ne_of_lt hP5.lt), Nat.ne_of_lt hP5.lt, Nat.le_of_lt hP5.lt, on6.below (bt hB5 hbw) (Nat.le_of_lt hP5.lt)⟩); clear p6 on6 hq5 hbw hP5 hB5 o5 g5)
        | (refine step_app rfl (.const (.slice none 0 0)) (.tmp 16) rfl w.heap.size _ [] (by rfl) (Own.nil _ _) _ HAD.out (len - 20) (cap - 20) _ (len - 20) HL.out (by rfl) (HPart.out _ HA1.out) HLen.out HSZ1.out ?_; intro a5 c5 w5 o5 g5; have hB5 := HB1.out.grown g5 HB1.out.size (fun k h => by cases h); have hP5 := HP1.out.grown g5 (by intro e; cases e); have hq5 := HQ1.out.grown g5 (by intro e; cases e); obtain ⟨w6, hst, p6, on6⟩ := hq5.held7 k (num zs 2) (num (zs.drop 2) 2) a5 (len - 20) c5; have HRd := hide (show Rd w (w.heap.size + 1) [k, num zs 2, num (zs.drop 2) 2, 0, 0, 0, 0] a5 (len - 20) c5 (zs.drop 20) w6 from ⟨p6, o5.only on6 (hq5.ne o5), on6.sg hP5 (Nat.ne_of_lt (Nat.lt_succ_self _)), Nat.ne_of_lt (Nat.lt_succ_self _), Nat.le_succ _, on6.below hB5 (Nat.le_succ _)⟩); clear p6 on6 hq5 hP5 hB5 o5 g5))
    all_goals
      go_wp2_with fail
      go_meet
      exact ⟨_, _, _, rfl, HRd⟩
  case rest =>
    obtain ⟨B, a5, c5, rfl, HRd⟩ := hcut
    clear HA0 HA1 HP0 HP1 HQ1 HB0 HB1 HSZ0 HSZ1 HAD HPart hao HH
    have j8 : (8 : Int) ≤ (cap : Int) := by omega
    have j12 : (12 : Int) ≤ (cap : Int) := by omega
    have j14 : (14 : Int) ≤ (cap : Int) := by omega
    have j16 : (16 : Int) ≤ (cap : Int) := by omega
    have k4 : cap ≠ 4 := by omega
    have k8 : cap ≠ 8 := by omega
    have k13 : cap ≠ 13 := by omega
    have k14 : cap ≠ 14 := by omega
    go_upto_region 3 with fail
    have x3 := HRd.out.1.cellAt 3
    have y3 := HRd.out.1.frz 3
    replace x3 : _ = some (Value.int .i64 0) := x3
    have HR3 := hide (HR.out.below HRd.out.2.2.2.2.2)
    go_upto_region 4 with (go_at_call 212; refine (HN.out 4 4 _ _ HR3.out (by omega) (by omega) (by omega)).mono ?_; rintro e w' ⟨rfl, rfl⟩)
    replace HRd := hide (HRd.out.set 3 (num (zs.drop 4) 4) [k, num zs 2, num (zs.drop 2) 2, num (zs.drop 4) 4, 0, 0, 0] rfl)
    generalize World.setCell _ _ _ = W3 at HRd ⊢
    clear x3 y3 HR3
    have x4 := HRd.out.1.cellAt 4
    have y4 := HRd.out.1.frz 4
    replace x4 : _ = some (Value.int .i64 0) := x4
    have HR4 := hide (HR.out.below HRd.out.2.2.2.2.2)
    go_upto_region 5 with (go_at_call 212; refine (HN.out 8 4 _ _ HR4.out (by omega) (by omega) (by omega)).mono ?_; rintro e w' ⟨rfl, rfl⟩)
    replace HRd := hide (HRd.out.set 4 (num (zs.drop 8) 4) [k, num zs 2, num (zs.drop 2) 2, num (zs.drop 4) 4, num (zs.drop 8) 4, 0, 0] rfl)
    generalize World.setCell _ _ _ = W4 at HRd ⊢
    clear x4 y4 HR4
    have x5 := HRd.out.1.cellAt 5
    have y5 := HRd.out.1.frz 5
    replace x5 : _ = some (Value.int .i64 0) := x5
    have HR5 := hide (HR.out.below HRd.out.2.2.2.2.2)
    go_upto_region 6 with (go_at_call 212; refine (HN.out 13 1 _ _ HR5.out (by omega) (by omega) (by omega)).mono ?_; rintro e w' ⟨rfl, rfl⟩)
    replace HRd := hide (HRd.out.set 5 (num (zs.drop 13) 1) [k, num zs 2, num (zs.drop 2) 2, num (zs.drop 4) 4, num (zs.drop 8) 4, num (zs.drop 13) 1, 0] rfl)
    generalize World.setCell _ _ _ = W5 at HRd ⊢
    clear x5 y5 HR5
    have x6 := HRd.out.1.cellAt 6
    have y6 := HRd.out.1.frz 6
    replace x6 : _ = some (Value.int .i64 0) := x6
    have HR6 := hide (HR.out.below HRd.out.2.2.2.2.2)
    go_upto_region 7 with (go_at_call 212; refine (HN.out 14 2 _ _ HR6.out (by omega) (by omega) (by omega)).mono ?_; rintro e w' ⟨rfl, rfl⟩)
    replace HRd := hide (HRd.out.set 6 (num (zs.drop 14) 2) [k, num zs 2, num (zs.drop 2) 2, num (zs.drop 4) 4, num (zs.drop 8) 4, num (zs.drop 13) 1, num (zs.drop 14) 2] rfl)
    generalize World.setCell _ _ _ = W6 at HRd ⊢
    clear x6 y6 HR6
    have HB7 := hide (HRd.out.2.2.2.2.2)
    have HD7 := hide (HRd.out.2.1)
    have HZ7 := hide HRd.out.2.2.1
    have HNE := hide (HRd.out.2.2.1.ne HRd.out.2.1)
    go_wp2_with (first
      | (refine at_load rfl (.tmp 5) rfl rfl HRd.out.1 ?_)
      | (refine at_store rfl (.tmp 4) (.tmp 37) rfl rfl HZ7.out [k, num zs 2, num (zs.drop 2) 2, num (zs.drop 4) 4, num (zs.drop 8) 4, num (zs.drop 13) 1, num (zs.drop 14) 2] a5 (len - 20) c5 rfl ?_; intro w7 p7 on7; replace HB7 := hide (on7.below HB7.out (Nat.le_refl _)); replace HD7 := hide (HD7.out.only on7 HNE.out); replace p7 := hide p7; clear on7))
    try simp only [Exit.inBlock, Exit.then]
    refine bodyPost_ret (sg_result rfl _ _ w.heap.size [k, num zs 2, num (zs.drop 2) 2, num (zs.drop 4) 4, num (zs.drop 8) 4, num (zs.drop 13) 1, num (zs.drop 14) 2] a5 (len - 20) c5 rfl p7.out) rfl ?_
    exact ⟨a5, c5, rfl, HD7.out, HB7.out⟩
attribute [local go_sem ↓] gstore_shut
set_option maxRecDepth 100000 in
set_option maxHeartbeats 8000000 in
theorem read_udp (k : Int) (g off len cap : Nat) (zs : List Int) (w : World) (hr : Row8 w (some ⟨g, off, none⟩) len cap zs) (hk : ¬ k = 6) (hH : 8 ≤ len) (hM : len ≤ 320) (hcl : len ≤ cap) (hcm : cap ≤ maxLen) :
    Calls Tryz.prog 187 #[.int .i64 k, .slice (some ⟨g, off, none⟩) len cap] w fun e w' => ∃ a' c', e = .returned (.agg (sgC [k, num zs 2, num (zs.drop 2) 2, 0, 0, 0, 0] a' (len - 8) c')) ∧ Own w.heap.size w' (.slice a' (len - 8) c') (zs.drop 8) ∧ Below w.heap.size w w' := by
  unfold maxLen at hcm
  have hcl' : (len : Int) ≤ (cap : Int) := by omega
  have hH' : (8 : Int) ≤ (len : Int) := by omega
  have hHc : (8 : Int) ≤ (cap : Int) := by omega
  have h2c : (2 : Int) ≤ (cap : Int) := by omega
  have h4c : (4 : Int) ≤ (cap : Int) := by omega
  have hn2 : cap ≠ 2 := by omega
  have hb0 : Below w.heap.size w (w.alloc (.cells zero7 39)).drew := ((Below.refl _ _).alloc (Nat.le_refl _) _).drew
  have HA0 := hide (hr.below hb0)
  have HP0 := hide (show SgIn w.heap.size [] none 0 0 (w.alloc (.cells zero7 39)).drew from zero_new w)
  have hb1 : Below (w.alloc (.cells zero7 39)).drew.heap.size (w.alloc (.cells zero7 39)).drew ((w.alloc (.cells zero7 39)).alloc (.cells zero7 39)).drew := al_below (w.alloc (.cells zero7 39)).drew (.cells zero7 39)
  have HB0 := hide hb0
  have HB1 := hide (bt hb0 hb1)
  have HA1 := hide (HA0.out.below hb1)
  have HP1 := hide (HP0.out.kept hb1)
  have HQ1 := hide (show SgIn (w.heap.size + 1) [] none 0 0 ((w.alloc (.cells zero7 39)).alloc (.cells zero7 39)).drew by
    have := zero_new (w.alloc (.cells zero7 39)).drew
    rw [show (w.alloc (.cells zero7 39)).drew.heap.size = w.heap.size + 1 by simp] at this
    exact this)
  have HN0 := hide (fun n c W (h : Row8 W (some ⟨g, off, none⟩) len cap zs) h1 h2 h3 => number_at0 g off len cap zs W n c h h1 h2 h3)
  have HN := hide (fun j n c W (h : Row8 W (some ⟨g, off, none⟩) len cap zs) h1 h2 h3 => number_at g off len cap zs W j n c h h1 h2 h3)
  have HN2 := hide (fun c W (h : Row8 W (some ⟨g, off, none⟩) len cap zs) => number_at g off len cap zs W 2 2 c h (by omega) (by omega) (by omega))
  have HH := hide (fun W => head_any k W)
  rw [show hn k = 8 by unfold hn; rw [if_neg hk]] at HH
  have had : ∃ ad, (if cap = 8 then some (⟨g, off, none⟩ : Addr) else some ⟨g, off + 8, none⟩) = some ad := by split <;> exact ⟨_, rfl⟩
  have hpart := fun W (h : Row8 W (some ⟨g, off, none⟩) len cap zs) => (h.part 8 len hH (Nat.le_refl _) (if cap = 8 then some ⟨g, off, none⟩ else some ⟨g, off + 8, none⟩) (cap - 8) (fun b o hlt e => by cases e; rw [if_neg (by omega)]) (fun e => by split at e <;> cases e)).congr (show (zs.drop 8).take (len - 8) = zs.drop 8 from List.take_of_length_le (by rw [List.length_drop, hr.1]; exact Nat.le_refl _))
  obtain ⟨ao, hao⟩ : ∃ ao, (if cap = 8 then some (⟨g, off, none⟩ : Addr) else some ⟨g, off + 8, none⟩) = ao := ⟨_, rfl⟩
  rw [hao] at hpart had
  have HPart := hide hpart
  have HAD := hide had
  clear hpart had
  have HL := hide (show ([] ++ zs.drop 8).length = len - 8 by rw [List.nil_append, List.length_drop, hr.1])
  have HLen := hide (show ([] : List Int).length + (len - 8) ≤ 1000000000 by simp; omega)
  have HSZ0 := hide (show w.heap.size ≤ (w.alloc (.cells zero7 39)).drew.heap.size from HB0.out.size)
  have HSZ1 := hide HB1.out.size
  have HR := hide hr
  have ek : (k == 6) = false := by simpa using hk
  clear hr hb0 hb1 hk
  unfold zero7 at HA0 HP0 HB0 HB1 HA1 HP1 HQ1 HSZ0 HSZ1
  go_enter Tryz.func187, Tryz.ntmps187
  go_upto_region 1 with fail
  go_cut [5] from 6 to 18 (fun v5 W => ∃ B a5 c5, v5 = .pointer (some ⟨B, 0, none⟩) ∧ Hid (Rd w B [k, num zs 2, num (zs.drop 2) 2, 0, 0, 0, 0] a5 (len - 8) c5 (zs.drop 8) W))
  case first =>
    go_region_held3 (fun _ => True)
      (trivial)
      (first
        | (go_at_call 212; (with_reducible refine (HN0.out _ _ _ HA0.out (by omega) (by omega) (by omega)).mono ?_); rintro e w' ⟨rfl, rfl⟩)
        | (go_at_call 212; (with_reducible refine (HN0.out _ _ _ HA1.out (by omega) (by omega) (by omega)).mono ?_); rintro e w' ⟨rfl, rfl⟩)
        | (go_at_call 212; (with_reducible refine (HN2.out _ _ HA0.out).mono ?_); rintro e w' ⟨rfl, rfl⟩)
        | (go_at_call 212; (with_reducible refine (HN2.out _ _ HA1.out).mono ?_); rintro e w' ⟨rfl, rfl⟩)
        | (go_at_call 179; refine (HH.out _).mono ?_; rintro e w' ⟨rfl, rfl⟩)
        | (refine step_app rfl (.const (.slice none 0 0)) (.tmp 16) rfl w.heap.size _ [] (by rfl) (Own.nil _ _) _ HAD.out (len - 8) (cap - 8) _ (len - 8) HL.out (by rfl) (HPart.out _ HA0.out) HLen.out HSZ0.out ?_; intro a5 c5 w5 o5 g5; have hB5 := HB0.out.grown g5 HB0.out.size (fun k h => by cases h); have hP5 := HP0.out.grown g5 (by intro e; cases e); have hbw := al_below w5 (.cells #[.int .i64 0, .int .i64 0, .int .i64 0, .int .i64 0, .int .i64 0, .int .i64 0, .int .i64 0, .slice none 0 0] 39); have hq5 := zero_new w5; unfold zero7 at hq5; obtain ⟨w6, hst, p6, on6⟩ := hq5.held7 k (num zs 2) (num (zs.drop 2) 2) a5 (len - 8) c5; have HRd := hide (show Rd w w5.heap.size [k, num zs 2, num (zs.drop 2) 2, 0, 0, 0, 0] a5 (len - 8) c5 (zs.drop 8) w6 from ⟨p6, (o5.kept hbw).only on6 (hq5.ne (o5.kept hbw)), on6.sg (hP5.kept hbw) (Nat.ne_of_lt hP5.lt), Nat.ne_of_lt hP5.lt, Nat.le_of_lt hP5.lt, on6.below (bt hB5 hbw) (Nat.le_of_lt hP5.lt)⟩); clear p6 on6 hq5 hbw hP5 hB5 o5 g5)
        | (refine step_app rfl (.const (.slice none 0 0)) (.tmp 16) rfl w.heap.size _ [] (by rfl) (Own.nil _ _) _ HAD.out (len - 8) (cap - 8) _ (len - 8) HL.out (by rfl) (HPart.out _ HA1.out) HLen.out HSZ1.out ?_; intro a5 c5 w5 o5 g5; have hB5 := HB1.out.grown g5 HB1.out.size (fun k h => by cases h); have hP5 := HP1.out.grown g5 (by intro e; cases e); have hq5 := HQ1.out.grown g5 (by intro e; cases e); obtain ⟨w6, hst, p6, on6⟩ := hq5.held7 k (num zs 2) (num (zs.drop 2) 2) a5 (len - 8) c5; have HRd := hide (show Rd w (w.heap.size + 1) [k, num zs 2, num (zs.drop 2) 2, 0, 0, 0, 0] a5 (len - 8) c5 (zs.drop 8) w6 from ⟨p6, o5.only on6 (hq5.ne o5), on6.sg hP5 (Nat.ne_of_lt (Nat.lt_succ_self _)), Nat.ne_of_lt (Nat.lt_succ_self _), Nat.le_succ _, on6.below hB5 (Nat.le_succ _)⟩); clear p6 on6 hq5 hP5 hB5 o5 g5))
    all_goals
      go_wp2_with fail
      go_meet
      exact ⟨_, _, _, rfl, HRd⟩
  case rest =>
    obtain ⟨B, a5, c5, rfl, HRd⟩ := hcut
    clear HA0 HA1 HP0 HP1 HQ1 HB0 HB1 HSZ0 HSZ1 HAD HPart hao HH
    have HB7 := hide (HRd.out.2.2.2.2.2)
    have HD7 := hide (HRd.out.2.1)
    have HZ7 := hide HRd.out.2.2.1
    have HNE := hide (HRd.out.2.2.1.ne HRd.out.2.1)
    go_wp2_with (first
      | (refine at_load rfl (.tmp 5) rfl rfl HRd.out.1 ?_)
      | (refine at_store rfl (.tmp 4) (.tmp 37) rfl rfl HZ7.out [k, num zs 2, num (zs.drop 2) 2, 0, 0, 0, 0] a5 (len - 8) c5 rfl ?_; intro w7 p7 on7; replace HB7 := hide (on7.below HB7.out (Nat.le_refl _)); replace HD7 := hide (HD7.out.only on7 HNE.out); replace p7 := hide p7; clear on7))
    try simp only [Exit.inBlock, Exit.then]
    refine bodyPost_ret (sg_result rfl _ _ w.heap.size [k, num zs 2, num (zs.drop 2) 2, 0, 0, 0, 0] a5 (len - 8) c5 rfl p7.out) rfl ?_
    exact ⟨a5, c5, rfl, HD7.out, HB7.out⟩
end Go.Proofs.YtkhahbghmdccaaaGreatDoor
