/- Package seg: unchecked and checkOf, by contracts. -/
import Derived.Test.YtfjnioninjllkaaDoorSgChk
namespace Go.Proofs.YtfjnioninjllkaaDoor
open Go.RowKit
attribute [local go_sem ↓] Go.wp_at_zero Go.wp_at_succ

theorem write12 (W0 : World) (v : Value) (zs : List Int) (x y : Int) (B : Nat) (w : World) (hg : Gr W0 w v zs) (hl : Ints B [x, y] w) (hz : zs.length ≤ 1000000) :
    Calls Tryd.prog 51 #[v, .int .i64 1, .slice (some ⟨B, 0, none⟩) 2 2] w fun e w' => ∃ v', e = .returned v' ∧ Gr W0 w' v' (zs ++ wsn 1 [x, y] 2) :=
  write_any W0 v zs 1 B 2 [x, y] w hg hl rfl (by omega) (by omega) hz
theorem write23 (W0 : World) (v : Value) (zs : List Int) (x y u : Int) (B : Nat) (w : World) (hg : Gr W0 w v zs) (hl : Ints B [x, y, u] w) (hz : zs.length ≤ 1000000) :
    Calls Tryd.prog 51 #[v, .int .i64 2, .slice (some ⟨B, 0, none⟩) 3 3] w fun e w' => ∃ v', e = .returned v' ∧ Gr W0 w' v' (zs ++ wsn 2 [x, y, u] 3) :=
  write_any W0 v zs 2 B 3 [x, y, u] w hg hl rfl (by omega) (by omega) hz
theorem ints3 (w : World) (x y u : Int) : Ints w.heap.size [x, y, u] (w.alloc (.cells #[.int .i64 x, .int .i64 y, .int .i64 u] 3)) := ints_new w [x, y, u]
/-- a segment's bytes with a check of 0, as they are written. -/
def ub (z : List Int) (data : List Int) : List Int :=
  if el z 0 = 6 then (((wsn 2 [el z 1, el z 2] 2 ++ wsn 4 [el z 3, el z 4] 2) ++ wsn 1 [80, el z 5] 2) ++ wsn 2 [el z 6, 0, 0] 3) ++ data
  else (wsn 2 [el z 1, el z 2] 2 ++ wsn 2 [8 + (data.length : Int), 0] 2) ++ data
set_option maxRecDepth 100000 in
set_option maxHeartbeats 4000000 in
theorem unc_tcp (z : List Int) (a : Option Addr) (len cap : Nat) (data : List Int) (w : World) (h6 : el z 0 = 6) (hl : len ≤ 300) (hr : Row8 w a len cap data) :
    Calls Tryd.prog 33 #[.agg (sgC z a len cap)] w fun e w' => ∃ v, e = .returned v ∧ Own w.heap.size w' v (ub z data) ∧ Below w.heap.size w w' := by
  have HB := hide (al_below w (.cells (sgC z a len cap) 49))
  have HP := hide (sg_new w z a len cap)
  have HU := hide (show ub z data = (((wsn 2 [el z 1, el z 2] 2 ++ wsn 4 [el z 3, el z 4] 2) ++ wsn 1 [80, el z 5] 2) ++ wsn 2 [el z 6, 0, 0] 3) ++ data from if_pos h6)
  have W1 := hide (fun W0 W B v zs hg hi hz => write22 W0 v zs (el z 1) (el z 2) B W hg hi hz)
  have W2 := hide (fun W0 W B v zs hg hi hz => write24 W0 v zs (el z 3) (el z 4) B W hg hi hz)
  have W3 := hide (fun W0 W B v zs hg hi hz => write12 W0 v zs 80 (el z 5) B W hg hi hz)
  have W4 := hide (fun W0 W B v zs hg hi hz => write23 W0 v zs (el z 6) 0 0 B W hg hi hz)
  have L1 := hide (wsn_len 2 [el z 1, el z 2] 2)
  have L2 := hide (wsn_len 4 [el z 3, el z 4] 2)
  have L3 := hide (wsn_len 1 [80, el z 5] 2)
  have L4 := hide (wsn_len 2 [el z 6, 0, 0] 3)
  generalize ub z data = U at HU ⊢
  generalize wsn 2 [el z 1, el z 2] 2 = Z1 at HU W1 L1
  generalize wsn 4 [el z 3, el z 4] 2 = Z2 at HU W2 L2
  generalize wsn 1 [80, el z 5] 2 = Z3 at HU W3 L3
  generalize wsn 2 [el z 6, 0, 0] 3 = Z4 at HU W4 L4
  have e6 : (el z 0 == 6) = true := by simpa using h6
  have HR := hide hr
  have HM := hide (show (((Z1 ++ Z2) ++ Z3) ++ Z4).length + len ≤ 1000000000 by
    have := L1.out; have := L2.out; have := L3.out; have := L4.out
    simp only [List.length_append]; omega)
  have M1 := hide (show Z1.length ≤ 1000000 by have := L1.out; omega)
  have M2 := hide (show (Z1 ++ Z2).length ≤ 1000000 by have := L1.out; have := L2.out; rw [List.length_append]; omega)
  have M3 := hide (show ((Z1 ++ Z2) ++ Z3).length ≤ 1000000 by have := L1.out; have := L2.out; have := L3.out; simp only [List.length_append]; omega)
  clear h6 hr L1 L2 L3 L4
  go_enter Tryd.func33, Tryd.ntmps33
  go_upto_region 1 with fail
  generalize w.alloc (.cells (sgC z a len cap) 49) = W at HB HP ⊢
  have l1 := HP.out.c1
  have l2 := HP.out.c2
  go_upto_region 2 with (go_at_call 51; refine (W1.out W _ _ _ [] ((Gr.nil W).below (al_below _ _)) (ints2 W _ _) (by simp)).mono ?_; rintro e w1 ⟨v1, rfl, hg1⟩; rw [List.nil_append] at hg1; replace hg1 := hide hg1; clear l1 l2)
  have HP1 := hide (HP.out.kept hg1.out.2)
  have l0 := HP1.out.c0
  have l3 := HP1.out.c3
  have l4 := HP1.out.c4
  go_upto_region 4 with (go_at_call 51; refine (W2.out W _ _ _ _ (hg1.out.below (al_below _ _)) (ints2 w1 _ _) M1.out).mono ?_; rintro e w2 ⟨v2, rfl, hg2⟩; replace hg2 := hide hg2; clear l0 l3 l4)
  have HP2 := hide (HP.out.kept hg2.out.2)
  have l5 := HP2.out.c5
  go_upto_region 5 with (go_at_call 51; refine (W3.out W _ _ _ _ (hg2.out.below (al_below _ _)) (ints2 w2 _ _) M2.out).mono ?_; rintro e w3 ⟨v3, rfl, hg3⟩; replace hg3 := hide hg3; clear l5)
  have HP3 := hide (HP.out.kept hg3.out.2)
  have l6 := HP3.out.c6
  go_upto_region 7 with (go_at_call 51; refine (W4.out W _ _ _ _ (hg3.out.below (al_below _ _)) (ints3 w3 _ _ _) M3.out).mono ?_; rintro e w4 ⟨v4, rfl, hg4⟩; replace hg4 := hide hg4; clear l6)
  have HP4 := hide (HP.out.kept hg4.out.2)
  have l7 := HP4.out.c7
  go_wp2_with (at_builtin; refine gr_app rfl (.tmp 40) (.tmp 42) rfl rfl hg4.out rfl ((HR.out.below HB.out).below hg4.out.2) HM.out ?_; intro v5 w5 hg5; replace hg5 := hide hg5; clear l7)
  go_ret
  exact ⟨v5, rfl, HU.out ▸ hg5.out.1.mono HB.out.size, HB.out.trans (hg5.out.2.mono HB.out.size)⟩
set_option maxRecDepth 100000 in
set_option maxHeartbeats 4000000 in
theorem unc_udp (z : List Int) (a : Option Addr) (len cap : Nat) (data : List Int) (w : World) (h6 : ¬ el z 0 = 6) (hl : len ≤ 300) (hr : Row8 w a len cap data) :
    Calls Tryd.prog 33 #[.agg (sgC z a len cap)] w fun e w' => ∃ v, e = .returned v ∧ Own w.heap.size w' v (ub z data) ∧ Below w.heap.size w w' := by
  have HB := hide (al_below w (.cells (sgC z a len cap) 49))
  have HP := hide (sg_new w z a len cap)
  have HU := hide (show ub z data = (wsn 2 [el z 1, el z 2] 2 ++ wsn 2 [8 + (len : Int), 0] 2) ++ data by rw [← hr.1]; exact if_neg h6)
  have W1 := hide (fun W0 W B v zs hg hi hz => write22 W0 v zs (el z 1) (el z 2) B W hg hi hz)
  have W2 := hide (fun W0 W B v zs hg hi hz => write22 W0 v zs (8 + (len : Int)) 0 B W hg hi hz)
  have L1 := hide (wsn_len 2 [el z 1, el z 2] 2)
  have L2 := hide (wsn_len 2 [8 + (len : Int), 0] 2)
  generalize ub z data = U at HU ⊢
  generalize wsn 2 [el z 1, el z 2] 2 = Z1 at HU W1 L1
  generalize wsn 2 [8 + (len : Int), 0] 2 = Z2 at HU W2 L2
  have e6 : (el z 0 == 6) = false := by simpa using h6
  have HH := hide (fun W => head_any (el z 0) W)
  rw [show hn (el z 0) = 8 by unfold hn; rw [if_neg h6]] at HH
  have HR := hide hr
  have HM := hide (show (Z1 ++ Z2).length + len ≤ 1000000000 by
    have := L1.out; have := L2.out
    simp only [List.length_append]; omega)
  have M1 := hide (show Z1.length ≤ 1000000 by have := L1.out; omega)
  have hq : IntKind.i64.wrap (8 + (len : Int)) = 8 + (len : Int) := by rw [IntKind.wrap_i64]; omega
  clear h6 hr L1 L2
  go_enter Tryd.func33, Tryd.ntmps33
  go_upto_region 1 with fail
  generalize w.alloc (.cells (sgC z a len cap) 49) = W at HB HP ⊢
  have l1 := HP.out.c1
  have l2 := HP.out.c2
  go_upto_region 2 with (go_at_call 51; refine (W1.out W _ _ _ [] ((Gr.nil W).below (al_below _ _)) (ints2 W _ _) (by simp)).mono ?_; rintro e w1 ⟨v1, rfl, hg1⟩; rw [List.nil_append] at hg1; replace hg1 := hide hg1; clear l1 l2)
  have HP1 := hide (HP.out.kept hg1.out.2)
  have l0 := HP1.out.c0
  have l7 := HP1.out.c7
  go_upto_region 6 with fail
  have hd : Below w1.heap.size w1 w1.drew := (Below.refl w1.heap.size w1).drew
  have hdal : Below w1.heap.size w1 (w1.drew.alloc (.cells #[.int .i64 (8 + (len : Int)), .int .i64 0] 3)) := bt hd (al_below w1.drew _)
  have HI := hide (show Ints w1.heap.size [8 + (len : Int), 0] (w1.drew.alloc (.cells #[.int .i64 (8 + (len : Int)), .int .i64 0] 3)) from ints2 w1.drew _ _)
  have HG1 := hide (hg1.out.below hdal)
  have HK := hide (fun w' (h : SgIn w.heap.size z a len cap w') => show w'.cell? ⟨w.heap.size, 0, none⟩ = some (.int .i64 (el z 0)) ∧ w'.cell? ⟨w.heap.size, 7, none⟩ = some (.slice a len cap) from ⟨h.c0, h.c7⟩)
  have HPd := hide (HP1.out.kept hd)
  clear hd hdal
  go_region_held3 (fun w' => w'.cell? ⟨w.heap.size, 0, none⟩ = some (.int .i64 (el z 0)) ∧ w'.cell? ⟨w.heap.size, 7, none⟩ = some (.slice a len cap))
    (first
      | go_keep
      | exact HK.out _ HPd.out
      | exact HK.out _ HP2.out)
    (first
      | (go_at_call 59; refine (HH.out _).mono ?_; rintro e w' ⟨rfl, rfl⟩)
      | (go_at_call 51; refine (W2.out W _ _ _ _ HG1.out HI.out M1.out).mono ?_; rintro e w2 ⟨v2, rfl, hg2⟩; have HP2 := hide (HP.out.kept hg2.2); replace hg2 := hide hg2))
  clear l0 l7
  have l7 := HP2.out.c7
  go_wp2_with (at_builtin; refine gr_app rfl (.tmp 40) (.tmp 42) rfl rfl hg2.out rfl ((HR.out.below HB.out).below hg2.out.2) HM.out ?_; intro v5 w5 hg5; replace hg5 := hide hg5; clear l7)
  go_ret
  exact ⟨v5, rfl, HU.out ▸ hg5.out.1.mono HB.out.size, HB.out.trans (hg5.out.2.mono HB.out.size)⟩
end Go.Proofs.YtfjnioninjllkaaDoor
