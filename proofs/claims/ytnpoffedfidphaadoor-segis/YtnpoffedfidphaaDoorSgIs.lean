/- The walk of the statement SegIs: whatever the segment, what stands over it, the kind and the bytes, the Go text returns true and writes nothing that was there. -/
import Derived.Test.YtnpoffedfidphaaDoorSgTell
namespace Go.Proofs.YtnpoffedfidphaaDoor
open Go.RowKit

/-- what lasts while the statement runs. -/
def VB (w : World) (z : List Int) (a : Option Addr) (len cap : Nat) (W : World) : Prop := SgIn w.heap.size z a len cap W ∧ Below w.heap.size w W
theorem VB.kept {w : World} {z : List Int} {a : Option Addr} {len cap : Nat} {W W' : World} (v : VB w z a len cap W) (hb : Below W.heap.size W W') : VB w z a len cap W' := ⟨v.1.kept hb, bt v.2 hb⟩
theorem VB.start (w : World) (z : List Int) (a : Option Addr) (len cap : Nat) : VB w z a len cap (w.alloc (.cells (sgC z a len cap) 24)) := ⟨sg_new w z a len cap, al_below _ _⟩
/-- a new segment that is stored at once. -/
theorem new_below {w w' : World} (o : Obj) (h : Only w.heap.size (w.alloc o) w') : Below w.heap.size w w' := h.below (al_below w o) (Nat.le_refl _)
attribute [local go_sem ↓] gload_shut Go.wp_at_zero Go.wp_at_succ

set_option maxRecDepth 100000 in
set_option maxHeartbeats 8000000 in
theorem is_walk (z : List Int) (a : Option Addr) (len cap : Nat) (data : List Int) (over k : Int) (b : Option Addr) (lb cb : Nat) (zs : List Int) (w : World) (hg : Laid0 w) (hp : Row8 w a len cap data) (hb : Row8 w b lb cb zs) (hlb : lb ≤ cb) (hcb : cb ≤ maxLen) :
    Calls Tryd.prog 3 #[.agg (sgC z a len cap), .int .i64 over, .int .i64 k, .slice b lb cb] w fun e w' => e = .returned (.bool true) ∧ Below w.heap.size w w' := by
  obtain ⟨e2, ev2, z2, D2, hD, hP, hT2⟩ := tellB k over b lb cb zs w hb hlb hcb
  have hlen := hp.1
  have hF := hide (fun W => rfault_any z a len cap W hp.2.1)
  have hC := hide (fun W => chk_any z a len cap W hp.2.1)
  have hT := hide (tells_ev (sf z len))
  have hE := hide (fun W (h : Below w.heap.size w W) => enc_tell z a len cap over data W (hp.below h))
  have hTE := hide (tells_ev (ee z len over))
  have HV := hide (VB.start w z a len cap)
  have HG := hide hg
  have HZ := hide zero_new
  unfold zero7 at HZ
  have HS := hide (fun W a1 a2 l1 l2 c1 c2 r1 r2 => segs_same z2 a1 a2 l1 l2 c1 c2 D2 W r1 r2)
  replace hD := hide hD
  replace hP := hide hP
  replace hT2 := hide hT2
  have hcase : (sf z len = 0 ∧ up 65535 over = true ∧ ee z len over = 0 ∧ xx z len over data = eb z over data) ∨ (sf z len = 0 ∧ up 65535 over = false ∧ ee z len over = 1 ∧ xx z len over data = []) ∨ (sf z len ≠ 0 ∧ sf z len = ee z len over ∧ xx z len over data = []) := by
    by_cases hz : sf z len = 0
    · cases hu : up 65535 over
      · have e1 : ee z len over = 1 := if_pos ⟨hz, hu⟩
        exact .inr (.inl ⟨hz, rfl, e1, if_neg (by rw [e1]; decide)⟩)
      · have e1 : ee z len over = 0 := by unfold ee; rw [if_neg (fun h => by rw [hu] at h; cases h.2)]; exact hz
        exact .inl ⟨hz, rfl, e1, if_pos e1⟩
    · have e1 : ee z len over = sf z len := if_neg (fun h => hz h.1)
      exact .inr (.inr ⟨hz, e1.symm, if_neg (by rw [e1]; exact hz)⟩)
  have HK := hide (fun (h1 : sf z len = 0) (h2 : up 65535 over = true) W (h : Below w.heap.size w W) => rcheck_any z a len cap over data W ((sf_iff _ _).1 h1) h2 (hp.below h))
  have HY := hide (fun (h1 : sf z len = 0) (h2 : up 65535 over = true) W (h : Below w.heap.size w W) => rbytes_any z a len cap (sck z over data) data W ((sf_iff _ _).1 h1) (sck_in z over data hp.2.2.1 h2) (hp.below h))
  have HYE := hide (fun (h1 : sf z len = 0) => sbx_eb z over data (by rw [hlen]; exact (sf_iff _ _).1 h1))
  have hoX : SM.Oct (xx z len over data) := by
    rcases hcase with ⟨_, hu, _, h⟩ | ⟨_, _, _, h⟩ | ⟨_, _, h⟩
    · rw [h]; exact eb_oct z over data hp.2.2.1 hu
    · rw [h]; exact SM.oct_nil
    · rw [h]; exact SM.oct_nil
  clear hg hp hb hlen
  generalize hEE : sf z len = E at hF hC hT hcase HK HY HYE
  generalize ev E = V1 at hC hT
  generalize ee z len over = E2 at hE hTE hcase
  generalize ev E2 = V2 at hE hTE
  generalize xx z len over data = X at hE hcase hoX
  clear hEE
  go_enter Tryd.func3, Tryd.ntmps3
  go_upto_region 1 with fail
  generalize w.alloc _ = W0 at HV ⊢
  go_upto_region 5 with (first
    | (refine at_load rfl (.tmp 4) rfl rfl HV.out.1 ?_)
    | (go_at_call 6; refine (hF.out _).mono ?_; rintro r w1 ⟨rfl, hb1⟩; replace HV := hide (HV.out.kept hb1); clear hb1)
    | (go_at_call 8; refine (hC.out _).mono ?_; rintro r w2 ⟨rfl, hb2⟩; replace HV := hide (HV.out.kept hb2); clear hb2)
    | (go_at_call 7; refine (hT.out _ (HG.out.below HV.out.2)).mono ?_; rintro r w3 ⟨rfl, hb3⟩; replace HV := hide (HV.out.kept hb3); clear hb3)
    | (go_at_call 9; refine (word_any _ _).mono ?_; rintro e w' ⟨rfl, rfl⟩))
  clear hF hC hT
  rcases hcase with ⟨rfl, h2, rfl, rfl⟩ | ⟨rfl, h2, rfl, rfl⟩ | ⟨h1, rfl, rfl⟩
  case' inl =>
    have HK' := hide (HK.out rfl h2)
    have HY' := hide (HY.out rfl h2)
    rw [HYE.out rfl] at HY'
    have hq := str8_eq hoX hoX true (by simp)
    clear HK HY HYE
    generalize sck z over data = C at HK' HY'
    generalize eb z over data = X at hE hoX HY' hq
    go_upto_region 8 with fail
    replace HV := hide (HV.out.kept (Below.refl _ _).drew)
    have lg := HV.out.1.gl
    go_region_with (first
        | (go_at_call 11; refine (HK'.out _ HV.out.2).mono ?_; rintro r w4 ⟨rfl, hb4⟩; replace HV := hide (HV.out.kept hb4); clear hb4 lg; have lg := HV.out.1.gl)
        | (go_at_call 10; refine (HY'.out _ HV.out.2).mono ?_; rintro r w5 ⟨v5, rfl, o5, hb5⟩; obtain ⟨a5, c5, rfl, hr5, -⟩ := o5.row8; replace HV := hide (HV.out.kept hb5); have v5 := conv8 hr5; clear hb5 o5))
    clear hr5 HK' HY'
    go_upto_region 9 with fail
    clear v5
  case' inr.inl =>
    have hq : (P4.str8 []).toList = [] := by rw [str8_list]; rfl
    clear HK HY HYE
    go_upto_region 9 with fail
  case' inr.inr =>
    have heb : (E == 0) = false := by simpa using h1
    have hq : (P4.str8 []).toList = [] := by rw [str8_list]; rfl
    clear h1 HK HY HYE
    go_upto_region 9 with fail
    clear heb
  all_goals
    go_upto_region 11 with (first
      | (refine at_load rfl (.tmp 4) rfl rfl HV.out.1 ?_)
      | (go_at_call 12; refine (hE.out _ HV.out.2).mono ?_; rintro r w6 ⟨a6, l6, c6, rfl, hr6, hb6⟩; replace HV := hide (HV.out.kept hb6); replace hr6 := hide hr6; clear hb6)
      | (go_at_call 7; refine (hTE.out _ (HG.out.below HV.out.2)).mono ?_; rintro r w7 ⟨rfl, hb7⟩; replace HV := hide (HV.out.kept hb7); replace hr6 := hide (hr6.out.below hb7); clear hb7))
    have v6 := conv8 hr6.out
    go_upto_region 13 with fail
    clear v6 hq hr6 hE hTE
    go_upto_region 14 with (first
      | (go_at_call 13; refine (hD.out _ HV.out.2).mono ?_; rintro r w8 ⟨a8, l8, c8, rfl, hr8, hb8⟩; replace HV := hide (HV.out.kept hb8); replace hr8 := hide hr8; clear hb8)
      | (refine at_store rfl (.tmp 16) (.tmp 67) rfl rfl (HZ.out w8) z2 a8 l8 c8 rfl ?_; intro w9 p9 on9; have hb9 := new_below _ on9; replace HV := hide (HV.out.kept hb9); replace hr8 := hide (hr8.out.below hb9); replace p9 := hide p9; clear hb9 on9))
    generalize w8.heap.size = B8 at p9 ⊢
    go_upto_region 15 with (first
      | (go_at_call 14; refine (hP.out _ HV.out.2).mono ?_; rintro r w10 ⟨a10, l10, c10, rfl, hr10, hb10⟩; replace HV := hide (HV.out.kept hb10); replace p9 := hide (p9.out.kept hb10); replace hr8 := hide (hr8.out.below hb10); replace hr10 := hide hr10; clear hb10)
      | (refine at_store rfl (.tmp 17) (.tmp 74) rfl rfl (HZ.out w10) z2 a10 l10 c10 rfl ?_; intro w11 p11 on11; have hb11 := new_below _ on11; replace HV := hide (HV.out.kept hb11); replace p9 := hide (p9.out.kept hb11); replace hr8 := hide (hr8.out.below hb11); replace hr10 := hide (hr10.out.below hb11); replace p11 := hide p11; clear hb11 on11))
    generalize w10.heap.size = B10 at p11 ⊢
    go_upto_region 16 with (go_at_call 7; refine (hT2.out _ (HG.out.below HV.out.2)).mono ?_; rintro r w12 ⟨rfl, hb12⟩; replace HV := hide (HV.out.kept hb12); replace p9 := hide (p9.out.kept hb12); replace p11 := hide (p11.out.kept hb12); replace hr8 := hide (hr8.out.below hb12); replace hr10 := hide (hr10.out.below hb12); clear hb12)
    go_wp2_with (first
      | (refine at_load rfl (.tmp 17) rfl rfl p11.out ?_)
      | (refine at_load rfl (.tmp 16) rfl rfl p9.out ?_)
      | (go_at_call 15; refine (HS.out _ _ _ _ _ _ _ hr10.out hr8.out).mono ?_; rintro r w13 ⟨rfl, hb13⟩; replace HV := hide (HV.out.kept hb13); clear hb13))
    go_ret
    exact ⟨rfl, HV.out.2⟩
end Go.Proofs.YtnpoffedfidphaaDoor
