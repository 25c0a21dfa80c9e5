/- The statement's function CrossIs returns true, whatever the packets and the addresses. -/
import Derived.Test.YtfjnioninjllkaaDoorXIs
namespace Go.Proofs.YtfjnioninjllkaaDoor
open Go.RowKit

/-- what is handed in, in its blocks. -/
def VX (w : World) (s d : List Int) (h k : Int) (a : Option Addr) (len cap : Nat) (s4 d4 t4 k4 i4 : Int) (a4 : Option Addr) (len4 cap4 : Nat) (x y : List Int) (W : World) : Prop :=
  V6.PkIn w.heap.size s d h k a len cap W ∧ V4.PkIn (w.heap.size + 1) s4 d4 t4 k4 i4 a4 len4 cap4 W ∧ SixIn (w.heap.size + 1 + 1) x W ∧ SixIn (w.heap.size + 1 + 1 + 1) y W ∧ Below w.heap.size w W
theorem VX.kept {w : World} {s d : List Int} {h k : Int} {a : Option Addr} {len cap : Nat} {s4 d4 t4 k4 i4 : Int} {a4 : Option Addr} {len4 cap4 : Nat} {x y : List Int} {W W' : World} (v : VX w s d h k a len cap s4 d4 t4 k4 i4 a4 len4 cap4 x y W) (hb : Below W.heap.size W W') : VX w s d h k a len cap s4 d4 t4 k4 i4 a4 len4 cap4 x y W' := ⟨v.1.kept hb, v.2.1.kept hb, v.2.2.1.kept hb, v.2.2.2.1.kept hb, bt v.2.2.2.2 hb⟩
theorem VX.start (w : World) (s d : List Int) (h k : Int) (a : Option Addr) (len cap : Nat) (s4 d4 t4 k4 i4 : Int) (a4 : Option Addr) (len4 cap4 : Nat) (x y : List Int) :
    VX w s d h k a len cap s4 d4 t4 k4 i4 a4 len4 cap4 x y ((((w.alloc (.cells (V6.pkC s d h k a len cap) 26)).alloc (.cells #[.int .i64 s4, .int .i64 d4, .int .i64 t4, .int .i64 k4, .int .i64 i4, .slice a4 len4 cap4] 28)).alloc (.cells (sixC x) 23)).alloc (.cells (sixC y) 23)) := by
  have s1 : (w.alloc (.cells (V6.pkC s d h k a len cap) 26)).heap.size = w.heap.size + 1 := World.size_alloc _ _
  have b1 : Below w.heap.size w (w.alloc (.cells (V6.pkC s d h k a len cap) 26)) := al_below w _
  have p1 := V6.pk_new w s d h k a len cap
  generalize w.alloc (.cells (V6.pkC s d h k a len cap) 26) = w1 at s1 b1 p1 ⊢
  have s2 : (w1.alloc (.cells #[.int .i64 s4, .int .i64 d4, .int .i64 t4, .int .i64 k4, .int .i64 i4, .slice a4 len4 cap4] 28)).heap.size = w.heap.size + 1 + 1 := by rw [World.size_alloc, s1]
  have b2 : Below w1.heap.size w1 (w1.alloc (.cells #[.int .i64 s4, .int .i64 d4, .int .i64 t4, .int .i64 k4, .int .i64 i4, .slice a4 len4 cap4] 28)) := al_below w1 _
  have p2 := V4.pk_new w1 s4 d4 t4 k4 i4 a4 len4 cap4
  rw [s1] at p2
  generalize w1.alloc (.cells #[.int .i64 s4, .int .i64 d4, .int .i64 t4, .int .i64 k4, .int .i64 i4, .slice a4 len4 cap4] 28) = w2 at s2 b2 p2 ⊢
  have s3 : (w2.alloc (.cells (sixC x) 23)).heap.size = w.heap.size + 1 + 1 + 1 := by rw [World.size_alloc, s2]
  have b3 : Below w2.heap.size w2 (w2.alloc (.cells (sixC x) 23)) := al_below w2 _
  have p3 : SixIn w2.heap.size x (w2.alloc (.cells (sixC x) 23)) := six_new x w2
  rw [s2] at p3
  generalize w2.alloc (.cells (sixC x) 23) = w3 at s3 b3 p3 ⊢
  have b4 : Below w3.heap.size w3 (w3.alloc (.cells (sixC y) 23)) := al_below w3 _
  have p4 : SixIn w3.heap.size y (w3.alloc (.cells (sixC y) 23)) := six_new y w3
  rw [s3] at p4
  exact ⟨((p1.kept b2).kept b3).kept b4, (p2.kept b3).kept b4, p3.kept b4, p4, bt (bt (bt b1 b2) b3) b4⟩
set_option maxRecDepth 100000 in
set_option maxHeartbeats 8000000 in
theorem crossis_walk (s d : List Int) (h k : Int) (a : Option Addr) (len cap : Nat) (zs : List Int) (src dst : Int) (s4 d4 t4 k4 i4 : Int) (a4 : Option Addr) (len4 cap4 : Nat) (zs4 : List Int) (x y : List Int) (w : World) (hg : Laid0 w)
    (hr : Row8 w a len cap zs) (hcl : len ≤ cap) (hcm : cap ≤ maxLen) (hr4 : Row8 w a4 len4 cap4 zs4) (hcl4 : len4 ≤ cap4) (hcm4 : cap4 ≤ maxLen) :
    Calls Tryd.prog 3 #[V6.pk s d h k a len cap, .int .i64 src, .int .i64 dst, V4.pk s4 d4 t4 k4 i4 a4 len4 cap4, .agg (sixC x), .agg (sixC y)] w fun e w' => e = .returned (.bool true) ∧ Below w.heap.size w w' := by
  obtain ⟨e, s', d', t', k', i', X, hR, hP⟩ := tellX4 s d h k a len cap zs src dst w hr hcl hcm
  obtain ⟨f, x', y', u', m', Y, hR6, hP6⟩ := tellX6 s4 d4 t4 k4 i4 a4 len4 cap4 zs4 x y w hr4 hcl4 hcm4
  have HG := hide hg
  have HT := hide (tells_ev e)
  have HT6 := hide (tells_ev f)
  have HV := hide (VX.start w s d h k a len cap s4 d4 t4 k4 i4 a4 len4 cap4 x y)
  have HZ := hide V4.zero_new
  have HZ6 := hide V6.zero_new
  have HS := hide (fun W a1 a2 l1 l2 c1 c2 r1 r2 => V4.pack4s_same s' d' t' k' i' a1 a2 l1 l2 c1 c2 X W r1 r2)
  have HS6 := hide (fun W a1 a2 l1 l2 c1 c2 r1 r2 => V6.pack6s_same x' y' u' m' a1 a2 l1 l2 c1 c2 Y W r1 r2)
  replace hR := hide hR
  replace hP := hide hP
  replace hR6 := hide hR6
  replace hP6 := hide hP6
  generalize ev e = EV at hP HT
  generalize ev f = EV6 at hP6 HT6
  unfold V4.zero4 at HZ
  unfold V6.zero6 at HZ6
  unfold V6.pk at hR hP hR6 hP6 HS6 ⊢
  unfold V4.pk at hR hP hR6 hP6 HS ⊢
  clear hg hr hcl hcm hr4 hcl4 hcm4
  go_enter Tryd.func3, Tryd.ntmps3
  go_upto_region 1 with fail
  generalize (World.alloc (World.alloc (World.alloc _ _) _) _).alloc _ = W0 at HV ⊢
  go_upto_region 2 with (first
    | (refine V6.at_load rfl (.tmp 6) rfl rfl HV.out.1 ?_)
    | (go_at_call 5; refine (hR.out _ HV.out.2.2.2.2).mono ?_; rintro r w1 ⟨a1, l1, c1, rfl, hr1, hb1⟩; replace HV := hide (HV.out.kept hb1); replace hr1 := hide hr1; clear hb1)
    | (refine V4.at_store rfl (.tmp 13) (.tmp 26) rfl rfl (HZ.out w1) s' d' t' k' i' a1 l1 c1 rfl ?_; intro w2 p2 on2; have hb2 := new_below _ on2; replace HV := hide (HV.out.kept hb2); replace hr1 := hide (hr1.out.below hb2); replace p2 := hide p2; clear hb2 on2))
  generalize w1.heap.size = B1 at p2 ⊢
  go_upto_region 3 with (first
    | (refine V6.at_load rfl (.tmp 6) rfl rfl HV.out.1 ?_)
    | (go_at_call 6; refine (hP.out _ HV.out.2.2.2.2).mono ?_; rintro r w3 ⟨a3, l3, c3, rfl, hr3, hb3⟩; replace HV := hide (HV.out.kept hb3); replace hr1 := hide (hr1.out.below hb3); replace p2 := hide (p2.out.kept hb3); replace hr3 := hide hr3; clear hb3)
    | (refine V4.at_store rfl (.tmp 15) (.tmp 33) rfl rfl (HZ.out w3) s' d' t' k' i' a3 l3 c3 rfl ?_; intro w4 p4 on4; have hb4 := new_below _ on4; replace HV := hide (HV.out.kept hb4); replace hr1 := hide (hr1.out.below hb4); replace hr3 := hide (hr3.out.below hb4); replace p2 := hide (p2.out.kept hb4); replace p4 := hide p4; clear hb4 on4))
  generalize w3.heap.size = B3 at p4 ⊢
  go_upto_region 4 with (go_at_call 7; refine (HT.out _ (HG.out.below HV.out.2.2.2.2)).mono ?_; rintro r w5 ⟨rfl, hb5⟩; replace HV := hide (HV.out.kept hb5); replace hr1 := hide (hr1.out.below hb5); replace hr3 := hide (hr3.out.below hb5); replace p2 := hide (p2.out.kept hb5); replace p4 := hide (p4.out.kept hb5); clear hb5)
  go_upto_region 5 with (first
    | (refine V4.at_load rfl (.tmp 15) rfl rfl p4.out ?_)
    | (refine V4.at_load rfl (.tmp 13) rfl rfl p2.out ?_)
    | (go_at_call 8; refine (HS.out _ _ _ _ _ _ _ hr3.out hr1.out).mono ?_; rintro r w6 ⟨rfl, hb6⟩; replace HV := hide (HV.out.kept hb6); clear hb6 hr1 hr3 p2 p4))
  go_upto_region 8 with (first
    | (refine V4.at_load rfl (.tmp 9) rfl rfl HV.out.2.1 ?_)
    | (refine at_load6 rfl (.tmp 10) rfl rfl HV.out.2.2.1 ?_)
    | (refine at_load6 rfl (.tmp 11) rfl rfl HV.out.2.2.2.1 ?_)
    | (go_at_call 9; refine (hR6.out _ HV.out.2.2.2.2).mono ?_; rintro r w7 ⟨a7, l7, c7, rfl, hr1, hb1⟩; replace HV := hide (HV.out.kept hb1); replace hr1 := hide hr1; clear hb1)
    | (refine V6.at_store rfl (.tmp 19) (.tmp 52) rfl rfl (HZ6.out w7) x' y' u' m' a7 l7 c7 rfl ?_; intro w8 p2 on2; have hb2 := new_below _ on2; replace HV := hide (HV.out.kept hb2); replace hr1 := hide (hr1.out.below hb2); replace p2 := hide p2; clear hb2 on2))
  generalize w7.heap.size = B7 at p2 ⊢
  go_upto_region 9 with (first
    | (refine V4.at_load rfl (.tmp 9) rfl rfl HV.out.2.1 ?_)
    | (refine at_load6 rfl (.tmp 10) rfl rfl HV.out.2.2.1 ?_)
    | (refine at_load6 rfl (.tmp 11) rfl rfl HV.out.2.2.2.1 ?_)
    | (go_at_call 10; refine (hP6.out _ HV.out.2.2.2.2).mono ?_; rintro r w9 ⟨a9, l9, c9, rfl, hr3, hb3⟩; replace HV := hide (HV.out.kept hb3); replace hr1 := hide (hr1.out.below hb3); replace p2 := hide (p2.out.kept hb3); replace hr3 := hide hr3; clear hb3)
    | (refine V6.at_store rfl (.tmp 20) (.tmp 59) rfl rfl (HZ6.out w9) x' y' u' m' a9 l9 c9 rfl ?_; intro w10 p4 on4; have hb4 := new_below _ on4; replace HV := hide (HV.out.kept hb4); replace hr1 := hide (hr1.out.below hb4); replace hr3 := hide (hr3.out.below hb4); replace p2 := hide (p2.out.kept hb4); replace p4 := hide p4; clear hb4 on4))
  generalize w9.heap.size = B9 at p4 ⊢
  go_upto_region 10 with (go_at_call 7; refine (HT6.out _ (HG.out.below HV.out.2.2.2.2)).mono ?_; rintro r w11 ⟨rfl, hb5⟩; replace HV := hide (HV.out.kept hb5); replace hr1 := hide (hr1.out.below hb5); replace hr3 := hide (hr3.out.below hb5); replace p2 := hide (p2.out.kept hb5); replace p4 := hide (p4.out.kept hb5); clear hb5)
  go_wp2_with (first
    | (refine V6.at_load rfl (.tmp 20) rfl rfl p4.out ?_)
    | (refine V6.at_load rfl (.tmp 19) rfl rfl p2.out ?_)
    | (go_at_call 11; refine (HS6.out _ _ _ _ _ _ _ hr3.out hr1.out).mono ?_; rintro r w12 ⟨rfl, hb6⟩; replace HV := hide (HV.out.kept hb6); clear hb6 hr1 hr3 p2 p4))
  go_ret
  exact ⟨rfl, HV.out.2.2.2.2⟩
end Go.Proofs.YtfjnioninjllkaaDoor
