/- The walk of the statement Pack4Is: whatever the packet and the bytes, the Go text returns true and writes nothing that was there. -/
import Derived.Test.YtlaljflcgbbhdaaDoorR4g
namespace Go.Proofs.YtlaljflcgbbhdaaDoor
open Go.RowKit

/-- what lasts while the statement runs. -/
def VB (w : World) (s d t k i : Int) (a : Option Addr) (len cap : Nat) (W : World) : Prop := PkIn w.heap.size s d t k i a len cap W ∧ Below w.heap.size w W
theorem VB.kept {w : World} {s d t k i : Int} {a : Option Addr} {len cap : Nat} {W W' : World} (h : VB w s d t k i a len cap W) (hb : Below W.heap.size W W') : VB w s d t k i a len cap W' := ⟨h.1.kept hb, bt h.2 hb⟩
theorem VB.start (w : World) (s d t k i : Int) (a : Option Addr) (len cap : Nat) : VB w s d t k i a len cap (w.alloc (.cells #[.int .i64 s, .int .i64 d, .int .i64 t, .int .i64 k, .int .i64 i, .slice a len cap] 24)) := ⟨pk_new w s d t k i a len cap, bx_below w s d t k i a len cap⟩

set_option maxRecDepth 100000 in
set_option maxHeartbeats 8000000 in
theorem is_walk (s d t k i : Int) (a : Option Addr) (len cap : Nat) (body : List Int) (b : Option Addr) (lb cb : Nat) (zs : List Int) (w : World) (hg : Laid0 w) (hp : Row8 w a len cap body) (hb : Row8 w b lb cb zs) (hlb : lb ≤ cb) (hcb : cb ≤ maxLen) :
    Calls Tryd.prog 3 #[pk s d t k i a len cap, .slice b lb cb] w fun e w' => e = .returned (.bool true) ∧ Below w.heap.size w w' := by
  obtain ⟨e, ev, X, hF, hC, hT, hE, hcase⟩ := tellP s d t k i a len cap body w hp
  obtain ⟨e2, ev2, s2, d2, t2, k2, i2, body2, hD, hP, hT2⟩ := tellB b lb cb zs w hb hlb hcb
  have HV := hide (VB.start w s d t k i a len cap)
  have HG := hide hg
  replace hF := hide hF
  replace hC := hide hC
  replace hT := hide hT
  replace hE := hide hE
  replace hD := hide hD
  replace hP := hide hP
  replace hT2 := hide hT2
  have HS := hide (fun W a1 a2 l1 l2 c1 c2 r1 r2 => pack4s_same s2 d2 t2 k2 i2 a1 a2 l1 l2 c1 c2 body2 W r1 r2)
  clear hg hp hb
  unfold pk at hF hC hE hD hP HS
  unfold pk
  go_enter Tryd.func3, Tryd.ntmps3
  obtain ⟨p0, p1, p2, p3, p4, p5⟩ := HV.out.1.all
  go_upto_region 4 with (first
    | (go_at_call 4; refine (hF.out _).mono ?_; rintro r w1 ⟨rfl, hb1⟩; replace HV := hide (HV.out.kept hb1); clear hb1 p0 p1 p2 p3 p4 p5; obtain ⟨p0, p1, p2, p3, p4, p5⟩ := HV.out.1.all)
    | (go_at_call 6; refine (hC.out _).mono ?_; rintro r w2 ⟨rfl, hb2⟩; replace HV := hide (HV.out.kept hb2); clear hb2 p0 p1 p2 p3 p4 p5)
    | (go_at_call 5; refine (hT.out _ (HG.out.below HV.out.2)).mono ?_; rintro r w3 ⟨rfl, hb3⟩; replace HV := hide (HV.out.kept hb3); clear hb3))
  obtain ⟨p0, p1, p2, p3, p4, p5⟩ := HV.out.1.all
  rcases hcase with ⟨he, hR⟩ | ⟨he, rfl⟩
  case' inl =>
    have heb : (e == 0) = true := by simpa using he
    replace hR := hide hR
    unfold pk at hR
    clear he
    go_upto_region 6 with (go_at_call 7; refine (hR.out _ HV.out.2).mono ?_; rintro r w4 ⟨a4, l4, c4, rfl, hr4, hb4⟩; replace HV := hide (HV.out.kept hb4); have v4 := conv8 hr4; clear hb4 p0 p1 p2 p3 p4 p5)
    obtain ⟨p0, p1, p2, p3, p4, p5⟩ := HV.out.1.all
    have hq := str8_eq hr4.2.2.1 hr4.2.2.1 true (by simp)
    clear hr4 v4 heb hR
  case' inr =>
    have heb : (e == 0) = false := by simpa using he
    have hq : (P4.str8 []).toList = [] := by rw [str8_list]; rfl
    clear he
    go_upto_region 6 with fail
    clear heb
  all_goals
    go_upto_region 8 with (first
      | (go_at_call 8; refine (hE.out _ HV.out.2).mono ?_; rintro r w5 ⟨a5, l5, c5, rfl, hr5, hb5⟩; replace HV := hide (HV.out.kept hb5); replace hr5 := hide hr5; clear hb5 p0 p1 p2 p3 p4 p5)
      | (go_at_call 5; refine (hT.out _ (HG.out.below HV.out.2)).mono ?_; rintro r w6 ⟨rfl, hb6⟩; replace HV := hide (HV.out.kept hb6); replace hr5 := hide (hr5.out.below hb6); clear hb6))
    have v5 := conv8 hr5.out
    go_upto_region 10 with fail
    clear v5 hq hr5 hE hT hF hC
    go_upto_region 11 with (go_at_call 9; refine (hD.out _ HV.out.2).mono ?_; rintro r w7 ⟨a7, l7, c7, rfl, hr7, hb7⟩; replace HV := hide (HV.out.kept hb7); replace hr7 := hide hr7; clear hb7)
    have hb8 := al_below w7 (.cells #[.int .i64 s2, .int .i64 d2, .int .i64 t2, .int .i64 k2, .int .i64 i2, .slice a7 l7 c7] 24)
    have HQ := hide (pk_new w7 s2 d2 t2 k2 i2 a7 l7 c7)
    replace HV := hide (HV.out.kept hb8)
    replace hr7 := hide (hr7.out.below hb8)
    clear hb8
    generalize w7.heap.size = B7 at HQ ⊢
    generalize w7.alloc (.cells #[.int .i64 s2, .int .i64 d2, .int .i64 t2, .int .i64 k2, .int .i64 i2, .slice a7 l7 c7] 24) = W7 at HQ HV hr7 ⊢
    go_upto_region 12 with (go_at_call 10; refine (hP.out _ HV.out.2).mono ?_; rintro r w9 ⟨a9, l9, c9, rfl, hr9, hb9⟩; replace HV := hide (HV.out.kept hb9); replace HQ := hide (HQ.out.kept hb9); replace hr7 := hide (hr7.out.below hb9); replace hr9 := hide hr9; clear hb9)
    have hb10 := al_below w9 (.cells #[.int .i64 s2, .int .i64 d2, .int .i64 t2, .int .i64 k2, .int .i64 i2, .slice a9 l9 c9] 24)
    have HY := hide (pk_new w9 s2 d2 t2 k2 i2 a9 l9 c9)
    replace HV := hide (HV.out.kept hb10)
    replace HQ := hide (HQ.out.kept hb10)
    replace hr7 := hide (hr7.out.below hb10)
    replace hr9 := hide (hr9.out.below hb10)
    clear hb10
    generalize w9.heap.size = B9 at HY ⊢
    generalize w9.alloc (.cells #[.int .i64 s2, .int .i64 d2, .int .i64 t2, .int .i64 k2, .int .i64 i2, .slice a9 l9 c9] 24) = W9 at HQ HV HY hr7 hr9 ⊢
    go_upto_region 13 with (go_at_call 5; refine (hT2.out _ (HG.out.below HV.out.2)).mono ?_; rintro r w11 ⟨rfl, hb11⟩; replace HV := hide (HV.out.kept hb11); replace HQ := hide (HQ.out.kept hb11); replace HY := hide (HY.out.kept hb11); replace hr7 := hide (hr7.out.below hb11); replace hr9 := hide (hr9.out.below hb11); clear hb11)
    obtain ⟨p0, p1, p2, p3, p4, p5⟩ := HQ.out.all
    obtain ⟨y0, y1, y2, y3, y4, y5⟩ := HY.out.all
    go_wp2_with (go_at_call 11; refine (HS.out _ _ _ _ _ _ _ hr9.out hr7.out).mono ?_; rintro r w12 ⟨rfl, hb12⟩; replace HV := hide (HV.out.kept hb12); clear hb12)
    go_ret
    exact ⟨rfl, HV.out.2⟩
end Go.Proofs.YtlaljflcgbbhdaaDoor
