/- The walk of the statement Pack6Is: whatever the packet and the bytes, the Go text returns true and writes nothing that was there. -/
import Derived.Test.YtkgiocofmhnfhaaDoorR6g
namespace Go.Proofs.YtkgiocofmhnfhaaDoor
open Go.RowKit

/-- what lasts while the statement runs. -/
def VB (w : World) (s d : List Int) (h k : Int) (a : Option Addr) (len cap : Nat) (W : World) : Prop := PkIn w.heap.size s d h k a len cap W ∧ Below w.heap.size w W
theorem VB.kept {w : World} {s d : List Int} {h k : Int} {a : Option Addr} {len cap : Nat} {W W' : World} (v : VB w s d h k a len cap W) (hb : Below W.heap.size W W') : VB w s d h k a len cap W' := ⟨v.1.kept hb, bt v.2 hb⟩
theorem VB.start (w : World) (s d : List Int) (h k : Int) (a : Option Addr) (len cap : Nat) : VB w s d h k a len cap (w.alloc (.cells (pkC s d h k a len cap) 26)) := ⟨pk_new w s d h k a len cap, al_below _ _⟩
/-- a new packet that is stored at once. -/
theorem new_below {w w' : World} (o : Obj) (h : Only w.heap.size (w.alloc o) w') : Below w.heap.size w w' := h.below (al_below w o) (Nat.le_refl _)

set_option maxRecDepth 100000 in
set_option maxHeartbeats 8000000 in
theorem is_walk (s d : List Int) (h k : Int) (a : Option Addr) (len cap : Nat) (body : List Int) (b : Option Addr) (lb cb : Nat) (zs : List Int) (w : World) (hg : Laid0 w) (hp : Row8 w a len cap body) (hb : Row8 w b lb cb zs) (hlb : lb ≤ cb) (hcb : cb ≤ maxLen) :
    Calls Tryd.prog 3 #[pk s d h k a len cap, .slice b lb cb] w fun e w' => e = .returned (.bool true) ∧ Below w.heap.size w w' := by
  obtain ⟨e, ev, X, hF, hC, hT, hE, hcase⟩ := tellP s d h k a len cap body w hp
  obtain ⟨e2, ev2, s2, d2, h2, k2, body2, hD, hP, hT2⟩ := tellB b lb cb zs w hb hlb hcb
  have HV := hide (VB.start w s d h k a len cap)
  have HG := hide hg
  have HZ := hide zero_new
  unfold zero6 at HZ
  replace hF := hide hF
  replace hC := hide hC
  replace hT := hide hT
  replace hE := hide hE
  replace hD := hide hD
  replace hP := hide hP
  replace hT2 := hide hT2
  have HS := hide (fun W a1 a2 l1 l2 c1 c2 r1 r2 => pack6s_same s2 d2 h2 k2 a1 a2 l1 l2 c1 c2 body2 W r1 r2)
  clear hg hp hb
  unfold pk at hF hC hE hD hP HS
  unfold pk
  go_enter Tryd.func3, Tryd.ntmps3
  go_upto_region 1 with fail
  generalize w.alloc _ = W0 at HV ⊢
  go_upto_region 4 with (first
    | (refine at_load rfl (.tmp 2) rfl rfl HV.out.1 ?_)
    | (go_at_call 5; refine (hF.out _).mono ?_; rintro r w1 ⟨rfl, hb1⟩; replace HV := hide (HV.out.kept hb1); clear hb1)
    | (go_at_call 7; refine (hC.out _).mono ?_; rintro r w2 ⟨rfl, hb2⟩; replace HV := hide (HV.out.kept hb2); clear hb2)
    | (go_at_call 6; refine (hT.out _ (HG.out.below HV.out.2)).mono ?_; rintro r w3 ⟨rfl, hb3⟩; replace HV := hide (HV.out.kept hb3); clear hb3))
  rcases hcase with ⟨he, hR⟩ | ⟨he, rfl⟩
  case' inl =>
    have heb : (e == 0) = true := by simpa using he
    replace hR := hide hR
    unfold pk at hR
    clear he
    go_upto_region 6 with (first
      | (refine at_load rfl (.tmp 2) rfl rfl HV.out.1 ?_)
      | (go_at_call 8; refine (hR.out _ HV.out.2).mono ?_; rintro r w4 ⟨a4, l4, c4, rfl, hr4, hb4⟩; replace HV := hide (HV.out.kept hb4); have v4 := conv8 hr4; clear hb4))
    have hq := str8_eq hr4.2.2.1 hr4.2.2.1 true (by simp)
    clear hr4 v4 heb hR
  case' inr =>
    have heb : (e == 0) = false := by simpa using he
    have hq : (P4.str8 []).toList = [] := by rw [str8_list]; rfl
    clear he
    go_upto_region 6 with fail
    clear heb
  all_goals
    go_upto_region 8 with (first
      | (refine at_load rfl (.tmp 2) rfl rfl HV.out.1 ?_)
      | (go_at_call 9; refine (hE.out _ HV.out.2).mono ?_; rintro r w5 ⟨a5, l5, c5, rfl, hr5, hb5⟩; replace HV := hide (HV.out.kept hb5); replace hr5 := hide hr5; clear hb5)
      | (go_at_call 6; refine (hT.out _ (HG.out.below HV.out.2)).mono ?_; rintro r w6 ⟨rfl, hb6⟩; replace HV := hide (HV.out.kept hb6); replace hr5 := hide (hr5.out.below hb6); clear hb6))
    have v5 := conv8 hr5.out
    go_upto_region 10 with fail
    clear v5 hq hr5 hE hT hF hC
    go_upto_region 11 with (first
      | (go_at_call 10; refine (hD.out _ HV.out.2).mono ?_; rintro r w7 ⟨a7, l7, c7, rfl, hr7, hb7⟩; replace HV := hide (HV.out.kept hb7); replace hr7 := hide hr7; clear hb7)
      | (refine at_store rfl (.tmp 11) (.tmp 48) rfl rfl (HZ.out w7) s2 d2 h2 k2 a7 l7 c7 rfl ?_; intro w8 p8 on8; have hb8 := new_below _ on8; replace HV := hide (HV.out.kept hb8); replace hr7 := hide (hr7.out.below hb8); replace p8 := hide p8; clear hb8 on8))
    generalize w7.heap.size = B7 at p8 ⊢
    go_upto_region 12 with (first
      | (go_at_call 11; refine (hP.out _ HV.out.2).mono ?_; rintro r w9 ⟨a9, l9, c9, rfl, hr9, hb9⟩; replace HV := hide (HV.out.kept hb9); replace p8 := hide (p8.out.kept hb9); replace hr7 := hide (hr7.out.below hb9); replace hr9 := hide hr9; clear hb9)
      | (refine at_store rfl (.tmp 12) (.tmp 53) rfl rfl (HZ.out w9) s2 d2 h2 k2 a9 l9 c9 rfl ?_; intro w10 p10 on10; have hb10 := new_below _ on10; replace HV := hide (HV.out.kept hb10); replace p8 := hide (p8.out.kept hb10); replace hr7 := hide (hr7.out.below hb10); replace hr9 := hide (hr9.out.below hb10); replace p10 := hide p10; clear hb10 on10))
    generalize w9.heap.size = B9 at p10 ⊢
    go_upto_region 13 with (go_at_call 6; refine (hT2.out _ (HG.out.below HV.out.2)).mono ?_; rintro r w11 ⟨rfl, hb11⟩; replace HV := hide (HV.out.kept hb11); replace p8 := hide (p8.out.kept hb11); replace p10 := hide (p10.out.kept hb11); replace hr7 := hide (hr7.out.below hb11); replace hr9 := hide (hr9.out.below hb11); clear hb11)
    go_wp2_with (first
      | (refine at_load rfl (.tmp 12) rfl rfl p10.out ?_)
      | (refine at_load rfl (.tmp 11) rfl rfl p8.out ?_)
      | (go_at_call 12; refine (HS.out _ _ _ _ _ _ _ hr9.out hr7.out).mono ?_; rintro r w12 ⟨rfl, hb12⟩; replace HV := hide (HV.out.kept hb12); clear hb12))
    go_ret
    exact ⟨rfl, HV.out.2⟩
end Go.Proofs.YtkgiocofmhnfhaaDoor
