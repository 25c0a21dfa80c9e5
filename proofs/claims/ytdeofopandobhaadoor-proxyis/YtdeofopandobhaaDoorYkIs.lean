/- The statement's function ProxyIs returns true, whatever the flow and the bytes, if package proxy keeps what is asked of it. -/
import Derived.Test.YtdeofopandobhaaDoorYkP
import Derived.Test.YtdeofopandobhaaDoorYkG
import Derived.Test.YtdeofopandobhaaDoorYkD
import Derived.Test.YtdeofopandobhaaDoorPkT
namespace Go.Proofs.YtdeofopandobhaaDoor
open Go.RowKit

/-- what is kept. -/
def KY (w : World) (f : List Int) (a : Option Addr) (len cap : Nat) (zs : List Int) (W : World) : Prop := Laid0 W ∧ FlIn w.heap.size f W ∧ Row8 W a len cap zs ∧ Below w.heap.size w W
theorem KY.kept {w : World} {f : List Int} {a : Option Addr} {len cap : Nat} {zs : List Int} {W W' : World} (h : KY w f a len cap zs W) (hb : Below W.heap.size W W') : KY w f a len cap zs W' := ⟨h.1.below hb, h.2.1.kept hb, h.2.2.1.below hb, bt h.2.2.2 hb⟩
theorem ydo_cases (zs : List Int) : ((ydo zs).2.1 = 52 ∧ (ydo zs).2.2 = 0) ∨ ((ydo zs).2.1 = 0 ∧ (ydo zs).2.2 = 5) := by
  unfold ydo
  split
  · exact .inl ⟨rfl, rfl⟩
  · exact .inr ⟨rfl, rfl⟩
theorem eqf_refl (f : List Int) : eqf f f = true := (eqf_iff f f).2 rfl
attribute [local go_sem ↓] fload_shut feq_shut
set_option maxRecDepth 100000 in
set_option maxHeartbeats 4000000 in
theorem proxyis_walk (hE : JYe) (hD : JYd) (f : List Int) (a : Option Addr) (len cap : Nat) (zs : List Int) (w : World) (hg : Laid0 w) (hr : Row8 w a len cap zs) (hcl : len ≤ cap) (hcm : cap ≤ maxLen) :
    Calls Tryd.prog 3 #[.agg (flC f), .slice a len cap] w fun e w' => e = .returned (.bool true) ∧ Below w.heap.size w w' := by
  have HK := hide (show KY w f a len cap zs (w.alloc (.cells (flC f) 25)) from ⟨hg.below (al_below _ _), fl_new f w, hr.below (al_below _ _), al_below _ _⟩)
  have R1 := hide (fun W => rff_any f W)
  have P1 := hide (fun W => hE f W)
  have T1 := hide (tells_ev (fe (okf f)))
  have R2 := hide (fun W hW => flowof_any a len cap zs W hW hcl hcm)
  have P2 := hide (fun W hW => hD a len cap zs W hW hcl hcm)
  have T2 := hide (tells_ev (ydo zs).2.2)
  have hyc := ydo_cases zs
  have HH := hide (fun W h => head_any f W h)
  have HO := hide (fun h => hb_oct (f := f) h)
  have HHl := hide (hb_len f)
  have HZ := hide fl_zero
  unfold zero19 at HZ
  clear hE hD hg hr
  obtain ⟨ok, hok⟩ : ∃ b, okf f = b := ⟨_, rfl⟩
  rw [hok] at R1 P1 T1 HH HO
  clear hok
  generalize (ydo zs).1 = G at R2 P2
  generalize (ydo zs).2.1 = n at P2 hyc
  generalize (ydo zs).2.2 = e2 at R2 P2 T2 hyc
  generalize ev e2 = vv at P2 T2
  generalize hb f = X at P1 HH HO HHl
  go_enter Tryd.func3, Tryd.ntmps3
  go_upto_region 1 with fail
  generalize w.alloc _ = W at HK ⊢
  have g1 := HK.out.2.1.fl
  cases ok
  case' false =>
    rw [show fe false = 1 from rfl] at R1 P1 T1
    generalize ev 1 = v1 at P1 T1
    have hq : (P4.str8 []).toList = [] := by rw [str8_list]; rfl
    go_upto_region 7 with (first
      | (go_at_call 5; refine (R1.out _).mono ?_; rintro r w1 ⟨rfl, hb1⟩; replace HK := hide (HK.out.kept hb1); clear hb1 g1; have g1 := HK.out.2.1.fl)
      | (go_at_call 7; refine (P1.out _).mono ?_; rintro r w2 ⟨v2, rfl, -, h2, hb2⟩; obtain rfl := h2 (by simp); replace HK := hide (HK.out.kept hb2); clear hb2 g1)
      | (go_at_call 8; refine (T1.out _ HK.out.1).mono ?_; rintro r w3 ⟨rfl, hb3⟩; replace HK := hide (HK.out.kept hb3); clear hb3))
    have cv := conv8 (w := w3) (a := none) (len := 0) (cap := 0) (zs := []) ⟨rfl, Nat.zero_le _, SM.oct_nil, fun _ => ⟨rfl, rfl⟩, fun h => absurd h (by decide)⟩
    go_upto_region 9 with fail
    clear cv hq HH HO
  case' true =>
    rw [show fe true = 0 from rfl] at R1 P1 T1
    rw [show ev 0 = .nilIface from rfl] at P1 T1
    have hoX := HO.out rfl
    have hq := str8_eq hoX hoX true (by simp)
    replace HH := hide (fun W => HH.out W rfl)
    clear hoX HO
    go_upto_region 5 with (first
      | (go_at_call 5; refine (R1.out _).mono ?_; rintro r w1 ⟨rfl, hb1⟩; replace HK := hide (HK.out.kept hb1); clear hb1 g1; have g1 := HK.out.2.1.fl)
      | (go_at_call 6; refine (HH.out _).mono ?_; rintro r w2 ⟨v2, rfl, o2, hb2⟩; obtain ⟨a2, c2, rfl, r2, -⟩ := o2.row8; rw [HHl.out] at r2 ⊢; replace HK := hide (HK.out.kept hb2); clear hb2 g1 o2; have cv := conv8 r2))
    clear r2 cv
    have g1 := HK.out.2.1.fl
    go_upto_region 7 with (first
      | (go_at_call 7; refine (P1.out _).mono ?_; rintro r w3 ⟨v3, rfl, o3, -, hb3⟩; replace HK := hide (HK.out.kept hb3); obtain ⟨a3, c3, rfl, r3, -⟩ := (o3 (by simp)).row8; rw [HHl.out] at r3 ⊢; replace r3 := hide r3; clear o3 hb3 g1)
      | (go_at_call 8; refine (T1.out _ HK.out.1).mono ?_; rintro r w4 ⟨rfl, hb4⟩; replace HK := hide (HK.out.kept hb4); replace r3 := hide (r3.out.below hb4); clear hb4))
    have cv := conv8 r3.out
    go_upto_region 9 with fail
    clear cv hq r3 HH
  all_goals
    rcases hyc with ⟨rfl, rfl⟩ | ⟨rfl, rfl⟩
    all_goals
      go_upto_region 10 with (first
        | (go_at_call 9; refine (R2.out _ HK.out.2.2.1).mono ?_; rintro r w5 ⟨rfl, hb5⟩; replace HK := hide (HK.out.kept hb5); clear hb5)
        | (refine at_storef rfl (.tmp 10) (.tmp 40) rfl rfl (HZ.out w5) G rfl ?_; intro w6 p6 on6; have hb6 := new_below _ on6; replace HK := hide (HK.out.kept hb6); replace p6 := hide p6; clear on6 hb6))
      generalize w5.heap.size = D1 at p6 ⊢
      go_upto_region 14 with (first
        | (go_at_call 10; refine (P2.out _ HK.out.2.2.1).mono ?_; rintro r w7 ⟨rfl, hb7⟩; replace HK := hide (HK.out.kept hb7); replace p6 := hide (p6.out.kept hb7); clear hb7)
        | (refine at_storef rfl (.tmp 12) (.tmp 47) rfl rfl (HZ.out w7) G rfl ?_; intro w8 p8 on8; have hb8 := new_below _ on8; replace HK := hide (HK.out.kept hb8); replace p6 := hide (p6.out.kept hb8); replace p8 := hide p8; clear on8 hb8))
      generalize w7.heap.size = D2 at p8 ⊢
      go_upto_region 15 with (go_at_call 8; refine (T2.out _ HK.out.1).mono ?_; rintro r w9 ⟨rfl, hb9⟩; replace HK := hide (HK.out.kept hb9); replace p6 := hide (p6.out.kept hb9); replace p8 := hide (p8.out.kept hb9); clear hb9)
      have k1 := p6.out.fl
      have k2 := p8.out.fl
      have qk := feq_run G G
      rw [eqf_refl] at qk
      go_wp2
      go_ret
      exact ⟨rfl, HK.out.2.2.2⟩
end Go.Proofs.YtdeofopandobhaaDoor
