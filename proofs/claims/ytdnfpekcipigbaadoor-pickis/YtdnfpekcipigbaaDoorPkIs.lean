/- The statement's function PickIs returns true, whatever the servers, if package pick keeps what is asked of it. -/
import Derived.Test.YtdnfpekcipigbaaDoorPkE
import Derived.Test.YtdnfpekcipigbaaDoorPkG
import Derived.Test.YtdnfpekcipigbaaDoorPkQ
import Derived.Test.YtdnfpekcipigbaaDoorPkT
namespace Go.Proofs.YtdnfpekcipigbaaDoor
open Go.RowKit

/-- what is kept. -/
def KI (w : World) (f : List Int) (a : Option Addr) (bs : List (List Int)) (W : World) : Prop := Laid0 W ∧ FlIn w.heap.size f W ∧ Bks a bs W ∧ Below w.heap.size w W
theorem KI.kept {w : World} {f : List Int} {a : Option Addr} {bs : List (List Int)} {W W' : World} (h : KI w f a bs W) (hb : Below W.heap.size W W') : KI w f a bs W' := ⟨h.1.below hb, h.2.1.kept hb, h.2.2.1.below hb, bt h.2.2.2 hb⟩
attribute [local go_sem ↓] fload_shut kload_shut keq_shut
set_option maxRecDepth 100000 in
set_option maxHeartbeats 4000000 in
theorem pickis_walk (hC : JKc) (hS : JKs) (hP : JKp) (seed : Int) (f : List Int) (id : Int) (a : Option Addr) (cap : Nat) (bs : List (List Int)) (w : World) (hg : Laid0 w) (hl : bs.length ≤ maxLen) (hcp : bs.length ≤ cap) (h : Bks a bs w) :
    Calls Tryd.prog 3 #[.int .i64 seed, .agg (flC f), .int .i64 id, .slice a bs.length cap] w fun e w' => e = .returned (.bool true) ∧ Below w.heap.size w w' := by
  have HK := hide (show KI w f a bs (w.alloc (.cells (flC f) 25)) from ⟨hg.below (al_below _ _), fl_new f w, h.below (al_below _ _), al_below _ _⟩)
  have R1 := hide (fun W hW => rbf_any a cap bs W hW hl)
  have P1 := hide (fun W hW => hC a cap bs W hW hl hcp)
  have R2 := hide (fun W => rscore_any seed f id W)
  have P2 := hide (fun W => hS seed f id W)
  have R3 := hide (fun W hW => rpick_any seed f a cap bs W hW hl)
  have P3 := hide (fun W hW => hP seed f a cap bs W hW hl hcp)
  generalize (bf bs).1 = p1 at R1 P1
  generalize (bf bs).2 = e1 at R1 P1
  generalize sv seed f id = s2 at R2 P2
  generalize fe (sok seed f id) = e2 at R2 P2
  generalize (pko seed f bs).1 = b3 at R3 P3
  generalize (pko seed f bs).2 = e3 at R3 P3
  have T1 := hide (tells_ev e1)
  have T2 := hide (tells_ev e2)
  have T3 := hide (tells_ev e3)
  generalize ev e1 = v1 at P1 T1
  generalize ev e2 = v2 at P2 T2
  generalize ev e3 = v3 at P3 T3
  have q1 : (p1 != p1) = false := by simp
  have q2 : (s2 != s2) = false := by simp
  have qk := keq_run b3 b3
  rw [eqk_refl] at qk
  have HZ := hide bk_zero
  unfold zero4b at HZ
  clear hC hS hP hg hl hcp h
  go_enter Tryd.func3, Tryd.ntmps3
  go_upto_region 1 with fail
  generalize w.alloc _ = W at HK ⊢
  go_upto_region 6 with (first
    | (go_at_call 4; refine (R1.out _ HK.out.2.2.1).mono ?_; rintro r w1 ⟨rfl, hb1⟩; replace HK := hide (HK.out.kept hb1); clear hb1)
    | (go_at_call 5; refine (P1.out _ HK.out.2.2.1).mono ?_; rintro r w2 ⟨rfl, hb2⟩; replace HK := hide (HK.out.kept hb2); clear hb2)
    | (go_at_call 6; refine (T1.out _ HK.out.1).mono ?_; rintro r w3 ⟨rfl, hb3⟩; replace HK := hide (HK.out.kept hb3); clear hb3))
  have g1 := HK.out.2.1.fl
  go_upto_region 11 with (first
    | (go_at_call 7; refine (R2.out _).mono ?_; rintro r w4 ⟨rfl, hb4⟩; replace HK := hide (HK.out.kept hb4); clear hb4 g1; have g1 := HK.out.2.1.fl)
    | (go_at_call 8; refine (P2.out _).mono ?_; rintro r w5 ⟨rfl, hb5⟩; replace HK := hide (HK.out.kept hb5); clear hb5 g1; have g1 := HK.out.2.1.fl)
    | (go_at_call 6; refine (T2.out _ HK.out.1).mono ?_; rintro r w6 ⟨rfl, hb6⟩; replace HK := hide (HK.out.kept hb6); clear hb6 g1; have g1 := HK.out.2.1.fl))
  go_upto_region 12 with (first
    | (go_at_call 9; refine (R3.out _ HK.out.2.2.1).mono ?_; rintro r w7 ⟨rfl, hb7⟩; replace HK := hide (HK.out.kept hb7); clear hb7 g1)
    | (refine at_storek rfl (.tmp 16) (.tmp 67) rfl rfl (HZ.out w7) b3 rfl ?_; intro w8 p8 on8; have hb8 := new_below _ on8; replace HK := hide (HK.out.kept hb8); replace p8 := hide p8; clear on8 hb8))
  generalize w7.heap.size = D1 at p8 ⊢
  have g1 := HK.out.2.1.fl
  go_upto_region 13 with (first
    | (go_at_call 10; refine (P3.out _ HK.out.2.2.1).mono ?_; rintro r w9 ⟨rfl, hb9⟩; replace HK := hide (HK.out.kept hb9); replace p8 := hide (p8.out.kept hb9); clear hb9 g1)
    | (refine at_storek rfl (.tmp 17) (.tmp 74) rfl rfl (HZ.out w9) b3 rfl ?_; intro w10 p10 on10; have hb10 := new_below _ on10; replace HK := hide (HK.out.kept hb10); replace p8 := hide (p8.out.kept hb10); replace p10 := hide p10; clear on10 hb10))
  generalize w9.heap.size = D2 at p10 ⊢
  go_upto_region 14 with (go_at_call 6; refine (T3.out _ HK.out.1).mono ?_; rintro r w11 ⟨rfl, hb11⟩; replace HK := hide (HK.out.kept hb11); replace p8 := hide (p8.out.kept hb11); replace p10 := hide (p10.out.kept hb11); clear hb11)
  have k1 := p8.out.kl
  have k2 := p10.out.kl
  go_wp2
  go_ret
  exact ⟨rfl, HK.out.2.2.2⟩
end Go.Proofs.YtdnfpekcipigbaaDoor
