/- Package pick's Pick by a contract. -/
import Derived.Test.YtdnfpekcipigbaaDoorPlE
import Derived.Test.YtdnfpekcipigbaaDoorPlF
namespace Go.Proofs.YtdnfpekcipigbaaDoor
open Go.RowKit

/-- what is kept: the flow and the answer in their blocks; nothing that was there has turned. -/
def KQ (w : World) (f : List Int) (W : World) : Prop := FlIn w.heap.size f W ∧ BkIn (w.heap.size + 1) [] W ∧ Below w.heap.size w W
theorem KQ.kept {w : World} {f : List Int} {W W' : World} (h : KQ w f W) (hb : Below W.heap.size W W') : KQ w f W' := ⟨h.1.kept hb, h.2.1.kept hb, bt h.2.2 hb⟩
theorem KQ.only {w : World} {f : List Int} {W W' : World} {D : Nat} (h : KQ w f W) (hb : Only D W W') (hD : w.heap.size + 1 < D) : KQ w f W' :=
  ⟨(hb.2.2.2.2 _ (by omega)).trans h.1, (hb.2.2.2.2 _ (by omega)).trans h.2.1, hb.below h.2.2 (by omega)⟩
theorem kq_new (w : World) (f : List Int) : KQ w f ((w.alloc (.cells (flC f) 25)).alloc (.cells zero4b 38)) := by
  have b1 := al_below w (.cells (flC f) 25)
  have b2 := al_below (w.alloc (.cells (flC f) 25)) (.cells zero4b 38)
  have hz := bk_zero (w.alloc (.cells (flC f) 25))
  rw [World.size_alloc] at hz
  exact ⟨(fl_new f w).kept b2, hz, bt b1 b2⟩
/-- the greatest product so far, and who has it. -/
def tp (o : Option Nat) (m : Int) : Int := match o with | none => -1 | some _ => m
def bo (o : Option Nat) (bs : List (List Int)) : List Int := match o with | none => [] | some i => bs.getD i []
theorem kst_skip {seed : Int} {f : List Int} {bs : List (List Int)} {k : Nat} (h : cand (bs.getD k []) = false) : pst seed f bs (k + 1) = pst seed f bs k := by
  simp only [pst]
  rw [if_neg (by rw [h]; simp)]
theorem kst_take {seed : Int} {f : List Int} {bs : List (List Int)} {k : Nat} (h : cand (bs.getD k []) = true) {o : Option Nat} {m : Int} (hp : pst seed f bs k = (o, m)) : pst seed f bs (k + 1) = if btr bs o m (pv seed f (bs.getD k [])) k = true then (some k, pv seed f (bs.getD k [])) else (o, m) := by
  simp only [pst]
  rw [if_pos h, hp]
attribute [local go_sem ↓] fload_shut kload_shut
set_option maxRecDepth 100000 in
set_option maxHeartbeats 2000000 in
theorem kpick_bad (seed : Int) (f : List Int) (a : Option Addr) (cap : Nat) (bs : List (List Int)) (w : World) (h : Bks a bs w) (hl : bs.length ≤ maxLen) (hcp : bs.length ≤ cap) (e : Int) (he : pko seed f bs = ([], e)) (hc : (bf bs).2 ≠ 0 ∨ ((bf bs).2 = 0 ∧ sok seed f 0 = false)) :
    Calls Tryd.prog 10 #[.int .i64 seed, .agg (flC f), .slice a bs.length cap] w fun r w' => r = .returned (.tuple #[.agg (bkC []), ev e]) ∧ Below w.heap.size w w' := by
  have HK := hide (kq_new w f)
  have HF := hide (fun W (hW : Below w.heap.size w W) => kcheck a cap bs W (h.below hW) hl hcp)
  have HS := hide (fun W => kscore seed f 0 W)
  have HE := hide he
  unfold zero4b at HK
  unfold pko at HE
  clear h hl hcp he
  generalize (bf bs).1 = p at HF
  generalize (bf bs).2 = e0 at HF hc HE
  generalize sok seed f 0 = so at HS hc HE
  generalize sv seed f 0 = s0 at HS
  rcases hc with hc | ⟨rfl, rfl⟩
  · have HE2 := hide (show e0 = e by have := HE.out; rw [if_neg hc] at this; injection this)
    rw [show ev e0 = .iface 27 (.int .i64 e0) by unfold ev; rw [if_neg hc]; rfl] at HF
    have HV := hide (show ev e = .iface 27 (.int .i64 e0) by rw [← HE2.out]; unfold ev; rw [if_neg hc]; rfl)
    rw [HV.out]
    clear hc HE HE2 HV
    go_enter Tryd.func10, Tryd.ntmps10
    go_upto_region 1 with fail
    generalize (w.alloc _).alloc _ = W at HK ⊢
    go_wp2_with (first
      | (go_at_call 5; refine (HF.out _ HK.out.2.2).mono ?_; rintro r w1 ⟨rfl, hb1⟩; replace HK := hide (HK.out.kept hb1); clear hb1)
      | (refine at_storek rfl (.tmp 6) (.tmp 25) rfl rfl HK.out.2.1 [] rfl ?_; intro w5 p5 on5; have HB5 := hide (on5.below HK.out.2.2 (Nat.le_succ _)); replace p5 := hide p5; clear on5))
    try simp only [Exit.inBlock, Exit.then]
    refine bodyPost_ret (results_bk rfl _ _ (w.heap.size + 1) [] rfl p5.out) rfl ?_
    exact ⟨rfl, HB5.out⟩
  · obtain rfl : (1 : Int) = e := by have := HE.out; rw [if_pos rfl, if_neg (by decide)] at this; injection this
    rw [show ev (fe false) = err 1 from rfl] at HS
    rw [show ev 0 = .nilIface from rfl] at HF
    rw [show ev 1 = err 1 from rfl]
    unfold err at HS ⊢
    clear HE
    go_enter Tryd.func10, Tryd.ntmps10
    go_upto_region 1 with fail
    generalize (w.alloc _).alloc _ = W at HK ⊢
    go_upto_region 4 with (go_at_call 5; refine (HF.out _ HK.out.2.2).mono ?_; rintro r w1 ⟨rfl, hb1⟩; replace HK := hide (HK.out.kept hb1); clear hb1)
    have gf := HK.out.1.fl
    go_wp2_with (first
      | (go_at_call 8; refine (HS.out _).mono ?_; rintro r w2 ⟨rfl, hb2⟩; replace HK := hide (HK.out.kept hb2); clear hb2)
      | (refine at_storek rfl (.tmp 6) (.tmp 35) rfl rfl HK.out.2.1 [] rfl ?_; intro w5 p5 on5; have HB5 := hide (on5.below HK.out.2.2 (Nat.le_succ _)); replace p5 := hide p5; clear on5))
    try simp only [Exit.inBlock, Exit.then]
    refine bodyPost_ret (results_bk rfl _ _ (w.heap.size + 1) [] rfl p5.out) rfl ?_
    exact ⟨rfl, HB5.out⟩
end Go.Proofs.YtdnfpekcipigbaaDoor
