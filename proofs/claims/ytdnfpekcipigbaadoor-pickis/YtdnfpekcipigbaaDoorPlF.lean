/- Package pick's Score by a contract. -/
import Derived.Test.YtdnfpekcipigbaaDoorPlD
import Derived.Test.YtdnfpekcipigbaaDoorPkG
namespace Go.Proofs.YtdnfpekcipigbaaDoor
open Go.RowKit

/-- what is kept of a flow that was handed in. -/
def KF (w : World) (f : List Int) (W : World) : Prop := FlIn w.heap.size f W ∧ Below w.heap.size w W
theorem KF.kept {w : World} {f : List Int} {W W' : World} (h : KF w f W) (hb : Below W.heap.size W W') : KF w f W' := ⟨h.1.kept hb, bt h.2 hb⟩
theorem kf_new (w : World) (f : List Int) : KF w f (w.alloc (.cells (flC f) 25)) := ⟨fl_new f w, al_below _ _⟩
attribute [local go_sem ↓] fload_shut
set_option maxRecDepth 100000 in
set_option maxHeartbeats 4000000 in
theorem kscore : JKs := by
  intro seed f id w
  have HK := hide (kf_new w f)
  have HU := hide (fun W => kup1 2147483647 seed W)
  have HV := hide (fun W => kup1 65535 id W)
  have HC := hide (fun W => bcheck f W)
  have HO := hide (show sok seed f id = (um 2147483647 seed && um 65535 id && okf f) from rfl)
  have HS := hide (show sv seed f id = if sok seed f id = true then sc seed f id else 0 from rfl)
  cases hu : um 2147483647 seed
  · rw [hu] at HU HO
    replace HO := hide (show sok seed f id = false from HO.out)
    rw [HO.out] at HS ⊢
    replace HS := hide (show sv seed f id = 0 from HS.out)
    rw [HS.out]
    clear HO HS hu HV HC
    go_enter Tryd.func8, Tryd.ntmps8
    go_upto_region 1 with fail
    generalize w.alloc _ = W at HK ⊢
    go_wp2_with (go_at_call 17; (with_reducible refine (HU.out _).mono ?_); rintro e w2 ⟨rfl, hb2⟩; replace HK := hide (HK.out.kept hb2); clear hb2)
    go_ret2
    exact ⟨rfl, HK.out.2⟩
  · cases hv : um 65535 id
    · rw [hu, hv] at HO
      rw [hu] at HU
      rw [hv] at HV
      replace HO := hide (show sok seed f id = false from HO.out)
      rw [HO.out] at HS ⊢
      replace HS := hide (show sv seed f id = 0 from HS.out)
      rw [HS.out]
      clear HO HS hu hv HC
      go_enter Tryd.func8, Tryd.ntmps8
      go_upto_region 1 with fail
      generalize w.alloc _ = W at HK ⊢
      go_wp2_with (first
        | (go_at_call 17; (with_reducible refine (HU.out _).mono ?_); rintro e w2 ⟨rfl, hb2⟩; replace HK := hide (HK.out.kept hb2); clear hb2)
        | (go_at_call 17; (with_reducible refine (HV.out _).mono ?_); rintro e w3 ⟨rfl, hb3⟩; replace HK := hide (HK.out.kept hb3); clear hb3))
      go_ret2
      exact ⟨rfl, HK.out.2⟩
    · cases hf : okf f
      · rw [hu, hv, hf] at HO
        rw [hu] at HU
        rw [hv] at HV
        rw [hf, show ev (fe false) = err 1 from rfl] at HC
        unfold err at HC
        replace HO := hide (show sok seed f id = false from HO.out)
        rw [HO.out] at HS ⊢
        replace HS := hide (show sv seed f id = 0 from HS.out)
        rw [HS.out]
        clear HO HS hu hv hf
        go_enter Tryd.func8, Tryd.ntmps8
        go_upto_region 1 with fail
        generalize w.alloc _ = W at HK ⊢
        go_upto_region 3 with (first
          | (go_at_call 17; (with_reducible refine (HU.out _).mono ?_); rintro e w2 ⟨rfl, hb2⟩; replace HK := hide (HK.out.kept hb2); clear hb2)
          | (go_at_call 17; (with_reducible refine (HV.out _).mono ?_); rintro e w3 ⟨rfl, hb3⟩; replace HK := hide (HK.out.kept hb3); clear hb3))
        have gf := HK.out.1.fl
        go_wp2_with (go_at_call 18; (with_reducible refine (HC.out _).mono ?_); rintro e w4 ⟨rfl, hb4⟩; replace HK := hide (HK.out.kept hb4); clear hb4)
        go_ret2
        exact ⟨rfl, HK.out.2⟩
      · rw [hu, hv, hf] at HO
        rw [hu] at HU
        rw [hv] at HV
        rw [hf, show ev (fe true) = .nilIface from rfl] at HC
        replace HO := hide (show sok seed f id = true from HO.out)
        rw [HO.out] at HS ⊢
        replace HS := hide (show sv seed f id = sc seed f id from HS.out)
        rw [HS.out]
        have hs := (um_iff _ _).1 hu
        have hd := (um_iff _ _).1 hv
        have hs2 : 0 ≤ seed ∧ seed < 2147483648 := ⟨hs.1, by omega⟩
        have HM := hide (fun W => mixflow_any seed f W hs2 hf)
        have hin := mxs_in hs2 (nl f 19) (fun x hx => (nums_in (id := id) HO.out x (by unfold nums; exact List.mem_append_left _ hx)).1)
        have HQ := hide (fun W => score_any (mxs seed (nl f 19)) id W hin hd)
        have HR := hide (show sc seed f id = (mx (mxs seed (nl f 19)) id).tdiv 256 by unfold sc nums; rw [mxs_snoc])
        rw [HR.out]
        clear HO HS hu hv hf hs hd hs2 hin HR
        generalize mxs seed (nl f 19) = z at HM HQ ⊢
        generalize (mx z id).tdiv 256 = s at HQ ⊢
        go_enter Tryd.func8, Tryd.ntmps8
        go_upto_region 1 with fail
        generalize w.alloc _ = W at HK ⊢
        go_upto_region 3 with (first
          | (go_at_call 17; (with_reducible refine (HU.out _).mono ?_); rintro e w2 ⟨rfl, hb2⟩; replace HK := hide (HK.out.kept hb2); clear hb2)
          | (go_at_call 17; (with_reducible refine (HV.out _).mono ?_); rintro e w3 ⟨rfl, hb3⟩; replace HK := hide (HK.out.kept hb3); clear hb3))
        have gf := HK.out.1.fl
        go_upto_region 6 with (go_at_call 18; (with_reducible refine (HC.out _).mono ?_); rintro e w4 ⟨rfl, hb4⟩; replace HK := hide (HK.out.kept hb4); clear hb4 gf)
        have gf := HK.out.1.fl
        go_wp2_with (first
          | (go_at_call 19; (with_reducible refine (HM.out _).mono ?_); rintro e w5 ⟨rfl, hb5⟩; replace HK := hide (HK.out.kept hb5); clear hb5)
          | (go_at_call 20; (with_reducible refine (HQ.out _).mono ?_); rintro e w6 ⟨rfl, hb6⟩; replace HK := hide (HK.out.kept hb6); clear hb6))
        go_ret2
        exact ⟨rfl, HK.out.2⟩
end Go.Proofs.YtdnfpekcipigbaaDoor
