/- Package pick's Check by a contract. -/
import Derived.Test.YtdnfpekcipigbaaDoorPlB
import Derived.Test.YtdnfpekcipigbaaDoorPkG
namespace Go.Proofs.YtdnfpekcipigbaaDoor
open Go.RowKit

attribute [local go_sem ↓] kload_shut
set_option maxRecDepth 100000 in
set_option maxHeartbeats 4000000 in
theorem kcheck : JKc := by
  intro a cap bs w h hl hcp
  have HH := hide h
  have hl' : (bs.length : Int) ≤ 9223372036854775807 := by unfold maxLen at hl; omega
  clear h hl
  by_cases h8 : 8 < bs.length
  · have HB := hide (show bf bs = (0, 3) by unfold bf; rw [if_pos h8])
    have j8 : (8 : Int) < (bs.length : Int) := by omega
    go_enter Tryd.func5, Tryd.ntmps5
    go_wp2
    go_ret2
    exact ⟨by rw [HB.out]; rfl, Below.refl _ _⟩
  · have HS := hide (fun i hi h1 h2 => bf_some (bs := bs) (i := i) h8 hi h1 h2)
    have HN := hide (fun h => bf_none (bs := bs) h8 h)
    have j8 : ¬ (8 : Int) < (bs.length : Int) := by omega
    have j9 : (bs.length : Int) ≤ 8 := by omega
    have n9 : bs.length ≤ 8 := by omega
    have HZ := hide bk_zero
    unfold zero4b at HZ
    clear h8
    generalize bf bs = R at HS HN ⊢
    go_enter Tryd.func5, Tryd.ntmps5
    go_wp2
    go_loopw [13] (fun t wr => ∃ k : Nat, k ≤ bs.length ∧ t = .int .i64 k ∧ Hid (∀ j, j < k → (flt bs j != 0) = false) ∧ Hid (Below w.heap.size w wr)) (fun t _ => bs.length - (intOf t).toNat)
    case atStart => exact ⟨0, by omega, rfl, fun j h => absurd h (by omega), Below.refl _ _⟩
    case round =>
      obtain ⟨k, hk, rfl, HI, HW⟩ := hrel
      by_cases hlt : k < bs.length
      · obtain ⟨g, off, rfl, hgl, hrow⟩ := HH.out (by omega)
        have HR := hide (show ∀ W, Below w.heap.size w W → ∀ k, k < bs.length → W.rangeAt g (off + k * 6) (bkC (bs.getD k [])).toList from fun W hW k hk j u hu => by rw [hW.cell (p := ⟨g, off + k * 6 + j, none⟩) hgl]; exact hrow k hk j u hu)
        have HG := hide hgl
        have j1 : (k : Int) < (bs.length : Int) := by omega
        have gk := rng_kl (HR.out wr HW.out k hlt)
        have HT := hide (show flt bs k = if okb (bs.getD k []) = true then (if hid bs k (el (bs.getD k []) 0) = true then 8 else 0) else 1 from rfl)
        have HF := hide (HS.out k hlt)
        clear hrow hgl
        obtain ⟨b, hb⟩ : ∃ b, bs.getD k [] = b := ⟨_, rfl⟩
        rw [hb] at gk HT
        clear hb
        have HC := hide (fun W => cone b W)
        generalize okb b = ok at HC HT
        go_upto_region 6 with (refine at_storek rfl (.tmp 5) (.tmp 17) rfl rfl (HZ.out wr) b rfl ?_; intro w1 p1 on1; replace HW := hide (bt HW.out (new_below _ on1)); have HP := hide p1; clear on1 p1)
        clear gk
        generalize wr.heap.size = D at HP ⊢
        have gk := HP.out.kl
        cases ok
        · have HE := hide (show R = ((k : Int), 1) by rw [HF.out (by rw [HT.out]; rfl) HI.out, HT.out]; rfl)
          rw [show ev (fe false) = err 1 from rfl] at HC
          unfold err at HC
          go_wp2_with (go_at_call 13; (with_reducible refine (HC.out _).mono ?_); rintro e w2 ⟨rfl, hb2⟩; replace HW := hide (bt HW.out hb2); clear hb2)
          go_ret2
          exact ⟨by rw [HE.out]; rfl, HW.out⟩
        · rw [show ev (fe true) = .nilIface from rfl] at HC
          go_upto_region 9 with (go_at_call 13; (with_reducible refine (HC.out _).mono ?_); rintro e w2 ⟨rfl, hb2⟩; replace HW := hide (bt HW.out hb2); replace HP := hide (HP.out.kept hb2); clear hb2)
          clear gk
          have HX := hide (fun W (hW : Below w.heap.size w W) => has_any g off k cap bs (el b 0) W (by omega) (Nat.lt_of_lt_of_le HG.out hW.size) (fun j hj => HR.out W hW j (by omega)))
          generalize hid bs k (el b 0) = hh at HX HT
          have HWd := hide (show Below w.heap.size w w2.drew from HW.out.drew)
          have c0 := rng_id (show w2.drew.rangeAt D 0 (bkC b).toList from HP.out.rng)
          generalize el b 0 = x0 at HX c0
          have j2 : (k : Int) ≤ (cap : Int) := by omega
          have HC0 := hide c0
          have HD := hide (show D < w2.drew.heap.size from HP.out.lt)
          go_region_held3 (fun W' => W'.cell? ⟨D, 0, none⟩ = some (.int .i64 x0))
            (first
              | exact HC0.out
              | exact HC1.out
              | go_keep)
            (first | (go_at_call 14; (with_reducible refine (HX.out _ HWd.out).mono ?_); rintro r w4 ⟨rfl, hb4⟩; have HC1 := hide ((hb4.cell (p := ⟨D, 0, none⟩) HD.out).trans HC0.out); replace HW := hide (HWd.out.trans (hb4.mono HWd.out.size)); clear hb4))
          clear HC0 HC1 HWd HX HP HC
          cases hh
          · have HE := hide (show (flt bs k != 0) = false by rw [HT.out]; rfl)
            go_wp2
            go_roundw
            case rel => exact ⟨k + 1, by omega, by go_num, fun j hj => if e : j = k then by rw [e]; exact HE.out else HI.out j (by omega), HW⟩
            case measure => simp [intOf]; omega
          · have HE := hide (show R = ((k : Int), 8) by rw [HF.out (by rw [HT.out]; rfl) HI.out, HT.out]; rfl)
            go_wp2
            go_ret2
            exact ⟨by rw [HE.out]; rfl, HW.out⟩
      · obtain rfl : bs.length = k := by omega
        go_wp2
        go_ret2
        exact ⟨by rw [HN.out HI.out]; rfl, HW.out⟩
end Go.Proofs.YtdnfpekcipigbaaDoor
