/- The document's own SegOf of TCP's bytes of the right length, by contracts. -/
import Derived.Test.YtfjnioninjllkaaDoorSgSo2
namespace Go.Proofs.YtfjnioninjllkaaDoor
open Go.RowKit
attribute [local go_sem ↓] Go.wp_at_zero Go.wp_at_succ
attribute [local go_sem] alloc_drewN setCell_drewN

set_option maxRecDepth 100000 in
set_option maxHeartbeats 8000000 in
theorem rseg_tcp_bad (over : Int) (g off len cap : Nat) (zs : List Int) (w : World) (hr : Row8 w (some ⟨g, off, none⟩) len cap zs) (ho : up 65535 over = true) (h1 : 20 ≤ len) (h2 : len ≤ 320) (hcl : len ≤ cap) (hcm : cap ≤ maxLen) (hs : ¬ (zs.getD 12 0 = 80 ∧ zs.getD 13 0 ≤ 31 ∧ P4.wd zs 18 = 0)) :
    Calls Tryd.prog 43 #[.int .i64 6, .slice (some ⟨g, off, none⟩) len cap, .int .i64 over] w fun e w' => e = .returned (.tuple #[sg0, .int .i64 5]) ∧ Below w.heap.size w w' := by
  have hlen := hr.1
  have hoct := hr.2.2.1
  have HB := hide (al_below w (.cells zero7 49))
  have HP := hide (zero_new w)
  unfold zero7 at HB HP
  have HRow := hide hr
  have HW := hide (fun W x h h0 h1 => word_b g off len cap zs W x h h0 h1)
  obtain ⟨ao, hao⟩ : ∃ ao, (if cap = 20 then some (⟨g, off, none⟩ : Addr) else some ⟨g, off + 20, none⟩) = ao := ⟨_, rfl⟩
  have HPart := hide (fun W (h : Row8 W (some ⟨g, off, none⟩) len cap zs) => h.behind 20 (by omega) hcl ao hao)
  have hcm' := hcm
  unfold maxLen at hcm'
  have iH : (20 : Int) ≤ (len : Int) := by omega
  have iHM : ¬ (320 : Int) < (len : Int) := by omega
  have iH0 : ¬ (len : Int) < 20 := by omega
  have ilc : (len : Int) ≤ (cap : Int) := by omega
  have w4 := wd_bd zs hoct 4
  have w6 := wd_bd zs hoct 6
  have w8 := wd_bd zs hoct 8
  have w10 := wd_bd zs hoct 10
  have HC12 := hide (fun W (h : Row8 W (some ⟨g, off, none⟩) len cap zs) => show W.cell? ⟨g, off + 12, none⟩ = some (.int .u8 (zs.getD 12 0)) ∧ W.cell? ⟨g, off + 13, none⟩ = some (.int .u8 (zs.getD 13 0)) by
    obtain ⟨_, _, _, _, h5⟩ := h
    obtain ⟨b, o, e, hc⟩ := h5 (by omega)
    cases e
    exact ⟨hc 12 (by omega), hc 13 (by omega)⟩)
  have b13 := hoct 13
  have i12 : (12 : Int) < (len : Int) := by omega
  have i13 : (13 : Int) < (len : Int) := by omega
  have HS := hide hs
  clear hs hr
  go_enter Tryd.func43, Tryd.ntmps43
  go_upto_region 1 with fail
  generalize w.alloc _ = W at HB HP ⊢
  go_upto_region 9 with (go_at_call 54; refine (word_any _ _).mono ?_; rintro e w' ⟨rfl, hw⟩; rw [hw]; clear hw w')
  have HR0 := hide (HRow.out.below HB.out)
  have HA := hide (fun m x h0 h1 => word_at g off len cap zs (W.drewN m) x (HR0.out.drewN m) h0 h1)
  have HA' := hide (fun x h0 h1 => word_at g off len cap zs W.drew x (HR0.out.drewN 1) h0 h1)
  have HZ := hide (fun m x h0 h1 => word_at g off len cap zs ((W.alloc (.cells #[.int .i64 0, .int .i64 0, .int .i64 0, .int .i64 0, .int .i64 0, .int .i64 0, .int .i64 0, .slice none 0 0] 49)).drewN m) x ((HR0.out.below (al_below _ _)).drewN m) h0 h1)
  have HZ' := hide (fun x h0 h1 => word_at g off len cap zs (W.alloc (.cells #[.int .i64 0, .int .i64 0, .int .i64 0, .int .i64 0, .int .i64 0, .int .i64 0, .int .i64 0, .slice none 0 0] 49)).drew x ((HR0.out.below (al_below _ _)).drewN 1) h0 h1)
  go_cut [10] from 12 (fun v10 Wc => v10 = .pointer (some ⟨W.heap.size, 0, none⟩) ∧ ∃ N, Wc = (W.alloc (.cells #[.int .i64 6, .int .i64 (P4.wd zs 0), .int .i64 (P4.wd zs 2), .int .i64 0, .int .i64 0, .int .i64 0, .int .i64 0, .slice ao (len - 20) (cap - 20)] 49)).drewN N)
  case first =>
    go_region_held3 (fun _ => True)
      (trivial)
      (first
        | (go_at_call 65; (with_reducible refine (HA.out _ _ (by omega) (by omega)).mono ?_); rintro e w2 ⟨rfl, n2, rfl⟩)
        | (go_at_call 65; (with_reducible refine (HA'.out _ (by omega) (by omega)).mono ?_); rintro e w2 ⟨rfl, n2, rfl⟩)
        | (go_at_call 65; (with_reducible refine (HZ.out _ _ (by omega) (by omega)).mono ?_); rintro e w2 ⟨rfl, n2, rfl⟩)
        | (go_at_call 65; (with_reducible refine (HZ'.out _ (by omega) (by omega)).mono ?_); rintro e w2 ⟨rfl, n2, rfl⟩))
    all_goals
      go_wp2_with fail
      go_meet
      exact ⟨rfl, _, rfl⟩
  case rest =>
    obtain ⟨rfl, N, rfl⟩ := hcut
    have HQ := hide (rq_new w W N [6, P4.wd zs 0, P4.wd zs 2, 0, 0, 0, 0] ao (len - 20) (cap - 20) HP.out HB.out)
    clear HA HA' HZ HZ' hao HR0 HB HP
    replace HQ : Hid (Rq w W.heap.size [6, P4.wd zs 0, P4.wd zs 2, 0, 0, 0, 0] ao (len - 20) (cap - 20) ((W.alloc (.cells #[.int .i64 6, .int .i64 (P4.wd zs 0), .int .i64 (P4.wd zs 2), .int .i64 0, .int .i64 0, .int .i64 0, .int .i64 0, .slice ao (len - 20) (cap - 20)] 49)).drewN N)) := HQ
    generalize (W.alloc (.cells #[.int .i64 6, .int .i64 (P4.wd zs 0), .int .i64 (P4.wd zs 2), .int .i64 0, .int .i64 0, .int .i64 0, .int .i64 0, .slice ao (len - 20) (cap - 20)] 49)).drewN N = W1 at HQ ⊢
    generalize W.heap.size = B at HQ ⊢
    go_upto_region 14 with (go_at_call 65; refine (HW.out _ _ (HRow.out.below HQ.out.2.2.2.2) (by omega) (by omega)).mono ?_; rintro e w3 ⟨rfl, hb3⟩; replace HQ := hide (HQ.out.kept hb3); clear hb3)
    have x3 : _ = some (Value.int .i64 0) := HQ.out.1.cellAt 3
    have y3 := HQ.out.1.frz 3
    go_upto_region 15 with (go_at_call 65; refine (HW.out _ _ (HRow.out.below HQ.out.2.2.2.2) (by omega) (by omega)).mono ?_; rintro e w3 ⟨rfl, hb3⟩; replace HQ := hide (HQ.out.kept hb3); clear hb3; clear x3 y3; have x3 : _ = some (Value.int .i64 0) := HQ.out.1.cellAt 3; have y3 := HQ.out.1.frz 3)
    replace HQ := hide (HQ.out.set 3 (65536 * P4.wd zs 4 + P4.wd zs 6) [6, P4.wd zs 0, P4.wd zs 2, 65536 * P4.wd zs 4 + P4.wd zs 6, 0, 0, 0] rfl)
    clear x3 y3
    generalize World.setCell _ _ _ = W1 at HQ ⊢
    have x4 : _ = some (Value.int .i64 0) := HQ.out.1.cellAt 4
    have y4 := HQ.out.1.frz 4
    go_upto_region 16 with (go_at_call 65; refine (HW.out _ _ (HRow.out.below HQ.out.2.2.2.2) (by omega) (by omega)).mono ?_; rintro e w3 ⟨rfl, hb3⟩; replace HQ := hide (HQ.out.kept hb3); clear hb3; clear x4 y4; have x4 : _ = some (Value.int .i64 0) := HQ.out.1.cellAt 4; have y4 := HQ.out.1.frz 4)
    replace HQ := hide (HQ.out.set 4 (65536 * P4.wd zs 8 + P4.wd zs 10) [6, P4.wd zs 0, P4.wd zs 2, 65536 * P4.wd zs 4 + P4.wd zs 6, 65536 * P4.wd zs 8 + P4.wd zs 10, 0, 0] rfl)
    clear x4 y4
    generalize World.setCell _ _ _ = W1 at HQ ⊢
    have x5 : _ = some (Value.int .i64 0) := HQ.out.1.cellAt 5
    have y5 := HQ.out.1.frz 5
    obtain ⟨-, c13⟩ := HC12.out _ (HRow.out.below HQ.out.2.2.2.2)
    generalize hz13 : zs.getD 13 0 = z13 at c13 b13
    have Z13 := hide hz13
    clear hz13
    go_upto_region 17 with fail
    replace HQ := hide (HQ.out.set 5 z13 [6, P4.wd zs 0, P4.wd zs 2, 65536 * P4.wd zs 4 + P4.wd zs 6, 65536 * P4.wd zs 8 + P4.wd zs 10, z13, 0] rfl)
    clear x5 y5 c13
    generalize World.setCell _ _ _ = W1 at HQ ⊢
    have x6 : _ = some (Value.int .i64 0) := HQ.out.1.cellAt 6
    have y6 := HQ.out.1.frz 6
    go_upto_region 18 with (go_at_call 65; refine (HW.out _ _ (HRow.out.below HQ.out.2.2.2.2) (by omega) (by omega)).mono ?_; rintro e w3 ⟨rfl, hb3⟩; replace HQ := hide (HQ.out.kept hb3); clear hb3; clear x6 y6; have x6 : _ = some (Value.int .i64 0) := HQ.out.1.cellAt 6; have y6 := HQ.out.1.frz 6)
    replace HQ := hide (HQ.out.set 6 (P4.wd zs 14) [6, P4.wd zs 0, P4.wd zs 2, 65536 * P4.wd zs 4 + P4.wd zs 6, 65536 * P4.wd zs 8 + P4.wd zs 10, z13, P4.wd zs 14] rfl)
    clear x6 y6
    generalize World.setCell _ _ _ = W1 at HQ ⊢
    go_upto_region 19 with (go_at_call 65; refine (HW.out _ _ (HRow.out.below HQ.out.2.2.2.2) (by omega) (by omega)).mono ?_; rintro e w3 ⟨rfl, hb3⟩; replace HQ := hide (HQ.out.kept hb3); clear hb3)
    obtain ⟨c12, -⟩ := HC12.out _ (HRow.out.below HQ.out.2.2.2.2)
    generalize hz12 : zs.getD 12 0 = z12 at c12
    have Z12 := hide hz12
    clear hz12
    have x5 : _ = some (Value.int .i64 z13) := HQ.out.1.cellAt 5
    by_cases h12 : z12 = 80
    · have n12 : (z12 != 80) = false := by rw [h12]; rfl
      by_cases h13 : 31 < z13
      · clear h12
        go_wp2_with (first | (refine at_store rfl (.tmp 6) (.tmp 100) rfl rfl HQ.out.2.1 [] none 0 0 rfl ?_; intro w5 p5 on5; replace HQ := hide (on5.below HQ.out.2.2.2.2 (Nat.le_refl _)); replace p5 := hide p5; clear on5))
        try simp only [Exit.inBlock, Exit.then]
        refine bodyPost_ret (results_sg rfl _ _ w.heap.size [] none 0 0 rfl p5.out) rfl ?_
        exact ⟨rfl, HQ.out⟩
      · have h18 : (P4.wd zs 18 != 0) = true := by
          have : ¬ P4.wd zs 18 = 0 := fun h => HS.out ⟨by rw [Z12.out]; exact h12, by rw [Z13.out]; omega, h⟩
          simpa using this
        clear h12
        go_wp2_with (first
          | (go_at_call 65; refine (HW.out _ _ (HRow.out.below HQ.out.2.2.2.2) (by omega) (by omega)).mono ?_; rintro e w3 ⟨rfl, hb3⟩; replace HQ := hide (HQ.out.kept hb3); clear hb3)
          | (refine at_store rfl (.tmp 6) (.tmp 100) rfl rfl HQ.out.2.1 [] none 0 0 rfl ?_; intro w5 p5 on5; replace HQ := hide (on5.below HQ.out.2.2.2.2 (Nat.le_refl _)); replace p5 := hide p5; clear on5))
        try simp only [Exit.inBlock, Exit.then]
        refine bodyPost_ret (results_sg rfl _ _ w.heap.size [] none 0 0 rfl p5.out) rfl ?_
        exact ⟨rfl, HQ.out⟩
    · have n12 : (z12 != 80) = true := by simpa using h12
      clear h12
      go_wp2_with (first | (refine at_store rfl (.tmp 6) (.tmp 100) rfl rfl HQ.out.2.1 [] none 0 0 rfl ?_; intro w5 p5 on5; replace HQ := hide (on5.below HQ.out.2.2.2.2 (Nat.le_refl _)); replace p5 := hide p5; clear on5))
      try simp only [Exit.inBlock, Exit.then]
      refine bodyPost_ret (results_sg rfl _ _ w.heap.size [] none 0 0 rfl p5.out) rfl ?_
      exact ⟨rfl, HQ.out⟩
set_option maxRecDepth 100000 in
set_option maxHeartbeats 8000000 in
theorem rseg_tcp_ok (over : Int) (g off len cap : Nat) (zs : List Int) (w : World) (hr : Row8 w (some ⟨g, off, none⟩) len cap zs) (ho : up 65535 over = true) (h1 : 20 ≤ len) (h2 : len ≤ 320) (hcl : len ≤ cap) (hcm : cap ≤ maxLen) (hs : zs.getD 12 0 = 80 ∧ zs.getD 13 0 ≤ 31 ∧ P4.wd zs 18 = 0) (r : Bool) (hrr : P4.wd zs 16 = sck (rdz 6 zs) over (zs.drop 20) ↔ r = true) :
    Calls Tryd.prog 43 #[.int .i64 6, .slice (some ⟨g, off, none⟩) len cap, .int .i64 over] w fun e w' => ((r = false ∧ e = .returned (.tuple #[sg0, .int .i64 6])) ∨ (r = true ∧ ∃ a' c', e = .returned (.tuple #[.agg (sgC (rdz 6 zs) a' (len - 20) c'), .int .i64 0]) ∧ Row8 w' a' (len - 20) c' (zs.drop 20))) ∧ Below w.heap.size w w' := by
  have hlen := hr.1
  have hoct := hr.2.2.1
  have HB := hide (al_below w (.cells zero7 49))
  have HP := hide (zero_new w)
  unfold zero7 at HB HP
  have HRow := hide hr
  have HW := hide (fun W x h h0 h1 => word_b g off len cap zs W x h h0 h1)
  obtain ⟨ao, hao⟩ : ∃ ao, (if cap = 20 then some (⟨g, off, none⟩ : Addr) else some ⟨g, off + 20, none⟩) = ao := ⟨_, rfl⟩
  have HPart := hide (fun W (h : Row8 W (some ⟨g, off, none⟩) len cap zs) => h.behind 20 (by omega) hcl ao hao)
  have hcm' := hcm
  unfold maxLen at hcm'
  have iH : (20 : Int) ≤ (len : Int) := by omega
  have iHM : ¬ (320 : Int) < (len : Int) := by omega
  have iH0 : ¬ (len : Int) < 20 := by omega
  have ilc : (len : Int) ≤ (cap : Int) := by omega
  have w4 := wd_bd zs hoct 4
  have w6 := wd_bd zs hoct 6
  have w8 := wd_bd zs hoct 8
  have w10 := wd_bd zs hoct 10
  have HC12 := hide (fun W (h : Row8 W (some ⟨g, off, none⟩) len cap zs) => show W.cell? ⟨g, off + 12, none⟩ = some (.int .u8 (zs.getD 12 0)) ∧ W.cell? ⟨g, off + 13, none⟩ = some (.int .u8 (zs.getD 13 0)) by
    obtain ⟨_, _, _, _, h5⟩ := h
    obtain ⟨b, o, e, hc⟩ := h5 (by omega)
    cases e
    exact ⟨hc 12 (by omega), hc 13 (by omega)⟩)
  have b13 := hoct 13
  have i12 : (12 : Int) < (len : Int) := by omega
  have i13 : (13 : Int) < (len : Int) := by omega
  have h18 : (P4.wd zs 18 != 0) = false := by simpa using hs.2.2
  have HS := hide hs
  have HOk := hide ((okg_tcp zs hoct (len - 20) (by omega)).2 hs.2.1)
  have HC := hide (fun W a' c' (h : Row8 W a' (len - 20) c' (zs.drop 20)) => rcheck_any (rdz 6 zs) a' (len - 20) c' over (zs.drop 20) W HOk.out ho h)
  rw [rdz_wd_tcp] at HC hrr HOk ⊢
  have fr : (P4.wd zs 16 != sck [6, P4.wd zs 0, P4.wd zs 2, 65536 * P4.wd zs 4 + P4.wd zs 6, 65536 * P4.wd zs 8 + P4.wd zs 10, zs.getD 13 0, P4.wd zs 14] over (zs.drop 20)) = !r := by
    cases r
    · have : ¬ (P4.wd zs 16 = sck [6, P4.wd zs 0, P4.wd zs 2, 65536 * P4.wd zs 4 + P4.wd zs 6, 65536 * P4.wd zs 8 + P4.wd zs 10, zs.getD 13 0, P4.wd zs 14] over (zs.drop 20)) := fun h => by have := hrr.1 h; cases this
      simpa using this
    · simpa using hrr.2 rfl
  generalize sck [6, P4.wd zs 0, P4.wd zs 2, 65536 * P4.wd zs 4 + P4.wd zs 6, 65536 * P4.wd zs 8 + P4.wd zs 10, zs.getD 13 0, P4.wd zs 14] over (zs.drop 20) = C at HC fr
  clear hs hr hrr HOk
  generalize zs.getD 13 0 = z13 at HC HC12 b13 HS ⊢
  go_enter Tryd.func43, Tryd.ntmps43
  go_upto_region 1 with fail
  generalize w.alloc _ = W at HB HP ⊢
  go_upto_region 9 with (go_at_call 54; refine (word_any _ _).mono ?_; rintro e w' ⟨rfl, hw⟩; rw [hw]; clear hw w')
  have HR0 := hide (HRow.out.below HB.out)
  have HA := hide (fun m x h0 h1 => word_at g off len cap zs (W.drewN m) x (HR0.out.drewN m) h0 h1)
  have HA' := hide (fun x h0 h1 => word_at g off len cap zs W.drew x (HR0.out.drewN 1) h0 h1)
  have HZ := hide (fun m x h0 h1 => word_at g off len cap zs ((W.alloc (.cells #[.int .i64 0, .int .i64 0, .int .i64 0, .int .i64 0, .int .i64 0, .int .i64 0, .int .i64 0, .slice none 0 0] 49)).drewN m) x ((HR0.out.below (al_below _ _)).drewN m) h0 h1)
  have HZ' := hide (fun x h0 h1 => word_at g off len cap zs (W.alloc (.cells #[.int .i64 0, .int .i64 0, .int .i64 0, .int .i64 0, .int .i64 0, .int .i64 0, .int .i64 0, .slice none 0 0] 49)).drew x ((HR0.out.below (al_below _ _)).drewN 1) h0 h1)
  go_cut [10] from 12 (fun v10 Wc => v10 = .pointer (some ⟨W.heap.size, 0, none⟩) ∧ ∃ N, Wc = (W.alloc (.cells #[.int .i64 6, .int .i64 (P4.wd zs 0), .int .i64 (P4.wd zs 2), .int .i64 0, .int .i64 0, .int .i64 0, .int .i64 0, .slice ao (len - 20) (cap - 20)] 49)).drewN N)
  case first =>
    go_region_held3 (fun _ => True)
      (trivial)
      (first
        | (go_at_call 65; (with_reducible refine (HA.out _ _ (by omega) (by omega)).mono ?_); rintro e w2 ⟨rfl, n2, rfl⟩)
        | (go_at_call 65; (with_reducible refine (HA'.out _ (by omega) (by omega)).mono ?_); rintro e w2 ⟨rfl, n2, rfl⟩)
        | (go_at_call 65; (with_reducible refine (HZ.out _ _ (by omega) (by omega)).mono ?_); rintro e w2 ⟨rfl, n2, rfl⟩)
        | (go_at_call 65; (with_reducible refine (HZ'.out _ (by omega) (by omega)).mono ?_); rintro e w2 ⟨rfl, n2, rfl⟩))
    all_goals
      go_wp2_with fail
      go_meet
      exact ⟨rfl, _, rfl⟩
  case rest =>
    obtain ⟨rfl, N, rfl⟩ := hcut
    have HQ := hide (rq_new w W N [6, P4.wd zs 0, P4.wd zs 2, 0, 0, 0, 0] ao (len - 20) (cap - 20) HP.out HB.out)
    clear HA HA' HZ HZ' hao HR0 HB HP
    replace HQ : Hid (Rq w W.heap.size [6, P4.wd zs 0, P4.wd zs 2, 0, 0, 0, 0] ao (len - 20) (cap - 20) ((W.alloc (.cells #[.int .i64 6, .int .i64 (P4.wd zs 0), .int .i64 (P4.wd zs 2), .int .i64 0, .int .i64 0, .int .i64 0, .int .i64 0, .slice ao (len - 20) (cap - 20)] 49)).drewN N)) := HQ
    generalize (W.alloc (.cells #[.int .i64 6, .int .i64 (P4.wd zs 0), .int .i64 (P4.wd zs 2), .int .i64 0, .int .i64 0, .int .i64 0, .int .i64 0, .slice ao (len - 20) (cap - 20)] 49)).drewN N = W1 at HQ ⊢
    generalize W.heap.size = B at HQ ⊢
    go_upto_region 14 with (go_at_call 65; refine (HW.out _ _ (HRow.out.below HQ.out.2.2.2.2) (by omega) (by omega)).mono ?_; rintro e w3 ⟨rfl, hb3⟩; replace HQ := hide (HQ.out.kept hb3); clear hb3)
    have x3 : _ = some (Value.int .i64 0) := HQ.out.1.cellAt 3
    have y3 := HQ.out.1.frz 3
    go_upto_region 15 with (go_at_call 65; refine (HW.out _ _ (HRow.out.below HQ.out.2.2.2.2) (by omega) (by omega)).mono ?_; rintro e w3 ⟨rfl, hb3⟩; replace HQ := hide (HQ.out.kept hb3); clear hb3; clear x3 y3; have x3 : _ = some (Value.int .i64 0) := HQ.out.1.cellAt 3; have y3 := HQ.out.1.frz 3)
    replace HQ := hide (HQ.out.set 3 (65536 * P4.wd zs 4 + P4.wd zs 6) [6, P4.wd zs 0, P4.wd zs 2, 65536 * P4.wd zs 4 + P4.wd zs 6, 0, 0, 0] rfl)
    clear x3 y3
    generalize World.setCell _ _ _ = W1 at HQ ⊢
    have x4 : _ = some (Value.int .i64 0) := HQ.out.1.cellAt 4
    have y4 := HQ.out.1.frz 4
    go_upto_region 16 with (go_at_call 65; refine (HW.out _ _ (HRow.out.below HQ.out.2.2.2.2) (by omega) (by omega)).mono ?_; rintro e w3 ⟨rfl, hb3⟩; replace HQ := hide (HQ.out.kept hb3); clear hb3; clear x4 y4; have x4 : _ = some (Value.int .i64 0) := HQ.out.1.cellAt 4; have y4 := HQ.out.1.frz 4)
    replace HQ := hide (HQ.out.set 4 (65536 * P4.wd zs 8 + P4.wd zs 10) [6, P4.wd zs 0, P4.wd zs 2, 65536 * P4.wd zs 4 + P4.wd zs 6, 65536 * P4.wd zs 8 + P4.wd zs 10, 0, 0] rfl)
    clear x4 y4
    generalize World.setCell _ _ _ = W1 at HQ ⊢
    have x5 : _ = some (Value.int .i64 0) := HQ.out.1.cellAt 5
    have y5 := HQ.out.1.frz 5
    obtain ⟨-, c13⟩ := HC12.out _ (HRow.out.below HQ.out.2.2.2.2)
    go_upto_region 17 with fail
    replace HQ := hide (HQ.out.set 5 z13 [6, P4.wd zs 0, P4.wd zs 2, 65536 * P4.wd zs 4 + P4.wd zs 6, 65536 * P4.wd zs 8 + P4.wd zs 10, z13, 0] rfl)
    clear x5 y5 c13
    generalize World.setCell _ _ _ = W1 at HQ ⊢
    have x6 : _ = some (Value.int .i64 0) := HQ.out.1.cellAt 6
    have y6 := HQ.out.1.frz 6
    go_upto_region 18 with (go_at_call 65; refine (HW.out _ _ (HRow.out.below HQ.out.2.2.2.2) (by omega) (by omega)).mono ?_; rintro e w3 ⟨rfl, hb3⟩; replace HQ := hide (HQ.out.kept hb3); clear hb3; clear x6 y6; have x6 : _ = some (Value.int .i64 0) := HQ.out.1.cellAt 6; have y6 := HQ.out.1.frz 6)
    replace HQ := hide (HQ.out.set 6 (P4.wd zs 14) [6, P4.wd zs 0, P4.wd zs 2, 65536 * P4.wd zs 4 + P4.wd zs 6, 65536 * P4.wd zs 8 + P4.wd zs 10, z13, P4.wd zs 14] rfl)
    clear x6 y6
    generalize World.setCell _ _ _ = W1 at HQ ⊢
    go_upto_region 19 with (go_at_call 65; refine (HW.out _ _ (HRow.out.below HQ.out.2.2.2.2) (by omega) (by omega)).mono ?_; rintro e w3 ⟨rfl, hb3⟩; replace HQ := hide (HQ.out.kept hb3); clear hb3)
    obtain ⟨c12, -⟩ := HC12.out _ (HRow.out.below HQ.out.2.2.2.2)
    generalize hz12 : zs.getD 12 0 = z12 at c12
    have Z12 := hide hz12
    clear hz12
    have x5 : _ = some (Value.int .i64 z13) := HQ.out.1.cellAt 5
    have n12 : (z12 != 80) = false := by rw [← Z12.out, HS.out.1]; rfl
    have h13 : ¬ 31 < z13 := by have := HS.out.2.1; omega
    go_upto_region 21 with (go_at_call 65; refine (HW.out _ _ (HRow.out.below HQ.out.2.2.2.2) (by omega) (by omega)).mono ?_; rintro e w3 ⟨rfl, hb3⟩; replace HQ := hide (HQ.out.kept hb3); clear hb3; clear x5; have x5 : _ = some (Value.int .i64 z13) := HQ.out.1.cellAt 5)
    clear x5 c12
    go_upto_if 105 with (first
      | (refine at_load rfl (.tmp 10) rfl rfl HQ.out.1 ?_)
      | (go_at_call 47; refine (HC.out _ _ _ (HPart.out _ (HRow.out.below HQ.out.2.2.2.2))).mono ?_; rintro e w6 ⟨rfl, hb6⟩; replace HQ := hide (HQ.out.kept hb6); clear hb6))
    cases r
    · go_wp2_with (first | (refine at_store rfl (.tmp 6) (.tmp 106) rfl rfl HQ.out.2.1 [] none 0 0 rfl ?_; intro w5 p5 on5; replace HQ := hide (on5.below HQ.out.2.2.2.2 (Nat.le_refl _)); replace p5 := hide p5; clear on5))
      try simp only [Exit.inBlock, Exit.then]
      refine bodyPost_ret (results_sg rfl _ _ w.heap.size [] none 0 0 rfl p5.out) rfl ?_
      exact ⟨rfl, HQ.out⟩
    · go_wp2_with (first
        | (refine at_load rfl (.tmp 10) rfl rfl HQ.out.1 ?_)
        | (refine at_store rfl (.tmp 6) (.tmp 107) rfl rfl HQ.out.2.1 [6, P4.wd zs 0, P4.wd zs 2, 65536 * P4.wd zs 4 + P4.wd zs 6, 65536 * P4.wd zs 8 + P4.wd zs 10, z13, P4.wd zs 14] ao (len - 20) (cap - 20) rfl ?_; intro w5 p5 on5; replace HQ := hide (on5.below HQ.out.2.2.2.2 (Nat.le_refl _)); replace p5 := hide p5; clear on5))
      try simp only [Exit.inBlock, Exit.then]
      refine bodyPost_ret (results_sg rfl _ _ w.heap.size [6, P4.wd zs 0, P4.wd zs 2, 65536 * P4.wd zs 4 + P4.wd zs 6, 65536 * P4.wd zs 8 + P4.wd zs 10, z13, P4.wd zs 14] ao (len - 20) (cap - 20) rfl p5.out) rfl ?_
      exact ⟨⟨ao, cap - 20, rfl, HPart.out _ (HRow.out.below HQ.out)⟩, HQ.out⟩
end Go.Proofs.YtfjnioninjllkaaDoor
