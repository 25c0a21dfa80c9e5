/- The document's own SegOf of bytes of the right length, by contracts. -/
import Derived.Test.YtfjnioninjllkaaDoorSgSo
namespace Go.Proofs.YtfjnioninjllkaaDoor
open Go.RowKit
attribute [local go_sem ↓] Go.wp_at_zero Go.wp_at_succ
attribute [local go_sem] alloc_drewN setCell_drewN

/-- a new block of a segment, draws behind it. -/
theorem rq_new (w W : World) (N : Nat) (z : List Int) (a : Option Addr) (n c : Nat) (hP : SgIn w.heap.size [] none 0 0 W) (hB : Below w.heap.size w W) : Rq w W.heap.size z a n c ((W.alloc (.cells (sgC z a n c) 49)).drewN N) := by
  have hb : Below W.heap.size W ((W.alloc (.cells (sgC z a n c) 49)).drewN N) := (al_below _ _).trans ⟨rfl, rfl, rfl, Nat.le_refl _, fun _ _ => rfl⟩
  exact ⟨sg_new W z a n c, hP.kept hb, Nat.ne_of_lt hP.lt, Nat.le_of_lt hP.lt, bt hB hb⟩

set_option maxRecDepth 100000 in
set_option maxHeartbeats 8000000 in
theorem rseg_udp_bad (over : Int) (g off len cap : Nat) (zs : List Int) (w : World) (hr : Row8 w (some ⟨g, off, none⟩) len cap zs) (ho : up 65535 over = true) (h1 : 8 ≤ len) (h2 : len ≤ 308) (hcl : len ≤ cap) (hcm : cap ≤ maxLen) (hs : P4.wd zs 4 ≠ (len : Int)) :
    Calls Tryd.prog 43 #[.int .i64 17, .slice (some ⟨g, off, none⟩) len cap, .int .i64 over] w fun e w' => e = .returned (.tuple #[sg0, .int .i64 5]) ∧ Below w.heap.size w w' := by
  have hlen := hr.1
  have hoct := hr.2.2.1
  have HB := hide (al_below w (.cells zero7 49))
  have HP := hide (zero_new w)
  unfold zero7 at HB HP
  have HRow := hide hr
  have HW := hide (fun W x h h0 h1 => word_b g off len cap zs W x h h0 h1)
  obtain ⟨ao, hao⟩ : ∃ ao, (if cap = 8 then some (⟨g, off, none⟩ : Addr) else some ⟨g, off + 8, none⟩) = ao := ⟨_, rfl⟩
  have HPart := hide (fun W (h : Row8 W (some ⟨g, off, none⟩) len cap zs) => h.behind 8 (by omega) hcl ao hao)
  have hcm' := hcm
  unfold maxLen at hcm'
  have iH : (8 : Int) ≤ (len : Int) := by omega
  have iHM : ¬ (308 : Int) < (len : Int) := by omega
  have iH0 : ¬ (len : Int) < 8 := by omega
  have ilc : (len : Int) ≤ (cap : Int) := by omega
  have f4 : (P4.wd zs 4 != (len : Int)) = true := by simpa using hs
  clear hs hr
  go_enter Tryd.func43, Tryd.ntmps43
  go_upto_region 1 with fail
  generalize w.alloc _ = W at HB HP ⊢
  go_upto_region 9 with (go_at_call 54; refine (word_any _ _).mono ?_; rintro e w' ⟨rfl, hw⟩; rw [hw]; clear hw w')
  have HR0 := hide (HRow.out.below HB.out)
  have HA := hide (fun m x h0 h1 => word_at g off len cap zs (W.drewN m) x (HR0.out.drewN m) h0 h1)
  have HA' := hide (fun x h0 h1 => word_at g off len cap zs W.drew x (HR0.out.drewN 1) h0 h1)
  have HZ := hide (fun m x h0 h1 => word_at g off len cap zs ((W.alloc (.cells #[.int .i64 0, .int .i64 0, .int .i64 0, .int .i64 0, .int .i64 0, .int .i64 0, .int .i64 0, .slice none 0 0] 49)).drewN m) x ((HR0.out.below (al_below _ _)).drewN m) h0 h1)
  have HZ' := hide (fun x h0 h1 => word_at g off len cap zs (W.alloc (.cells #[.int .i64 0, .int .i64 0, .int .i64 0, .int .i64 0, .int .i64 0, .int .i64 0, .int .i64 0, .slice none 0 0] 49)).drew x ((HR0.out.below (al_below _ _)).drewN 1) h0 h1)
  go_cut [10] from 12 (fun v10 Wc => v10 = .pointer (some ⟨W.heap.size, 0, none⟩) ∧ ∃ N, Wc = (W.alloc (.cells #[.int .i64 17, .int .i64 (P4.wd zs 0), .int .i64 (P4.wd zs 2), .int .i64 0, .int .i64 0, .int .i64 0, .int .i64 0, .slice ao (len - 8) (cap - 8)] 49)).drewN N)
  case first =>
    go_region_held3 (fun _ => True)
      (trivial)
      (first
        | (go_at_call 65; (with_reducible refine (HA.out _ _ (by omega) (by omega)).mono ?_); rintro e w2 ⟨rfl, n2, rfl⟩)
        | (go_at_call 65; (with_reducible refine (HA'.out _ (by omega) (by omega)).mono ?_); rintro e w2 ⟨rfl, n2, rfl⟩)
        | (go_at_call 65; (with_reducible refine (HZ.out _ _ (by omega) (by omega)).mono ?_); rintro e w2 ⟨rfl, n2, rfl⟩)
        | (go_at_call 65; (with_reducible refine (HZ'.out _ (by omega) (by omega)).mono ?_); rintro e w2 ⟨rfl, n2, rfl⟩))
    all_goals
      go_wp2_with fail
      go_meet
      exact ⟨rfl, _, rfl⟩
  case rest =>
    obtain ⟨rfl, N, rfl⟩ := hcut
    have HQ := hide (rq_new w W N [17, P4.wd zs 0, P4.wd zs 2, 0, 0, 0, 0] ao (len - 8) (cap - 8) HP.out HB.out)
    clear HA HA' HZ HZ' hao HR0 HB HP
    replace HQ : Hid (Rq w W.heap.size [17, P4.wd zs 0, P4.wd zs 2, 0, 0, 0, 0] ao (len - 8) (cap - 8) ((W.alloc (.cells #[.int .i64 17, .int .i64 (P4.wd zs 0), .int .i64 (P4.wd zs 2), .int .i64 0, .int .i64 0, .int .i64 0, .int .i64 0, .slice ao (len - 8) (cap - 8)] 49)).drewN N)) := HQ
    generalize (W.alloc (.cells #[.int .i64 17, .int .i64 (P4.wd zs 0), .int .i64 (P4.wd zs 2), .int .i64 0, .int .i64 0, .int .i64 0, .int .i64 0, .slice ao (len - 8) (cap - 8)] 49)).drewN N = W1 at HQ ⊢
    generalize W.heap.size = B at HQ ⊢
    go_wp2_with (first
      | (go_at_call 65; refine (HW.out _ _ (HRow.out.below HQ.out.2.2.2.2) (by omega) (by omega)).mono ?_; rintro e w3 ⟨rfl, hb3⟩; replace HQ := hide (HQ.out.kept hb3); clear hb3)
      | (refine at_store rfl (.tmp 6) (.tmp 59) rfl rfl HQ.out.2.1 [] none 0 0 rfl ?_; intro w5 p5 on5; replace HQ := hide (on5.below HQ.out.2.2.2.2 (Nat.le_refl _)); replace p5 := hide p5; clear on5))
    try simp only [Exit.inBlock, Exit.then]
    refine bodyPost_ret (results_sg rfl _ _ w.heap.size [] none 0 0 rfl p5.out) rfl ?_
    exact ⟨rfl, HQ.out⟩
set_option maxRecDepth 100000 in
set_option maxHeartbeats 8000000 in
theorem rseg_udp_ok (over : Int) (g off len cap : Nat) (zs : List Int) (w : World) (hr : Row8 w (some ⟨g, off, none⟩) len cap zs) (ho : up 65535 over = true) (h1 : 8 ≤ len) (h2 : len ≤ 308) (hcl : len ≤ cap) (hcm : cap ≤ maxLen) (hs : P4.wd zs 4 = (len : Int)) (r : Bool) (hrr : P4.wd zs 6 = sck (rdz 17 zs) over (zs.drop 8) ↔ r = true) :
    Calls Tryd.prog 43 #[.int .i64 17, .slice (some ⟨g, off, none⟩) len cap, .int .i64 over] w fun e w' => ((r = false ∧ e = .returned (.tuple #[sg0, .int .i64 6])) ∨ (r = true ∧ ∃ a' c', e = .returned (.tuple #[.agg (sgC (rdz 17 zs) a' (len - 8) c'), .int .i64 0]) ∧ Row8 w' a' (len - 8) c' (zs.drop 8))) ∧ Below w.heap.size w w' := by
  have hlen := hr.1
  have hoct := hr.2.2.1
  have HB := hide (al_below w (.cells zero7 49))
  have HP := hide (zero_new w)
  unfold zero7 at HB HP
  have HRow := hide hr
  have HW := hide (fun W x h h0 h1 => word_b g off len cap zs W x h h0 h1)
  obtain ⟨ao, hao⟩ : ∃ ao, (if cap = 8 then some (⟨g, off, none⟩ : Addr) else some ⟨g, off + 8, none⟩) = ao := ⟨_, rfl⟩
  have HPart := hide (fun W (h : Row8 W (some ⟨g, off, none⟩) len cap zs) => h.behind 8 (by omega) hcl ao hao)
  have hcm' := hcm
  unfold maxLen at hcm'
  have iH : (8 : Int) ≤ (len : Int) := by omega
  have iHM : ¬ (308 : Int) < (len : Int) := by omega
  have iH0 : ¬ (len : Int) < 8 := by omega
  have ilc : (len : Int) ≤ (cap : Int) := by omega
  have f4 : (P4.wd zs 4 != (len : Int)) = false := by simpa using hs
  have HOk := hide (okg_udp zs hoct (len - 8) (by omega))
  have HC := hide (fun W a' c' (h : Row8 W a' (len - 8) c' (zs.drop 8)) => rcheck_any (rdz 17 zs) a' (len - 8) c' over (zs.drop 8) W HOk.out ho h)
  rw [rdz_wd_udp] at HC hrr HOk ⊢
  have fr : (P4.wd zs 6 != sck [17, P4.wd zs 0, P4.wd zs 2, 0, 0, 0, 0] over (zs.drop 8)) = !r := by
    cases r
    · have : ¬ (P4.wd zs 6 = sck [17, P4.wd zs 0, P4.wd zs 2, 0, 0, 0, 0] over (zs.drop 8)) := fun h => by have := hrr.1 h; cases this
      simpa using this
    · simpa using hrr.2 rfl
  generalize sck [17, P4.wd zs 0, P4.wd zs 2, 0, 0, 0, 0] over (zs.drop 8) = C at HC fr
  clear hs hr hrr HOk
  go_enter Tryd.func43, Tryd.ntmps43
  go_upto_region 1 with fail
  generalize w.alloc _ = W at HB HP ⊢
  go_upto_region 9 with (go_at_call 54; refine (word_any _ _).mono ?_; rintro e w' ⟨rfl, hw⟩; rw [hw]; clear hw w')
  have HR0 := hide (HRow.out.below HB.out)
  have HA := hide (fun m x h0 h1 => word_at g off len cap zs (W.drewN m) x (HR0.out.drewN m) h0 h1)
  have HA' := hide (fun x h0 h1 => word_at g off len cap zs W.drew x (HR0.out.drewN 1) h0 h1)
  have HZ := hide (fun m x h0 h1 => word_at g off len cap zs ((W.alloc (.cells #[.int .i64 0, .int .i64 0, .int .i64 0, .int .i64 0, .int .i64 0, .int .i64 0, .int .i64 0, .slice none 0 0] 49)).drewN m) x ((HR0.out.below (al_below _ _)).drewN m) h0 h1)
  have HZ' := hide (fun x h0 h1 => word_at g off len cap zs (W.alloc (.cells #[.int .i64 0, .int .i64 0, .int .i64 0, .int .i64 0, .int .i64 0, .int .i64 0, .int .i64 0, .slice none 0 0] 49)).drew x ((HR0.out.below (al_below _ _)).drewN 1) h0 h1)
  go_cut [10] from 12 (fun v10 Wc => v10 = .pointer (some ⟨W.heap.size, 0, none⟩) ∧ ∃ N, Wc = (W.alloc (.cells #[.int .i64 17, .int .i64 (P4.wd zs 0), .int .i64 (P4.wd zs 2), .int .i64 0, .int .i64 0, .int .i64 0, .int .i64 0, .slice ao (len - 8) (cap - 8)] 49)).drewN N)
  case first =>
    go_region_held3 (fun _ => True)
      (trivial)
      (first
        | (go_at_call 65; (with_reducible refine (HA.out _ _ (by omega) (by omega)).mono ?_); rintro e w2 ⟨rfl, n2, rfl⟩)
        | (go_at_call 65; (with_reducible refine (HA'.out _ (by omega) (by omega)).mono ?_); rintro e w2 ⟨rfl, n2, rfl⟩)
        | (go_at_call 65; (with_reducible refine (HZ.out _ _ (by omega) (by omega)).mono ?_); rintro e w2 ⟨rfl, n2, rfl⟩)
        | (go_at_call 65; (with_reducible refine (HZ'.out _ (by omega) (by omega)).mono ?_); rintro e w2 ⟨rfl, n2, rfl⟩))
    all_goals
      go_wp2_with fail
      go_meet
      exact ⟨rfl, _, rfl⟩
  case rest =>
    obtain ⟨rfl, N, rfl⟩ := hcut
    have HQ := hide (rq_new w W N [17, P4.wd zs 0, P4.wd zs 2, 0, 0, 0, 0] ao (len - 8) (cap - 8) HP.out HB.out)
    clear HA HA' HZ HZ' hao HR0 HB HP
    replace HQ : Hid (Rq w W.heap.size [17, P4.wd zs 0, P4.wd zs 2, 0, 0, 0, 0] ao (len - 8) (cap - 8) ((W.alloc (.cells #[.int .i64 17, .int .i64 (P4.wd zs 0), .int .i64 (P4.wd zs 2), .int .i64 0, .int .i64 0, .int .i64 0, .int .i64 0, .slice ao (len - 8) (cap - 8)] 49)).drewN N)) := HQ
    generalize (W.alloc (.cells #[.int .i64 17, .int .i64 (P4.wd zs 0), .int .i64 (P4.wd zs 2), .int .i64 0, .int .i64 0, .int .i64 0, .int .i64 0, .slice ao (len - 8) (cap - 8)] 49)).drewN N = W1 at HQ ⊢
    generalize W.heap.size = B at HQ ⊢
    go_upto_region 21 with (go_at_call 65; refine (HW.out _ _ (HRow.out.below HQ.out.2.2.2.2) (by omega) (by omega)).mono ?_; rintro e w3 ⟨rfl, hb3⟩; replace HQ := hide (HQ.out.kept hb3); clear hb3)
    go_upto_if 105 with (first
      | (refine at_load rfl (.tmp 10) rfl rfl HQ.out.1 ?_)
      | (go_at_call 47; refine (HC.out _ _ _ (HPart.out _ (HRow.out.below HQ.out.2.2.2.2))).mono ?_; rintro e w6 ⟨rfl, hb6⟩; replace HQ := hide (HQ.out.kept hb6); clear hb6))
    cases r
    · go_wp2_with (first | (refine at_store rfl (.tmp 6) (.tmp 106) rfl rfl HQ.out.2.1 [] none 0 0 rfl ?_; intro w5 p5 on5; replace HQ := hide (on5.below HQ.out.2.2.2.2 (Nat.le_refl _)); replace p5 := hide p5; clear on5))
      try simp only [Exit.inBlock, Exit.then]
      refine bodyPost_ret (results_sg rfl _ _ w.heap.size [] none 0 0 rfl p5.out) rfl ?_
      exact ⟨rfl, HQ.out⟩
    · have HR9 := hide (HPart.out _ (HRow.out.below HQ.out.2.2.2.2))
      go_wp2_with (first
        | (refine at_load rfl (.tmp 10) rfl rfl HQ.out.1 ?_)
        | (refine at_store rfl (.tmp 6) (.tmp 107) rfl rfl HQ.out.2.1 [17, P4.wd zs 0, P4.wd zs 2, 0, 0, 0, 0] ao (len - 8) (cap - 8) rfl ?_; intro w5 p5 on5; replace HQ := hide (on5.below HQ.out.2.2.2.2 (Nat.le_refl _)); replace p5 := hide p5; clear on5))
      try simp only [Exit.inBlock, Exit.then]
      refine bodyPost_ret (results_sg rfl _ _ w.heap.size [17, P4.wd zs 0, P4.wd zs 2, 0, 0, 0, 0] ao (len - 8) (cap - 8) rfl p5.out) rfl ?_
      exact ⟨⟨ao, cap - 8, rfl, HPart.out _ (HRow.out.below HQ.out)⟩, HQ.out⟩
end Go.Proofs.YtfjnioninjllkaaDoor
