/- The document's own SegOf of TCP's bytes of the right length, by contracts. Segments in numbers, third part: when bytes that are read and written anew are the same. The document's own size, Packed4 and Packed6, by contracts. The document's own Packed6, by a contract. -/
import Derived.Test.YtkhahbghmdccaaaGreatB20
import Derived.Test.YtkhahbghmdccaaaGreatB31
import Derived.Below
import Derived.OpenShut
import Derived.Test.YtkhahbghmdccaaaGreatProg
import Derived.WalkKit
import Derived.LaidEql
import Derived.BigQuiet
import Derived.Laws.AppendOwnNone
import Derived.Laws.MakeOwn
import Derived.Deep.RegionLaw
import Derived.Lib.Bytes
import Derived.Deep.MidRow
import Derived.Laws.ResultCell
import Derived.Deep.CutBlock
import Derived.Deep.QuietTactic
import Derived.OwnWalk
import Derived.Deep.RegionHeld3
import Derived.Deep.DrawnRows
import Derived.Test.YtkhahbghmdccaaaGreatB05
import Derived.Test.YtkhahbghmdccaaaGreatB15
import Derived.Test.YtkhahbghmdccaaaGreatB29
import Derived.Test.YtkhahbghmdccaaaGreatB06
import Derived.Test.YtkhahbghmdccaaaGreatB09
import Derived.Test.YtkhahbghmdccaaaGreatB21
import Derived.Test.YtkhahbghmdccaaaGreatB25
import Derived.Test.YtkhahbghmdccaaaGreatB27
import Derived.Test.YtkhahbghmdccaaaGreatB30
namespace Go.Proofs.YtkhahbghmdccaaaGreat
open Go.RowKit
attribute [local go_sem ↓] Go.wp_at_zero Go.wp_at_succ
attribute [local go_sem] alloc_drewN setCell_drewN
set_option maxRecDepth 100000 in
set_option maxHeartbeats 8000000 in
theorem rseg_tcp_ok (over : Int) (g off len cap : Nat) (zs : List Int) (w : World) (hr : Row8 w (some ⟨g, off, none⟩) len cap zs) (ho : up 65535 over = true) (h1 : 20 ≤ len) (h2 : len ≤ 320) (hcl : len ≤ cap) (hcm : cap ≤ maxLen) (hs : zs.getD 12 0 = 80 ∧ zs.getD 13 0 ≤ 31 ∧ P4.wd zs 18 = 0) (r : Bool) (hrr : P4.wd zs 16 = sck (rdz 6 zs) over (zs.drop 20) ↔ r = true) :
    Calls Tryz.prog 64 #[.int .i64 6, .slice (some ⟨g, off, none⟩) len cap, .int .i64 over] w fun e w' => ((r = false ∧ e = .returned (.tuple #[sg0, .int .i64 6])) ∨ (r = true ∧ ∃ a' c', e = .returned (.tuple #[.agg (sgC (rdz 6 zs) a' (len - 20) c'), .int .i64 0]) ∧ Row8 w' a' (len - 20) c' (zs.drop 20))) ∧ Below w.heap.size w w' := by
  have hlen := hr.1
  have hoct := hr.2.2.1
  have HB := hide (al_below w (.cells zero7 30))
  have HP := hide (zero_new w)
  unfold zero7 at HB HP
  have HRow := hide hr
  have HW := hide (fun W x h h0 h1 => word_b g off len cap zs W x h h0 h1)
  obtain ⟨ao, hao⟩ : ∃ ao, (if cap = 20 then some (⟨g, off, none⟩ : Addr) else some ⟨g, off + 20, none⟩) = ao := ⟨_, rfl⟩
  have HPart := hide (fun W (h : Row8 W (some ⟨g, off, none⟩) len cap zs) => h.behind 20 (by omega) hcl ao hao)
  have hcm' := hcm
  unfold maxLen at hcm'
  have iH : (20 : Int) ≤ (len : Int) := by omega
  have iHM : ¬ (320 : Int) < (len : Int) := by omega
  have iH0 : ¬ (len : Int) < 20 := by omega
  have ilc : (len : Int) ≤ (cap : Int) := by omega
  have w4 := wd_bd zs hoct 4
  have w6 := wd_bd zs hoct 6
  have w8 := wd_bd zs hoct 8
  have w10 := wd_bd zs hoct 10
  have HC12 := hide (fun W (h : Row8 W (some ⟨g, off, none⟩) len cap zs) => show W.cell? ⟨g, off + 12, none⟩ = some (.int .u8 (zs.getD 12 0)) ∧ W.cell? ⟨g, off + 13, none⟩ = some (.int .u8 (zs.getD 13 0)) by
    obtain ⟨_, _, _, _, h5⟩ := h
    obtain ⟨b, o, e, hc⟩ := h5 (by omega)
    cases e
    exact ⟨hc 12 (by omega), hc 13 (by omega)⟩)
  have b13 := hoct 13
  have i12 : (12 : Int) < (len : Int) := by omega
  have i13 : (13 : Int) < (len : Int) := by omega
  have h18 : (P4.wd zs 18 != 0) = false := by simpa using hs.2.2
  have HS := hide hs
  have HOk := hide ((okg_tcp zs hoct (len - 20) (by omega)).2 hs.2.1)
  have HC := hide (fun W a' c' (h : Row8 W a' (len - 20) c' (zs.drop 20)) => rcheck_any (rdz 6 zs) a' (len - 20) c' over (zs.drop 20) W HOk.out ho h)
  rw [rdz_wd_tcp] at HC hrr HOk ⊢
  have fr : (P4.wd zs 16 != sck [6, P4.wd zs 0, P4.wd zs 2, 65536 * P4.wd zs 4 + P4.wd zs 6, 65536 * P4.wd zs 8 + P4.wd zs 10, zs.getD 13 0, P4.wd zs 14] over (zs.drop 20)) = !r := by
    cases r
    · have : ¬ (P4.wd zs 16 = sck [6, P4.wd zs 0, P4.wd zs 2, 65536 * P4.wd zs 4 + P4.wd zs 6, 65536 * P4.wd zs 8 + P4.wd zs 10, zs.getD 13 0, P4.wd zs 14] over (zs.drop 20)) := fun h => by have := hrr.1 h; cases this
      simpa using this
    · simpa using hrr.2 rfl
  generalize sck [6, P4.wd zs 0, P4.wd zs 2, 65536 * P4.wd zs 4 + P4.wd zs 6, 65536 * P4.wd zs 8 + P4.wd zs 10, zs.getD 13 0, P4.wd zs 14] over (zs.drop 20) = C at HC fr
  clear hs hr hrr HOk
  generalize zs.getD 13 0 = z13 at HC HC12 b13 HS ⊢
  go_enter Tryz.func64, Tryz.ntmps64
  go_upto_region 1 with fail
  generalize w.alloc _ = W at HB HP ⊢
  go_upto_region 9 with (go_at_call 103; refine (sgword_any _ _).mono ?_; rintro e w' ⟨rfl, hw⟩; rw [hw]; clear hw w')
  have HR0 := hide (HRow.out.below HB.out)
  have HA := hide (fun m x h0 h1 => word_at g off len cap zs (W.drewN m) x (HR0.out.drewN m) h0 h1)
  have HA' := hide (fun x h0 h1 => word_at g off len cap zs W.drew x (HR0.out.drewN 1) h0 h1)
  have HZ := hide (fun m x h0 h1 => word_at g off len cap zs ((W.alloc (.cells #[.int .i64 0, .int .i64 0, .int .i64 0, .int .i64 0, .int .i64 0, .int .i64 0, .int .i64 0, .slice none 0 0] 30)).drewN m) x ((HR0.out.below (al_below _ _)).drewN m) h0 h1)
  have HZ' := hide (fun x h0 h1 => word_at g off len cap zs (W.alloc (.cells #[.int .i64 0, .int .i64 0, .int .i64 0, .int .i64 0, .int .i64 0, .int .i64 0, .int .i64 0, .slice none 0 0] 30)).drew x ((HR0.out.below (al_below _ _)).drewN 1) h0 h1)
  go_cut [10] from 12 (fun v10 Wc => v10 = .pointer (some ⟨W.heap.size, 0, none⟩) ∧ ∃ N, Wc = (W.alloc (.cells #[.int .i64 6, .int .i64 (P4.wd zs 0), .int .i64 (P4.wd zs 2), .int .i64 0, .int .i64 0, .int .i64 0, .int .i64 0, .slice ao (len - 20) (cap - 20)] 30)).drewN N)
  case first =>
    go_region_held3 (fun _ => True)
      (trivial)
      (first
        | (go_at_call 120; (with_reducible refine (HA.out _ _ (by omega) (by omega)).mono ?_); rintro e w2 ⟨rfl, n2, rfl⟩)
        | (go_at_call 120; (with_reducible refine (HA'.out _ (by omega) (by omega)).mono ?_); rintro e w2 ⟨rfl, n2, rfl⟩)
        | (go_at_call 120; (with_reducible refine (HZ.out _ _ (by omega) (by omega)).mono ?_); rintro e w2 ⟨rfl, n2, rfl⟩)
        | (go_at_call 120; (with_reducible refine (HZ'.out _ (by omega) (by omega)).mono ?_); rintro e w2 ⟨rfl, n2, rfl⟩))
    all_goals
      go_wp2_with fail
      go_meet
      exact ⟨rfl, _, rfl⟩
  case rest =>
    obtain ⟨rfl, N, rfl⟩ := hcut
    have HQ := hide (rq_new w W N [6, P4.wd zs 0, P4.wd zs 2, 0, 0, 0, 0] ao (len - 20) (cap - 20) HP.out HB.out)
    clear HA HA' HZ HZ' hao HR0 HB HP
    replace HQ : Hid (Rq w W.heap.size [6, P4.wd zs 0, P4.wd zs 2, 0, 0, 0, 0] ao (len - 20) (cap - 20) ((W.alloc (.cells #[.int .i64 6, .int .i64 (P4.wd zs 0), .int .i64 (P4.wd zs 2), .int .i64 0, .int .i64 0, .int .i64 0, .int .i64 0, .slice ao (len - 20) (cap - 20)] 30)).drewN N)) := HQ
    generalize (W.alloc (.cells #[.int .i64 6, .int .i64 (P4.wd zs 0), .int .i64 (P4.wd zs 2), .int .i64 0, .int .i64 0, .int .i64 0, .int .i64 0, .slice ao (len - 20) (cap - 20)] 30)).drewN N = W1 at HQ ⊢
    generalize W.heap.size = B at HQ ⊢
    go_upto_region 14 with (go_at_call 120; refine (HW.out _ _ (HRow.out.below HQ.out.2.2.2.2) (by omega) (by omega)).mono ?_; rintro e w3 ⟨rfl, hb3⟩; replace HQ := hide (HQ.out.kept hb3); clear hb3)
    have x3 : _ = some (Value.int .i64 0) := HQ.out.1.cellAt 3
    have y3 := HQ.out.1.frz 3
    go_upto_region 15 with (go_at_call 120; refine (HW.out _ _ (HRow.out.below HQ.out.2.2.2.2) (by omega) (by omega)).mono ?_; rintro e w3 ⟨rfl, hb3⟩; replace HQ := hide (HQ.out.kept hb3); clear hb3; clear x3 y3; have x3 : _ = some (Value.int .i64 0) := HQ.out.1.cellAt 3; have y3 := HQ.out.1.frz 3)
    replace HQ := hide (HQ.out.set 3 (65536 * P4.wd zs 4 + P4.wd zs 6) [6, P4.wd zs 0, P4.wd zs 2, 65536 * P4.wd zs 4 + P4.wd zs 6, 0, 0, 0] rfl)
    clear x3 y3
    generalize World.setCell _ _ _ = W1 at HQ ⊢
    have x4 : _ = some (Value.int .i64 0) := HQ.out.1.cellAt 4
    have y4 := HQ.out.1.frz 4
    go_upto_region 16 with (go_at_call 120; refine (HW.out _ _ (HRow.out.below HQ.out.2.2.2.2) (by omega) (by omega)).mono ?_; rintro e w3 ⟨rfl, hb3⟩; replace HQ := hide (HQ.out.kept hb3); clear hb3; clear x4 y4; have x4 : _ = some (Value.int .i64 0) := HQ.out.1.cellAt 4; have y4 := HQ.out.1.frz 4)
    replace HQ := hide (HQ.out.set 4 (65536 * P4.wd zs 8 + P4.wd zs 10) [6, P4.wd zs 0, P4.wd zs 2, 65536 * P4.wd zs 4 + P4.wd zs 6, 65536 * P4.wd zs 8 + P4.wd zs 10, 0, 0] rfl)
    clear x4 y4
    generalize World.setCell _ _ _ = W1 at HQ ⊢
    have x5 : _ = some (Value.int .i64 0) := HQ.out.1.cellAt 5
    have y5 := HQ.out.1.frz 5
    obtain ⟨-, c13⟩ := HC12.out _ (HRow.out.below HQ.out.2.2.2.2)
    go_upto_region 17 with fail
    replace HQ := hide (HQ.out.set 5 z13 [6, P4.wd zs 0, P4.wd zs 2, 65536 * P4.wd zs 4 + P4.wd zs 6, 65536 * P4.wd zs 8 + P4.wd zs 10, z13, 0] rfl)
    clear x5 y5 c13
    generalize World.setCell _ _ _ = W1 at HQ ⊢
    have x6 : _ = some (Value.int .i64 0) := HQ.out.1.cellAt 6
    have y6 := HQ.out.1.frz 6
    go_upto_region 18 with (go_at_call 120; refine (HW.out _ _ (HRow.out.below HQ.out.2.2.2.2) (by omega) (by omega)).mono ?_; rintro e w3 ⟨rfl, hb3⟩; replace HQ := hide (HQ.out.kept hb3); clear hb3; clear x6 y6; have x6 : _ = some (Value.int .i64 0) := HQ.out.1.cellAt 6; have y6 := HQ.out.1.frz 6)
    replace HQ := hide (HQ.out.set 6 (P4.wd zs 14) [6, P4.wd zs 0, P4.wd zs 2, 65536 * P4.wd zs 4 + P4.wd zs 6, 65536 * P4.wd zs 8 + P4.wd zs 10, z13, P4.wd zs 14] rfl)
    clear x6 y6
    generalize World.setCell _ _ _ = W1 at HQ ⊢
    go_upto_region 19 with (go_at_call 120; refine (HW.out _ _ (HRow.out.below HQ.out.2.2.2.2) (by omega) (by omega)).mono ?_; rintro e w3 ⟨rfl, hb3⟩; replace HQ := hide (HQ.out.kept hb3); clear hb3)
    obtain ⟨c12, -⟩ := HC12.out _ (HRow.out.below HQ.out.2.2.2.2)
    generalize hz12 : zs.getD 12 0 = z12 at c12
    have Z12 := hide hz12
    clear hz12
    have x5 : _ = some (Value.int .i64 z13) := HQ.out.1.cellAt 5
    have n12 : (z12 != 80) = false := by rw [← Z12.out, HS.out.1]; rfl
    have h13 : ¬ 31 < z13 := by have := HS.out.2.1; omega
    go_upto_region 21 with (go_at_call 120; refine (HW.out _ _ (HRow.out.below HQ.out.2.2.2.2) (by omega) (by omega)).mono ?_; rintro e w3 ⟨rfl, hb3⟩; replace HQ := hide (HQ.out.kept hb3); clear hb3; clear x5; have x5 : _ = some (Value.int .i64 z13) := HQ.out.1.cellAt 5)
    clear x5 c12
    go_upto_if 105 with (first
      | (refine at_load rfl (.tmp 10) rfl rfl HQ.out.1 ?_)
      | (go_at_call 74; refine (HC.out _ _ _ (HPart.out _ (HRow.out.below HQ.out.2.2.2.2))).mono ?_; rintro e w6 ⟨rfl, hb6⟩; replace HQ := hide (HQ.out.kept hb6); clear hb6))
    cases r
    · go_wp2_with (first | (refine at_store rfl (.tmp 6) (.tmp 106) rfl rfl HQ.out.2.1 [] none 0 0 rfl ?_; intro w5 p5 on5; replace HQ := hide (on5.below HQ.out.2.2.2.2 (Nat.le_refl _)); replace p5 := hide p5; clear on5))
      try simp only [Exit.inBlock, Exit.then]
      refine bodyPost_ret (results_sg rfl _ _ w.heap.size [] none 0 0 rfl p5.out) rfl ?_
      exact ⟨rfl, HQ.out⟩
    · go_wp2_with (first
        | (refine at_load rfl (.tmp 10) rfl rfl HQ.out.1 ?_)
        | (refine at_store rfl (.tmp 6) (.tmp 107) rfl rfl HQ.out.2.1 [6, P4.wd zs 0, P4.wd zs 2, 65536 * P4.wd zs 4 + P4.wd zs 6, 65536 * P4.wd zs 8 + P4.wd zs 10, z13, P4.wd zs 14] ao (len - 20) (cap - 20) rfl ?_; intro w5 p5 on5; replace HQ := hide (on5.below HQ.out.2.2.2.2 (Nat.le_refl _)); replace p5 := hide p5; clear on5))
      try simp only [Exit.inBlock, Exit.then]
      refine bodyPost_ret (results_sg rfl _ _ w.heap.size [6, P4.wd zs 0, P4.wd zs 2, 65536 * P4.wd zs 4 + P4.wd zs 6, 65536 * P4.wd zs 8 + P4.wd zs 10, z13, P4.wd zs 14] ao (len - 20) (cap - 20) rfl p5.out) rfl ?_
      exact ⟨⟨ao, cap - 20, rfl, HPart.out _ (HRow.out.below HQ.out)⟩, HQ.out⟩
end Go.Proofs.YtkhahbghmdccaaaGreat

namespace Go.Proofs.YtkhahbghmdccaaaGreat
open Go.RowKit
theorem mix_getD (h zs : List Int) (H : Nat) (hl : h.length = H) (j : Nat) : (h ++ zs.drop H).getD j 0 = if j < H then h.getD j 0 else zs.getD j 0 := by
  split
  · rename_i hj; exact getD_app _ _ _ (by omega)
  · rename_i hj
    rw [List.getD_eq_getElem?_getD, List.getElem?_append_right (by omega), ← List.getD_eq_getElem?_getD, P4.getD_drop, hl, show H + (j - H) = j by omega]
theorem mix_len (h zs : List Int) (H : Nat) (hl : h.length = H) (hz : H ≤ zs.length) : (h ++ zs.drop H).length = zs.length := by
  rw [List.length_append, List.length_drop]
  omega
theorem mix_take (h zs : List Int) (H c : Nat) (hl : h.length = H) (hz : H ≤ zs.length) (hc : c ≤ H) : (h ++ zs.drop H).take c = zs.take c ↔ ∀ j, j < c → h.getD j 0 = zs.getD j 0 := by
  constructor
  · intro e j hj
    have g := congrArg (fun l => l.getD j 0) e
    simp only [P4.getD_take hj, mix_getD h zs H hl] at g
    rw [if_pos (by omega)] at g
    exact g
  · intro e
    apply P4.ext_getD (by rw [List.length_take, List.length_take, mix_len h zs H hl hz])
    intro j hj
    rw [List.length_take] at hj
    rw [P4.getD_take (by omega), P4.getD_take (by omega), mix_getD h zs H hl, if_pos (by omega)]
    exact e j (by omega)
theorem mix_drop (h zs : List Int) (H c : Nat) (hl : h.length = H) (hz : H ≤ zs.length) : (h ++ zs.drop H).drop c = zs.drop c ↔ ∀ j, c ≤ j → j < H → h.getD j 0 = zs.getD j 0 := by
  constructor
  · intro e j hj hj2
    have g := congrArg (fun l => l.getD (j - c) 0) e
    simp only [P4.getD_drop, mix_getD h zs H hl] at g
    rw [show c + (j - c) = j by omega, if_pos hj2] at g
    exact g
  · intro e
    apply P4.ext_getD (by rw [List.length_drop, List.length_drop, mix_len h zs H hl hz])
    intro j _
    rw [P4.getD_drop, P4.getD_drop, mix_getD h zs H hl]
    split
    · exact e _ (by omega) (by assumption)
    · rfl
theorem mix_same (h zs : List Int) (H : Nat) (hl : h.length = H) (hz : H ≤ zs.length) : h ++ zs.drop H = zs ↔ ∀ j, j < H → h.getD j 0 = zs.getD j 0 := by
  have := mix_drop h zs H 0 hl hz
  simp only [List.drop_zero, Nat.zero_le, true_implies] at this
  exact this
theorem udp_eb (zs : List Int) (over : Int) (ho : SM.Oct zs) (h1 : 8 ≤ zs.length) (h2 : zs.length ≤ 308) : eb (rdz 17 zs) over (zs.drop 8) = hdU (zs.getD 0 0 * 256 + zs.getD 1 0) (zs.getD 2 0 * 256 + zs.getD 3 0) zs.length (sck (rdz 17 zs) over (zs.drop 8)) ++ zs.drop 8 := by
  obtain ⟨e0, e1, e2, -⟩ := rdz_udp zs
  have hd : (zs.drop 8).length = zs.length - 8 := List.length_drop
  rw [eb_udp _ _ _ (okg_udp zs ho _ (by omega)) (by rw [e0]; decide), e1, e2, hd, show (8 : Int) + ((zs.length - 8 : Nat) : Int) = (zs.length : Int) by omega]
theorem udp_like (zs : List Int) (over : Int) (ho : SM.Oct zs) (h1 : 8 ≤ zs.length) (h2 : zs.length ≤ 308) : ((eb (rdz 17 zs) over (zs.drop 8)).take 6 = zs.take 6 ∧ (eb (rdz 17 zs) over (zs.drop 8)).drop 8 = zs.drop 8) ↔ P4.wd zs 4 = (zs.length : Int) := by
  rw [udp_eb zs over ho h1 h2]
  generalize sck (rdz 17 zs) over (zs.drop 8) = C
  rw [mix_take _ zs 8 6 rfl h1 (by omega), mix_drop _ zs 8 8 rfl h1]
  have o0 := ho 0; have o1 := ho 1; have o2 := ho 2; have o3 := ho 3; have o4 := ho 4; have o5 := ho 5
  constructor
  · rintro ⟨e, -⟩
    have e4 := e 4 (by omega)
    have e5 := e 5 (by omega)
    simp only [hdU, List.getD_cons_zero, List.getD_cons_succ] at e4 e5
    unfold P4.wd
    simp only [Nat.reduceAdd]
    omega
  · intro e
    unfold P4.wd at e
    simp only [Nat.reduceAdd] at e
    refine ⟨fun j hj => ?_, fun j _ _ => by omega⟩
    rcases (by omega : j = 0 ∨ j = 1 ∨ j = 2 ∨ j = 3 ∨ j = 4 ∨ j = 5) with rfl | rfl | rfl | rfl | rfl | rfl <;> simp only [hdU, List.getD_cons_zero, List.getD_cons_succ] <;> omega
theorem udp_same (zs : List Int) (over : Int) (ho : SM.Oct zs) (h1 : 8 ≤ zs.length) (h2 : zs.length ≤ 308) (hov : up 65535 over = true) (he : P4.wd zs 4 = (zs.length : Int)) : eb (rdz 17 zs) over (zs.drop 8) = zs ↔ P4.wd zs 6 = sck (rdz 17 zs) over (zs.drop 8) := by
  rw [udp_eb zs over ho h1 h2]
  have hC := sck_in (rdz 17 zs) over (zs.drop 8) (P4.oct_drop _ ho _) hov
  generalize sck (rdz 17 zs) over (zs.drop 8) = C at hC
  rw [mix_same _ zs 8 rfl h1]
  have o0 := ho 0; have o1 := ho 1; have o2 := ho 2; have o3 := ho 3; have o4 := ho 4; have o5 := ho 5; have o6 := ho 6; have o7 := ho 7
  unfold P4.wd at he ⊢
  simp only [Nat.reduceAdd] at he ⊢
  constructor
  · intro e
    have e6 := e 6 (by omega)
    have e7 := e 7 (by omega)
    simp only [hdU, List.getD_cons_zero, List.getD_cons_succ] at e6 e7
    omega
  · intro e j hj
    rcases (by omega : j = 0 ∨ j = 1 ∨ j = 2 ∨ j = 3 ∨ j = 4 ∨ j = 5 ∨ j = 6 ∨ j = 7) with rfl | rfl | rfl | rfl | rfl | rfl | rfl | rfl <;> simp only [hdU, List.getD_cons_zero, List.getD_cons_succ] <;> omega
theorem tcp_eb (zs : List Int) (over : Int) (ho : SM.Oct zs) (h1 : 20 ≤ zs.length) (h2 : zs.length ≤ 320) (h13 : zs.getD 13 0 ≤ 31) : eb (rdz 6 zs) over (zs.drop 20) = hdT (zs.getD 0 0 * 256 + zs.getD 1 0) (zs.getD 2 0 * 256 + zs.getD 3 0) (((zs.getD 4 0 * 256 + zs.getD 5 0) * 256 + zs.getD 6 0) * 256 + zs.getD 7 0) (((zs.getD 8 0 * 256 + zs.getD 9 0) * 256 + zs.getD 10 0) * 256 + zs.getD 11 0) (zs.getD 13 0) (zs.getD 14 0 * 256 + zs.getD 15 0) (sck (rdz 6 zs) over (zs.drop 20)) ++ zs.drop 20 := by
  obtain ⟨e0, e1, e2, e3, e4, e5, e6⟩ := rdz_tcp zs
  have hd : (zs.drop 20).length = zs.length - 20 := List.length_drop
  rw [eb_tcp _ _ _ ((okg_tcp zs ho _ (by omega)).2 h13) e0, e1, e2, e3, e4, e5, e6]
theorem tcp_like (zs : List Int) (over : Int) (ho : SM.Oct zs) (h1 : 20 ≤ zs.length) (h2 : zs.length ≤ 320) (h13 : zs.getD 13 0 ≤ 31) : ((eb (rdz 6 zs) over (zs.drop 20)).take 16 = zs.take 16 ∧ (eb (rdz 6 zs) over (zs.drop 20)).drop 18 = zs.drop 18) ↔ zs.getD 12 0 = 80 ∧ zs.getD 13 0 ≤ 31 ∧ P4.wd zs 18 = 0 := by
  rw [tcp_eb zs over ho h1 h2 h13]
  generalize sck (rdz 6 zs) over (zs.drop 20) = C
  rw [mix_take _ zs 20 16 rfl h1 (by omega), mix_drop _ zs 20 18 rfl h1]
  have o0 := ho 0; have o1 := ho 1; have o2 := ho 2; have o3 := ho 3; have o4 := ho 4; have o5 := ho 5; have o6 := ho 6; have o7 := ho 7
  have o8 := ho 8; have o9 := ho 9; have o10 := ho 10; have o11 := ho 11; have o12 := ho 12; have o13 := ho 13; have o14 := ho 14; have o15 := ho 15; have o18 := ho 18; have o19 := ho 19
  unfold P4.wd
  simp only [Nat.reduceAdd]
  constructor
  · rintro ⟨e, e'⟩
    have e12 := e 12 (by omega)
    have e18 := e' 18 (by omega) (by omega)
    have e19 := e' 19 (by omega) (by omega)
    simp only [hdT, List.getD_cons_zero, List.getD_cons_succ] at e12 e18 e19
    omega
  · intro e
    refine ⟨fun j hj => ?_, fun j hj hj2 => ?_⟩
    · rcases (by omega : j = 0 ∨ j = 1 ∨ j = 2 ∨ j = 3 ∨ j = 4 ∨ j = 5 ∨ j = 6 ∨ j = 7 ∨ j = 8 ∨ j = 9 ∨ j = 10 ∨ j = 11 ∨ j = 12 ∨ j = 13 ∨ j = 14 ∨ j = 15) with rfl | rfl | rfl | rfl | rfl | rfl | rfl | rfl | rfl | rfl | rfl | rfl | rfl | rfl | rfl | rfl <;> simp only [hdT, List.getD_cons_zero, List.getD_cons_succ] <;> omega
    · rcases (by omega : j = 18 ∨ j = 19) with rfl | rfl <;> simp only [hdT, List.getD_cons_zero, List.getD_cons_succ] <;> omega
theorem tcp_same (zs : List Int) (over : Int) (ho : SM.Oct zs) (h1 : 20 ≤ zs.length) (h2 : zs.length ≤ 320) (hov : up 65535 over = true) (he : zs.getD 12 0 = 80 ∧ zs.getD 13 0 ≤ 31 ∧ P4.wd zs 18 = 0) : eb (rdz 6 zs) over (zs.drop 20) = zs ↔ P4.wd zs 16 = sck (rdz 6 zs) over (zs.drop 20) := by
  rw [tcp_eb zs over ho h1 h2 he.2.1]
  have hC := sck_in (rdz 6 zs) over (zs.drop 20) (P4.oct_drop _ ho _) hov
  generalize sck (rdz 6 zs) over (zs.drop 20) = C at hC
  rw [mix_same _ zs 20 rfl h1]
  have o0 := ho 0; have o1 := ho 1; have o2 := ho 2; have o3 := ho 3; have o4 := ho 4; have o5 := ho 5; have o6 := ho 6; have o7 := ho 7
  have o8 := ho 8; have o9 := ho 9; have o10 := ho 10; have o11 := ho 11; have o12 := ho 12; have o13 := ho 13; have o14 := ho 14; have o15 := ho 15; have o16 := ho 16; have o17 := ho 17; have o18 := ho 18; have o19 := ho 19
  unfold P4.wd at he ⊢
  simp only [Nat.reduceAdd] at he ⊢
  constructor
  · intro e
    have e16 := e 16 (by omega)
    have e17 := e 17 (by omega)
    simp only [hdT, List.getD_cons_zero, List.getD_cons_succ] at e16 e17
    omega
  · intro e j hj
    rcases (by omega : j = 0 ∨ j = 1 ∨ j = 2 ∨ j = 3 ∨ j = 4 ∨ j = 5 ∨ j = 6 ∨ j = 7 ∨ j = 8 ∨ j = 9 ∨ j = 10 ∨ j = 11 ∨ j = 12 ∨ j = 13 ∨ j = 14 ∨ j = 15 ∨ j = 16 ∨ j = 17 ∨ j = 18 ∨ j = 19) with rfl | rfl | rfl | rfl | rfl | rfl | rfl | rfl | rfl | rfl | rfl | rfl | rfl | rfl | rfl | rfl | rfl | rfl | rfl | rfl <;> simp only [hdT, List.getD_cons_zero, List.getD_cons_succ] <;> omega
end Go.Proofs.YtkhahbghmdccaaaGreat

namespace Go.Proofs.YtkhahbghmdccaaaGreat
open Go.RowKit
theorem Row8.pastx {B : Nat} {w w' : World} (on : Only B w w') (hB : ∀ j x, w.cell? ⟨B, j, none⟩ ≠ some (.int .u8 x)) {a : Option Addr} {n c : Nat} {zs : List Int} (r : Row8 w a n c zs) : Row8 w' a n c zs := by
  refine ⟨r.1, r.2.1, r.2.2.1, r.2.2.2.1, fun hp => ?_⟩
  obtain ⟨b, off, e, hc⟩ := r.2.2.2.2 hp
  refine ⟨b, off, e, fun i hi => ?_⟩
  have h := hc i hi
  have hne : b ≠ B := by
    rintro rfl
    exact hB _ _ h
  rw [← h]
  unfold World.cell?
  rw [on.2.2.2.2 b hne]
theorem V4.PkIn.no8 {B : Nat} {s d t k i : Int} {a : Option Addr} {len cap : Nat} {w : World} (p : V4.PkIn B s d t k i a len cap w) (j : Nat) (x : Int) : w.cell? ⟨B, j, none⟩ ≠ some (.int .u8 x) := by
  rw [cell_of_row w B j _ _ _ p]
  by_cases h : j < 6
  · rcases (by omega : j = 0 ∨ j = 1 ∨ j = 2 ∨ j = 3 ∨ j = 4 ∨ j = 5) with rfl | rfl | rfl | rfl | rfl | rfl <;> intro h <;> cases h
  · rw [Array.getElem?_eq_none (by show 6 ≤ j; omega)]; intro h; cases h
theorem V6.PkIn.no8 {B : Nat} {s d : List Int} {h k : Int} {a : Option Addr} {len cap : Nat} {w : World} (p : V6.PkIn B s d h k a len cap w) (j : Nat) (x : Int) : w.cell? ⟨B, j, none⟩ ≠ some (.int .u8 x) := by
  rw [p.cellAt]
  by_cases h : j < 19
  · rcases (by omega : j = 0 ∨ j = 1 ∨ j = 2 ∨ j = 3 ∨ j = 4 ∨ j = 5 ∨ j = 6 ∨ j = 7 ∨ j = 8 ∨ j = 9 ∨ j = 10 ∨ j = 11 ∨ j = 12 ∨ j = 13 ∨ j = 14 ∨ j = 15 ∨ j = 16 ∨ j = 17 ∨ j = 18) with rfl | rfl | rfl | rfl | rfl | rfl | rfl | rfl | rfl | rfl | rfl | rfl | rfl | rfl | rfl | rfl | rfl | rfl | rfl <;> intro h <;> cases h
  · rw [Array.getElem?_eq_none (by show 19 ≤ j; omega)]; intro h; cases h
def pstore (x y : Value) : Sem Unit := Instr.storeAt 44 x y
theorem pstore_shut (x y : Value) : Instr.storeAt 44 x y = pstore x y := rfl
theorem V4.PkIn.held {B : Nat} {s0 d0 t0 k0 i0 : Int} {a0 : Option Addr} {len0 cap0 : Nat} {w : World} (p : V4.PkIn B s0 d0 t0 k0 i0 a0 len0 cap0 w) (s d t k i : Int) (a : Option Addr) (len cap : Nat) :
    ∃ w', (pstore (.pointer (some ⟨B, 0, none⟩)) (.agg #[.int .i64 s, .int .i64 d, .int .i64 t, .int .i64 k, .int .i64 i, .slice a len cap])).run Tryz.prog w = .ok () w' ∧ V4.PkIn B s d t k i a len cap w' ∧ Only B w w' := by
  refine ⟨w.setRow B #[.int .i64 s, .int .i64 d, .int .i64 t, .int .i64 k, .int .i64 i, .slice a len cap], ?_, p.stored s d t k i a len cap, only_setRow _ _ _⟩
  unfold pstore
  simp only [Instr.storeAt, Instr.sureAddr, Sem.run_bind, Sem.run_pure, Result.andThen_ok]
  exact run_storeVar_row w B 44 44 _ #[.int .i64 s, .int .i64 d, .int .i64 t, .int .i64 k, .int .i64 i, .slice a len cap] p (by kernel_rfl) rfl (by simp [Value.oneCell'])
theorem V4.pk_result {fn : Func} {p : Tmp} (h : fn.results = #[.cell p 44]) (tmps : Array Value) (w : World) (B : Nat) (s d t k i : Int) (a : Option Addr) (len cap : Nat)
    (ht : tmps.getD p undef = .pointer (some ⟨B, 0, none⟩)) (hg : V4.PkIn B s d t k i a len cap w) : (results fn tmps).run Tryz.prog w = .ok (V4.pk s d t k i a len cap) w :=
  results_cell_row h tmps w B 44 _ (0, 0) _ ht hg Tryz.underlying44 rfl (by kernel_rfl)
theorem rover6_ok (s d : List Int) (k n : Int) (w : World) (hs : Ok6 s) (hd : Ok6 d) (hk : up 255 k = true) (hn : up 320 n = true) :
    Calls Tryz.prog 77 #[.agg (sixC s), .agg (sixC d), .int .i64 k, .int .i64 n] w fun e w' => e = .returned (.tuple #[.int .i64 (o6 s d k n), .int .i64 0]) ∧ Below w.heap.size w w' :=
  rover6_any s d k n w hs hd _ _ (fun W a1 c1 a2 c2 r1 r2 => roverof_ok a1 16 c1 _ a2 16 c2 _ k n W r1 r2 (by rw [List.length_append, by16_len, by16_len]; omega) hk hn)
theorem rover4_o (s d k n : Int) (w : World) (hs : up 4294967295 s = true) (hd : up 4294967295 d = true) (hk : up 255 k = true) (hn : up 320 n = true) :
    Calls Tryz.prog 63 #[.int .i64 s, .int .i64 d, .int .i64 k, .int .i64 n] w fun e w' => e = .returned (.tuple #[.int .i64 (o4 s d k n), .int .i64 0]) ∧ Below w.heap.size w w' := rover4_ok s d k n w hs hd hk hn
theorem sbx_len (z : List Int) (C : Int) (data : List Int) : (sbx z C data).length = hn (el z 0) + data.length := by
  unfold sbx hn hdT hdU
  split <;> simp <;> omega
set_option maxRecDepth 100000 in
set_option maxHeartbeats 1000000 in
theorem size_any (z : List Int) (a : Option Addr) (len cap : Nat) (data : List Int) (w : World) (h : Okg z len) (hr : Row8 w a len cap data) (N : Nat) (hN : hn (el z 0) + len = N) :
    Calls Tryz.prog 72 #[.agg (sgC z a len cap)] w fun e w' => e = .returned (.int .i64 N) ∧ Below w.heap.size w w' := by
  have HB := hide (al_below w (.cells (sgC z a len cap) 30))
  have HP := hide (sg_new w z a len cap)
  have HS := hide (fun W hr' => rbytes_any z a len cap 0 data W h (by omega) hr')
  have HL := hide (show (sbx z 0 data).length = N by rw [sbx_len, hr.1]; exact hN)
  have HR := hide hr
  generalize sbx z 0 data = X at HS HL
  clear hr h hN
  go_enter Tryz.func72, Tryz.ntmps72
  go_upto_region 1 with fail
  generalize w.alloc (.cells (sgC z a len cap) 30) = W at HB HP ⊢
  go_wp2_with (first
    | (refine at_load rfl (.tmp 1) rfl rfl HP.out ?_)
    | (go_at_call 73; refine (HS.out _ (HR.out.below HB.out)).mono ?_; rintro e w1 ⟨v1, rfl, o1, hb1⟩; obtain ⟨a1, c1, hv1, -, -⟩ := o1.row8; rw [HL.out] at hv1; subst hv1; replace HB := hide (bt HB.out hb1); clear hb1 o1))
  go_ret
  exact ⟨rfl, HB.out⟩
def K4 (w : World) (z : List Int) (a : Option Addr) (len cap : Nat) (W : World) : Prop := SgIn w.heap.size z a len cap W ∧ V4.PkIn (w.heap.size + 1) 0 0 0 0 0 none 0 0 W ∧ Below w.heap.size w W
theorem K4.kept {w : World} {z : List Int} {a : Option Addr} {len cap : Nat} {W W' : World} (h : K4 w z a len cap W) (hb : Below W.heap.size W W') : K4 w z a len cap W' := ⟨h.1.kept hb, h.2.1.kept hb, bt h.2.2 hb⟩
theorem K4.start (w : World) (z : List Int) (a : Option Addr) (len cap : Nat) : K4 w z a len cap ((w.alloc (.cells (sgC z a len cap) 30)).alloc (.cells V4.zero4 44)) := by
  have b1 := al_below w (.cells (sgC z a len cap) 30)
  have b2 := al_below (w.alloc (.cells (sgC z a len cap) 30)) (.cells V4.zero4 44)
  have p2 := V4.zero_new (w.alloc (.cells (sgC z a len cap) 30))
  rw [World.size_alloc] at p2
  exact ⟨(sg_new w z a len cap).kept b2, p2, bt b1 b2⟩
attribute [local go_sem ↓] gload_shut pstore_shut Go.wp_at_zero Go.wp_at_succ
set_option maxRecDepth 100000 in
set_option maxHeartbeats 4000000 in
theorem packed4_any (z : List Int) (a : Option Addr) (len cap : Nat) (data : List Int) (src dst ttl : Int) (w : World) (h : Okg z len) (hr : Row8 w a len cap data) (h1 : up 4294967295 src = true) (h2 : up 4294967295 dst = true) (N : Nat) (hN : hn (el z 0) + len = N) (hN2 : N ≤ 320) :
    Calls Tryz.prog 21 #[.agg (sgC z a len cap), .int .i64 src, .int .i64 dst, .int .i64 ttl] w fun e w' => ∃ a1 c1, e = .returned (V4.pk src dst ttl (el z 0) 0 a1 N c1) ∧ Row8 w' a1 N c1 (eb z (o4 src dst (el z 0) N) data) ∧ Below w.heap.size w w' := by
  have HV := hide (K4.start w z a len cap)
  have hk : up 255 (el z 0) = true := by rcases (kn_iff _).1 (okg_kn h) with e | e <;> rw [e] <;> rfl
  have HZ := hide (fun W (hb : Below w.heap.size w W) => size_any z a len cap data W h (hr.below hb) N hN)
  have HO := hide (fun W => rover4_o src dst (el z 0) N W h1 h2 hk (decide_eq_true (by omega)))
  have hi := o4_in src dst (el z 0) N
  have hlen := hr.1
  generalize o4 src dst (el z 0) N = O at HO hi ⊢
  have HC := hide (fun W (hb : Below w.heap.size w W) => rcheck_any z a len cap O data W h hi (hr.below hb))
  have HY := hide (fun W (hb : Below w.heap.size w W) => rbytes_any z a len cap (sck z O data) data W h (sck_in z O data hr.2.2.1 hi) (hr.below hb))
  rw [sbx_eb z O data (by rw [hlen]; exact h)] at HY
  have HL := hide (show (eb z O data).length = N by rw [eb_len, hlen]; exact hN)
  generalize eb z O data = E at HY HL ⊢
  generalize sck z O data = C at HC HY
  unfold V4.zero4 at HV
  clear h hr h1 h2 hN hk hi hlen
  go_enter Tryz.func21, Tryz.ntmps21
  go_upto_region 1 with fail
  generalize (World.alloc _ _).alloc _ = W0 at HV ⊢
  replace HV := hide (HV.out.kept (Below.refl _ _).drew)
  have lg := HV.out.1.gl
  have l0 := HV.out.1.c0
  go_region_held3 (fun w' => w'.cell? ⟨w.heap.size, 0, none⟩ = some (.int .i64 (el z 0)) ∧ (gload (.pointer (some ⟨w.heap.size, 0, none⟩))).run Tryz.prog w' = .ok (.agg (sgC z a len cap)) w')
    (first
      | go_keep
      | exact ⟨HV.out.1.c0, HV.out.1.gl⟩)
    (first
      | (go_at_call 72; refine (HZ.out _ HV.out.2.2).mono ?_; rintro e w1 ⟨rfl, hb1⟩; replace HV := hide (HV.out.kept hb1); clear hb1 lg l0; have lg := HV.out.1.gl; have l0 := HV.out.1.c0)
      | (go_at_call 63; refine (HO.out _).mono ?_; rintro e w2 ⟨rfl, hb2⟩; replace HV := hide (HV.out.kept hb2); clear hb2 lg l0; have lg := HV.out.1.gl; have l0 := HV.out.1.c0))
  clear lg l0
  go_upto_region 2 with fail
  replace HV := hide (HV.out.kept (Below.refl _ _).drew)
  have lg := HV.out.1.gl
  have l0 := HV.out.1.c0
  go_region_held3 (fun w' => w'.cell? ⟨w.heap.size, 0, none⟩ = some (.int .i64 (el z 0)) ∧ (gload (.pointer (some ⟨w.heap.size, 0, none⟩))).run Tryz.prog w' = .ok (.agg (sgC z a len cap)) w')
    (first
      | go_keep
      | exact ⟨HV.out.1.c0, HV.out.1.gl⟩
      | exact ⟨HS5.out.c0, HS5.out.gl⟩)
    (first
      | (go_at_call 74; refine (HC.out _ HV.out.2.2).mono ?_; rintro e w3 ⟨rfl, hb3⟩; replace HV := hide (HV.out.kept hb3); clear hb3 lg l0; have lg := HV.out.1.gl; have l0 := HV.out.1.c0)
      | (go_at_call 73; refine (HY.out _ HV.out.2.2).mono ?_; rintro e w4 ⟨v4, rfl, own4, hb4⟩; obtain ⟨a4, c4, hv4, hr4, -⟩ := own4.row8; rw [HL.out] at hv4 hr4; subst hv4; replace HV := hide (HV.out.kept hb4); obtain ⟨w5, hst, p5, on5⟩ := HV.out.2.1.held src dst ttl (el z 0) 0 a4 N c4; replace hr4 := hide (Row8.pastx on5 HV.out.2.1.no8 hr4); replace p5 := hide p5; have HS5 := hide (on5.sg HV.out.1 (by omega)); have HB := hide (on5.below HV.out.2.2 (Nat.le_succ _)); clear on5 hb4 own4 lg l0; have lg := HV.out.1.gl; have l0 := HV.out.1.c0))
  go_wp2_with fail
  try simp only [Exit.inBlock, Exit.then]
  refine bodyPost_ret (V4.pk_result rfl _ _ (w.heap.size + 1) src dst ttl (el z 0) 0 a4 N c4 rfl p5.out) rfl ?_
  exact ⟨a4, c4, rfl, hr4.out, HB.out⟩
end Go.Proofs.YtkhahbghmdccaaaGreat

namespace Go.Proofs.YtkhahbghmdccaaaGreat
open Go.RowKit
def K6 (w : World) (z : List Int) (a : Option Addr) (len cap : Nat) (x y : List Int) (W : World) : Prop := SgIn w.heap.size z a len cap W ∧ SixIn (w.heap.size + 1) x W ∧ SixIn (w.heap.size + 1 + 1) y W ∧ V6.PkIn (w.heap.size + 1 + 1 + 1) [] [] 0 0 none 0 0 W ∧ Below w.heap.size w W
theorem K6.kept {w : World} {z : List Int} {a : Option Addr} {len cap : Nat} {x y : List Int} {W W' : World} (h : K6 w z a len cap x y W) (hb : Below W.heap.size W W') : K6 w z a len cap x y W' := ⟨h.1.kept hb, h.2.1.kept hb, h.2.2.1.kept hb, h.2.2.2.1.kept hb, bt h.2.2.2.2 hb⟩
theorem K6.start (w : World) (z : List Int) (a : Option Addr) (len cap : Nat) (x y : List Int) : K6 w z a len cap x y ((((w.alloc (.cells (sgC z a len cap) 30)).alloc (.cells (sixC x) 23)).alloc (.cells (sixC y) 23)).alloc (.cells V6.zero6 53)) := by
  have s1 : (w.alloc (.cells (sgC z a len cap) 30)).heap.size = w.heap.size + 1 := World.size_alloc _ _
  have b1 : Below w.heap.size w (w.alloc (.cells (sgC z a len cap) 30)) := al_below w _
  have p1 := sg_new w z a len cap
  generalize w.alloc (.cells (sgC z a len cap) 30) = w1 at s1 b1 p1 ⊢
  have s2 : (w1.alloc (.cells (sixC x) 23)).heap.size = w.heap.size + 1 + 1 := by rw [World.size_alloc, s1]
  have b2 : Below w1.heap.size w1 (w1.alloc (.cells (sixC x) 23)) := al_below w1 _
  have p2 : SixIn w1.heap.size x (w1.alloc (.cells (sixC x) 23)) := six_new x w1
  rw [s1] at p2
  generalize w1.alloc (.cells (sixC x) 23) = w2 at s2 b2 p2 ⊢
  have s3 : (w2.alloc (.cells (sixC y) 23)).heap.size = w.heap.size + 1 + 1 + 1 := by rw [World.size_alloc, s2]
  have b3 : Below w2.heap.size w2 (w2.alloc (.cells (sixC y) 23)) := al_below w2 _
  have p3 : SixIn w2.heap.size y (w2.alloc (.cells (sixC y) 23)) := six_new y w2
  rw [s2] at p3
  generalize w2.alloc (.cells (sixC y) 23) = w3 at s3 b3 p3 ⊢
  have b4 : Below w3.heap.size w3 (w3.alloc (.cells V6.zero6 53)) := al_below w3 _
  have p4 := V6.zero_new w3
  rw [s3] at p4
  exact ⟨((p1.kept b2).kept b3).kept b4, (p2.kept b3).kept b4, p3.kept b4, p4, bt (bt (bt b1 b2) b3) b4⟩
def Ld (b : Nat) (z : List Int) (a : Option Addr) (len cap : Nat) (x y : List Int) (W : World) : Prop :=
  W.cell? ⟨b, 0, none⟩ = some (.int .i64 (el z 0)) ∧ (gload (.pointer (some ⟨b, 0, none⟩))).run Tryz.prog W = .ok (.agg (sgC z a len cap)) W ∧
  (hload (.pointer (some ⟨b + 1, 0, none⟩))).run Tryz.prog W = .ok (.agg #[.int .i64 (el x 0), .int .i64 (el x 1), .int .i64 (el x 2), .int .i64 (el x 3), .int .i64 (el x 4), .int .i64 (el x 5), .int .i64 (el x 6), .int .i64 (el x 7)]) W ∧
  (hload (.pointer (some ⟨b + 1 + 1, 0, none⟩))).run Tryz.prog W = .ok (.agg #[.int .i64 (el y 0), .int .i64 (el y 1), .int .i64 (el y 2), .int .i64 (el y 3), .int .i64 (el y 4), .int .i64 (el y 5), .int .i64 (el y 6), .int .i64 (el y 7)]) W
theorem ld_of {b : Nat} {z : List Int} {a : Option Addr} {len cap : Nat} {x y : List Int} {W : World} (h1 : SgIn b z a len cap W) (h2 : SixIn (b + 1) x W) (h3 : SixIn (b + 1 + 1) y W) : Ld b z a len cap x y W := ⟨h1.c0, h1.gl, h2.hl, h3.hl⟩
attribute [local go_sem ↓] gload_shut hload_shut V6.hstore_shut Go.wp_at_zero Go.wp_at_succ
set_option maxRecDepth 100000 in
set_option maxHeartbeats 8000000 in
theorem packed6_any (z : List Int) (a : Option Addr) (len cap : Nat) (data : List Int) (x y : List Int) (hop : Int) (w : World) (h : Okg z len) (hr : Row8 w a len cap data) (h1 : Ok6 x) (h2 : Ok6 y) (N : Nat) (hN : hn (el z 0) + len = N) (hN2 : N ≤ 320) :
    Calls Tryz.prog 28 #[.agg (sgC z a len cap), .agg (sixC x), .agg (sixC y), .int .i64 hop] w fun e w' => ∃ a1 c1, e = .returned (V6.pk x y hop (el z 0) a1 N c1) ∧ Row8 w' a1 N c1 (eb z (o6 x y (el z 0) N) data) ∧ Below w.heap.size w w' := by
  have HV := hide (K6.start w z a len cap x y)
  have hk : up 255 (el z 0) = true := by rcases (kn_iff _).1 (okg_kn h) with e | e <;> rw [e] <;> rfl
  have HZ := hide (fun W (hb : Below w.heap.size w W) => size_any z a len cap data W h (hr.below hb) N hN)
  have HO := hide (fun W => rover6_ok x y (el z 0) N W h1 h2 hk (decide_eq_true (by omega)))
  have hi := o6_in x y (el z 0) N h1 h2
  have hlen := hr.1
  generalize o6 x y (el z 0) N = O at HO hi ⊢
  have HC := hide (fun W (hb : Below w.heap.size w W) => rcheck_any z a len cap O data W h hi (hr.below hb))
  have HY := hide (fun W (hb : Below w.heap.size w W) => rbytes_any z a len cap (sck z O data) data W h (sck_in z O data hr.2.2.1 hi) (hr.below hb))
  rw [sbx_eb z O data (by rw [hlen]; exact h)] at HY
  have HL := hide (show (eb z O data).length = N by rw [eb_len, hlen]; exact hN)
  generalize eb z O data = E at HY HL ⊢
  generalize sck z O data = C at HC HY
  unfold V6.zero6 at HV
  unfold sixC at HO
  clear h hr h1 h2 hN hk hi hlen
  go_enter Tryz.func28, Tryz.ntmps28
  go_upto_region 1 with fail
  generalize (World.alloc (World.alloc (World.alloc _ _) _) _).alloc _ = W0 at HV ⊢
  replace HV := hide (HV.out.kept (Below.refl _ _).drew)
  obtain ⟨l0, lg, lx, ly⟩ := ld_of HV.out.1 HV.out.2.1 HV.out.2.2.1
  go_region_held3 (fun w' => w'.cell? ⟨w.heap.size, 0, none⟩ = some (.int .i64 (el z 0)) ∧ (gload (.pointer (some ⟨w.heap.size, 0, none⟩))).run Tryz.prog w' = .ok (.agg (sgC z a len cap)) w' ∧
      (hload (.pointer (some ⟨w.heap.size + 1, 0, none⟩))).run Tryz.prog w' = .ok (.agg #[.int .i64 (el x 0), .int .i64 (el x 1), .int .i64 (el x 2), .int .i64 (el x 3), .int .i64 (el x 4), .int .i64 (el x 5), .int .i64 (el x 6), .int .i64 (el x 7)]) w' ∧
      (hload (.pointer (some ⟨w.heap.size + 1 + 1, 0, none⟩))).run Tryz.prog w' = .ok (.agg #[.int .i64 (el y 0), .int .i64 (el y 1), .int .i64 (el y 2), .int .i64 (el y 3), .int .i64 (el y 4), .int .i64 (el y 5), .int .i64 (el y 6), .int .i64 (el y 7)]) w')
    (first
      | go_keep
      | exact ld_of HV.out.1 HV.out.2.1 HV.out.2.2.1)
    (first
      | (go_at_call 72; refine (HZ.out _ HV.out.2.2.2.2).mono ?_; rintro e w1 ⟨rfl, hb1⟩; replace HV := hide (HV.out.kept hb1); clear hb1 l0 lg lx ly; obtain ⟨l0, lg, lx, ly⟩ := ld_of HV.out.1 HV.out.2.1 HV.out.2.2.1)
      | (go_at_call 77; refine (HO.out _).mono ?_; rintro e w2 ⟨rfl, hb2⟩; replace HV := hide (HV.out.kept hb2); clear hb2 l0 lg lx ly; obtain ⟨l0, lg, lx, ly⟩ := ld_of HV.out.1 HV.out.2.1 HV.out.2.2.1))
  clear l0 lg lx ly
  go_upto_region 2 with fail
  replace HV := hide (HV.out.kept (Below.refl _ _).drew)
  obtain ⟨l0, lg, lx, ly⟩ := ld_of HV.out.1 HV.out.2.1 HV.out.2.2.1
  go_region_held3 (fun w' => w'.cell? ⟨w.heap.size, 0, none⟩ = some (.int .i64 (el z 0)) ∧ (gload (.pointer (some ⟨w.heap.size, 0, none⟩))).run Tryz.prog w' = .ok (.agg (sgC z a len cap)) w' ∧
      (hload (.pointer (some ⟨w.heap.size + 1, 0, none⟩))).run Tryz.prog w' = .ok (.agg #[.int .i64 (el x 0), .int .i64 (el x 1), .int .i64 (el x 2), .int .i64 (el x 3), .int .i64 (el x 4), .int .i64 (el x 5), .int .i64 (el x 6), .int .i64 (el x 7)]) w' ∧
      (hload (.pointer (some ⟨w.heap.size + 1 + 1, 0, none⟩))).run Tryz.prog w' = .ok (.agg #[.int .i64 (el y 0), .int .i64 (el y 1), .int .i64 (el y 2), .int .i64 (el y 3), .int .i64 (el y 4), .int .i64 (el y 5), .int .i64 (el y 6), .int .i64 (el y 7)]) w')
    (first
      | go_keep
      | exact ld_of HV.out.1 HV.out.2.1 HV.out.2.2.1
      | exact HS5.out)
    (first
      | (go_at_call 74; refine (HC.out _ HV.out.2.2.2.2).mono ?_; rintro e w3 ⟨rfl, hb3⟩; replace HV := hide (HV.out.kept hb3); clear hb3 l0 lg lx ly; obtain ⟨l0, lg, lx, ly⟩ := ld_of HV.out.1 HV.out.2.1 HV.out.2.2.1)
      | (go_at_call 73; refine (HY.out _ HV.out.2.2.2.2).mono ?_; rintro e w4 ⟨v4, rfl, own4, hb4⟩; obtain ⟨a4, c4, hv4, hr4, -⟩ := own4.row8; rw [HL.out] at hv4 hr4; subst hv4; replace HV := hide (HV.out.kept hb4); obtain ⟨w5, hst, p5, on5⟩ := HV.out.2.2.2.1.held x y hop (el z 0) a4 N c4; unfold V6.pkC at hst; replace hr4 := hide (Row8.pastx on5 HV.out.2.2.2.1.no8 hr4); replace p5 := hide p5; have HS5 := hide (ld_of (on5.sg HV.out.1 (by omega)) (on5.six HV.out.2.1 (by omega)) (on5.six HV.out.2.2.1 (by omega))); have HB := hide (on5.below HV.out.2.2.2.2 (by omega)); clear on5 hb4 own4 l0 lg lx ly; obtain ⟨l0, lg, lx, ly⟩ := ld_of HV.out.1 HV.out.2.1 HV.out.2.2.1))
  go_wp2_with fail
  try simp only [Exit.inBlock, Exit.then]
  refine bodyPost_ret (V6.pk_result rfl _ _ (w.heap.size + 1 + 1 + 1) x y hop (el z 0) a4 N c4 rfl p5.out) rfl ?_
  exact ⟨a4, c4, rfl, hr4.out, HB.out⟩
end Go.Proofs.YtkhahbghmdccaaaGreat
