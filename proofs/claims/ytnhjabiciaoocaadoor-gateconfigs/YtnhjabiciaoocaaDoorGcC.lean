/- The document's own ConfigFault; Binds of a new gate; the statement's walk. -/
import Derived.Test.YtnhjabiciaoocaaDoorPkB
import Derived.Test.YtnhjabiciaoocaaDoorEmRefEmbed1
import Derived.Test.YtnhjabiciaoocaaDoorJEmStarts
import Derived.Test.YtnhjabiciaoocaaDoorJBdH
import Derived.Test.YtnhjabiciaoocaaDoorJBmK
import Derived.Test.YtnhjabiciaoocaaDoorGcA
import Derived.Deep.MidRow
import Derived.Laws.ResultCell
import Derived.Deep.CutBlock
import Derived.Deep.QuietTactic
import Derived.OwnWalk
import Derived.Deep.RegionHeld3
import Derived.Deep.DrawnRows
import Derived.Laws.StructEq
import Derived.Laws.AppendOwnNone
import Derived.Maps.AppendAt
import Derived.Maps.RangeWalk
import Derived.Test.YtnhjabiciaoocaaDoorProg
import Derived.WalkKit
import Derived.LaidEql
import Derived.Stop.Asserts
import Derived.RowKitTokens
import Derived.Test.YtnhjabiciaoocaaDoorShelf
import Derived.Shelf.Abstract
import Derived.Below
import Derived.OpenShut
import Derived.BigQuiet
import Derived.Laws.MakeOwn
import Derived.Deep.RegionLaw
import Derived.Lib.Bytes
import Derived.Lib.SliceRun
import Derived.Lib.AppendZerosOnto
import Derived.Lib.AppendZeros
import Derived.Laws.CopyOwn
import Derived.RangeFuncNested
import Derived.RangeFuncBound
import Derived.RangeFuncCalls
import Derived.RangeFuncLeaves
import Derived.RangeFuncFrom
import Derived.Shelf.RegionOpen
import Derived.OwnWalkIn
import Derived.TacticsInMore
import Derived.LoopNIn
import Derived.LoopIn
import Derived.Deep.RegionWith
namespace Go.Proofs.YtnhjabiciaoocaaDoor
open Go.RowKit
theorem rpf (p : List Int) (n k : Int) (w : World) (h : Em.PF p n k) : Calls Tryd.prog 12 #[.agg (sixC p), .int .i64 n] w fun e w' => e = .returned (.int .i64 k) ∧ Below w.heap.size w w' := Em.rpf_any p n k w h
theorem rst (a p : List Int) (n : Int) (w : World) (ha : Ok6 a) (hp : Ok6 p) (h0 : 0 ≤ n) (h1 : n ≤ 128) : Calls Tryd.prog 15 #[.agg (sixC a), .agg (sixC p), .int .i64 n] w fun e w' => e = .returned (.bool (Em.inF a p n)) ∧ Below w.heap.size w w' := Em.starts_any a p n w ha hp h0 h1
attribute [local go_sem ↓] hload_shut
set_option maxRecDepth 100000 in
set_option maxHeartbeats 2000000 in
theorem rcf_any (c : List Int) (inj : Bool) (a : Option Addr) (cap : Nat) (bk : List (List Int)) (pf : Int) (w : World) (hb : Bks a bk w) (hl : bk.length ≤ maxLen) (hp : Em.PF (pfx c) (el c 17) pf) :
    Calls Tryd.prog 4 #[.agg (cfC c inj a bk.length cap)] w fun e w' => e = .returned (.int .i64 (cko c bk pf)) ∧ Below w.heap.size w w' := by
  have HP := hide (cf_new w c inj a bk.length cap)
  have HB := hide (al_below w (.cells (cfC c inj a bk.length cap) 26))
  have H1 := hide (fun W => six_any (vip c) W)
  have H2 := hide (fun W => word_any (el c 8) W)
  have H3 := hide (fun W => rpf (pfx c) (el c 17) pf W hp)
  have H4 := hide (fun W => four_any (el c 18) W)
  have H5 := hide (fun W (hW : Below w.heap.size w W) => rbf_any a cap bk W (hb.below hW) hl)
  have H6 := hide (fun (h1 : s6 (vip c) = true) (h0 : pf = 0) W => rst (vip c) (pfx c) (el c 17) W ((s6_iff _).1 h1) (pf_zero (h0 ▸ hp)).1 (pf_zero (h0 ▸ hp)).2.1 (pf_zero (h0 ▸ hp)).2.2.1)
  obtain ⟨R, hR⟩ : ∃ R, R = cko c bk pf := ⟨_, rfl⟩
  rw [← hR]
  unfold cko at hR
  clear hb hl hp
  go_enter Tryd.func4, Tryd.ntmps4
  go_upto_region 1 with fail
  generalize w.alloc _ = W0 at HP HB ⊢
  have y := HP.out.hv
  cases hs : s6 (vip c)
  · rw [hs, show fe false = 1 from rfl] at H1
    rw [if_pos hs] at hR
    have HRR := hide hR
    clear hR H2 H3 H4 H5 H6
    go_wp2_with (go_at_call 10; refine (H1.out _).mono ?_; rintro e w1 ⟨rfl, hb1⟩; replace HB := hide (bt HB.out hb1); clear hb1)
    go_ret
    exact ⟨by rw [HRR.out]; rfl, HB.out⟩
  rw [hs, show fe true = 0 from rfl] at H1
  rw [if_neg (by rw [hs]; decide)] at hR
  replace H6 := hide (H6.out hs)
  have HRh := hide hR
  clear hs hR
  go_upto_region 4 with (go_at_call 10; refine (H1.out _).mono ?_; rintro e w1 ⟨rfl, hb1⟩; replace HP := hide (HP.out.kept hb1); replace HB := hide (bt HB.out hb1); clear hb1 y)
  clear H1
  have y := HP.out.c8
  cases hd : wd (el c 8)
  · rw [hd] at H2
    have HRR := hide (show R = 1 by rw [HRh.out, if_pos hd])
    clear HRh H3 H4 H5 H6 hd
    go_wp2_with (go_at_call 11; refine (H2.out _).mono ?_; rintro e w2 ⟨rfl, rfl⟩)
    go_ret
    exact ⟨by rw [HRR.out]; rfl, HB.out⟩
  rw [hd] at H2
  replace HRh := hide (show R = _ by rw [HRh.out, if_neg (by rw [hd]; decide)])
  clear hd
  go_upto_region 7 with (go_at_call 11; refine (H2.out _).mono ?_; rintro e w2 ⟨rfl, rfl⟩)
  clear H2 y
  have y := HP.out.hp
  have y2 := HP.out.c17
  by_cases hpf : pf = 0
  case neg =>
    have HRR := hide (show R = pf by rw [HRh.out, if_pos hpf])
    have hn : (pf != 0) = true := by simpa using hpf
    clear HRh H4 H5 H6 hpf
    go_wp2_with (go_at_call 12; refine (H3.out _).mono ?_; rintro e w3 ⟨rfl, hb3⟩; replace HB := hide (bt HB.out hb3); clear hb3 y y2)
    go_ret
    exact ⟨by rw [HRR.out]; rfl, HB.out⟩
  replace HRh := hide (show R = _ by rw [HRh.out, if_neg (fun h => h hpf)])
  replace H6 := hide (H6.out hpf)
  rw [hpf] at H3
  clear hpf
  go_upto_region 10 with (go_at_call 12; refine (H3.out _).mono ?_; rintro e w3 ⟨rfl, hb3⟩; replace HP := hide (HP.out.kept hb3); replace HB := hide (bt HB.out hb3); clear hb3 y y2)
  clear H3
  have y := HP.out.c18
  have y2 := HP.out.c19
  have y3 := HP.out.c20
  cases hn : fr (el c 18)
  · rw [hn] at H4
    have HRR := hide (show R = 1 by rw [HRh.out, if_pos hn])
    clear HRh H5 H6 hn
    go_wp2_with (go_at_call 13; refine (H4.out _).mono ?_; rintro e w4 ⟨rfl, rfl⟩)
    go_ret
    exact ⟨by rw [HRR.out]; rfl, HB.out⟩
  rw [hn] at H4
  replace HRh := hide (show R = _ by rw [HRh.out, if_neg (by rw [hn]; decide)])
  clear hn
  go_upto_region 11 with (go_at_call 13; refine (H4.out _).mono ?_; rintro e w4 ⟨rfl, rfl⟩)
  clear H4 y
  by_cases hq : um 2147483647 (el c 19) = true ∧ 1 ≤ el c 20 ∧ el c 20 ≤ 16
  case neg =>
    have HRR := hide (show R = 1 by rw [HRh.out, if_pos hq])
    clear HRh H5 H6
    have hq' : el c 19 < 0 ∨ (0 ≤ el c 19 ∧ 2147483647 < el c 19) ∨ (0 ≤ el c 19 ∧ el c 19 ≤ 2147483647 ∧ el c 20 < 1) ∨ (0 ≤ el c 19 ∧ el c 19 ≤ 2147483647 ∧ 1 ≤ el c 20 ∧ 16 < el c 20) := by
      rw [um_iff] at hq
      omega
    clear hq
    rcases hq' with h | ⟨h1, h2⟩ | ⟨h1, h2, h3⟩ | ⟨h1, h2, h3, h4⟩
    all_goals
      go_wp2
      go_ret
      exact ⟨by rw [HRR.out]; rfl, HB.out⟩
  obtain ⟨hu, hq1, hq2⟩ := hq
  replace HRh := hide (show R = _ by rw [HRh.out, if_neg (fun h => h ⟨hu, hq1, hq2⟩)])
  have hu2 := (um_iff _ _).1 hu
  obtain ⟨hu3, hu4⟩ := hu2
  clear hu
  go_upto_region 13 with fail
  clear hu3 hu4 hq1 hq2 y2 y3
  have y := HP.out.c22
  generalize bf bk = Q at H5 HRh
  by_cases hk : Q.2 = 0
  case neg =>
    have HRR := hide (show R = Q.2 by rw [HRh.out, if_pos hk])
    have hn : (Q.2 != 0) = true := by simpa using hk
    clear HRh H6 hk
    go_wp2_with (go_at_call 14; refine (H5.out _ HB.out).mono ?_; rintro e w6 ⟨rfl, hb6⟩; replace HB := hide (bt HB.out hb6); clear hb6 y)
    go_ret
    exact ⟨by rw [HRR.out]; rfl, HB.out⟩
  replace HRh := hide (show R = _ by rw [HRh.out, if_neg (fun h => h hk)])
  rw [hk] at H5
  clear hk
  go_upto_region 16 with (go_at_call 14; refine (H5.out _ HB.out).mono ?_; rintro e w6 ⟨rfl, hb6⟩; replace HP := hide (HP.out.kept hb6); replace HB := hide (bt HB.out hb6); clear hb6 y)
  clear H5
  have y := HP.out.hv
  have y2 := HP.out.hp
  have y3 := HP.out.c17
  cases hI : Em.inF (vip c) (pfx c) (el c 17)
  all_goals
    rw [hI] at H6
    have HRR := hide (show R = _ by rw [HRh.out, hI])
    clear HRh hI
    go_wp2_with (go_at_call 15; refine (H6.out _).mono ?_; rintro e w7 ⟨rfl, hb7⟩; replace HB := hide (bt HB.out hb7); clear hb7 y y2 y3)
    go_ret
    exact ⟨by rw [HRR.out]; rfl, HB.out⟩
set_option maxRecDepth 100000 in
theorem gbinds_new (G : Nat) (c : List Int) (inj : Bool) (a : Option Addr) (n cap : Nat) (T P BB F N m S : Nat) (now : Int) (w : World) (h : GtIn G c inj a n cap (.pointer (some ⟨T, 0, none⟩)) S now w) (ht : TC T P BB F N m (fun _ => []) (fun _ => false) [] w) (hm : m ≤ 16) :
    Calls Tryd.prog 9 #[.pointer (some ⟨G, 0, none⟩)] w fun e w' => (∃ a' cap', e = .returned (.slice a' 0 cap')) ∧ Below w.heap.size w w' := by
  have y := h.table
  have HA := hide (show Calls Tryd.prog 25 #[.pointer (some ⟨T, 0, none⟩)] w fun e w' => (∃ a' cap', e = .returned (.slice a' 0 cap')) ∧ Below w.heap.size w w' from (tb_all _ m (fun _ => []) (fun _ => false) [] _ w hm (by simp) (BI.start m) ⟨T, P, BB, F, N, _, rfl, ht, fun _ _ _ _ _ => rfl, rfl⟩).mono fun e w' ⟨b, e1, e2, e3⟩ => by
    obtain ⟨a', cap', rfl, _⟩ := e2
    exact ⟨⟨a', cap', e1⟩, e3⟩)
  clear h ht hm
  go_enter Tryd.func9, Tryd.ntmps9
  go_wp2_with (go_at_call 25; refine HA.out.mono ?_; rintro e w1 ⟨⟨a1, c1, rfl⟩, hb1⟩; have HB := hide hb1; clear hb1)
  go_ret
  exact ⟨⟨a1, c1, rfl⟩, HB.out⟩
theorem cko_zero {c : List Int} {bk : List (List Int)} {pf : Int} (h : cko c bk pf = 0) : pf = 0 ∧ 1 ≤ el c 20 ∧ el c 20 ≤ 16 ∧ (bf bk).2 = 0 := by
  unfold cko at h
  split at h
  · cases h
  split at h
  · cases h
  split at h
  · rename_i h1
    exact absurd h h1
  rename_i hp
  split at h
  · cases h
  split at h
  · cases h
  rename_i hq
  split at h
  · rename_i h1
    exact absurd h h1
  rename_i hb
  have hq' := Classical.not_not.1 hq
  exact ⟨Classical.not_not.1 hp, hq'.2.1, hq'.2.2, Classical.not_not.1 hb⟩
end Go.Proofs.YtnhjabiciaoocaaDoor
