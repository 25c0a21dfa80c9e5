/- GateStays, walked. -/
import Derived.Test.YtkhahbghmdccaaaGreatDoorK15
import Derived.Test.YtkhahbghmdccaaaGreatDoorK35
import Derived.Test.YtkhahbghmdccaaaGreatDoorK36
import Derived.Test.YtkhahbghmdccaaaGreatDoorGsB
import Derived.Below
import Derived.OpenShut
import Derived.Test.YtkhahbghmdccaaaGreatDoorProg
import Derived.WalkKit
import Derived.LaidEql
import Derived.BigQuiet
import Derived.Laws.AppendOwnNone
import Derived.Laws.MakeOwn
import Derived.Deep.RegionLaw
import Derived.Lib.Bytes
import Derived.Deep.MidRow
import Derived.Laws.ResultCell
import Derived.Deep.CutBlock
import Derived.Deep.QuietTactic
import Derived.OwnWalk
import Derived.Deep.RegionHeld3
import Derived.Deep.DrawnRows
import Derived.Laws.StructEq
import Derived.Maps.AppendAt
import Derived.Maps.RangeWalk
import Derived.Stop.Asserts
import Derived.RowKitTokens
import Derived.Test.YtkhahbghmdccaaaGreatDoorShelf
import Derived.Shelf.Abstract
import Derived.Lib.SliceRun
import Derived.Lib.AppendZerosOnto
import Derived.Lib.AppendZeros
import Derived.Laws.CopyOwn
import Derived.RangeFuncNested
import Derived.RangeFuncBound
import Derived.RangeFuncCalls
import Derived.RangeFuncLeaves
import Derived.RangeFuncFrom
import Derived.Shelf.RegionOpen
import Derived.OwnWalkIn
import Derived.TacticsInMore
import Derived.LoopNIn
import Derived.LoopIn
import Derived.Deep.RegionWith
import Derived.ArgAppend
import Derived.Lib.SlBytesConst
import Derived.Lib.AppendStr
import Derived.Deep.Slices
import Derived.ChangeArms
import Derived.WideShapes
import Derived.Deep.Fields
import Derived.ChangeSlices
import Derived.RowKit
namespace Go.Proofs.YtkhahbghmdccaaaGreatDoor
open Go.RowKit
set_option linter.unusedVariables false
attribute [local go_sem ↓] stl_shut gload_shut hload_shut cload_shut sbu_shut
set_option maxRecDepth 100000 in
set_option maxHeartbeats 4000000 in
theorem gst_a (c : List Int) (inj : Bool) (ka : Option Addr) (kc : Nat) (bk : List (List Int)) (la : Option Addr) (ln lc : Nat) (wh : Int) (ba : Option Addr) (bl bc : Nat) (z : List Int) (a : Option Addr) (len cap : Nat) (s d : List Int) (hop n : Int) (is : Bool) (w : World) (j : Int)
    (hN : ∀ W, Below w.heap.size w W → Calls Tryz.prog 8 #[.agg (cfC c inj ka bk.length kc)] W fun e w' => e = .returned (.tuple #[.pointer none, .iface 28 (.int .i64 j)]) ∧ Below W.heap.size W w') :
    Calls Tryz.prog 4 #[.agg (cfC c inj ka bk.length kc), .agg (stC3 wh ba bl bc z a len cap s d hop n is), .slice la ln lc] w fun e w' => e = .returned (.bool true) ∧ Below w.heap.size w w' := by
  have HF := hide fact_any
  have HK := hide (Kfs.start w c inj ka bk kc wh ba bl bc z a len cap s d hop n is)
  have HN := hide hN
  clear hN
  go_enter Tryz.func4, Tryz.ntmps4
  go_upto_region 1 with fail
  generalize (World.alloc _ _).alloc _ = W0 at HK ⊢
  go_upto_region 4 with (go_at_call 20; refine (HF.out _).mono ?_; rintro e w1 ⟨rfl, hb1⟩; replace HK := hide (HK.out.kept hb1); clear hb1)
  have q1 := HK.out.1.cl
  go_wp2_with (go_at_call 8; refine (HN.out _ HK.out.2.2).mono ?_; rintro e w2 ⟨rfl, hb2⟩; replace HK := hide (HK.out.kept hb2); clear hb2 q1)
  go_ret
  exact ⟨rfl, HK.out.2.2⟩
set_option maxRecDepth 100000 in
set_option maxHeartbeats 16000000 in
theorem gst_b (c : List Int) (inj : Bool) (ka : Option Addr) (kc : Nat) (bk : List (List Int)) (m : Nat) (la : Option Addr) (ln lc : Nat) (wh : Int) (ba : Option Addr) (bl bc : Nat) (z : List Int) (a : Option Addr) (len cap : Nat) (D s d : List Int) (hop n : Int) (is : Bool) (zs : List Int) (w : World)
    (hl : ln ≤ maxLen) (hst : Sts la ln w) (hr : Row8 w a len cap D) (hig : IG (gz0 c inj bk m)) (hoz : SM.Oct zs)
    (hN : ∀ W, Below w.heap.size w W → Calls Tryz.prog 8 #[.agg (cfC c inj ka bk.length kc)] W fun e w' => NG W c inj bk m e w')
    (hS : ∀ W, Below w.heap.size w W → Calls Tryz.prog 14 #[.agg (stC3 9 none 0 0 z a len cap s d hop 0 false), .agg (cfC c inj ka bk.length kc), .slice none 0 0] W fun e w' => ∃ b l k, e = .returned (.slice b l k) ∧ (Row8 w' b l k zs ∧ l ≤ k ∧ k ≤ maxLen) ∧ Below W.heap.size W w')
    (hR : (g6 (gz0 c inj bk m) zs).1 ≠ 0 ∨ ((g6 (gz0 c inj bk m) zs).1 = 0 ∧ ∃ f fn fx fy, SYB c fn fx fy hop (g6 (gz0 c inj bk m) zs).2.1 ∧ STN f fn fx fy (g6 (gz0 c inj bk m) zs).2.2 ∧ ∀ g, IG g → SBI c inj g → STY f fn fx fy g → (g6 g zs).1 = 0 ∧ SYB c fn fx fy hop (g6 g zs).2.1 ∧ STN f fn fx fy (g6 g zs).2.2)) :
    Calls Tryz.prog 4 #[.agg (cfC c inj ka bk.length kc), .agg (stC3 wh ba bl bc z a len cap s d hop n is), .slice la ln lc] w fun e w' => e = .returned (.bool true) ∧ Below w.heap.size w w' := by
  have HF := hide fact_any
  have hl' : (ln : Int) ≤ 9223372036854775807 := by unfold maxLen at hl; omega
  have HK := hide (Kfs.start w c inj ka bk kc wh ba bl bc z a len cap s d hop n is)
  have HSt := hide hst
  have HN := hide hN
  have HIg := hide hig
  have HS := hide hS
  have HRw := hide hr
  have HOz := hide hoz
  have hsb := fun W => sbu_run z a len cap s d hop W
  have HCf := hide (show up 4294967295 (el c 18) = true from hig.2.2.2.2.2.1)
  have HZ4 := hide (fun W => V4.zero_new W)
  have HZ7 := hide (fun W => zero_new W)
  unfold V4.zero4 at HZ4
  unfold zero7 at HZ7
  have HSb := hide (gz0_sbi c inj bk m)
  have HI := hide (fun w G O W b l k (h : GH w G (gz0 c inj bk m) O W) r e1 e2 => in6_gh hig zs w G O W b l k h r e1 e2)
  have HI1 := hide (And.intro (g6_ig hig hoz).1 (g6_sbi (gz0_sbi c inj bk m) zs))
  clear hst hN hig hl hS hr hoz
  go_enter Tryz.func4, Tryz.ntmps4
  go_upto_region 1 with fail
  generalize (World.alloc _ _).alloc _ = wB at HK ⊢
  replace HSt := hide (HSt.out.below HK.out.2.2)
  have HB := hide (Below.refl wB.heap.size wB)
  go_upto_region 4 with (go_at_call 20; refine (HF.out _).mono ?_; rintro e w1 ⟨rfl, hb1⟩; replace HB := hide (bt HB.out hb1); clear hb1)
  have q1 := (HK.out.kept HB.out).1.cl
  go_upto_region 5 with (go_at_call 8; refine (HN.out _ (bt HK.out.2.2 HB.out)).mono ?_; rintro e w2 h2; obtain ⟨G, O, rfl, hG, -, -⟩ := NG.gh h2 HB.out; have HG := hide hG; clear h2 hG q1)
  clear HF HN HB HIg HSb
  have HKr := hide (HK.out.kept HG.out.below)
  have q1 := HKr.out.1.cl
  have q2 := HKr.out.2.1.gl
  have q3 := HKr.out.2.1.hs
  have q4 := HKr.out.2.1.hd
  have q5 := HKr.out.2.1.hop
  clear HKr
  go_upto_region 8 with (go_at_call 14; refine (HS.out _ (bt HK.out.2.2 HG.out.below)).mono ?_; rintro e w3 ⟨b3, l3, k3, rfl, r3, hb3⟩; have HR3 := hide r3; have HG3 := hide (HG.out.kept hb3); clear hb3 r3 q1 q2 q3 q4 q5)
  clear HG HS hsb
  rcases hR with hE | ⟨hE, f, fn, fx, fy, hY, hSt1, hR⟩
  · generalize (g6 (gz0 c inj bk m) zs).1 = r at hE HI
    have hev : ev r = .iface 28 (.int .i64 r) := by unfold ev; rw [if_neg hE]; rfl
    rw [hev] at HI
    clear hE hev
    go_wp2_with (go_at_call 21; refine (HI.out _ _ _ _ _ _ _ HG3.out HR3.out.1 HR3.out.2.1 HR3.out.2.2).mono ?_; rintro e w4 ⟨⟨a4, l4, c4, rfl, -⟩, ⟨O4, h4, -⟩⟩; have HB4 := hide (bt HK.out.2.2 h4.below); clear h4)
    go_ret
    exact ⟨rfl, HB4.out⟩
  rw [hE, ev_nil] at HI
  obtain ⟨N, E, zb, hzb, hD4, hS4⟩ := hY
  have HRR := hide (fun wB G B5 B7 V5 V7 b l k W h e1 e2 => in6_syw (hop := hop) HOz.out hR (wB := wB) (G := G) (B5 := B5) (B7 := B7) (V5 := V5) (V7 := V7) (b := b) (l := l) (k := k) (W := W) h e1 e2)
  generalize gz0 c inj bk m = g0 at HI HI1 hSt1 hD4 HG3
  generalize (g6 g0 zs).2.1 = Y4 at HI hD4
  generalize (g6 g0 zs).2.2 = g1 at HI HI1 hSt1
  have HSN := hide hSt1
  have HZb := hide hzb
  have HD4 := hide hD4
  have HS4 := hide hS4
  clear hE hR hSt1 hzb hD4 hS4
  go_upto_region 9 with (go_at_call 21; refine (HI.out _ _ _ _ _ _ _ HG3.out HR3.out.1 HR3.out.2.1 HR3.out.2.2).mono ?_; rintro e w4 ⟨⟨a4, l4, c4, rfl, r4⟩, ⟨O4, h4, -, m4⟩⟩; have HG4 := hide h4; have HR4 := hide r4; have HRs := hide (And.intro (m4.2 _ _ _ _ HR3.out.1) HR3.out.2); clear h4 r4 m4)
  clear HG3 HR3 HI
  go_upto_region 11 with fail
  have HN5 := hide (fun k (h : O4 k) => HG4.out.lt h)
  go_upto_region 12 with (first
    | (go_at_call 22; refine (HD4.out _ _ _ _ HR4.out.1 HR4.out.2.1 HR4.out.2.2).mono ?_; rintro e w5 ⟨a5, c5, rfl, r5, hb5⟩; have HR5 := hide r5; have HZ5 := hide (HZ4.out w5); have HG5 := hide (HG4.out.kept hb5); replace HRs := hide (And.intro (HRs.out.1.below hb5) HRs.out.2); replace HN5 := hide (fun k (h : O4 k) => HG5.out.lt h); clear hb5 r5)
    | (refine V4.at_store rfl (.tmp 12) (.tmp 55) rfl rfl HZ5.out (el c 18) fx (hop - 1) (el zb 0) 0 a5 N c5 rfl ?_; intro w6 p6 on6; have HG6 := hide (HG5.out.kept (new_below _ on6)); replace HRs := hide (And.intro (HRs.out.1.below (new_below _ on6)) HRs.out.2); replace HR5 := hide (And.intro (HR5.out.1.below (new_below _ on6)) HR5.out.2); have HP6 := hide p6; clear p6 on6))
  have HO5 := hide (show ¬ O4 w5.heap.size from fun h => Nat.lt_irrefl _ (HN5.out _ h))
  clear HZ5 HR4 HG4 HG5 HD4 HN5
  generalize w5.heap.size = B5 at HP6 HO5 ⊢
  have HN7 := hide (fun k (h : O4 k) => HG6.out.lt h)
  go_upto_region 13 with (first
    | (refine V4.at_load rfl (.tmp 12) rfl rfl HP6.out ?_; unfold V4.pk)
    | (go_at_call 23; refine (HS4.out _ _ _ HR5.out.1 HR5.out.2.1 HR5.out.2.2).mono ?_; rintro e w7 ⟨a7, l7, c7, rfl, hb7⟩; have HZ7a := hide (HZ7.out w7); have HG7 := hide (HG6.out.kept hb7); replace HRs := hide (And.intro (HRs.out.1.below hb7) HRs.out.2); replace HP6 := hide (HP6.out.kept hb7); replace HN7 := hide (fun k (h : O4 k) => HG7.out.lt h); clear hb7)
    | (refine at_store rfl (.tmp 14) (.tmp 60) rfl rfl HZ7a.out zb a7 l7 c7 rfl ?_; intro w8 p8 on8; have HG8 := hide (HG7.out.kept (new_below _ on8)); replace HRs := hide (And.intro (HRs.out.1.below (new_below _ on8)) HRs.out.2); replace HP6 := hide (HP6.out.kept (new_below _ on8)); have HS8 := hide p8; clear p8 on8))
  have HO7 := hide (show ¬ O4 w7.heap.size from fun h => Nat.lt_irrefl _ (HN7.out _ h))
  clear HZ7a HR5 HG6 HG7 HS4 HN7
  generalize w7.heap.size = B7 at HS8 HO7 ⊢
  have HV := hide (show SYW (STN f fn fx fy) wB c inj G B5 B7 (.cells (pk5 (el c 18) fx (hop - 1) (el zb 0) 0 a5 N c5) 65 (0, 0)) (.cells (sgC zb a7 l7 c7) 39 (0, 0)) b3 l3 k3 zs w8 from ⟨g1, O4, HI1.out.1, HI1.out.2, HSN.out, HG8.out, HO5.out, HO7.out, HP6.out, HS8.out, HRs.out.1⟩)
  have HCp := hide HRs.out.2
  clear HG8 HSN HI1 HO5 HO7 HP6 HS8 HRs HOz
  go_wp2
  go_loopw [16] (fun i wr => ∃ (k : Nat), k ≤ ln ∧ k ≤ 40 ∧ i = .int .i64 k ∧ Hid (SYW (STN f fn fx fy) wB c inj G B5 B7 (.cells (pk5 (el c 18) fx (hop - 1) (el zb 0) 0 a5 N c5) 65 (0, 0)) (.cells (sgC zb a7 l7 c7) 39 (0, 0)) b3 l3 k3 zs wr)) (fun i _ => 40 - (intOf i).toNat)
  case atStart => exact ⟨0, by omega, by omega, rfl, HV⟩
  case round =>
    clear HV
    obtain ⟨k, hk1, hk2, rfl, HV⟩ := hrel
    by_cases hlt : k < ln ∧ k < 40
    · obtain ⟨hlt1, hlt2⟩ := hlt
      have j1 : (k : Int) < (ln : Int) := by omega
      have j2 : (k : Int) < 40 := by omega
      obtain ⟨gs, os, rfl, hx⟩ := HSt.out (by omega)
      obtain ⟨wh', ba', bl', bc', bs0, z', x, l, cc, zs', s', d', hop', n', is', r1, r2, r3, r4⟩ := hx k hlt1
      have k1 : wr.cell? ⟨gs, os + k * 29, none⟩ = some (.int .i64 wh') := by
        have := rng_below r1 HV.out.below
        exact this 0 _ rfl
      have k2 : wr.cell? ⟨gs, os + k * 29 + 27, none⟩ = some (.int .i64 n') := by
        have := rng_below r1 HV.out.below
        exact this 27 _ rfl
      by_cases hskip : wh' = 2 ∧ (n' < 0 ∨ 30 ≤ n')
      · clear r1 r2 r3 r4 hx
        obtain ⟨rfl, hn⟩ := hskip
        rcases hn with hn | hn
        · go_wp2
          go_roundw
          case rel => exact ⟨k + 1, by omega, by omega, by go_num, HV⟩
          case measure => simp [intOf]; omega
        · have hn2 : ¬ n' < 0 := by omega
          go_wp2
          go_roundw
          case rel => exact ⟨k + 1, by omega, by omega, by go_num, HV⟩
          case measure => simp [intOf]; omega
      have hw2 : wh' = 2 → 0 ≤ n' ∧ n' < 30 := fun e => ⟨by omega, by omega⟩
      have HQ := hide (fun W (h : Below wB.heap.size wB W) => (show (stl (.pointer (some ⟨gs, os + k * 29, none⟩))).run Tryz.prog W = .ok (.agg (stC3 wh' ba' bl' bc' z' x l cc s' d' hop' n' is')) W ∧ (cload (.pointer (some ⟨w.heap.size, 0, none⟩))).run Tryz.prog W = .ok (.agg (cfC c inj ka bk.length kc)) W from ⟨row_step (rng_below r1 h), (HK.out.kept h).1.cl⟩))
      have HPl := hide (fun W (h : SYW (STN f fn fx fy) wB c inj G B5 B7 (.cells (pk5 (el c 18) fx (hop - 1) (el zb 0) 0 a5 N c5) 65 (0, 0)) (.cells (sgC zb a7 l7 c7) 39 (0, 0)) b3 l3 k3 zs W) => play_syw HCf.out h wh' ba' bl' bc' bs0 z' x l cc zs' s' d' hop' n' is' ka bk.length kc r4 hw2 (r2.1.below h.below) r2.2.1 r2.2.2 (r3.below h.below))
      have hcase : ((wh' == 2) = false) ∨ (wh' = 2 ∧ ¬ n' < 0 ∧ ¬ 30 ≤ n') := by
        by_cases e : wh' = 2
        · exact .inr ⟨e, by have := hw2 e; omega, by have := hw2 e; omega⟩
        · exact .inl (by simpa using e)
      clear r1 r2 r3 r4 hx hskip hw2
      go_upto_region 18 with fail
      go_cut [99] from 78 to 99 (fun u wx => u = .bool false ∧ wr = wx)
      case first =>
        rcases hcase with h2 | ⟨rfl, n1, n2⟩
        all_goals
          go_wp2
          go_meet
          exact ⟨rfl, rfl⟩
      case rest =>
        obtain ⟨rfl, rfl⟩ := hcut
        clear k1 k2 hcase
        go_upto_region 19 with fail
        have HGd := hide (HV.out.kept (show Below wr.heap.size wr wr.drew from (Below.refl _ _).drew))
        obtain ⟨q1, q2⟩ := HQ.out _ HGd.out.below
        go_region_held3 (fun W => (stl (.pointer (some ⟨gs, os + k * 29, none⟩))).run Tryz.prog W = .ok (.agg (stC3 wh' ba' bl' bc' z' x l cc s' d' hop' n' is')) W ∧ (cload (.pointer (some ⟨w.heap.size, 0, none⟩))).run Tryz.prog W = .ok (.agg (cfC c inj ka bk.length kc)) W)
          (first
            | exact HQ.out _ HGd.out.below
            | exact HQ.out _ HG3.out.below
            | go_keep)
          (first
            | (go_at_call 15; refine (HPl.out _ HGd.out).mono ?_; rintro e w3 ⟨⟨v3, rfl⟩, h3⟩; have HG3 := hide h3; clear h3 q1 q2; obtain ⟨q1, q2⟩ := HQ.out _ HG3.out.below))
        clear HQ HPl HGd q1 q2 HV
        go_upto_region 21 with (go_at_call 21; refine (HRR.out _ _ _ _ _ _ _ _ _ _ HG3.out HCp.out.1 HCp.out.2).mono ?_; rintro e w4 ⟨a4, l4, c4, Y, rfl, r4, hY, h4⟩; have HG4 := hide h4; have HR4 := hide r4; have HY := hide hY; clear h4 r4 hY)
        clear HG3
        go_upto_region 25 with fail
        obtain ⟨N2, E2, zc, hzc, hD, hS⟩ := HY.out
        have HZc := hide hzc
        have HD := hide hD
        have HSg := hide hS
        clear hzc hD hS HY
        go_upto_region 26 with (first
          | (go_at_call 22; refine (HD.out _ _ _ _ HR4.out.1 HR4.out.2.1 HR4.out.2.2).mono ?_; rintro e w5 ⟨a6, c6, rfl, r5, hb5⟩; have HR5 := hide r5; have HZ5 := hide (HZ4.out w5); replace HG4 := hide (HG4.out.kept hb5); clear hb5 r5)
          | (refine V4.at_store rfl (.tmp 20) (.tmp 122) rfl rfl HZ5.out (el c 18) fx (hop - 1) (el zc 0) 0 a6 N2 c6 rfl ?_; intro w6 p6 on6; replace HG4 := hide (HG4.out.kept (new_below _ on6)); replace HR5 := hide (And.intro (HR5.out.1.below (new_below _ on6)) HR5.out.2); have HP6 := hide p6; clear p6 on6))
        clear HZ5 HR4 HD
        generalize w5.heap.size = C5 at HP6 ⊢
        go_upto_region 27 with (first
          | (refine V4.at_load rfl (.tmp 20) rfl rfl HP6.out ?_; unfold V4.pk)
          | (go_at_call 23; refine (HSg.out _ _ _ HR5.out.1 HR5.out.2.1 HR5.out.2.2).mono ?_; rintro e w7 ⟨a8, l8, c8, rfl, hb7⟩; have HZ7a := hide (HZ7.out w7); replace HG4 := hide (HG4.out.kept hb7); replace HP6 := hide (HP6.out.kept hb7); clear hb7)
          | (refine at_store rfl (.tmp 21) (.tmp 127) rfl rfl HZ7a.out zc a8 l8 c8 rfl ?_; intro w8 p8 on8; replace HG4 := hide (HG4.out.kept (new_below _ on8)); replace HP6 := hide (HP6.out.kept (new_below _ on8)); have HS8 := hide p8; clear p8 on8))
        clear HZ7a HR5 HSg
        generalize w7.heap.size = C7 at HS8 ⊢
        obtain ⟨s5, s7, -⟩ := HG4.out.seen
        have t1 := HP6.out.all.2.1
        have t2 := (show V4.PkIn B5 (el c 18) fx (hop - 1) (el zb 0) 0 a5 N c5 w8 from s5).all.2.1
        have t3 := HS8.out.c1
        have t4 := HS8.out.c2
        have t5 := (show SgIn B7 zb a7 l7 c7 w8 from s7).c1
        have t6 := (show SgIn B7 zb a7 l7 c7 w8 from s7).c2
        rw [HZc.out.1] at t3
        rw [HZc.out.2] at t4
        rw [HZb.out.1] at t5
        rw [HZb.out.2] at t6
        clear s5 s7
        go_wp2
        go_roundw
        case rel => exact ⟨k + 1, by omega, by omega, by go_num, HG4⟩
        case measure => simp [intOf]; omega
    · have hend : ¬ (k : Int) < (ln : Int) ∨ (k = 40 ∧ (40 : Int) < (ln : Int)) := by omega
      clear hlt
      rcases hend with hend | ⟨rfl, hend⟩
      all_goals
        go_wp2
        go_ret
        exact ⟨rfl, bt HK.out.2.2 HV.out.below⟩
theorem gst_walk2 (c : List Int) (inj : Bool) (ka : Option Addr) (kc : Nat) (bk : List (List Int)) (wh : Int) (ba : Option Addr) (bl bc : Nat) (z : List Int) (a : Option Addr) (len cap : Nat) (D s d : List Int) (hop n : Int) (is : Bool) (la : Option Addr) (ln lc : Nat) (w : World) (hg : Laid0 w) (hb : Bks ka bk w) (h1 : bk.length ≤ kc) (h2 : kc ≤ maxLen) (ha : ka = none → bk = [] ∧ kc = 0) (hr : Row8 w a len cap D) (hst : Sts la ln w) (hl : ln ≤ maxLen) :
    Calls Tryz.prog 4 #[.agg (cfC c inj ka bk.length kc), .agg (stC3 wh ba bl bc z a len cap s d hop n is), .slice la ln lc] w fun e w' => e = .returned (.bool true) ∧ Below w.heap.size w w' := by
  rcases gnew_dich c inj ka kc bk w hb h1 h2 ha with ⟨j, hj, hN⟩ | ⟨m, hm1, hm2, hm3, hl8, hpf, hck, hN⟩
  · exact gst_a c inj ka kc bk la ln lc wh ba bl bc z a len cap s d hop n is w j hN
  · obtain ⟨zs, hzs, hS⟩ := lsent_row z a len cap s d hop c inj ka bk.length kc D w hr
    have hig : IG (gz0 c inj bk m) := gz0_ig hm2 hpf hck
    refine gst_b c inj ka kc bk m la ln lc wh ba bl bc z a len cap D s d hop n is zs w hl hst hr hig ?_ hN hS ?_
    · rcases hzs with rfl | ⟨q1, q2, q3, q4, rfl⟩
      · exact SM.oct_nil
      · exact p6o_oct q1 q2 q3 q4 hr.2.2.1
    · by_cases hE : (g6 (gz0 c inj bk m) zs).1 = 0
      · rcases hzs with rfl | ⟨q1, q2, q3, q4, rfl⟩
        · rw [g6_nil] at hE
          exact absurd hE (by decide : ¬ (5 : Int) = 0)
        · obtain ⟨fn, fx, fy, y1, y2, y3⟩ := first_bundle hig q1 q2 q3 q4 hr.2.2.1 hE
          exact .inr ⟨hE, _, fn, fx, fy, y1, y2, y3⟩
      · exact .inl hE
end Go.Proofs.YtkhahbghmdccaaaGreatDoor
