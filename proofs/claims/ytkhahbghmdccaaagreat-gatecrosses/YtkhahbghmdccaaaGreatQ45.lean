/- Package gate: a server's packet that is one, by a contract. Package gate: upTo and Check of a config, by contracts. Package gate: New, by contracts; slices.Clone of servers. -/
import Derived.Test.YtkhahbghmdccaaaGreatQ08
import Derived.Test.YtkhahbghmdccaaaGreatQ23
import Derived.Below
import Derived.OpenShut
import Derived.Test.YtkhahbghmdccaaaGreatProg
import Derived.WalkKit
import Derived.LaidEql
import Derived.BigQuiet
import Derived.Laws.AppendOwnNone
import Derived.Laws.MakeOwn
import Derived.Deep.RegionLaw
import Derived.Lib.Bytes
import Derived.Deep.MidRow
import Derived.Laws.ResultCell
import Derived.Deep.CutBlock
import Derived.Deep.QuietTactic
import Derived.OwnWalk
import Derived.Deep.RegionHeld3
import Derived.Deep.DrawnRows
import Derived.Laws.StructEq
import Derived.Maps.AppendAt
import Derived.Maps.RangeWalk
import Derived.Stop.Asserts
import Derived.RowKitTokens
import Derived.Test.YtkhahbghmdccaaaGreatShelf
import Derived.Shelf.Abstract
import Derived.Lib.SliceRun
import Derived.Lib.AppendZerosOnto
import Derived.Lib.AppendZeros
import Derived.Laws.CopyOwn
import Derived.RangeFuncNested
import Derived.RangeFuncBound
import Derived.RangeFuncCalls
import Derived.RangeFuncLeaves
import Derived.RangeFuncFrom
import Derived.Shelf.RegionOpen
import Derived.OwnWalkIn
import Derived.TacticsInMore
import Derived.LoopNIn
import Derived.LoopIn
import Derived.Deep.RegionWith
import Derived.ArgAppend
import Derived.Lib.SlBytesConst
import Derived.Lib.AppendStr
import Derived.Test.YtkhahbghmdccaaaGreatQ16
import Derived.Test.YtkhahbghmdccaaaGreatQ17
import Derived.Test.YtkhahbghmdccaaaGreatQ18
import Derived.Test.YtkhahbghmdccaaaGreatQ19
import Derived.Test.YtkhahbghmdccaaaGreatQ39
import Derived.Test.YtkhahbghmdccaaaGreatQ27
import Derived.Test.YtkhahbghmdccaaaGreatQ41
namespace Go.Proofs.YtkhahbghmdccaaaGreat
open Go.RowKit
theorem bys_pos (s d : List Int) (t k : Int) (l : List Int) : 0 < (V6.bys s d t k l).length := by
  unfold V6.bys
  rw [List.length_append]
  exact Nat.lt_of_lt_of_le (by decide : 0 < 40) (Nat.le_add_right _ _)
theorem BdIn.hc {B : Nat} {x : List Int} {w : World} (p : BdIn B x w) : (hload (.pointer (some ⟨B, 1, none⟩))).run Tryz.prog w = .ok (.agg (sixC (cli x))) w :=
  run_loadAt_mid w B 1 23 _ _ (fun j v hv => by
    have hj : j < 8 := (List.getElem?_eq_some_iff.1 hv).1
    rw [p.cell (1 + j) (by omega)]
    rcases (by omega : j = 0 ∨ j = 1 ∨ j = 2 ∨ j = 3 ∨ j = 4 ∨ j = 5 ∨ j = 6 ∨ j = 7) with rfl | rfl | rfl | rfl | rfl | rfl | rfl | rfl <;> exact hv) Tryz.underlying23 rfl (by kernel_rfl)
theorem BdIn.hd {B : Nat} {x : List Int} {w : World} (p : BdIn B x w) : (hload (.pointer (some ⟨B, 10, none⟩))).run Tryz.prog w = .ok (.agg (sixC (dst x))) w :=
  run_loadAt_mid w B 10 23 _ _ (fun j v hv => by
    have hj : j < 8 := (List.getElem?_eq_some_iff.1 hv).1
    rw [p.cell (10 + j) (by omega)]
    rcases (by omega : j = 0 ∨ j = 1 ∨ j = 2 ∨ j = 3 ∨ j = 4 ∨ j = 5 ∨ j = 6 ∨ j = 7) with rfl | rfl | rfl | rfl | rfl | rfl | rfl | rfl <;> exact hv) Tryz.underlying23 rfl (by kernel_rfl)
attribute [local go_sem ↓] gload_shut bload_shut bstore_shut hload_shut
end Go.Proofs.YtkhahbghmdccaaaGreat

namespace Go.Proofs.YtkhahbghmdccaaaGreat
open Go.RowKit
set_option maxHeartbeats 1000000 in
set_option maxHeartbeats 400000 in
theorem gupto_any (m : Int) (B n : Nat) (l : List Int) (w : World) (hn : l.length = n) (hm : n ≤ 1000) (hc : Ints B l w) :
    Calls Tryz.prog 87 #[.int .i64 m, .slice (some ⟨B, 0, none⟩) n n] w fun e w' => e = .returned (.bool (bups m l)) ∧ w' = w := by
  have HU := hide (bups_iff m l)
  have HC := hide hc
  have HN := hide hn
  clear hc
  generalize bups m l = u at HU ⊢
  go_enter Tryz.func87, Tryz.ntmps87
  go_wp2
  go_loop [9] (fun t => ∃ k : Nat, k ≤ n ∧ Hid (∀ i, i < k → um m (l.getD i 0) = true) ∧ t = .int .i64 k) (fun t => n - (intOf t).toNat)
  case atStart => exact ⟨0, by omega, fun i hi => absurd hi (by omega), rfl⟩
  case round =>
    obtain ⟨k, hk, HI, rfl⟩ := hrel
    by_cases hlt : k < n
    · have hck := HC.out.cell k (by omega)
      generalize hzk : l.getD k 0 = z at hck
      have HZ := hide hzk
      clear hzk hn
      by_cases hz0 : z < 0
      · go_wp2
        go_ret
        exact ⟨congrArg (fun b => Ending.returned (.bool b)) (Eq.symm (Bool.eq_false_iff.2 fun h => by have := (um_iff _ _).1 (HU.out.1 h k (by rw [HN.out]; exact hlt)); rw [HZ.out] at this; omega)), rfl⟩
      · by_cases hz1 : m < z
        · go_wp2
          go_ret
          exact ⟨congrArg (fun b => Ending.returned (.bool b)) (Eq.symm (Bool.eq_false_iff.2 fun h => by have := (um_iff _ _).1 (HU.out.1 h k (by rw [HN.out]; exact hlt)); rw [HZ.out] at this; omega)), rfl⟩
        · go_wp2
          go_round
          case rel => exact ⟨k + 1, by omega, fun i hi => if h : i = k then by subst h; rw [HZ.out]; exact (um_iff _ _).2 ⟨by omega, by omega⟩ else HI.out i (by omega), by go_num⟩
          case measure => simp [intOf]; omega
    · go_wp2
      go_ret
      obtain rfl : k = n := by omega
      exact ⟨congrArg (fun b => Ending.returned (.bool b)) (Eq.symm (HU.out.2 fun i hi => HI.out i (by rw [← HN.out]; exact hi))), rfl⟩
/-- an error's value. -/
theorem ev_err' {n : Int} (h : n ≠ 0) : ev n = err n := if_neg h
theorem gup1 (m x : Int) (W : World) : Calls Tryz.prog 87 #[.int .i64 m, .slice (some ⟨W.heap.size, 0, none⟩) 1 1] (W.alloc (.cells #[.int .i64 x] 3)) fun e w' => e = .returned (.bool (um m x)) ∧ Below W.heap.size W w' :=
  (gupto_any m W.heap.size 1 [x] _ rfl (by omega) (ints_new W [x])).mono fun e w' ⟨h1, h2⟩ => ⟨h1.trans (by rw [show bups m [x] = um m x by unfold bups; simp]), by rw [h2]; exact al_below _ _⟩
/-- what is wrong with a config. -/
def cko (c : List Int) (bk : List (List Int)) (pf : Int) : Int :=
  if s6 (vip c) = false then 1 else if wd (el c 8) = false then 1 else if pf ≠ 0 then pf else if fr (el c 18) = false then 1
  else if ¬ (um 2147483647 (el c 19) = true ∧ 1 ≤ el c 20 ∧ el c 20 ≤ 16) then 1 else if (bf bk).2 ≠ 0 then (bf bk).2
  else if Em.inF (vip c) (pfx c) (el c 17) = true then 2 else 0
/-- a config in its block. -/
def CfIn (B : Nat) (c : List Int) (inj : Bool) (a : Option Addr) (n cap : Nat) (w : World) : Prop := w.heap[B]? = some (.cells (cfC c inj a n cap) 26 (0, 0))
theorem CfIn.lt {B : Nat} {c : List Int} {inj : Bool} {a : Option Addr} {n cap : Nat} {w : World} (p : CfIn B c inj a n cap w) : B < w.heap.size := (Array.getElem?_eq_some_iff.1 p).1
theorem CfIn.kept {B : Nat} {c : List Int} {inj : Bool} {a : Option Addr} {n cap : Nat} {w w' : World} (p : CfIn B c inj a n cap w) (hb : Below w.heap.size w w') : CfIn B c inj a n cap w' := (hb.block B p.lt).trans p
theorem cf_new (w : World) (c : List Int) (inj : Bool) (a : Option Addr) (n cap : Nat) : CfIn w.heap.size c inj a n cap (w.alloc (.cells (cfC c inj a n cap) 26)) := heap_alloc_new w _
theorem CfIn.cellAt {B : Nat} {c : List Int} {inj : Bool} {a : Option Addr} {n cap : Nat} {w : World} (p : CfIn B c inj a n cap w) (j : Nat) : w.cell? ⟨B, j, none⟩ = (cfC c inj a n cap)[j]? := cell_of_row w B j _ _ _ p
theorem CfIn.c8 {B : Nat} {c : List Int} {inj : Bool} {a : Option Addr} {n cap : Nat} {w : World} (p : CfIn B c inj a n cap w) : w.cell? ⟨B, 8, none⟩ = some (.int .i64 (el c 8)) := p.cellAt 8
theorem CfIn.c17 {B : Nat} {c : List Int} {inj : Bool} {a : Option Addr} {n cap : Nat} {w : World} (p : CfIn B c inj a n cap w) : w.cell? ⟨B, 17, none⟩ = some (.int .i64 (el c 17)) := p.cellAt 17
theorem CfIn.c18 {B : Nat} {c : List Int} {inj : Bool} {a : Option Addr} {n cap : Nat} {w : World} (p : CfIn B c inj a n cap w) : w.cell? ⟨B, 18, none⟩ = some (.int .i64 (el c 18)) := p.cellAt 18
theorem CfIn.c19 {B : Nat} {c : List Int} {inj : Bool} {a : Option Addr} {n cap : Nat} {w : World} (p : CfIn B c inj a n cap w) : w.cell? ⟨B, 19, none⟩ = some (.int .i64 (el c 19)) := p.cellAt 19
theorem CfIn.c20 {B : Nat} {c : List Int} {inj : Bool} {a : Option Addr} {n cap : Nat} {w : World} (p : CfIn B c inj a n cap w) : w.cell? ⟨B, 20, none⟩ = some (.int .i64 (el c 20)) := p.cellAt 20
theorem CfIn.c22 {B : Nat} {c : List Int} {inj : Bool} {a : Option Addr} {n cap : Nat} {w : World} (p : CfIn B c inj a n cap w) : w.cell? ⟨B, 22, none⟩ = some (.slice a n cap) := p.cellAt 22
theorem CfIn.hv {B : Nat} {c : List Int} {inj : Bool} {a : Option Addr} {n cap : Nat} {w : World} (p : CfIn B c inj a n cap w) : (hload (.pointer (some ⟨B, 0, none⟩))).run Tryz.prog w = .ok (.agg (sixC (vip c))) w :=
  run_loadAt_mid w B 0 23 _ _ (fun j v hv => by
    have hj : j < 8 := (List.getElem?_eq_some_iff.1 hv).1
    rw [Nat.zero_add, p.cellAt]
    rcases (by omega : j = 0 ∨ j = 1 ∨ j = 2 ∨ j = 3 ∨ j = 4 ∨ j = 5 ∨ j = 6 ∨ j = 7) with rfl | rfl | rfl | rfl | rfl | rfl | rfl | rfl <;> exact hv) Tryz.underlying23 rfl (by kernel_rfl)
theorem CfIn.hp {B : Nat} {c : List Int} {inj : Bool} {a : Option Addr} {n cap : Nat} {w : World} (p : CfIn B c inj a n cap w) : (hload (.pointer (some ⟨B, 9, none⟩))).run Tryz.prog w = .ok (.agg (sixC (pfx c))) w :=
  run_loadAt_mid w B 9 23 _ _ (fun j v hv => by
    have hj : j < 8 := (List.getElem?_eq_some_iff.1 hv).1
    rw [p.cellAt]
    rcases (by omega : j = 0 ∨ j = 1 ∨ j = 2 ∨ j = 3 ∨ j = 4 ∨ j = 5 ∨ j = 6 ∨ j = 7) with rfl | rfl | rfl | rfl | rfl | rfl | rfl | rfl <;> exact hv) Tryz.underlying23 rfl (by kernel_rfl)
theorem echk (p : List Int) (n k : Int) (w : World) (h : Em.PF p n k) : Calls Tryz.prog 93 #[.agg (sixC p), .int .i64 n] w fun e w' => e = .returned (ev k) ∧ Below w.heap.size w w' := Em.echeck_any p n k w h
theorem ain2 (a p : List Int) (n : Int) (w : World) (ha : Ok6 a) (hp : Ok6 p) (h0 : 0 ≤ n) (h1 : n ≤ 128) : Calls Tryz.prog 101 #[.agg (sixC a), .agg (sixC p), .int .i64 n] w fun e w' => e = .returned (.tuple #[.bool (Em.inF a p n), .nilIface]) ∧ Below w.heap.size w w' := Em.in_ok a p n w ha hp h0 h1
theorem pf_zero {p : List Int} {n : Int} (h : Em.PF p n 0) : Ok6 p ∧ 0 ≤ n ∧ n ≤ 128 ∧ Em.LongP n := by
  rcases h with ⟨_, h⟩ | ⟨_, _, h⟩ | ⟨_, _, _, h⟩ | ⟨h1, h2, _, _⟩
  · cases h
  · cases h
  · cases h
  · refine ⟨h1, ?_, ?_, h2⟩ <;> unfold Em.LongP at h2 <;> omega
attribute [local go_sem ↓] hload_shut
set_option maxRecDepth 100000 in
set_option maxHeartbeats 2000000 in
theorem gcheck_any (c : List Int) (inj : Bool) (a : Option Addr) (cap : Nat) (bk : List (List Int)) (pf : Int) (w : World) (hb : Bks a bk w) (hl : bk.length ≤ maxLen) (hc : bk.length ≤ cap) (hp : Em.PF (pfx c) (el c 17) pf) :
    Calls Tryz.prog 47 #[.agg (cfC c inj a bk.length cap)] w fun e w' => e = .returned (ev (cko c bk pf)) ∧ Below w.heap.size w w' := by
  have HP := hide (cf_new w c inj a bk.length cap)
  have HB := hide (al_below w (.cells (cfC c inj a bk.length cap) 26))
  have H1 := hide (fun W => pck (vip c) W)
  have H2 := hide (fun x m W => gup1 m x W)
  have H3 := hide (fun W => echk (pfx c) (el c 17) pf W hp)
  have H4 := hide (fun W => bc4_any (el c 18) W)
  have H5 := hide (fun W (hW : Below w.heap.size w W) => kcheck a cap bk W (hb.below hW) hl hc)
  have H6 := hide (fun (h1 : s6 (vip c) = true) (h0 : pf = 0) W => ain2 (vip c) (pfx c) (el c 17) W ((s6_iff _).1 h1) (pf_zero (h0 ▸ hp)).1 (pf_zero (h0 ▸ hp)).2.1 (pf_zero (h0 ▸ hp)).2.2.1)
  obtain ⟨R, hR⟩ : ∃ R, R = cko c bk pf := ⟨_, rfl⟩
  rw [← hR]
  unfold cko at hR
  clear hb hl hc hp
  go_enter Tryz.func47, Tryz.ntmps47
  go_upto_region 1 with fail
  generalize w.alloc _ = W0 at HP HB ⊢
  have y := HP.out.hv
  cases hs : s6 (vip c)
  · rw [hs, show ev (fe false) = err 1 from rfl] at H1
    rw [if_pos hs] at hR
    have HRR := hide hR
    unfold err at H1
    clear hR H2 H3 H4 H5 H6
    go_wp2_with (go_at_call 99; refine (H1.out _).mono ?_; rintro e w1 ⟨rfl, hb1⟩; replace HB := hide (bt HB.out hb1); clear hb1)
    go_ret
    exact ⟨by rw [HRR.out]; rfl, HB.out⟩
  rw [hs, show ev (fe true) = .nilIface from rfl] at H1
  rw [if_neg (by rw [hs]; decide)] at hR
  replace H6 := hide (H6.out hs)
  have HRh := hide hR
  clear hs hR
  go_upto_region 4 with (go_at_call 99; refine (H1.out _).mono ?_; rintro e w1 ⟨rfl, hb1⟩; replace HP := hide (HP.out.kept hb1); replace HB := hide (bt HB.out hb1); clear hb1 y)
  clear H1
  have y := HP.out.c8
  have hum : um 65535 (el c 8) = wd (el c 8) := rfl
  cases hd : wd (el c 8)
  · rw [hd] at hum
    have HRR := hide (show R = 1 by rw [HRh.out, if_pos hd])
    clear HRh H3 H4 H5 H6 hd
    go_wp2_with (go_at_call 87; refine (H2.out (el c 8) 65535 _).mono ?_; rintro e w2 ⟨rfl, hb2⟩; replace HB := hide (bt HB.out hb2); rw [hum]; clear hb2 y)
    go_ret
    exact ⟨by rw [HRR.out]; rfl, HB.out⟩
  rw [hd] at hum
  replace HRh := hide (show R = _ by rw [HRh.out, if_neg (by rw [hd]; decide)])
  clear hd
  go_upto_region 6 with (go_at_call 87; refine (H2.out (el c 8) 65535 _).mono ?_; rintro e w2 ⟨rfl, hb2⟩; replace HP := hide (HP.out.kept hb2); replace HB := hide (bt HB.out hb2); rw [hum]; clear hb2 y)
  clear hum
  have y := HP.out.hp
  have y2 := HP.out.c17
  by_cases hpf : pf = 0
  case neg =>
    have HRR := hide (show R = pf by rw [HRh.out, if_pos hpf])
    have HE := hide (ev_err' hpf)
    rw [ev_err' hpf] at H3
    unfold err at H3
    clear HRh H2 H4 H5 H6 hpf
    go_wp2_with (go_at_call 93; refine (H3.out _).mono ?_; rintro e w3 ⟨rfl, hb3⟩; replace HB := hide (bt HB.out hb3); clear hb3 y y2)
    go_ret
    exact ⟨by rw [HRR.out, HE.out]; rfl, HB.out⟩
  replace HRh := hide (show R = _ by rw [HRh.out, if_neg (fun h => h hpf)])
  replace H6 := hide (H6.out hpf)
  rw [hpf, show ev 0 = .nilIface from rfl] at H3
  clear hpf
  go_upto_region 9 with (go_at_call 93; refine (H3.out _).mono ?_; rintro e w3 ⟨rfl, hb3⟩; replace HP := hide (HP.out.kept hb3); replace HB := hide (bt HB.out hb3); clear hb3 y y2)
  clear H3
  have y := HP.out.c18
  cases hn : fr (el c 18)
  · rw [hn, show ev (fe false) = err 1 from rfl] at H4
    have HRR := hide (show R = 1 by rw [HRh.out, if_pos hn])
    unfold err at H4
    clear HRh H2 H5 H6 hn
    go_wp2_with (go_at_call 94; refine (H4.out _).mono ?_; rintro e w4 ⟨rfl, rfl⟩)
    go_ret
    exact ⟨by rw [HRR.out]; rfl, HB.out⟩
  rw [hn, show ev (fe true) = .nilIface from rfl] at H4
  replace HRh := hide (show R = _ by rw [HRh.out, if_neg (by rw [hn]; decide)])
  clear hn
  go_upto_region 12 with (go_at_call 94; refine (H4.out _).mono ?_; rintro e w4 ⟨rfl, rfl⟩)
  clear H4 y
  have y := HP.out.c19
  have y2 := HP.out.c20
  by_cases hq : um 2147483647 (el c 19) = true ∧ 1 ≤ el c 20 ∧ el c 20 ≤ 16
  case neg =>
    have HRR := hide (show R = 1 by rw [HRh.out, if_pos hq])
    clear HRh H5 H6
    cases hu : um 2147483647 (el c 19)
    · clear hq
      go_wp2_with (go_at_call 87; refine (H2.out (el c 19) 2147483647 _).mono ?_; rintro e w5 ⟨rfl, hb5⟩; replace HB := hide (bt HB.out hb5); rw [hu]; clear hb5)
      go_ret
      exact ⟨by rw [HRR.out]; rfl, HB.out⟩
    · by_cases h1 : el c 20 < 1
      · clear hq
        go_wp2_with (go_at_call 87; refine (H2.out (el c 19) 2147483647 _).mono ?_; rintro e w5 ⟨rfl, hb5⟩; replace HP := hide (HP.out.kept hb5); replace HB := hide (bt HB.out hb5); rw [hu]; clear hb5 y y2; have y2 := HP.out.c20)
        go_ret
        exact ⟨by rw [HRR.out]; rfl, HB.out⟩
      · have h2 : 16 < el c 20 := Classical.byContradiction fun h => hq ⟨hu, by omega, by omega⟩
        clear hq
        go_wp2_with (go_at_call 87; refine (H2.out (el c 19) 2147483647 _).mono ?_; rintro e w5 ⟨rfl, hb5⟩; replace HP := hide (HP.out.kept hb5); replace HB := hide (bt HB.out hb5); rw [hu]; clear hb5 y y2; have y2 := HP.out.c20)
        go_ret
        exact ⟨by rw [HRR.out]; rfl, HB.out⟩
  obtain ⟨hu, hq1, hq2⟩ := hq
  replace HRh := hide (show R = _ by rw [HRh.out, if_neg (fun h => h ⟨hu, hq1, hq2⟩)])
  go_upto_region 14 with (go_at_call 87; refine (H2.out (el c 19) 2147483647 _).mono ?_; rintro e w5 ⟨rfl, hb5⟩; replace HP := hide (HP.out.kept hb5); replace HB := hide (bt HB.out hb5); rw [hu]; clear hb5 y y2; have y2 := HP.out.c20)
  clear hu hq1 hq2 H2 y2
  have y := HP.out.c22
  generalize bf bk = Q at H5 HRh
  by_cases hk : Q.2 = 0
  case neg =>
    have HRR := hide (show R = Q.2 by rw [HRh.out, if_pos hk])
    have HE := hide (ev_err' hk)
    rw [ev_err' hk] at H5
    unfold err at H5
    clear HRh H6 hk
    go_wp2_with (go_at_call 100; refine (H5.out _ HB.out).mono ?_; rintro e w6 ⟨rfl, hb6⟩; replace HB := hide (bt HB.out hb6); clear hb6 y)
    go_ret
    exact ⟨by rw [HRR.out, HE.out]; rfl, HB.out⟩
  replace HRh := hide (show R = _ by rw [HRh.out, if_neg (fun h => h hk)])
  rw [hk, show ev 0 = .nilIface from rfl] at H5
  clear hk
  go_upto_region 17 with (go_at_call 100; refine (H5.out _ HB.out).mono ?_; rintro e w6 ⟨rfl, hb6⟩; replace HP := hide (HP.out.kept hb6); replace HB := hide (bt HB.out hb6); clear hb6 y)
  clear H5
  have y := HP.out.hv
  have y2 := HP.out.hp
  have y3 := HP.out.c17
  cases hI : Em.inF (vip c) (pfx c) (el c 17)
  all_goals
    rw [hI] at H6
    have HRR := hide (show R = _ by rw [HRh.out, hI])
    clear HRh hI
    go_wp2_with (go_at_call 101; refine (H6.out _).mono ?_; rintro e w7 ⟨rfl, hb7⟩; replace HB := hide (bt HB.out hb7); clear hb7 y y2 y3)
    go_ret
    exact ⟨by rw [HRR.out]; rfl, HB.out⟩
end Go.Proofs.YtkhahbghmdccaaaGreat

namespace Go.Proofs.YtkhahbghmdccaaaGreat
open Go.RowKit
theorem kempty (w : World) : OwK w.heap.size (w.alloc (.cells #[] 66)) (.slice (some ⟨w.heap.size, 0, none⟩) 0 0) [] := World.ownsRow_made w #[] 0 (Nat.le_refl _) (Nat.zero_le _) rfl
/-- no servers put behind others, wherever they lie. -/
theorem ap_K0 {w : World} {ops : Array Oper} {rest : List Oper} {o : Oper} {a : Act} {Q : Exit → Act → World → Prop} (hgd : o.guard = none) (s x : Operand)
    (ho : o.op = .call { callee := .builtin .append, args := #[s, x], argTypes := #[24, 24] })
    (base : Nat) (v : Value) (l : List (List Int)) (hs : a.eval s = v) (hown : OwK base w v l) (ad : Addr) (c : Nat) (hx : a.eval x = .slice (some ad) 0 c) (hlen : l.length ≤ 1000000) (hbase : base ≤ w.heap.size)
    (h : ∀ v' w', OwK base w' v' l → w.grownBy w' v.ownBlock → wpList Tryz.prog ops Q rest (a.put o.dst v') w') : wpList Tryz.prog ops Q (o :: rest) a w := by
  obtain ⟨i0, hi, hz0, hz1, hz2⟩ := info_parts Tryz.infoBack
  have hown' : w.ownsRow base 66 6 v l.length (kvs l) := hown
  refine wpList_append_own_at _ hgd s x 24 ho base 66 i0 _ 6 40 Tryz.underlying24 hi hz0 hz1 hz2 rfl (by decide) v l.length (kvs l) hs hown' ad 0 c [] hx rfl ?_ ?_ (by unfold maxLen; omega) (by omega) hbase ?_
  · intro j u hu
    simp at hu
  · intro u hu
    simp at hu
  · intro v' w' h1 h2 _ h5
    refine h v' w' ?_ h2
    unfold OwK
    simpa using h1
/-- a config's load, a gate built: held shut for a walk. -/
def cload (x : Value) : Sem Value := Instr.loadAt 26 x
theorem cload_shut (x : Value) : Instr.loadAt 26 x = cload x := rfl
set_option maxRecDepth 10000 in
theorem CfIn.cl {B : Nat} {c : List Int} {inj : Bool} {a : Option Addr} {n cap : Nat} {w : World} (p : CfIn B c inj a n cap w) : (cload (.pointer (some ⟨B, 0, none⟩))).run Tryz.prog w = .ok (.agg (cfC c inj a n cap)) w :=
  run_loadAt_mid w B 0 26 (cfC c inj a n cap).toList _ (fun j v hv => by
    rw [Nat.zero_add, p.cellAt]
    simpa using hv) Tryz.underlying26 rfl (by kernel_rfl)
def gbu (ps : Array (Nat × Value)) : Sem Value := Instr.build 109 ps
theorem gbu_shut (ps : Array (Nat × Value)) : Instr.build 109 ps = gbu ps := rfl
theorem gbu_run (c : List Int) (inj : Bool) (a : Option Addr) (n cap : Nat) (tv : Value) (ht : ∃ T, tv = .pointer (some ⟨T, 0, none⟩)) (S : Nat) (w : World) : (gbu #[(0, .agg (cfC c inj a n cap)), (1, tv), (2, .map (some S))]).run Tryz.prog w = .ok (.agg (gtC c inj a n cap tv S 0)) w := by
  obtain ⟨T, rfl⟩ := ht
  kernel_rfl
theorem CfIn.frz {B : Nat} {c : List Int} {inj : Bool} {a : Option Addr} {n cap : Nat} {w : World} (p : CfIn B c inj a n cap w) (j : Nat) : w.frozen? ⟨B, j, none⟩ = false := by
  unfold CfIn at p
  simp [World.frozen?, p]
theorem CfIn.set22 {B : Nat} {c : List Int} {inj : Bool} {a : Option Addr} {n cap : Nat} {w : World} (p : CfIn B c inj a n cap w) (a' : Option Addr) (n' cap' : Nat) : CfIn B c inj a' n' cap' (w.setCell ⟨B, 22, none⟩ (.slice a' n' cap')) ∧ Only B w (w.setCell ⟨B, 22, none⟩ (.slice a' n' cap')) := by
  rw [setCell_eq_setRow w B 22 _ _ (0, 0) _ p]
  exact ⟨setRow_heap w B _ _ _ (0, 0) p, only_setRow _ _ _⟩
attribute [local go_sem ↓] cload_shut gbu_shut
set_option maxRecDepth 100000 in
set_option maxHeartbeats 2000000 in
theorem gnew_bad (c : List Int) (inj : Bool) (a : Option Addr) (cap : Nat) (bk : List (List Int)) (pf : Int) (w : World) (hb : Bks a bk w) (hl : bk.length ≤ maxLen) (hc : bk.length ≤ cap) (hp : Em.PF (pfx c) (el c 17) pf) (hR : cko c bk pf ≠ 0) :
    Calls Tryz.prog 13 #[.agg (cfC c inj a bk.length cap)] w fun e w' => e = .returned (.tuple #[.pointer none, err (cko c bk pf)]) ∧ Below w.heap.size w w' := by
  have HP := hide (cf_new w c inj a bk.length cap)
  have HB := hide (al_below w (.cells (cfC c inj a bk.length cap) 26))
  have HC := hide (fun W (hW : Below w.heap.size w W) => gcheck_any c inj a cap bk pf W (hb.below hW) hl hc hp)
  rw [ev_err' hR] at HC
  generalize cko c bk pf = R at HC ⊢
  unfold err at HC ⊢
  clear hb hl hc hp hR
  go_enter Tryz.func13, Tryz.ntmps13
  go_upto_region 1 with fail
  generalize w.alloc _ = W0 at HP HB ⊢
  have y := HP.out.cl
  go_wp2_with (go_at_call 47; refine (HC.out _ HB.out).mono ?_; rintro e w1 ⟨rfl, hb1⟩; replace HB := hide (bt HB.out hb1); clear hb1 y)
  go_ret2
  exact ⟨rfl, HB.out⟩
end Go.Proofs.YtkhahbghmdccaaaGreat
