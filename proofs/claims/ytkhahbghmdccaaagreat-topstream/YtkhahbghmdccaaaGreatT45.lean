/- Package gate: upTo and Check of a config, by contracts. Package gate: New, by contracts; slices.Clone of servers. Package gate: New, by a contract that gives the gate whole. Package gate: Tick, by a contract. -/
import Derived.Test.YtkhahbghmdccaaaGreatT19
import Derived.Test.YtkhahbghmdccaaaGreatT44
import Derived.Below
import Derived.OpenShut
import Derived.Test.YtkhahbghmdccaaaGreatProg
import Derived.WalkKit
import Derived.LaidEql
import Derived.BigQuiet
import Derived.Laws.AppendOwnNone
import Derived.Laws.MakeOwn
import Derived.Deep.RegionLaw
import Derived.Lib.Bytes
import Derived.Deep.MidRow
import Derived.Laws.ResultCell
import Derived.Deep.CutBlock
import Derived.Deep.QuietTactic
import Derived.OwnWalk
import Derived.Deep.RegionHeld3
import Derived.Deep.DrawnRows
import Derived.Laws.StructEq
import Derived.Maps.AppendAt
import Derived.Maps.RangeWalk
import Derived.Stop.Asserts
import Derived.RowKitTokens
import Derived.Test.YtkhahbghmdccaaaGreatShelf
import Derived.Shelf.Abstract
import Derived.Lib.SliceRun
import Derived.Lib.AppendZerosOnto
import Derived.Lib.AppendZeros
import Derived.Laws.CopyOwn
import Derived.RangeFuncNested
import Derived.RangeFuncBound
import Derived.RangeFuncCalls
import Derived.RangeFuncLeaves
import Derived.RangeFuncFrom
import Derived.Shelf.RegionOpen
import Derived.OwnWalkIn
import Derived.TacticsInMore
import Derived.LoopNIn
import Derived.LoopIn
import Derived.Deep.RegionWith
import Derived.ArgAppend
import Derived.Lib.SlBytesConst
import Derived.Lib.AppendStr
import Derived.Test.YtkhahbghmdccaaaGreatT38
import Derived.Test.YtkhahbghmdccaaaGreatT40
namespace Go.Proofs.YtkhahbghmdccaaaGreat
open Go.RowKit
set_option maxHeartbeats 1000000 in
set_option maxHeartbeats 400000 in
theorem gupto_any (m : Int) (B n : Nat) (l : List Int) (w : World) (hn : l.length = n) (hm : n ≤ 1000) (hc : Ints B l w) :
    Calls Tryz.prog 87 #[.int .i64 m, .slice (some ⟨B, 0, none⟩) n n] w fun e w' => e = .returned (.bool (bups m l)) ∧ w' = w := by
  have HU := hide (bups_iff m l)
  have HC := hide hc
  have HN := hide hn
  clear hc
  generalize bups m l = u at HU ⊢
  go_enter Tryz.func87, Tryz.ntmps87
  go_wp2
  go_loop [9] (fun t => ∃ k : Nat, k ≤ n ∧ Hid (∀ i, i < k → um m (l.getD i 0) = true) ∧ t = .int .i64 k) (fun t => n - (intOf t).toNat)
  case atStart => exact ⟨0, by omega, fun i hi => absurd hi (by omega), rfl⟩
  case round =>
    obtain ⟨k, hk, HI, rfl⟩ := hrel
    by_cases hlt : k < n
    · have hck := HC.out.cell k (by omega)
      generalize hzk : l.getD k 0 = z at hck
      have HZ := hide hzk
      clear hzk hn
      by_cases hz0 : z < 0
      · go_wp2
        go_ret
        exact ⟨congrArg (fun b => Ending.returned (.bool b)) (Eq.symm (Bool.eq_false_iff.2 fun h => by have := (um_iff _ _).1 (HU.out.1 h k (by rw [HN.out]; exact hlt)); rw [HZ.out] at this; omega)), rfl⟩
      · by_cases hz1 : m < z
        · go_wp2
          go_ret
          exact ⟨congrArg (fun b => Ending.returned (.bool b)) (Eq.symm (Bool.eq_false_iff.2 fun h => by have := (um_iff _ _).1 (HU.out.1 h k (by rw [HN.out]; exact hlt)); rw [HZ.out] at this; omega)), rfl⟩
        · go_wp2
          go_round
          case rel => exact ⟨k + 1, by omega, fun i hi => if h : i = k then by subst h; rw [HZ.out]; exact (um_iff _ _).2 ⟨by omega, by omega⟩ else HI.out i (by omega), by go_num⟩
          case measure => simp [intOf]; omega
    · go_wp2
      go_ret
      obtain rfl : k = n := by omega
      exact ⟨congrArg (fun b => Ending.returned (.bool b)) (Eq.symm (HU.out.2 fun i hi => HI.out i (by rw [← HN.out]; exact hi))), rfl⟩
theorem ev_err' {n : Int} (h : n ≠ 0) : ev n = err n := if_neg h
theorem gup1 (m x : Int) (W : World) : Calls Tryz.prog 87 #[.int .i64 m, .slice (some ⟨W.heap.size, 0, none⟩) 1 1] (W.alloc (.cells #[.int .i64 x] 3)) fun e w' => e = .returned (.bool (um m x)) ∧ Below W.heap.size W w' :=
  (gupto_any m W.heap.size 1 [x] _ rfl (by omega) (ints_new W [x])).mono fun e w' ⟨h1, h2⟩ => ⟨h1.trans (by rw [show bups m [x] = um m x by unfold bups; simp]), by rw [h2]; exact al_below _ _⟩
def cko (c : List Int) (bk : List (List Int)) (pf : Int) : Int :=
  if s6 (vip c) = false then 1 else if wd (el c 8) = false then 1 else if pf ≠ 0 then pf else if fr (el c 18) = false then 1
  else if ¬ (um 2147483647 (el c 19) = true ∧ 1 ≤ el c 20 ∧ el c 20 ≤ 16) then 1 else if (bf bk).2 ≠ 0 then (bf bk).2
  else if Em.inF (vip c) (pfx c) (el c 17) = true then 2 else 0
def CfIn (B : Nat) (c : List Int) (inj : Bool) (a : Option Addr) (n cap : Nat) (w : World) : Prop := w.heap[B]? = some (.cells (cfC c inj a n cap) 26 (0, 0))
theorem CfIn.lt {B : Nat} {c : List Int} {inj : Bool} {a : Option Addr} {n cap : Nat} {w : World} (p : CfIn B c inj a n cap w) : B < w.heap.size := (Array.getElem?_eq_some_iff.1 p).1
theorem CfIn.kept {B : Nat} {c : List Int} {inj : Bool} {a : Option Addr} {n cap : Nat} {w w' : World} (p : CfIn B c inj a n cap w) (hb : Below w.heap.size w w') : CfIn B c inj a n cap w' := (hb.block B p.lt).trans p
theorem cf_new (w : World) (c : List Int) (inj : Bool) (a : Option Addr) (n cap : Nat) : CfIn w.heap.size c inj a n cap (w.alloc (.cells (cfC c inj a n cap) 26)) := heap_alloc_new w _
theorem CfIn.cellAt {B : Nat} {c : List Int} {inj : Bool} {a : Option Addr} {n cap : Nat} {w : World} (p : CfIn B c inj a n cap w) (j : Nat) : w.cell? ⟨B, j, none⟩ = (cfC c inj a n cap)[j]? := cell_of_row w B j _ _ _ p
theorem CfIn.c8 {B : Nat} {c : List Int} {inj : Bool} {a : Option Addr} {n cap : Nat} {w : World} (p : CfIn B c inj a n cap w) : w.cell? ⟨B, 8, none⟩ = some (.int .i64 (el c 8)) := p.cellAt 8
theorem CfIn.c17 {B : Nat} {c : List Int} {inj : Bool} {a : Option Addr} {n cap : Nat} {w : World} (p : CfIn B c inj a n cap w) : w.cell? ⟨B, 17, none⟩ = some (.int .i64 (el c 17)) := p.cellAt 17
theorem CfIn.c18 {B : Nat} {c : List Int} {inj : Bool} {a : Option Addr} {n cap : Nat} {w : World} (p : CfIn B c inj a n cap w) : w.cell? ⟨B, 18, none⟩ = some (.int .i64 (el c 18)) := p.cellAt 18
theorem CfIn.c19 {B : Nat} {c : List Int} {inj : Bool} {a : Option Addr} {n cap : Nat} {w : World} (p : CfIn B c inj a n cap w) : w.cell? ⟨B, 19, none⟩ = some (.int .i64 (el c 19)) := p.cellAt 19
theorem CfIn.c20 {B : Nat} {c : List Int} {inj : Bool} {a : Option Addr} {n cap : Nat} {w : World} (p : CfIn B c inj a n cap w) : w.cell? ⟨B, 20, none⟩ = some (.int .i64 (el c 20)) := p.cellAt 20
theorem CfIn.c22 {B : Nat} {c : List Int} {inj : Bool} {a : Option Addr} {n cap : Nat} {w : World} (p : CfIn B c inj a n cap w) : w.cell? ⟨B, 22, none⟩ = some (.slice a n cap) := p.cellAt 22
theorem CfIn.hv {B : Nat} {c : List Int} {inj : Bool} {a : Option Addr} {n cap : Nat} {w : World} (p : CfIn B c inj a n cap w) : (hload (.pointer (some ⟨B, 0, none⟩))).run Tryz.prog w = .ok (.agg (sixC (vip c))) w :=
  run_loadAt_mid w B 0 23 _ _ (fun j v hv => by
    have hj : j < 8 := (List.getElem?_eq_some_iff.1 hv).1
    rw [Nat.zero_add, p.cellAt]
    rcases (by omega : j = 0 ∨ j = 1 ∨ j = 2 ∨ j = 3 ∨ j = 4 ∨ j = 5 ∨ j = 6 ∨ j = 7) with rfl | rfl | rfl | rfl | rfl | rfl | rfl | rfl <;> exact hv) Tryz.underlying23 rfl (by kernel_rfl)
theorem CfIn.hp {B : Nat} {c : List Int} {inj : Bool} {a : Option Addr} {n cap : Nat} {w : World} (p : CfIn B c inj a n cap w) : (hload (.pointer (some ⟨B, 9, none⟩))).run Tryz.prog w = .ok (.agg (sixC (pfx c))) w :=
  run_loadAt_mid w B 9 23 _ _ (fun j v hv => by
    have hj : j < 8 := (List.getElem?_eq_some_iff.1 hv).1
    rw [p.cellAt]
    rcases (by omega : j = 0 ∨ j = 1 ∨ j = 2 ∨ j = 3 ∨ j = 4 ∨ j = 5 ∨ j = 6 ∨ j = 7) with rfl | rfl | rfl | rfl | rfl | rfl | rfl | rfl <;> exact hv) Tryz.underlying23 rfl (by kernel_rfl)
theorem echk (p : List Int) (n k : Int) (w : World) (h : Em.PF p n k) : Calls Tryz.prog 93 #[.agg (sixC p), .int .i64 n] w fun e w' => e = .returned (ev k) ∧ Below w.heap.size w w' := Em.echeck_any p n k w h
theorem ain2 (a p : List Int) (n : Int) (w : World) (ha : Ok6 a) (hp : Ok6 p) (h0 : 0 ≤ n) (h1 : n ≤ 128) : Calls Tryz.prog 101 #[.agg (sixC a), .agg (sixC p), .int .i64 n] w fun e w' => e = .returned (.tuple #[.bool (Em.inF a p n), .nilIface]) ∧ Below w.heap.size w w' := Em.in_ok a p n w ha hp h0 h1
theorem pf_zero {p : List Int} {n : Int} (h : Em.PF p n 0) : Ok6 p ∧ 0 ≤ n ∧ n ≤ 128 ∧ Em.LongP n := by
  rcases h with ⟨_, h⟩ | ⟨_, _, h⟩ | ⟨_, _, _, h⟩ | ⟨h1, h2, _, _⟩
  · cases h
  · cases h
  · cases h
  · refine ⟨h1, ?_, ?_, h2⟩ <;> unfold Em.LongP at h2 <;> omega
attribute [local go_sem ↓] hload_shut
set_option maxRecDepth 100000 in
set_option maxHeartbeats 2000000 in
theorem gcheck_any (c : List Int) (inj : Bool) (a : Option Addr) (cap : Nat) (bk : List (List Int)) (pf : Int) (w : World) (hb : Bks a bk w) (hl : bk.length ≤ maxLen) (hc : bk.length ≤ cap) (hp : Em.PF (pfx c) (el c 17) pf) :
    Calls Tryz.prog 47 #[.agg (cfC c inj a bk.length cap)] w fun e w' => e = .returned (ev (cko c bk pf)) ∧ Below w.heap.size w w' := by
  have HP := hide (cf_new w c inj a bk.length cap)
  have HB := hide (al_below w (.cells (cfC c inj a bk.length cap) 26))
  have H1 := hide (fun W => pck (vip c) W)
  have H2 := hide (fun x m W => gup1 m x W)
  have H3 := hide (fun W => echk (pfx c) (el c 17) pf W hp)
  have H4 := hide (fun W => bc4_any (el c 18) W)
  have H5 := hide (fun W (hW : Below w.heap.size w W) => kcheck a cap bk W (hb.below hW) hl hc)
  have H6 := hide (fun (h1 : s6 (vip c) = true) (h0 : pf = 0) W => ain2 (vip c) (pfx c) (el c 17) W ((s6_iff _).1 h1) (pf_zero (h0 ▸ hp)).1 (pf_zero (h0 ▸ hp)).2.1 (pf_zero (h0 ▸ hp)).2.2.1)
  obtain ⟨R, hR⟩ : ∃ R, R = cko c bk pf := ⟨_, rfl⟩
  rw [← hR]
  unfold cko at hR
  clear hb hl hc hp
  go_enter Tryz.func47, Tryz.ntmps47
  go_upto_region 1 with fail
  generalize w.alloc _ = W0 at HP HB ⊢
  have y := HP.out.hv
  cases hs : s6 (vip c)
  · rw [hs, show ev (fe false) = err 1 from rfl] at H1
    rw [if_pos hs] at hR
    have HRR := hide hR
    unfold err at H1
    clear hR H2 H3 H4 H5 H6
    go_wp2_with (go_at_call 99; refine (H1.out _).mono ?_; rintro e w1 ⟨rfl, hb1⟩; replace HB := hide (bt HB.out hb1); clear hb1)
    go_ret
    exact ⟨by rw [HRR.out]; rfl, HB.out⟩
  rw [hs, show ev (fe true) = .nilIface from rfl] at H1
  rw [if_neg (by rw [hs]; decide)] at hR
  replace H6 := hide (H6.out hs)
  have HRh := hide hR
  clear hs hR
  go_upto_region 4 with (go_at_call 99; refine (H1.out _).mono ?_; rintro e w1 ⟨rfl, hb1⟩; replace HP := hide (HP.out.kept hb1); replace HB := hide (bt HB.out hb1); clear hb1 y)
  clear H1
  have y := HP.out.c8
  have hum : um 65535 (el c 8) = wd (el c 8) := rfl
  cases hd : wd (el c 8)
  · rw [hd] at hum
    have HRR := hide (show R = 1 by rw [HRh.out, if_pos hd])
    clear HRh H3 H4 H5 H6 hd
    go_wp2_with (go_at_call 87; refine (H2.out (el c 8) 65535 _).mono ?_; rintro e w2 ⟨rfl, hb2⟩; replace HB := hide (bt HB.out hb2); rw [hum]; clear hb2 y)
    go_ret
    exact ⟨by rw [HRR.out]; rfl, HB.out⟩
  rw [hd] at hum
  replace HRh := hide (show R = _ by rw [HRh.out, if_neg (by rw [hd]; decide)])
  clear hd
  go_upto_region 6 with (go_at_call 87; refine (H2.out (el c 8) 65535 _).mono ?_; rintro e w2 ⟨rfl, hb2⟩; replace HP := hide (HP.out.kept hb2); replace HB := hide (bt HB.out hb2); rw [hum]; clear hb2 y)
  clear hum
  have y := HP.out.hp
  have y2 := HP.out.c17
  by_cases hpf : pf = 0
  case neg =>
    have HRR := hide (show R = pf by rw [HRh.out, if_pos hpf])
    have HE := hide (ev_err' hpf)
    rw [ev_err' hpf] at H3
    unfold err at H3
    clear HRh H2 H4 H5 H6 hpf
    go_wp2_with (go_at_call 93; refine (H3.out _).mono ?_; rintro e w3 ⟨rfl, hb3⟩; replace HB := hide (bt HB.out hb3); clear hb3 y y2)
    go_ret
    exact ⟨by rw [HRR.out, HE.out]; rfl, HB.out⟩
  replace HRh := hide (show R = _ by rw [HRh.out, if_neg (fun h => h hpf)])
  replace H6 := hide (H6.out hpf)
  rw [hpf, show ev 0 = .nilIface from rfl] at H3
  clear hpf
  go_upto_region 9 with (go_at_call 93; refine (H3.out _).mono ?_; rintro e w3 ⟨rfl, hb3⟩; replace HP := hide (HP.out.kept hb3); replace HB := hide (bt HB.out hb3); clear hb3 y y2)
  clear H3
  have y := HP.out.c18
  cases hn : fr (el c 18)
  · rw [hn, show ev (fe false) = err 1 from rfl] at H4
    have HRR := hide (show R = 1 by rw [HRh.out, if_pos hn])
    unfold err at H4
    clear HRh H2 H5 H6 hn
    go_wp2_with (go_at_call 94; refine (H4.out _).mono ?_; rintro e w4 ⟨rfl, rfl⟩)
    go_ret
    exact ⟨by rw [HRR.out]; rfl, HB.out⟩
  rw [hn, show ev (fe true) = .nilIface from rfl] at H4
  replace HRh := hide (show R = _ by rw [HRh.out, if_neg (by rw [hn]; decide)])
  clear hn
  go_upto_region 12 with (go_at_call 94; refine (H4.out _).mono ?_; rintro e w4 ⟨rfl, rfl⟩)
  clear H4 y
  have y := HP.out.c19
  have y2 := HP.out.c20
  by_cases hq : um 2147483647 (el c 19) = true ∧ 1 ≤ el c 20 ∧ el c 20 ≤ 16
  case neg =>
    have HRR := hide (show R = 1 by rw [HRh.out, if_pos hq])
    clear HRh H5 H6
    cases hu : um 2147483647 (el c 19)
    · clear hq
      go_wp2_with (go_at_call 87; refine (H2.out (el c 19) 2147483647 _).mono ?_; rintro e w5 ⟨rfl, hb5⟩; replace HB := hide (bt HB.out hb5); rw [hu]; clear hb5)
      go_ret
      exact ⟨by rw [HRR.out]; rfl, HB.out⟩
    · by_cases h1 : el c 20 < 1
      · clear hq
        go_wp2_with (go_at_call 87; refine (H2.out (el c 19) 2147483647 _).mono ?_; rintro e w5 ⟨rfl, hb5⟩; replace HP := hide (HP.out.kept hb5); replace HB := hide (bt HB.out hb5); rw [hu]; clear hb5 y y2; have y2 := HP.out.c20)
        go_ret
        exact ⟨by rw [HRR.out]; rfl, HB.out⟩
      · have h2 : 16 < el c 20 := Classical.byContradiction fun h => hq ⟨hu, by omega, by omega⟩
        clear hq
        go_wp2_with (go_at_call 87; refine (H2.out (el c 19) 2147483647 _).mono ?_; rintro e w5 ⟨rfl, hb5⟩; replace HP := hide (HP.out.kept hb5); replace HB := hide (bt HB.out hb5); rw [hu]; clear hb5 y y2; have y2 := HP.out.c20)
        go_ret
        exact ⟨by rw [HRR.out]; rfl, HB.out⟩
  obtain ⟨hu, hq1, hq2⟩ := hq
  replace HRh := hide (show R = _ by rw [HRh.out, if_neg (fun h => h ⟨hu, hq1, hq2⟩)])
  go_upto_region 14 with (go_at_call 87; refine (H2.out (el c 19) 2147483647 _).mono ?_; rintro e w5 ⟨rfl, hb5⟩; replace HP := hide (HP.out.kept hb5); replace HB := hide (bt HB.out hb5); rw [hu]; clear hb5 y y2; have y2 := HP.out.c20)
  clear hu hq1 hq2 H2 y2
  have y := HP.out.c22
  generalize bf bk = Q at H5 HRh
  by_cases hk : Q.2 = 0
  case neg =>
    have HRR := hide (show R = Q.2 by rw [HRh.out, if_pos hk])
    have HE := hide (ev_err' hk)
    rw [ev_err' hk] at H5
    unfold err at H5
    clear HRh H6 hk
    go_wp2_with (go_at_call 100; refine (H5.out _ HB.out).mono ?_; rintro e w6 ⟨rfl, hb6⟩; replace HB := hide (bt HB.out hb6); clear hb6 y)
    go_ret
    exact ⟨by rw [HRR.out, HE.out]; rfl, HB.out⟩
  replace HRh := hide (show R = _ by rw [HRh.out, if_neg (fun h => h hk)])
  rw [hk, show ev 0 = .nilIface from rfl] at H5
  clear hk
  go_upto_region 17 with (go_at_call 100; refine (H5.out _ HB.out).mono ?_; rintro e w6 ⟨rfl, hb6⟩; replace HP := hide (HP.out.kept hb6); replace HB := hide (bt HB.out hb6); clear hb6 y)
  clear H5
  have y := HP.out.hv
  have y2 := HP.out.hp
  have y3 := HP.out.c17
  cases hI : Em.inF (vip c) (pfx c) (el c 17)
  all_goals
    rw [hI] at H6
    have HRR := hide (show R = _ by rw [HRh.out, hI])
    clear HRh hI
    go_wp2_with (go_at_call 101; refine (H6.out _).mono ?_; rintro e w7 ⟨rfl, hb7⟩; replace HB := hide (bt HB.out hb7); clear hb7 y y2 y3)
    go_ret
    exact ⟨by rw [HRR.out]; rfl, HB.out⟩
end Go.Proofs.YtkhahbghmdccaaaGreat

namespace Go.Proofs.YtkhahbghmdccaaaGreat
open Go.RowKit
theorem kempty (w : World) : OwK w.heap.size (w.alloc (.cells #[] 66)) (.slice (some ⟨w.heap.size, 0, none⟩) 0 0) [] := World.ownsRow_made w #[] 0 (Nat.le_refl _) (Nat.zero_le _) rfl
theorem ap_K0 {w : World} {ops : Array Oper} {rest : List Oper} {o : Oper} {a : Act} {Q : Exit → Act → World → Prop} (hgd : o.guard = none) (s x : Operand)
    (ho : o.op = .call { callee := .builtin .append, args := #[s, x], argTypes := #[24, 24] })
    (base : Nat) (v : Value) (l : List (List Int)) (hs : a.eval s = v) (hown : OwK base w v l) (ad : Addr) (c : Nat) (hx : a.eval x = .slice (some ad) 0 c) (hlen : l.length ≤ 1000000) (hbase : base ≤ w.heap.size)
    (h : ∀ v' w', OwK base w' v' l → w.grownBy w' v.ownBlock → wpList Tryz.prog ops Q rest (a.put o.dst v') w') : wpList Tryz.prog ops Q (o :: rest) a w := by
  obtain ⟨i0, hi, hz0, hz1, hz2⟩ := info_parts Tryz.infoBack
  have hown' : w.ownsRow base 66 6 v l.length (kvs l) := hown
  refine wpList_append_own_at _ hgd s x 24 ho base 66 i0 _ 6 40 Tryz.underlying24 hi hz0 hz1 hz2 rfl (by decide) v l.length (kvs l) hs hown' ad 0 c [] hx rfl ?_ ?_ (by unfold maxLen; omega) (by omega) hbase ?_
  · intro j u hu
    simp at hu
  · intro u hu
    simp at hu
  · intro v' w' h1 h2 _ h5
    refine h v' w' ?_ h2
    unfold OwK
    simpa using h1
def cload (x : Value) : Sem Value := Instr.loadAt 26 x
theorem cload_shut (x : Value) : Instr.loadAt 26 x = cload x := rfl
set_option maxRecDepth 10000 in
theorem CfIn.cl {B : Nat} {c : List Int} {inj : Bool} {a : Option Addr} {n cap : Nat} {w : World} (p : CfIn B c inj a n cap w) : (cload (.pointer (some ⟨B, 0, none⟩))).run Tryz.prog w = .ok (.agg (cfC c inj a n cap)) w :=
  run_loadAt_mid w B 0 26 (cfC c inj a n cap).toList _ (fun j v hv => by
    rw [Nat.zero_add, p.cellAt]
    simpa using hv) Tryz.underlying26 rfl (by kernel_rfl)
def gbu (ps : Array (Nat × Value)) : Sem Value := Instr.build 109 ps
theorem gbu_shut (ps : Array (Nat × Value)) : Instr.build 109 ps = gbu ps := rfl
theorem gbu_run (c : List Int) (inj : Bool) (a : Option Addr) (n cap : Nat) (tv : Value) (ht : ∃ T, tv = .pointer (some ⟨T, 0, none⟩)) (S : Nat) (w : World) : (gbu #[(0, .agg (cfC c inj a n cap)), (1, tv), (2, .map (some S))]).run Tryz.prog w = .ok (.agg (gtC c inj a n cap tv S 0)) w := by
  obtain ⟨T, rfl⟩ := ht
  kernel_rfl
theorem CfIn.frz {B : Nat} {c : List Int} {inj : Bool} {a : Option Addr} {n cap : Nat} {w : World} (p : CfIn B c inj a n cap w) (j : Nat) : w.frozen? ⟨B, j, none⟩ = false := by
  unfold CfIn at p
  simp [World.frozen?, p]
theorem CfIn.set22 {B : Nat} {c : List Int} {inj : Bool} {a : Option Addr} {n cap : Nat} {w : World} (p : CfIn B c inj a n cap w) (a' : Option Addr) (n' cap' : Nat) : CfIn B c inj a' n' cap' (w.setCell ⟨B, 22, none⟩ (.slice a' n' cap')) ∧ Only B w (w.setCell ⟨B, 22, none⟩ (.slice a' n' cap')) := by
  rw [setCell_eq_setRow w B 22 _ _ (0, 0) _ p]
  exact ⟨setRow_heap w B _ _ _ (0, 0) p, only_setRow _ _ _⟩
attribute [local go_sem ↓] cload_shut gbu_shut
end Go.Proofs.YtkhahbghmdccaaaGreat

namespace Go.Proofs.YtkhahbghmdccaaaGreat
open Go.RowKit
theorem OwK.bkr {base : Nat} {w : World} {v : Value} {bs : List (List Int)} (h : OwK base w v bs) : ∃ a cap, v = .slice a bs.length cap ∧ bs.length ≤ cap ∧ cap ≤ maxLen ∧ BkR a bs w ∧ ∀ k, KOa a k → base ≤ k ∧ k < w.heap.size := by
  have h' : w.ownsRow base 66 6 v bs.length (kvs bs) := h
  rcases h.2 with ⟨rfl, hn⟩ | ⟨g, cap, cur, rfl, h1, hg, hnc, hcm, _⟩
  · exact ⟨none, 0, by rw [hn], by omega, Nat.zero_le _, fun hp => by omega, fun k hk => by obtain ⟨off, e⟩ := hk; cases e⟩
  · refine ⟨_, cap, rfl, hnc, hcm, fun _ => ⟨g, cur, _, rfl, hg, fun k hk j hj => ?_⟩, fun k hk => ?_⟩
    · have h2 := World.ownsRow.cellAt h' (k * 6 + j) (by omega)
      rw [kvs_at bs k j hk hj, cell_of_row w g _ _ _ _ hg] at h2
      rw [Nat.mul_comm]
      rw [h2]
      simp
    · obtain ⟨off, e⟩ := hk
      injection e with e
      injection e with e _
      subst e
      exact ⟨h1, (Array.getElem?_eq_some_iff.1 hg).1⟩
def gz0 (c : List Int) (inj : Bool) (bk : List (List Int)) (m : Nat) : GS := ((c, inj, bk), (m, fun _ => [], fun _ => false, []), [], 0)
set_option maxRecDepth 100000 in
theorem kclone2 (a : Option Addr) (cap : Nat) (bk : List (List Int)) (w : World) (hb : Bks a bk w) (hl : bk.length ≤ 1000) (ha : a = none → bk = [] ∧ cap = 0) :
    Calls Tryz.prog 49 #[.slice a bk.length cap] w fun e w' => ∃ v, e = .returned v ∧ OwK w.heap.size w' v bk ∧ Below w.heap.size w w' := by
  have q := fun (w : World) (a : Option Addr) (n c n' c' : Nat) => Lib.run_eql_slice_nil (P := Tryz.prog) w 24 _ a n c n' c' Tryz.underlying24
  cases a with
  | none =>
    obtain ⟨rfl, rfl⟩ := ha rfl
    clear hb hl ha
    rw [List.length_nil]
    go_enter Tryz.func49, Tryz.ntmps49
    go_wp2
    go_ret
    exact ⟨_, rfl, OwK.nil _ _, Below.refl _ _⟩
  | some ad =>
    have HG := hide (kempty w)
    have HB0 := hide (al_below w (.cells #[] 66))
    by_cases h0 : bk = []
    · subst h0
      clear hb hl ha
      rw [List.length_nil]
      go_enter Tryz.func49, Tryz.ntmps49
      go_wp2_with (at_builtin; refine ap_K0 rfl (.tmp 5) (.tmp 6) rfl w.heap.size _ [] rfl HG.out ad cap rfl (by simp) (by simp) ?_; intro v' w' ho hg; have HO := hide (show OwK w.heap.size w' v' [] from ho); have HB := hide (HB0.out.grown hg HB0.out.size (fun k e => (owns_lt HG.out k e).2)); clear ho hg)
      go_ret
      exact ⟨_, rfl, HO.out, HB.out⟩
    · have hpos : 0 < bk.length := List.length_pos_iff.2 h0
      obtain ⟨g, off, e, _⟩ := hb hpos
      obtain rfl : ad = ⟨g, off, none⟩ := Option.some.inj e
      have HC := hide (show ∀ j, j < bk.length → (w.alloc (.cells #[] 66)).rangeAt g (off + j * 6) (bkC (bk.getD j [])).toList from fun j hj => by
        obtain ⟨g', off', e, _, h2⟩ := (hb.below (al_below w (.cells #[] 66))) (by omega)
        injection e with e
        injection e with e1 e2
        subst e1 e2
        exact h2 j hj)
      clear hb ha h0 hpos e
      go_enter Tryz.func49, Tryz.ntmps49
      go_wp2_with (at_builtin; refine ap_K rfl (.tmp 5) (.tmp 6) rfl w.heap.size _ [] rfl HG.out g off bk.length cap bk rfl rfl HC.out (by simp only [List.length_nil]; omega) (by simp) ?_; intro v' w' ho hg; have HO := hide (show OwK w.heap.size w' v' bk from ho); have HB := hide (HB0.out.grown hg HB0.out.size (fun k e => (owns_lt HG.out k e).2)); clear ho hg)
      go_ret
      exact ⟨_, rfl, HO.out, HB.out⟩
attribute [local go_sem ↓] cload_shut gbu_shut
set_option maxRecDepth 100000 in
set_option maxHeartbeats 1000000 in
theorem gnew_gc (c : List Int) (inj : Bool) (a : Option Addr) (cap : Nat) (bk : List (List Int)) (m : Nat) (w : World) (hb : Bks a bk w) (hl : bk.length ≤ 1000) (hc : bk.length ≤ cap) (ha : a = none → bk = [] ∧ cap = 0) (hp : Em.PF (pfx c) (el c 17) 0) (hR : cko c bk 0 = 0) (hm : el c 20 = m) (h1 : 1 ≤ m) (h2 : m ≤ 16) :
    Calls Tryz.prog 13 #[.agg (cfC c inj a bk.length cap)] w fun e w' => ∃ G a' cap' tv S Ot, e = .returned (.tuple #[.pointer (some ⟨G, 0, none⟩), .nilIface]) ∧ GC G a' cap' tv S Ot (fun _ => 0) (gz0 c inj bk m) w' ∧ (∀ k, GO G a' Ot (SO S (fun _ => 0) []) k → w.heap.size ≤ k) ∧ Below w.heap.size w w' := by
  have HP := hide (cf_new w c inj a bk.length cap)
  have HB := hide (al_below w (.cells (cfC c inj a bk.length cap) 26))
  have HC := hide (fun W (hW : Below w.heap.size w W) => gcheck_any c inj a cap bk 0 W (hb.below hW) (by unfold maxLen; omega) hc hp)
  rw [hR, show ev 0 = .nilIface from rfl] at HC
  have HN := hide (fun W => tb_ji.2.2.1.2 m W h1 h2)
  have HK := hide (fun W (hW : Below w.heap.size w W) => kclone2 a cap bk W (hb.below hW) hl ha)
  clear hb hl hc hp hR ha h1 h2
  go_enter Tryz.func13, Tryz.ntmps13
  go_upto_region 1 with fail
  generalize w.alloc _ = W0 at HP HB ⊢
  have y := HP.out.cl
  go_upto_region 4 with (go_at_call 47; refine (HC.out _ HB.out).mono ?_; rintro e w1 ⟨rfl, hb1⟩; replace HP := hide (HP.out.kept hb1); replace HB := hide (bt HB.out hb1); clear hb1 y)
  clear HC
  have y := HP.out.c20
  rw [hm] at y
  have HL := hide HP.out.lt
  go_upto_region 7 with (go_at_call 48; refine (HN.out _).mono ?_; rintro e w2 ⟨tv, Ot, rfl, t2, o2, hb2⟩; replace HP := hide (HP.out.kept hb2); replace HB := hide (bt HB.out hb2); have HT := hide t2; have HO := hide (show ∀ k, Ot k → w.heap.size < k ∧ k < w2.heap.size from fun k hk => ⟨Nat.lt_of_lt_of_le HL.out (o2 k hk), (tb_kept _ _ _ _ _ _ _ t2).1 k hk⟩); clear hb2 y t2 o2)
  clear HN HL
  have y := HP.out.c22
  go_upto_region 8 with (go_at_call 49; refine (HK.out _ HB.out).mono ?_; rintro e w3 ⟨v3, rfl, o3, hb3⟩; obtain ⟨a3, c3, rfl, k1, k2, k3, k4⟩ := o3.bkr; have HK3 := hide (And.intro k1 (And.intro k2 (And.intro k3 k4))); have HL3 := hide (show w.heap.size < w2.heap.size from HP.out.lt); replace HP := hide (HP.out.kept hb3); replace HB := hide (bt HB.out hb3); replace HT := hide ((tb_kept _ _ _ _ _ _ _ HT.out).2 w3 hb3.size (fun k hk => hb3.block k (HO.out k hk).2)); have s3 := HP.out.set22 a3 bk.length c3; have z3 := HP.out.c22; have z4 := HP.out.frz 22; clear hb3 y o3 k1 k2 k3 k4)
  have hs3 := s3.2.2.2.2.1
  have HT3 := hide ((tb_kept _ _ _ _ _ _ _ HT.out).2 _ (Nat.le_of_eq hs3.symm) (fun k hk => s3.2.2.2.2.2 k (by have := (HO.out k hk).1; omega)))
  have HK4 := hide (show bk.length ≤ c3 ∧ c3 ≤ maxLen ∧ BkR a3 bk (w3.setCell ⟨w.heap.size, 22, none⟩ (.slice a3 bk.length c3)) ∧ ∀ k, KOa a3 k → w2.heap.size ≤ k ∧ k < (w3.setCell ⟨w.heap.size, 22, none⟩ (.slice a3 bk.length c3)).heap.size from ⟨HK3.out.1, HK3.out.2.1, HK3.out.2.2.1.same (fun k hk => s3.2.2.2.2.2 k (by have := (HK3.out.2.2.2 k hk).1; have := HL3.out; omega)), fun k hk => by rw [hs3]; exact HK3.out.2.2.2 k hk⟩)
  replace HB := hide (s3.2.below HB.out (Nat.le_refl _))
  replace HP := hide s3.1
  clear s3 hs3 HK3 HT
  clear z3 z4 HK
  generalize World.setCell _ _ _ = W4 at HP HB HT3 HK4 ⊢
  have y := HP.out.cl
  have hmm := @run_makeMap Tryz.prog
  obtain ⟨T, hT⟩ : ∃ T, tv = .pointer (some ⟨T, 0, none⟩) := by obtain ⟨T, _, _, _, _, _, e, _⟩ := HT3.out; exact ⟨T, e⟩
  subst hT
  have hbu := fun S W => gbu_run c inj a3 bk.length c3 (.pointer (some ⟨T, 0, none⟩)) ⟨T, rfl⟩ S W
  have b1 := al_below W4 (.map #[] 0)
  have HP2 := hide (HP.out.kept b1)
  have y2 := HP2.out.cl
  have b2 := al_below (W4.alloc (.map #[] 0)) (.cells (gtC c inj a3 bk.length c3 (.pointer (some ⟨T, 0, none⟩)) W4.heap.size 0) 109)
  have HG := hide (show GtIn (W4.heap.size + 1) c inj a3 bk.length c3 (.pointer (some ⟨T, 0, none⟩)) W4.heap.size 0 ((W4.alloc (.map #[] 0)).alloc (.cells (gtC c inj a3 bk.length c3 (.pointer (some ⟨T, 0, none⟩)) W4.heap.size 0) 109)) by have := heap_alloc_new (W4.alloc (.map #[] 0)) (.cells (gtC c inj a3 bk.length c3 (.pointer (some ⟨T, 0, none⟩)) W4.heap.size 0) 109); rw [World.size_alloc] at this; exact this)
  have hb12 := bt b1 b2
  have HT2 := hide ((tb_kept _ _ _ _ _ _ _ HT3.out).2 _ hb12.size (fun k hk => hb12.block k ((tb_kept _ _ _ _ _ _ _ HT3.out).1 k hk)))
  have HM2 := hide ((mp_new isI W4).same (b2.block _ (by rw [World.size_alloc]; omega)))
  have HK5 := hide (show BkR a3 bk _ from HK4.out.2.2.1.same (fun k hk => hb12.block k (HK4.out.2.2.2 k hk).2))
  have HB2 := hide (bt HB.out hb12)
  have HZ := hide (show w.heap.size ≤ W4.heap.size from HB.out.size)
  have HW := hide (show W4.heap.size < ((W4.alloc (.map #[] 0)).alloc (.cells (gtC c inj a3 bk.length c3 (.pointer (some ⟨T, 0, none⟩)) W4.heap.size 0) 109)).heap.size from by rw [World.size_alloc, World.size_alloc]; omega)
  have HOt := hide (show ∀ k, Ot k → k < W4.heap.size from fun k hk => (tb_kept _ _ _ _ _ _ _ HT3.out).1 k hk)
  clear b1 b2 hb12
  go_wp2
  go_ret2
  refine ⟨_, a3, c3, _, W4.heap.size, Ot, rfl, ⟨HG.out, ⟨HK5.out, fun k hk => Nat.lt_trans (HK4.out.2.2.2 k hk).2 HW.out, HK4.out.1, HK4.out.2.1⟩, HT2.out, ⟨HM2.out, fun x hx => absurd hx (by simp [GS.ss, gz0]), fun x hx => absurd hx (by simp [GS.ss, gz0])⟩, ⟨fun h => ?_, fun h => ?_, ?_⟩, fun k hk => ⟨fun h => ?_, ?_⟩, fun k hk => ?_⟩, ?_, HB2.out⟩
  · have := (HK4.out.2.2.2 _ h).2; omega
  · have := HOt.out _ h; omega
  · rintro (h | ⟨x, hx, _⟩)
    · omega
    · exact absurd hx (by simp [GS.ss, gz0])
  · have := (HK4.out.2.2.2 _ hk).1
    have := (HO.out _ h).2
    omega
  · rintro (h | ⟨x, hx, _⟩)
    · have := (HK4.out.2.2.2 _ hk).2; omega
    · exact absurd hx (by simp [GS.ss, gz0])
  · rintro (h | ⟨x, hx, _⟩)
    · have := HOt.out _ hk; omega
    · exact absurd hx (by simp [GS.ss, gz0])
  · have hz := HZ.out
    rintro k (h | h | h | h | ⟨x, hx, _⟩)
    · omega
    · have := (HK4.out.2.2.2 _ h).1
      have := HL3.out
      omega
    · have := (HO.out _ h).1; omega
    · omega
    · exact absurd hx (by simp)
theorem gz0_ti (c : List Int) (inj : Bool) (bk : List (List Int)) (m : Nat) (hm : m ≤ 16) : TI (gz0 c inj bk m) := ⟨hm, Nat.zero_le _, BI.start m, rfl, fun b hb => absurd hb (by simp [GS.bs, gz0])⟩
theorem gz0_si (c : List Int) (inj : Bool) (bk : List (List Int)) (m : Nat) : SI (gz0 c inj bk m) := fun x hx => absurd hx (by simp [GS.ss, gz0])
theorem gz0_ci {c : List Int} {inj : Bool} {bk : List (List Int)} {m : Nat} (hp : Em.PF (pfx c) (el c 17) 0) (h : cko c bk 0 = 0) : CI (gz0 c inj bk m) := by
  have hz := pf_zero hp
  unfold cko at h
  split at h
  · cases h
  rename_i h1
  split at h
  · cases h
  split at h
  · rename_i h4; exact absurd rfl h4
  split at h
  · cases h
  rename_i h5
  split at h
  · cases h
  split at h
  · rename_i h6; exact absurd h h6
  rename_i h6
  have h1' : s6 (vip c) = true := by cases hh : s6 (vip c); exact absurd hh h1; rfl
  have h5' : fr (el c 18) = true := by cases hh : fr (el c 18); exact absurd hh h5; rfl
  refine ⟨(s6_iff _).1 h1', hz.1, hz.2.2.2, ?_, Classical.not_not.1 h6⟩
  unfold fr at h5'
  rw [Bool.and_eq_true, decide_eq_true_eq, decide_eq_true_eq] at h5'
  exact decide_eq_true h5'
end Go.Proofs.YtkhahbghmdccaaaGreat

namespace Go.Proofs.YtkhahbghmdccaaaGreat
open Go.RowKit
def sdx (ty : TypeId) (m k : Value) : Sem Value := Builtin.delete_ #[107, 3] ty #[m, k]
theorem sdx_shut (ty : TypeId) (m k : Value) : Builtin.delete_ #[107, 3] ty #[m, k] = sdx ty m k := rfl
theorem BdRow.only {B : Nat} {w w' : World} {v : Value} {bs : List (List Int)} (h : BdRow 0 w v bs) (on : Only B w w') (hn : ∀ off b, ¬ w.rangeAt B off (bdC b).toList) : BdRow 0 w' v bs := by
  obtain ⟨a, cap, e, h1⟩ := h
  refine ⟨a, cap, e, fun hp => ?_⟩
  obtain ⟨g, off, e1, h2, h3⟩ := h1 hp
  refine ⟨g, off, e1, ⟨h2.1, by rw [on.2.2.2.1]; exact h2.2⟩, fun k hk j u hu => ?_⟩
  have hg : g ≠ B := fun e2 => hn _ _ (by rw [← e2]; exact h3 0 hp)
  rw [← h3 k hk j u hu]
  exact World.cell?_of_block (on.2.2.2.2 g hg)
attribute [local go_sem ↓] sdx_shut bload_shut
theorem Kpt.only {O : Nat → Prop} {B : Nat} {w w' : World} (on : Only B w w') (hB : O B) (nb : ∀ j x, w.cell? ⟨B, j, none⟩ ≠ some (.int .u8 x)) : Kpt O w w' :=
  ⟨⟨on.1, on.2.1, on.2.2.1, Nat.le_of_eq on.2.2.2.1.symm, fun k _ hn => on.2.2.2.2 k (fun e => hn (by rw [e]; exact hB))⟩, fun _ _ _ _ r => r.pastn nb on⟩
attribute [local go_sem ↓] sdx_shut bload_shut
end Go.Proofs.YtkhahbghmdccaaaGreat
