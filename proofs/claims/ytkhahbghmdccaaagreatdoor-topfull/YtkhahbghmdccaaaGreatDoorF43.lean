/- Package gate: upTo and Check of a config, by contracts. Package gate: New, by contracts; slices.Clone of servers. Package gate: New, by a contract that gives the gate whole. Package gate: Tick, by a contract. -/
import Derived.Test.YtkhahbghmdccaaaGreatDoorF18
import Derived.Test.YtkhahbghmdccaaaGreatDoorF42
import Derived.Below
import Derived.OpenShut
import Derived.Test.YtkhahbghmdccaaaGreatDoorProg
import Derived.WalkKit
import Derived.LaidEql
import Derived.BigQuiet
import Derived.Laws.AppendOwnNone
import Derived.Laws.MakeOwn
import Derived.Deep.RegionLaw
import Derived.Lib.Bytes
import Derived.Deep.MidRow
import Derived.Laws.ResultCell
import Derived.Deep.CutBlock
import Derived.Deep.QuietTactic
import Derived.OwnWalk
import Derived.Deep.RegionHeld3
import Derived.Deep.DrawnRows
import Derived.Laws.StructEq
import Derived.Maps.AppendAt
import Derived.Maps.RangeWalk
import Derived.Stop.Asserts
import Derived.RowKitTokens
import Derived.Test.YtkhahbghmdccaaaGreatDoorShelf
import Derived.Shelf.Abstract
import Derived.Lib.SliceRun
import Derived.Lib.AppendZerosOnto
import Derived.Lib.AppendZeros
import Derived.Laws.CopyOwn
import Derived.RangeFuncNested
import Derived.RangeFuncBound
import Derived.RangeFuncCalls
import Derived.RangeFuncLeaves
import Derived.RangeFuncFrom
import Derived.Shelf.RegionOpen
import Derived.OwnWalkIn
import Derived.TacticsInMore
import Derived.LoopNIn
import Derived.LoopIn
import Derived.Deep.RegionWith
import Derived.ArgAppend
import Derived.Lib.SlBytesConst
import Derived.Lib.AppendStr
namespace Go.Proofs.YtkhahbghmdccaaaGreatDoor
open Go.RowKit
set_option maxHeartbeats 1000000 in
set_option maxHeartbeats 400000 in
theorem gupto_any (m : Int) (B n : Nat) (l : List Int) (w : World) (hn : l.length = n) (hm : n ≤ 1000) (hc : Ints B l w) :
    Calls Tryz.prog 91 #[.int .i64 m, .slice (some ⟨B, 0, none⟩) n n] w fun e w' => e = .returned (.bool (bups m l)) ∧ w' = w := by
  have HU := hide (bups_iff m l)
  have HC := hide hc
  have HN := hide hn
  clear hc
  generalize bups m l = u at HU ⊢
  go_enter Tryz.func91, Tryz.ntmps91
  go_wp2
  go_loop [9] (fun t => ∃ k : Nat, k ≤ n ∧ Hid (∀ i, i < k → um m (l.getD i 0) = true) ∧ t = .int .i64 k) (fun t => n - (intOf t).toNat)
  case atStart => exact ⟨0, by omega, fun i hi => absurd hi (by omega), rfl⟩
  case round =>
    obtain ⟨k, hk, HI, rfl⟩ := hrel
    by_cases hlt : k < n
    · have hck := HC.out.cell k (by omega)
      generalize hzk : l.getD k 0 = z at hck
      have HZ := hide hzk
      clear hzk hn
      by_cases hz0 : z < 0
      · go_wp2
        go_ret
        exact ⟨congrArg (fun b => Ending.returned (.bool b)) (Eq.symm (Bool.eq_false_iff.2 fun h => by have := (um_iff _ _).1 (HU.out.1 h k (by rw [HN.out]; exact hlt)); rw [HZ.out] at this; omega)), rfl⟩
      · by_cases hz1 : m < z
        · go_wp2
          go_ret
          exact ⟨congrArg (fun b => Ending.returned (.bool b)) (Eq.symm (Bool.eq_false_iff.2 fun h => by have := (um_iff _ _).1 (HU.out.1 h k (by rw [HN.out]; exact hlt)); rw [HZ.out] at this; omega)), rfl⟩
        · go_wp2
          go_round
          case rel => exact ⟨k + 1, by omega, fun i hi => if h : i = k then by subst h; rw [HZ.out]; exact (um_iff _ _).2 ⟨by omega, by omega⟩ else HI.out i (by omega), by go_num⟩
          case measure => simp [intOf]; omega
    · go_wp2
      go_ret
      obtain rfl : k = n := by omega
      exact ⟨congrArg (fun b => Ending.returned (.bool b)) (Eq.symm (HU.out.2 fun i hi => HI.out i (by rw [← HN.out]; exact hi))), rfl⟩
theorem ev_err' {n : Int} (h : n ≠ 0) : ev n = err n := if_neg h
theorem gup1 (m x : Int) (W : World) : Calls Tryz.prog 91 #[.int .i64 m, .slice (some ⟨W.heap.size, 0, none⟩) 1 1] (W.alloc (.cells #[.int .i64 x] 3)) fun e w' => e = .returned (.bool (um m x)) ∧ Below W.heap.size W w' :=
  (gupto_any m W.heap.size 1 [x] _ rfl (by omega) (ints_new W [x])).mono fun e w' ⟨h1, h2⟩ => ⟨h1.trans (by rw [show bups m [x] = um m x by unfold bups; simp]), by rw [h2]; exact al_below _ _⟩
def cko (c : List Int) (bk : List (List Int)) (pf : Int) : Int :=
  if s6 (vip c) = false then 1 else if wd (el c 8) = false then 1 else if pf ≠ 0 then pf else if fr (el c 18) = false then 1
  else if ¬ (um 2147483647 (el c 19) = true ∧ 1 ≤ el c 20 ∧ el c 20 ≤ 16) then 1 else if (bf bk).2 ≠ 0 then (bf bk).2
  else if Em.inF (vip c) (pfx c) (el c 17) = true then 2 else 0
def CfIn (B : Nat) (c : List Int) (inj : Bool) (a : Option Addr) (n cap : Nat) (w : World) : Prop := w.heap[B]? = some (.cells (cfC c inj a n cap) 26 (0, 0))
theorem CfIn.lt {B : Nat} {c : List Int} {inj : Bool} {a : Option Addr} {n cap : Nat} {w : World} (p : CfIn B c inj a n cap w) : B < w.heap.size := (Array.getElem?_eq_some_iff.1 p).1
theorem CfIn.kept {B : Nat} {c : List Int} {inj : Bool} {a : Option Addr} {n cap : Nat} {w w' : World} (p : CfIn B c inj a n cap w) (hb : Below w.heap.size w w') : CfIn B c inj a n cap w' := (hb.block B p.lt).trans p
theorem cf_new (w : World) (c : List Int) (inj : Bool) (a : Option Addr) (n cap : Nat) : CfIn w.heap.size c inj a n cap (w.alloc (.cells (cfC c inj a n cap) 26)) := heap_alloc_new w _
theorem CfIn.cellAt {B : Nat} {c : List Int} {inj : Bool} {a : Option Addr} {n cap : Nat} {w : World} (p : CfIn B c inj a n cap w) (j : Nat) : w.cell? ⟨B, j, none⟩ = (cfC c inj a n cap)[j]? := cell_of_row w B j _ _ _ p
theorem CfIn.c8 {B : Nat} {c : List Int} {inj : Bool} {a : Option Addr} {n cap : Nat} {w : World} (p : CfIn B c inj a n cap w) : w.cell? ⟨B, 8, none⟩ = some (.int .i64 (el c 8)) := p.cellAt 8
theorem CfIn.c17 {B : Nat} {c : List Int} {inj : Bool} {a : Option Addr} {n cap : Nat} {w : World} (p : CfIn B c inj a n cap w) : w.cell? ⟨B, 17, none⟩ = some (.int .i64 (el c 17)) := p.cellAt 17
theorem CfIn.c18 {B : Nat} {c : List Int} {inj : Bool} {a : Option Addr} {n cap : Nat} {w : World} (p : CfIn B c inj a n cap w) : w.cell? ⟨B, 18, none⟩ = some (.int .i64 (el c 18)) := p.cellAt 18
theorem CfIn.c19 {B : Nat} {c : List Int} {inj : Bool} {a : Option Addr} {n cap : Nat} {w : World} (p : CfIn B c inj a n cap w) : w.cell? ⟨B, 19, none⟩ = some (.int .i64 (el c 19)) := p.cellAt 19
theorem CfIn.c20 {B : Nat} {c : List Int} {inj : Bool} {a : Option Addr} {n cap : Nat} {w : World} (p : CfIn B c inj a n cap w) : w.cell? ⟨B, 20, none⟩ = some (.int .i64 (el c 20)) := p.cellAt 20
theorem CfIn.c22 {B : Nat} {c : List Int} {inj : Bool} {a : Option Addr} {n cap : Nat} {w : World} (p : CfIn B c inj a n cap w) : w.cell? ⟨B, 22, none⟩ = some (.slice a n cap) := p.cellAt 22
theorem CfIn.hv {B : Nat} {c : List Int} {inj : Bool} {a : Option Addr} {n cap : Nat} {w : World} (p : CfIn B c inj a n cap w) : (hload (.pointer (some ⟨B, 0, none⟩))).run Tryz.prog w = .ok (.agg (sixC (vip c))) w :=
  run_loadAt_mid w B 0 23 _ _ (fun j v hv => by
    have hj : j < 8 := (List.getElem?_eq_some_iff.1 hv).1
    rw [Nat.zero_add, p.cellAt]
    rcases (by omega : j = 0 ∨ j = 1 ∨ j = 2 ∨ j = 3 ∨ j = 4 ∨ j = 5 ∨ j = 6 ∨ j = 7) with rfl | rfl | rfl | rfl | rfl | rfl | rfl | rfl <;> exact hv) Tryz.underlying23 rfl (by kernel_rfl)
theorem CfIn.hp {B : Nat} {c : List Int} {inj : Bool} {a : Option Addr} {n cap : Nat} {w : World} (p : CfIn B c inj a n cap w) : (hload (.pointer (some ⟨B, 9, none⟩))).run Tryz.prog w = .ok (.agg (sixC (pfx c))) w :=
  run_loadAt_mid w B 9 23 _ _ (fun j v hv => by
    have hj : j < 8 := (List.getElem?_eq_some_iff.1 hv).1
    rw [p.cellAt]
    rcases (by omega : j = 0 ∨ j = 1 ∨ j = 2 ∨ j = 3 ∨ j = 4 ∨ j = 5 ∨ j = 6 ∨ j = 7) with rfl | rfl | rfl | rfl | rfl | rfl | rfl | rfl <;> exact hv) Tryz.underlying23 rfl (by kernel_rfl)
theorem echk (p : List Int) (n k : Int) (w : World) (h : Em.PF p n k) : Calls Tryz.prog 96 #[.agg (sixC p), .int .i64 n] w fun e w' => e = .returned (ev k) ∧ Below w.heap.size w w' := Em.echeck_any p n k w h
theorem ain2 (a p : List Int) (n : Int) (w : World) (ha : Ok6 a) (hp : Ok6 p) (h0 : 0 ≤ n) (h1 : n ≤ 128) : Calls Tryz.prog 99 #[.agg (sixC a), .agg (sixC p), .int .i64 n] w fun e w' => e = .returned (.tuple #[.bool (Em.inF a p n), .nilIface]) ∧ Below w.heap.size w w' := Em.in_ok a p n w ha hp h0 h1
theorem pf_zero {p : List Int} {n : Int} (h : Em.PF p n 0) : Ok6 p ∧ 0 ≤ n ∧ n ≤ 128 ∧ Em.LongP n := by
  rcases h with ⟨_, h⟩ | ⟨_, _, h⟩ | ⟨_, _, _, h⟩ | ⟨h1, h2, _, _⟩
  · cases h
  · cases h
  · cases h
  · refine ⟨h1, ?_, ?_, h2⟩ <;> unfold Em.LongP at h2 <;> omega
attribute [local go_sem ↓] hload_shut
set_option maxRecDepth 100000 in
set_option maxHeartbeats 2000000 in
theorem gcheck_any (c : List Int) (inj : Bool) (a : Option Addr) (cap : Nat) (bk : List (List Int)) (pf : Int) (w : World) (hb : Bks a bk w) (hl : bk.length ≤ maxLen) (hc : bk.length ≤ cap) (hp : Em.PF (pfx c) (el c 17) pf) :
    Calls Tryz.prog 38 #[.agg (cfC c inj a bk.length cap)] w fun e w' => e = .returned (ev (cko c bk pf)) ∧ Below w.heap.size w w' := by
  have HP := hide (cf_new w c inj a bk.length cap)
  have HB := hide (al_below w (.cells (cfC c inj a bk.length cap) 26))
  have H1 := hide (fun W => pck (vip c) W)
  have H2 := hide (fun x m W => gup1 m x W)
  have H3 := hide (fun W => echk (pfx c) (el c 17) pf W hp)
  have H4 := hide (fun W => bc4_any (el c 18) W)
  have H5 := hide (fun W (hW : Below w.heap.size w W) => kcheck a cap bk W (hb.below hW) hl hc)
  have H6 := hide (fun (h1 : s6 (vip c) = true) (h0 : pf = 0) W => ain2 (vip c) (pfx c) (el c 17) W ((s6_iff _).1 h1) (pf_zero (h0 ▸ hp)).1 (pf_zero (h0 ▸ hp)).2.1 (pf_zero (h0 ▸ hp)).2.2.1)
  obtain ⟨R, hR⟩ : ∃ R, R = cko c bk pf := ⟨_, rfl⟩
  rw [← hR]
  unfold cko at hR
  clear hb hl hc hp
  go_enter Tryz.func38, Tryz.ntmps38
  go_upto_region 1 with fail
  generalize w.alloc _ = W0 at HP HB ⊢
  have y := HP.out.hv
  cases hs : s6 (vip c)
  · rw [hs, show ev (fe false) = err 1 from rfl] at H1
    rw [if_pos hs] at hR
    have HRR := hide hR
    unfold err at H1
    clear hR H2 H3 H4 H5 H6
    go_wp2_with (go_at_call 95; refine (H1.out _).mono ?_; rintro e w1 ⟨rfl, hb1⟩; replace HB := hide (bt HB.out hb1); clear hb1)
    go_ret
    exact ⟨by rw [HRR.out]; rfl, HB.out⟩
  rw [hs, show ev (fe true) = .nilIface from rfl] at H1
  rw [if_neg (by rw [hs]; decide)] at hR
  replace H6 := hide (H6.out hs)
  have HRh := hide hR
  clear hs hR
  go_upto_region 4 with (go_at_call 95; refine (H1.out _).mono ?_; rintro e w1 ⟨rfl, hb1⟩; replace HP := hide (HP.out.kept hb1); replace HB := hide (bt HB.out hb1); clear hb1 y)
  clear H1
  have y := HP.out.c8
  have hum : um 65535 (el c 8) = wd (el c 8) := rfl
  cases hd : wd (el c 8)
  · rw [hd] at hum
    have HRR := hide (show R = 1 by rw [HRh.out, if_pos hd])
    clear HRh H3 H4 H5 H6 hd
    go_wp2_with (go_at_call 91; refine (H2.out (el c 8) 65535 _).mono ?_; rintro e w2 ⟨rfl, hb2⟩; replace HB := hide (bt HB.out hb2); rw [hum]; clear hb2 y)
    go_ret
    exact ⟨by rw [HRR.out]; rfl, HB.out⟩
  rw [hd] at hum
  replace HRh := hide (show R = _ by rw [HRh.out, if_neg (by rw [hd]; decide)])
  clear hd
  go_upto_region 6 with (go_at_call 91; refine (H2.out (el c 8) 65535 _).mono ?_; rintro e w2 ⟨rfl, hb2⟩; replace HP := hide (HP.out.kept hb2); replace HB := hide (bt HB.out hb2); rw [hum]; clear hb2 y)
  clear hum
  have y := HP.out.hp
  have y2 := HP.out.c17
  by_cases hpf : pf = 0
  case neg =>
    have HRR := hide (show R = pf by rw [HRh.out, if_pos hpf])
    have HE := hide (ev_err' hpf)
    rw [ev_err' hpf] at H3
    unfold err at H3
    clear HRh H2 H4 H5 H6 hpf
    go_wp2_with (go_at_call 96; refine (H3.out _).mono ?_; rintro e w3 ⟨rfl, hb3⟩; replace HB := hide (bt HB.out hb3); clear hb3 y y2)
    go_ret
    exact ⟨by rw [HRR.out, HE.out]; rfl, HB.out⟩
  replace HRh := hide (show R = _ by rw [HRh.out, if_neg (fun h => h hpf)])
  replace H6 := hide (H6.out hpf)
  rw [hpf, show ev 0 = .nilIface from rfl] at H3
  clear hpf
  go_upto_region 9 with (go_at_call 96; refine (H3.out _).mono ?_; rintro e w3 ⟨rfl, hb3⟩; replace HP := hide (HP.out.kept hb3); replace HB := hide (bt HB.out hb3); clear hb3 y y2)
  clear H3
  have y := HP.out.c18
  cases hn : fr (el c 18)
  · rw [hn, show ev (fe false) = err 1 from rfl] at H4
    have HRR := hide (show R = 1 by rw [HRh.out, if_pos hn])
    unfold err at H4
    clear HRh H2 H5 H6 hn
    go_wp2_with (go_at_call 97; refine (H4.out _).mono ?_; rintro e w4 ⟨rfl, rfl⟩)
    go_ret
    exact ⟨by rw [HRR.out]; rfl, HB.out⟩
  rw [hn, show ev (fe true) = .nilIface from rfl] at H4
  replace HRh := hide (show R = _ by rw [HRh.out, if_neg (by rw [hn]; decide)])
  clear hn
  go_upto_region 12 with (go_at_call 97; refine (H4.out _).mono ?_; rintro e w4 ⟨rfl, rfl⟩)
  clear H4 y
  have y := HP.out.c19
  have y2 := HP.out.c20
  by_cases hq : um 2147483647 (el c 19) = true ∧ 1 ≤ el c 20 ∧ el c 20 ≤ 16
  case neg =>
    have HRR := hide (show R = 1 by rw [HRh.out, if_pos hq])
    clear HRh H5 H6
    cases hu : um 2147483647 (el c 19)
    · clear hq
      go_wp2_with (go_at_call 91; refine (H2.out (el c 19) 2147483647 _).mono ?_; rintro e w5 ⟨rfl, hb5⟩; replace HB := hide (bt HB.out hb5); rw [hu]; clear hb5)
      go_ret
      exact ⟨by rw [HRR.out]; rfl, HB.out⟩
    · by_cases h1 : el c 20 < 1
      · clear hq
        go_wp2_with (go_at_call 91; refine (H2.out (el c 19) 2147483647 _).mono ?_; rintro e w5 ⟨rfl, hb5⟩; replace HP := hide (HP.out.kept hb5); replace HB := hide (bt HB.out hb5); rw [hu]; clear hb5 y y2; have y2 := HP.out.c20)
        go_ret
        exact ⟨by rw [HRR.out]; rfl, HB.out⟩
      · have h2 : 16 < el c 20 := Classical.byContradiction fun h => hq ⟨hu, by omega, by omega⟩
        clear hq
        go_wp2_with (go_at_call 91; refine (H2.out (el c 19) 2147483647 _).mono ?_; rintro e w5 ⟨rfl, hb5⟩; replace HP := hide (HP.out.kept hb5); replace HB := hide (bt HB.out hb5); rw [hu]; clear hb5 y y2; have y2 := HP.out.c20)
        go_ret
        exact ⟨by rw [HRR.out]; rfl, HB.out⟩
  obtain ⟨hu, hq1, hq2⟩ := hq
  replace HRh := hide (show R = _ by rw [HRh.out, if_neg (fun h => h ⟨hu, hq1, hq2⟩)])
  go_upto_region 14 with (go_at_call 91; refine (H2.out (el c 19) 2147483647 _).mono ?_; rintro e w5 ⟨rfl, hb5⟩; replace HP := hide (HP.out.kept hb5); replace HB := hide (bt HB.out hb5); rw [hu]; clear hb5 y y2; have y2 := HP.out.c20)
  clear hu hq1 hq2 H2 y2
  have y := HP.out.c22
  generalize bf bk = Q at H5 HRh
  by_cases hk : Q.2 = 0
  case neg =>
    have HRR := hide (show R = Q.2 by rw [HRh.out, if_pos hk])
    have HE := hide (ev_err' hk)
    rw [ev_err' hk] at H5
    unfold err at H5
    clear HRh H6 hk
    go_wp2_with (go_at_call 98; refine (H5.out _ HB.out).mono ?_; rintro e w6 ⟨rfl, hb6⟩; replace HB := hide (bt HB.out hb6); clear hb6 y)
    go_ret
    exact ⟨by rw [HRR.out, HE.out]; rfl, HB.out⟩
  replace HRh := hide (show R = _ by rw [HRh.out, if_neg (fun h => h hk)])
  rw [hk, show ev 0 = .nilIface from rfl] at H5
  clear hk
  go_upto_region 17 with (go_at_call 98; refine (H5.out _ HB.out).mono ?_; rintro e w6 ⟨rfl, hb6⟩; replace HP := hide (HP.out.kept hb6); replace HB := hide (bt HB.out hb6); clear hb6 y)
  clear H5
  have y := HP.out.hv
  have y2 := HP.out.hp
  have y3 := HP.out.c17
  cases hI : Em.inF (vip c) (pfx c) (el c 17)
  all_goals
    rw [hI] at H6
    have HRR := hide (show R = _ by rw [HRh.out, hI])
    clear HRh hI
    go_wp2_with (go_at_call 99; refine (H6.out _).mono ?_; rintro e w7 ⟨rfl, hb7⟩; replace HB := hide (bt HB.out hb7); clear hb7 y y2 y3)
    go_ret
    exact ⟨by rw [HRR.out]; rfl, HB.out⟩
end Go.Proofs.YtkhahbghmdccaaaGreatDoor

namespace Go.Proofs.YtkhahbghmdccaaaGreatDoor
open Go.RowKit
theorem kempty (w : World) : OwK w.heap.size (w.alloc (.cells #[] 95)) (.slice (some ⟨w.heap.size, 0, none⟩) 0 0) [] := World.ownsRow_made w #[] 0 (Nat.le_refl _) (Nat.zero_le _) rfl
theorem ap_K0 {w : World} {ops : Array Oper} {rest : List Oper} {o : Oper} {a : Act} {Q : Exit → Act → World → Prop} (hgd : o.guard = none) (s x : Operand)
    (ho : o.op = .call { callee := .builtin .append, args := #[s, x], argTypes := #[24, 24] })
    (base : Nat) (v : Value) (l : List (List Int)) (hs : a.eval s = v) (hown : OwK base w v l) (ad : Addr) (c : Nat) (hx : a.eval x = .slice (some ad) 0 c) (hlen : l.length ≤ 1000000) (hbase : base ≤ w.heap.size)
    (h : ∀ v' w', OwK base w' v' l → w.grownBy w' v.ownBlock → wpList Tryz.prog ops Q rest (a.put o.dst v') w') : wpList Tryz.prog ops Q (o :: rest) a w := by
  obtain ⟨i0, hi, hz0, hz1, hz2⟩ := info_parts Tryz.infoBack
  have hown' : w.ownsRow base 95 6 v l.length (kvs l) := hown
  refine wpList_append_own_at _ hgd s x 24 ho base 95 i0 _ 6 40 Tryz.underlying24 hi hz0 hz1 hz2 rfl (by decide) v l.length (kvs l) hs hown' ad 0 c [] hx rfl ?_ ?_ (by unfold maxLen; omega) (by omega) hbase ?_
  · intro j u hu
    simp at hu
  · intro u hu
    simp at hu
  · intro v' w' h1 h2 _ h5
    refine h v' w' ?_ h2
    unfold OwK
    simpa using h1
def cload (x : Value) : Sem Value := Instr.loadAt 26 x
theorem cload_shut (x : Value) : Instr.loadAt 26 x = cload x := rfl
set_option maxRecDepth 10000 in
theorem CfIn.cl {B : Nat} {c : List Int} {inj : Bool} {a : Option Addr} {n cap : Nat} {w : World} (p : CfIn B c inj a n cap w) : (cload (.pointer (some ⟨B, 0, none⟩))).run Tryz.prog w = .ok (.agg (cfC c inj a n cap)) w :=
  run_loadAt_mid w B 0 26 (cfC c inj a n cap).toList _ (fun j v hv => by
    rw [Nat.zero_add, p.cellAt]
    simpa using hv) Tryz.underlying26 rfl (by kernel_rfl)
def gbu (ps : Array (Nat × Value)) : Sem Value := Instr.build 98 ps
theorem gbu_shut (ps : Array (Nat × Value)) : Instr.build 98 ps = gbu ps := rfl
theorem gbu_run (c : List Int) (inj : Bool) (a : Option Addr) (n cap : Nat) (tv : Value) (ht : ∃ T, tv = .pointer (some ⟨T, 0, none⟩)) (S : Nat) (w : World) : (gbu #[(0, .agg (cfC c inj a n cap)), (1, tv), (2, .map (some S))]).run Tryz.prog w = .ok (.agg (gtC c inj a n cap tv S 0)) w := by
  obtain ⟨T, rfl⟩ := ht
  kernel_rfl
theorem CfIn.frz {B : Nat} {c : List Int} {inj : Bool} {a : Option Addr} {n cap : Nat} {w : World} (p : CfIn B c inj a n cap w) (j : Nat) : w.frozen? ⟨B, j, none⟩ = false := by
  unfold CfIn at p
  simp [World.frozen?, p]
theorem CfIn.set22 {B : Nat} {c : List Int} {inj : Bool} {a : Option Addr} {n cap : Nat} {w : World} (p : CfIn B c inj a n cap w) (a' : Option Addr) (n' cap' : Nat) : CfIn B c inj a' n' cap' (w.setCell ⟨B, 22, none⟩ (.slice a' n' cap')) ∧ Only B w (w.setCell ⟨B, 22, none⟩ (.slice a' n' cap')) := by
  rw [setCell_eq_setRow w B 22 _ _ (0, 0) _ p]
  exact ⟨setRow_heap w B _ _ _ (0, 0) p, only_setRow _ _ _⟩
attribute [local go_sem ↓] cload_shut gbu_shut
set_option maxRecDepth 100000 in
set_option maxHeartbeats 2000000 in
theorem gnew_bad (c : List Int) (inj : Bool) (a : Option Addr) (cap : Nat) (bk : List (List Int)) (pf : Int) (w : World) (hb : Bks a bk w) (hl : bk.length ≤ maxLen) (hc : bk.length ≤ cap) (hp : Em.PF (pfx c) (el c 17) pf) (hR : cko c bk pf ≠ 0) :
    Calls Tryz.prog 8 #[.agg (cfC c inj a bk.length cap)] w fun e w' => e = .returned (.tuple #[.pointer none, err (cko c bk pf)]) ∧ Below w.heap.size w w' := by
  have HP := hide (cf_new w c inj a bk.length cap)
  have HB := hide (al_below w (.cells (cfC c inj a bk.length cap) 26))
  have HC := hide (fun W (hW : Below w.heap.size w W) => gcheck_any c inj a cap bk pf W (hb.below hW) hl hc hp)
  rw [ev_err' hR] at HC
  generalize cko c bk pf = R at HC ⊢
  unfold err at HC ⊢
  clear hb hl hc hp hR
  go_enter Tryz.func8, Tryz.ntmps8
  go_upto_region 1 with fail
  generalize w.alloc _ = W0 at HP HB ⊢
  have y := HP.out.cl
  go_wp2_with (go_at_call 38; refine (HC.out _ HB.out).mono ?_; rintro e w1 ⟨rfl, hb1⟩; replace HB := hide (bt HB.out hb1); clear hb1 y)
  go_ret2
  exact ⟨rfl, HB.out⟩
end Go.Proofs.YtkhahbghmdccaaaGreatDoor

namespace Go.Proofs.YtkhahbghmdccaaaGreatDoor
open Go.RowKit
theorem OwK.bkr {base : Nat} {w : World} {v : Value} {bs : List (List Int)} (h : OwK base w v bs) : ∃ a cap, v = .slice a bs.length cap ∧ bs.length ≤ cap ∧ cap ≤ maxLen ∧ BkR a bs w ∧ ∀ k, KOa a k → base ≤ k ∧ k < w.heap.size := by
  have h' : w.ownsRow base 95 6 v bs.length (kvs bs) := h
  rcases h.2 with ⟨rfl, hn⟩ | ⟨g, cap, cur, rfl, h1, hg, hnc, hcm, _⟩
  · exact ⟨none, 0, by rw [hn], by omega, Nat.zero_le _, fun hp => by omega, fun k hk => by obtain ⟨off, e⟩ := hk; cases e⟩
  · refine ⟨_, cap, rfl, hnc, hcm, fun _ => ⟨g, cur, _, rfl, hg, fun k hk j hj => ?_⟩, fun k hk => ?_⟩
    · have h2 := World.ownsRow.cellAt h' (k * 6 + j) (by omega)
      rw [kvs_at bs k j hk hj, cell_of_row w g _ _ _ _ hg] at h2
      rw [Nat.mul_comm]
      rw [h2]
      simp
    · obtain ⟨off, e⟩ := hk
      injection e with e
      injection e with e _
      subst e
      exact ⟨h1, (Array.getElem?_eq_some_iff.1 hg).1⟩
def gz0 (c : List Int) (inj : Bool) (bk : List (List Int)) (m : Nat) : GS := ((c, inj, bk), (m, fun _ => [], fun _ => false, []), [], 0)
set_option maxRecDepth 100000 in
theorem kclone2 (a : Option Addr) (cap : Nat) (bk : List (List Int)) (w : World) (hb : Bks a bk w) (hl : bk.length ≤ 1000) (ha : a = none → bk = [] ∧ cap = 0) :
    Calls Tryz.prog 40 #[.slice a bk.length cap] w fun e w' => ∃ v, e = .returned v ∧ OwK w.heap.size w' v bk ∧ Below w.heap.size w w' := by
  have q := fun (w : World) (a : Option Addr) (n c n' c' : Nat) => Lib.run_eql_slice_nil (P := Tryz.prog) w 24 _ a n c n' c' Tryz.underlying24
  cases a with
  | none =>
    obtain ⟨rfl, rfl⟩ := ha rfl
    clear hb hl ha
    rw [List.length_nil]
    go_enter Tryz.func40, Tryz.ntmps40
    go_wp2
    go_ret
    exact ⟨_, rfl, OwK.nil _ _, Below.refl _ _⟩
  | some ad =>
    have HG := hide (kempty w)
    have HB0 := hide (al_below w (.cells #[] 95))
    by_cases h0 : bk = []
    · subst h0
      clear hb hl ha
      rw [List.length_nil]
      go_enter Tryz.func40, Tryz.ntmps40
      go_wp2_with (at_builtin; refine ap_K0 rfl (.tmp 5) (.tmp 6) rfl w.heap.size _ [] rfl HG.out ad cap rfl (by simp) (by simp) ?_; intro v' w' ho hg; have HO := hide (show OwK w.heap.size w' v' [] from ho); have HB := hide (HB0.out.grown hg HB0.out.size (fun k e => (owns_lt HG.out k e).2)); clear ho hg)
      go_ret
      exact ⟨_, rfl, HO.out, HB.out⟩
    · have hpos : 0 < bk.length := List.length_pos_iff.2 h0
      obtain ⟨g, off, e, _⟩ := hb hpos
      obtain rfl : ad = ⟨g, off, none⟩ := Option.some.inj e
      have HC := hide (show ∀ j, j < bk.length → (w.alloc (.cells #[] 95)).rangeAt g (off + j * 6) (bkC (bk.getD j [])).toList from fun j hj => by
        obtain ⟨g', off', e, _, h2⟩ := (hb.below (al_below w (.cells #[] 95))) (by omega)
        injection e with e
        injection e with e1 e2
        subst e1 e2
        exact h2 j hj)
      clear hb ha h0 hpos e
      go_enter Tryz.func40, Tryz.ntmps40
      go_wp2_with (at_builtin; refine ap_K rfl (.tmp 5) (.tmp 6) rfl w.heap.size _ [] rfl HG.out g off bk.length cap bk rfl rfl HC.out (by simp only [List.length_nil]; omega) (by simp) ?_; intro v' w' ho hg; have HO := hide (show OwK w.heap.size w' v' bk from ho); have HB := hide (HB0.out.grown hg HB0.out.size (fun k e => (owns_lt HG.out k e).2)); clear ho hg)
      go_ret
      exact ⟨_, rfl, HO.out, HB.out⟩
theorem cko_zero {c : List Int} {bk : List (List Int)} {pf : Int} (h : cko c bk pf = 0) : pf = 0 ∧ 1 ≤ el c 20 ∧ el c 20 ≤ 16 ∧ (bf bk).2 = 0 := by
  unfold cko at h
  split at h
  · cases h
  split at h
  · cases h
  split at h
  · rename_i h1; exact absurd h h1
  rename_i h1
  split at h
  · cases h
  split at h
  · cases h
  rename_i h2
  split at h
  · rename_i h3; exact absurd h h3
  rename_i h3
  obtain ⟨_, h4, h5⟩ := Classical.not_not.1 h2
  exact ⟨Classical.not_not.1 h1, h4, h5, Classical.not_not.1 h3⟩
attribute [local go_sem ↓] cload_shut gbu_shut
set_option maxRecDepth 100000 in
set_option maxHeartbeats 1000000 in
theorem gnew_gc (c : List Int) (inj : Bool) (a : Option Addr) (cap : Nat) (bk : List (List Int)) (m : Nat) (w : World) (hb : Bks a bk w) (hl : bk.length ≤ 1000) (hc : bk.length ≤ cap) (ha : a = none → bk = [] ∧ cap = 0) (hp : Em.PF (pfx c) (el c 17) 0) (hR : cko c bk 0 = 0) (hm : el c 20 = m) (h1 : 1 ≤ m) (h2 : m ≤ 16) :
    Calls Tryz.prog 8 #[.agg (cfC c inj a bk.length cap)] w fun e w' => ∃ G a' cap' tv S Ot, e = .returned (.tuple #[.pointer (some ⟨G, 0, none⟩), .nilIface]) ∧ GC G a' cap' tv S Ot (fun _ => 0) (gz0 c inj bk m) w' ∧ (∀ k, GO G a' Ot (SO S (fun _ => 0) []) k → w.heap.size ≤ k) ∧ Below w.heap.size w w' := by
  have HP := hide (cf_new w c inj a bk.length cap)
  have HB := hide (al_below w (.cells (cfC c inj a bk.length cap) 26))
  have HC := hide (fun W (hW : Below w.heap.size w W) => gcheck_any c inj a cap bk 0 W (hb.below hW) (by unfold maxLen; omega) hc hp)
  rw [hR, show ev 0 = .nilIface from rfl] at HC
  have HN := hide (fun W => tb_ji.2.2.1.2 m W h1 h2)
  have HK := hide (fun W (hW : Below w.heap.size w W) => kclone2 a cap bk W (hb.below hW) hl ha)
  clear hb hl hc hp hR ha h1 h2
  go_enter Tryz.func8, Tryz.ntmps8
  go_upto_region 1 with fail
  generalize w.alloc _ = W0 at HP HB ⊢
  have y := HP.out.cl
  go_upto_region 4 with (go_at_call 38; refine (HC.out _ HB.out).mono ?_; rintro e w1 ⟨rfl, hb1⟩; replace HP := hide (HP.out.kept hb1); replace HB := hide (bt HB.out hb1); clear hb1 y)
  clear HC
  have y := HP.out.c20
  rw [hm] at y
  have HL := hide HP.out.lt
  go_upto_region 7 with (go_at_call 39; refine (HN.out _).mono ?_; rintro e w2 ⟨tv, Ot, rfl, t2, o2, hb2⟩; replace HP := hide (HP.out.kept hb2); replace HB := hide (bt HB.out hb2); have HT := hide t2; have HO := hide (show ∀ k, Ot k → w.heap.size < k ∧ k < w2.heap.size from fun k hk => ⟨Nat.lt_of_lt_of_le HL.out (o2 k hk), (tb_kept _ _ _ _ _ _ _ t2).1 k hk⟩); clear hb2 y t2 o2)
  clear HN HL
  have y := HP.out.c22
  go_upto_region 8 with (go_at_call 40; refine (HK.out _ HB.out).mono ?_; rintro e w3 ⟨v3, rfl, o3, hb3⟩; obtain ⟨a3, c3, rfl, k1, k2, k3, k4⟩ := o3.bkr; have HK3 := hide (And.intro k1 (And.intro k2 (And.intro k3 k4))); have HL3 := hide (show w.heap.size < w2.heap.size from HP.out.lt); replace HP := hide (HP.out.kept hb3); replace HB := hide (bt HB.out hb3); replace HT := hide ((tb_kept _ _ _ _ _ _ _ HT.out).2 w3 hb3.size (fun k hk => hb3.block k (HO.out k hk).2)); have s3 := HP.out.set22 a3 bk.length c3; have z3 := HP.out.c22; have z4 := HP.out.frz 22; clear hb3 y o3 k1 k2 k3 k4)
  have hs3 := s3.2.2.2.2.1
  have HT3 := hide ((tb_kept _ _ _ _ _ _ _ HT.out).2 _ (Nat.le_of_eq hs3.symm) (fun k hk => s3.2.2.2.2.2 k (by have := (HO.out k hk).1; omega)))
  have HK4 := hide (show bk.length ≤ c3 ∧ c3 ≤ maxLen ∧ BkR a3 bk (w3.setCell ⟨w.heap.size, 22, none⟩ (.slice a3 bk.length c3)) ∧ ∀ k, KOa a3 k → w2.heap.size ≤ k ∧ k < (w3.setCell ⟨w.heap.size, 22, none⟩ (.slice a3 bk.length c3)).heap.size from ⟨HK3.out.1, HK3.out.2.1, HK3.out.2.2.1.same (fun k hk => s3.2.2.2.2.2 k (by have := (HK3.out.2.2.2 k hk).1; have := HL3.out; omega)), fun k hk => by rw [hs3]; exact HK3.out.2.2.2 k hk⟩)
  replace HB := hide (s3.2.below HB.out (Nat.le_refl _))
  replace HP := hide s3.1
  clear s3 hs3 HK3 HT
  clear z3 z4 HK
  generalize World.setCell _ _ _ = W4 at HP HB HT3 HK4 ⊢
  have y := HP.out.cl
  have hmm := @run_makeMap Tryz.prog
  obtain ⟨T, hT⟩ : ∃ T, tv = .pointer (some ⟨T, 0, none⟩) := by obtain ⟨T, _, _, _, _, _, e, _⟩ := HT3.out; exact ⟨T, e⟩
  subst hT
  have hbu := fun S W => gbu_run c inj a3 bk.length c3 (.pointer (some ⟨T, 0, none⟩)) ⟨T, rfl⟩ S W
  have b1 := al_below W4 (.map #[] 0)
  have HP2 := hide (HP.out.kept b1)
  have y2 := HP2.out.cl
  have b2 := al_below (W4.alloc (.map #[] 0)) (.cells (gtC c inj a3 bk.length c3 (.pointer (some ⟨T, 0, none⟩)) W4.heap.size 0) 98)
  have HG := hide (show GtIn (W4.heap.size + 1) c inj a3 bk.length c3 (.pointer (some ⟨T, 0, none⟩)) W4.heap.size 0 ((W4.alloc (.map #[] 0)).alloc (.cells (gtC c inj a3 bk.length c3 (.pointer (some ⟨T, 0, none⟩)) W4.heap.size 0) 98)) by have := heap_alloc_new (W4.alloc (.map #[] 0)) (.cells (gtC c inj a3 bk.length c3 (.pointer (some ⟨T, 0, none⟩)) W4.heap.size 0) 98); rw [World.size_alloc] at this; exact this)
  have hb12 := bt b1 b2
  have HT2 := hide ((tb_kept _ _ _ _ _ _ _ HT3.out).2 _ hb12.size (fun k hk => hb12.block k ((tb_kept _ _ _ _ _ _ _ HT3.out).1 k hk)))
  have HM2 := hide ((mp_new isI W4).same (b2.block _ (by rw [World.size_alloc]; omega)))
  have HK5 := hide (show BkR a3 bk _ from HK4.out.2.2.1.same (fun k hk => hb12.block k (HK4.out.2.2.2 k hk).2))
  have HB2 := hide (bt HB.out hb12)
  have HZ := hide (show w.heap.size ≤ W4.heap.size from HB.out.size)
  have HW := hide (show W4.heap.size < ((W4.alloc (.map #[] 0)).alloc (.cells (gtC c inj a3 bk.length c3 (.pointer (some ⟨T, 0, none⟩)) W4.heap.size 0) 98)).heap.size from by rw [World.size_alloc, World.size_alloc]; omega)
  have HOt := hide (show ∀ k, Ot k → k < W4.heap.size from fun k hk => (tb_kept _ _ _ _ _ _ _ HT3.out).1 k hk)
  clear b1 b2 hb12
  go_wp2
  go_ret2
  refine ⟨_, a3, c3, _, W4.heap.size, Ot, rfl, ⟨HG.out, ⟨HK5.out, fun k hk => Nat.lt_trans (HK4.out.2.2.2 k hk).2 HW.out, HK4.out.1, HK4.out.2.1⟩, HT2.out, ⟨HM2.out, fun x hx => absurd hx (by simp [GS.ss, gz0]), fun x hx => absurd hx (by simp [GS.ss, gz0])⟩, ⟨fun h => ?_, fun h => ?_, ?_⟩, fun k hk => ⟨fun h => ?_, ?_⟩, fun k hk => ?_⟩, ?_, HB2.out⟩
  · have := (HK4.out.2.2.2 _ h).2; omega
  · have := HOt.out _ h; omega
  · rintro (h | ⟨x, hx, _⟩)
    · omega
    · exact absurd hx (by simp [GS.ss, gz0])
  · have := (HK4.out.2.2.2 _ hk).1
    have := (HO.out _ h).2
    omega
  · rintro (h | ⟨x, hx, _⟩)
    · have := (HK4.out.2.2.2 _ hk).2; omega
    · exact absurd hx (by simp [GS.ss, gz0])
  · rintro (h | ⟨x, hx, _⟩)
    · have := HOt.out _ hk; omega
    · exact absurd hx (by simp [GS.ss, gz0])
  · have hz := HZ.out
    rintro k (h | h | h | h | ⟨x, hx, _⟩)
    · omega
    · have := (HK4.out.2.2.2 _ h).1
      have := HL3.out
      omega
    · have := (HO.out _ h).1; omega
    · omega
    · exact absurd hx (by simp)
theorem gz0_ti (c : List Int) (inj : Bool) (bk : List (List Int)) (m : Nat) (hm : m ≤ 16) : TI (gz0 c inj bk m) := ⟨hm, Nat.zero_le _, BI.start m, rfl, fun b hb => absurd hb (by simp [GS.bs, gz0])⟩
theorem gz0_si (c : List Int) (inj : Bool) (bk : List (List Int)) (m : Nat) : SI (gz0 c inj bk m) := fun x hx => absurd hx (by simp [GS.ss, gz0])
theorem gz0_ci {c : List Int} {inj : Bool} {bk : List (List Int)} {m : Nat} (hp : Em.PF (pfx c) (el c 17) 0) (h : cko c bk 0 = 0) : CI (gz0 c inj bk m) := by
  have hz := pf_zero hp
  unfold cko at h
  split at h
  · cases h
  rename_i h1
  split at h
  · cases h
  split at h
  · rename_i h4; exact absurd rfl h4
  split at h
  · cases h
  rename_i h5
  split at h
  · cases h
  split at h
  · rename_i h6; exact absurd h h6
  rename_i h6
  have h1' : s6 (vip c) = true := by cases hh : s6 (vip c); exact absurd hh h1; rfl
  have h5' : fr (el c 18) = true := by cases hh : fr (el c 18); exact absurd hh h5; rfl
  refine ⟨(s6_iff _).1 h1', hz.1, hz.2.2.2, ?_, Classical.not_not.1 h6⟩
  unfold fr at h5'
  rw [Bool.and_eq_true, decide_eq_true_eq, decide_eq_true_eq] at h5'
  exact decide_eq_true h5'
end Go.Proofs.YtkhahbghmdccaaaGreatDoor

namespace Go.Proofs.YtkhahbghmdccaaaGreatDoor
open Go.RowKit
theorem MP.strike_no {S : Value → Prop} {b : Nat} {l : List (Value × Value)} {w : World} {t k el : TypeId} (K : KO k S) (ht : Tryz.prog.underlying t = some (.map k el)) (h : MP S b l w) {x : Value} (hx : S x) (hm : ∀ p ∈ l, p.1 ≠ x) (ty : TypeId) :
    ∃ w', (Builtin.delete_ #[t, k] ty #[.map (some b), x]).run Tryz.prog w = .ok (.tuple #[]) w' ∧ MP S b l w' ∧ Only b w w' := by
  obtain ⟨es, clock, hb, hs, hp, hS⟩ := h
  rcases K.2.1 w x hx es.toList hS with ⟨h1, h2⟩ | ⟨j, e1, h1, h2, h3⟩
  · refine ⟨ChangeMaps.setBlock w b (.map es clock), ?_, ⟨es, clock, ChangeMaps.heap_setBlock_same hb _, hs, hp, hS⟩, only_block hb _⟩
    simp [Builtin.delete_, run_underlying ht, MapKept.run_getObj_map hb, K.1 _ x w hx, h1, MapKept.run_setObj_map _ hb, Result.andThen, ChangeMaps.setBlock]
  · exact absurd h3 (hm (en e1) (hp.mem_iff.1 (List.mem_map.2 ⟨e1, List.mem_of_getElem? h2, rfl⟩)))
theorem MP.nodup {S : Value → Prop} {b : Nat} {l : List (Value × Value)} {w : World} (h : MP S b l w) : (l.map Prod.fst).Nodup := by
  obtain ⟨es, clock, hb, hs, hp, hS⟩ := h
  have hst := ((MapKept.stamped_iff es clock).1 hs).2.2
  refine (hp.map Prod.fst).nodup_iff.1 ?_
  rw [List.map_map]
  exact List.pairwise_map.2 hst
def sdl (p : Int) (ss : List (Int × List Int × Int × Bool × Bool)) : List (Int × List Int × Int × Bool × Bool) := ss.filter fun x => !decide (x.1 = p)
theorem sdl_mem {p : Int} {ss : List (Int × List Int × Int × Bool × Bool)} {x : Int × List Int × Int × Bool × Bool} : x ∈ sdl p ss ↔ x ∈ ss ∧ x.1 ≠ p := by
  unfold sdl
  rw [List.mem_filter]
  simp
theorem sdl_none {p : Int} {ss : List (Int × List Int × Int × Bool × Bool)} (h : ∀ x ∈ ss, x.1 ≠ p) : sdl p ss = ss := List.filter_eq_self.2 fun x hx => by simp [h x hx]
theorem sdl_perm (p : Int) : ∀ ss : List (Int × List Int × Int × Bool × Bool), (ss.map (fun x => x.1)).Nodup → ∀ x ∈ ss, x.1 = p → ss.Perm (x :: sdl p ss)
  | [], _, _, h, _ => by simp at h
  | y :: r, hn, x, h, e => by
    rw [List.map_cons, List.nodup_cons] at hn
    rcases List.mem_cons.1 h with rfl | h
    · have : sdl p (x :: r) = r := by
        unfold sdl
        rw [List.filter_cons_of_neg (by simp [e]), List.filter_eq_self]
        intro z hz
        have : z.1 ≠ p := fun e1 => hn.1 (List.mem_map.2 ⟨z, hz, e1.trans e.symm⟩)
        simpa using this
      rw [this]
    · have hne : y.1 ≠ p := fun e1 => hn.1 (List.mem_map.2 ⟨x, h, e.trans e1.symm⟩)
      have : sdl p (y :: r) = y :: sdl p r := by unfold sdl; rw [List.filter_cons_of_pos (by simpa using hne)]
      rw [this]
      exact ((sdl_perm p r hn.2 x h e).cons y).trans (List.Perm.swap x y _)
theorem SS.nodup {S : Nat} {β : Int → Nat} {ss : List (Int × List Int × Int × Bool × Bool)} {w : World} (h : SS S β ss w) : (ss.map (fun x => x.1)).Nodup := by
  have h1 := h.1.nodup
  rw [List.map_map] at h1
  rw [List.Nodup, List.pairwise_map] at h1 ⊢
  refine h1.imp fun {x y} hne e => hne ?_
  show Value.int .i64 x.1 = Value.int .i64 y.1
  rw [e]
def sdx (ty : TypeId) (m k : Value) : Sem Value := Builtin.delete_ #[96, 3] ty #[m, k]
theorem sdx_shut (ty : TypeId) (m k : Value) : Builtin.delete_ #[96, 3] ty #[m, k] = sdx ty m k := rfl
theorem GC.strike {G : Nat} {a : Option Addr} {cap : Nat} {tv : Value} {S : Nat} {Ot : Nat → Prop} {β : Int → Nat} {g : GS} {w : World} (h : GC G a cap tv S Ot β g w) (p : Int) (ty : TypeId) :
    ∃ w', (sdx ty (.map (some S)) (.int .i64 p)).run Tryz.prog w = .ok (.tuple #[]) w' ∧ GC G a cap tv S Ot β (g.str (sdl p g.ss)) w' ∧ Only S w w' := by
  obtain ⟨d1, d2, d3⟩ := h.2.2.2.2
  have hso : ∀ k, SO S β (sdl p g.ss) k → SO S β g.ss k := fun k hk => hk.imp id (fun ⟨x, hx, e⟩ => ⟨x, (sdl_mem.1 hx).1, e⟩)
  have hdj : DJ G a Ot (SO S β (sdl p g.ss)) := ⟨⟨d1.1, d1.2.1, fun hs => d1.2.2 (hso _ hs)⟩, fun k hk => ⟨(d2 k hk).1, fun hs => (d2 k hk).2 (hso _ hs)⟩, fun k hk hs => d3 k hk (hso _ hs)⟩
  obtain ⟨w', h1, h2, on⟩ : ∃ w', (sdx ty (.map (some S)) (.int .i64 p)).run Tryz.prog w = .ok (.tuple #[]) w' ∧ MP isI S ((sdl p g.ss).map (sE β)) w' ∧ Only S w w' := by
    by_cases hp : ∀ x ∈ g.ss, x.1 ≠ p
    · rw [sdl_none hp]
      refine h.2.2.2.1.1.strike_no koi Tryz.mapS ⟨_, rfl⟩ (fun q hq => ?_) ty
      obtain ⟨x, hx, rfl⟩ := List.mem_map.1 hq
      intro e
      exact hp x hx (by injection e)
    · obtain ⟨x, hx, e⟩ : ∃ x ∈ g.ss, x.1 = p := by
        refine Classical.byContradiction fun hn => hp fun x hx e => hn ⟨x, hx, e⟩
      have hpm := (sdl_perm p g.ss h.2.2.2.1.nodup x hx e).map (sE β)
      rw [List.map_cons] at hpm
      exact h.2.2.2.1.1.strike koi Tryz.mapS (x := .int .i64 p) ⟨_, rfl⟩ (by rw [← e] at hpm ⊢; exact hpm) ty
  have hS : SO S β g.ss S := .inl rfl
  have hr : ∀ a n c zs, Row8 w a n c zs → Row8 w' a n c zs := fun _ _ _ _ r => r.pastn (fun j x => h.2.2.2.1.1.nb j _) on
  have hs : ∀ k, k ≠ S → w'.heap[k]? = w.heap[k]? := on.2.2.2.2
  refine ⟨w', h1, ⟨h.1.same (hs G (fun e => d1.2.2 (by rw [e]; exact hS))), ⟨h.2.1.1.same (fun k hk => hs k (fun e => (d2 k hk).2 (by rw [e]; exact hS))), fun k hk => by rw [on.2.2.2.1]; exact h.2.1.2.1 k hk, h.2.1.2.2⟩, (tb_kept _ _ _ _ _ _ _ h.2.2.1).2 w' (by rw [on.2.2.2.1]; exact Nat.le_refl _) (fun k hk => hs k (fun e => d3 k hk (by rw [e]; exact hS))), ⟨h2, fun y hy => ?_, fun y hy z hz e => ?_⟩, hdj⟩, on⟩
  · have hy' := (sdl_mem.1 hy).1
    obtain ⟨a1, n1, c1, p1, p2, p3⟩ := h.2.2.2.1.2.1 y hy'
    refine ⟨a1, n1, c1, (hs _ (fun e => ?_)).trans p1, hr _ _ _ _ p2, p3⟩
    rw [e] at p1
    exact h.2.2.2.1.1.notcells p1
  · exact h.2.2.2.1.2.2 y (sdl_mem.1 hy).1 z (sdl_mem.1 hz).1 e
theorem GC.tick {G : Nat} {a : Option Addr} {cap : Nat} {tv : Value} {S : Nat} {Ot : Nat → Prop} {β : Int → Nat} {g : GS} {w : World} (h : GC G a cap tv S Ot β g w) (n : Int) :
    GC G a cap tv S Ot β (g.tic n) (w.setCell ⟨G, 25, none⟩ (.int .i64 n)) ∧ Only G w (w.setCell ⟨G, 25, none⟩ (.int .i64 n)) := by
  obtain ⟨d1, d2, d3⟩ := h.2.2.2.2
  obtain ⟨p, on⟩ := h.1.set25 n
  have hs : ∀ k, k ≠ G → (w.setCell ⟨G, 25, none⟩ (.int .i64 n)).heap[k]? = w.heap[k]? := on.2.2.2.2
  obtain ⟨T, hT⟩ : ∃ T, tv = .pointer (some ⟨T, 0, none⟩) := by obtain ⟨T, _, _, _, _, _, e, _⟩ := h.2.2.1; exact ⟨T, e⟩
  have nb : ∀ j x, w.cell? ⟨G, j, none⟩ ≠ some (.int .u8 x) := by
    have hg := h.1
    unfold GtIn at hg
    rw [hT] at hg
    exact fun j x => nb_row hg (gt_nob _ _ _ _ _ _ _ _) j x
  exact ⟨⟨p, ⟨h.2.1.1.same (fun k hk => hs k (fun e => d1.1 (by rw [← e]; exact hk))), fun k hk => by rw [on.2.2.2.1]; exact h.2.1.2.1 k hk, h.2.1.2.2⟩, (tb_kept _ _ _ _ _ _ _ h.2.2.1).2 _ (by rw [on.2.2.2.1]; exact Nat.le_refl _) (fun k hk => hs k (fun e => d1.2.1 (by rw [← e]; exact hk))), h.2.2.2.1.same (fun k hk => hs k (fun e => d1.2.2 (by rw [← e]; exact hk))) (fun _ _ _ _ r => r.pastn nb on), h.2.2.2.2⟩, on⟩
theorem GC.nbG {G : Nat} {a : Option Addr} {cap : Nat} {tv : Value} {S : Nat} {Ot : Nat → Prop} {β : Int → Nat} {g : GS} {w : World} (h : GC G a cap tv S Ot β g w) (j : Nat) (x : Int) : w.cell? ⟨G, j, none⟩ ≠ some (.int .u8 x) := by
  obtain ⟨T, hT⟩ : ∃ T, tv = .pointer (some ⟨T, 0, none⟩) := by obtain ⟨T, _, _, _, _, _, e, _⟩ := h.2.2.1; exact ⟨T, e⟩
  have hg := h.1
  unfold GtIn at hg
  rw [hT] at hg
  exact nb_row hg (gt_nob _ _ _ _ _ _ _ _) j x
theorem bdrow_neG {G : Nat} {c : List Int} {inj : Bool} {a : Option Addr} {n cap : Nat} {tv : Value} {S : Nat} {now : Int} {w : World} (p : GtIn G c inj a n cap tv S now w) {off : Nat} {b : List Int} (h : w.rangeAt G off (bdC b).toList) : False := by
  by_cases ho : off ≤ 21
  · have h1 := row_cell h (21 - off) (by omega)
    rw [show off + (21 - off) = 21 by omega, p.inj] at h1
    cases h1
  · have h1 := row_cell h 22 (by omega)
    rw [p.cellAt, Array.getElem?_eq_none (by show 26 ≤ off + 22; omega)] at h1
    cases h1
theorem BdRow.only {B : Nat} {w w' : World} {v : Value} {bs : List (List Int)} (h : BdRow 0 w v bs) (on : Only B w w') (hn : ∀ off b, ¬ w.rangeAt B off (bdC b).toList) : BdRow 0 w' v bs := by
  obtain ⟨a, cap, e, h1⟩ := h
  refine ⟨a, cap, e, fun hp => ?_⟩
  obtain ⟨g, off, e1, h2, h3⟩ := h1 hp
  refine ⟨g, off, e1, ⟨h2.1, by rw [on.2.2.2.1]; exact h2.2⟩, fun k hk j u hu => ?_⟩
  have hg : g ≠ B := fun e2 => hn _ _ (by rw [← e2]; exact h3 0 hp)
  rw [← h3 k hk j u hu]
  exact World.cell?_of_block (on.2.2.2.2 g hg)
def sgo (gone : List (List Int)) (ss : List (Int × List Int × Int × Bool × Bool)) : List (Int × List Int × Int × Bool × Bool) := gone.foldl (fun ss b => sdl (el b 19) ss) ss
def gtk (g : GS) (n : Int) : Int × GS :=
  if 0 ≤ n ∧ n ≤ 1000 ∧ g.now + n ≤ 1099511627776 then (0, ((g.tab g.ws (es (g.now + n) g.bs g.ts g.bs.length).2.2 (es (g.now + n) g.bs g.ts g.bs.length).2.1).tic (g.now + n)).str (sgo (es (g.now + n) g.bs g.ts g.bs.length).1 g.ss))
  else (1, g)
theorem sgo_step (gone : List (List Int)) (ss : List (Int × List Int × Int × Bool × Bool)) (k : Nat) (hk : k < gone.length) : sgo (gone.take (k + 1)) ss = sdl (el (gone.getD k []) 19) (sgo (gone.take k) ss) := by
  unfold sgo
  rw [take_succ gone k hk, List.foldl_append]
  rfl
theorem esl (now : Int) (bs : List (List Int)) (ts : Nat → Bool) : (es now bs ts bs.length).1.length ≤ bs.length := by
  rw [(es_form now bs ts bs.length (Nat.le_refl _)).1, List.take_length]
  exact List.length_filter_le _ _
attribute [local go_sem ↓] sdx_shut bload_shut
set_option maxRecDepth 100000 in
set_option maxHeartbeats 2000000 in
theorem tick_bad (G : Nat) (a : Option Addr) (cap : Nat) (tv : Value) (S : Nat) (Ot : Nat → Prop) (β : Int → Nat) (g : GS) (n : Int) (w : World) (h : GC G a cap tv S Ot β g w) (hn : ¬ (0 ≤ n ∧ n ≤ 1000 ∧ g.now + n ≤ 1099511627776)) (ht : tc g.now = true) :
    Calls Tryz.prog 33 #[.pointer (some ⟨G, 0, none⟩), .int .i64 n] w fun e w' => e = .returned (err 1) ∧ Below w.heap.size w w' := by
  have HU := hide (fun W => gup1 1000 n W)
  have H0 := hide h
  unfold tc at ht
  rw [Bool.and_eq_true, decide_eq_true_eq, decide_eq_true_eq] at ht
  unfold err
  clear h
  by_cases hu : um 1000 n = true
  · have hn' := (um_iff _ _).1 hu
    have h2 : 1099511627776 < g.now + n := by omega
    have hw : IntKind.i64.wrap (g.now + n) = g.now + n := by rw [IntKind.wrap_i64]; omega
    rw [hu] at HU
    clear hn hn' hu ht
    go_enter Tryz.func33, Tryz.ntmps33
    go_wp2_with (go_at_call 91; refine (HU.out _).mono ?_; rintro e w1 ⟨rfl, hb1⟩; have q := (H0.out.kept hb1).1.now; have HB := hide hb1; clear hb1)
    go_ret
    exact ⟨rfl, HB.out⟩
  · have hu' : um 1000 n = false := by cases hh : um 1000 n; rfl; exact absurd hh hu
    rw [hu'] at HU
    clear hn hu hu' ht
    go_enter Tryz.func33, Tryz.ntmps33
    go_wp2_with (go_at_call 91; refine (HU.out _).mono ?_; rintro e w1 ⟨rfl, hb1⟩; have HB := hide hb1; clear hb1)
    go_ret
    exact ⟨rfl, HB.out⟩
theorem Kpt.only {O : Nat → Prop} {B : Nat} {w w' : World} (on : Only B w w') (hB : O B) (nb : ∀ j x, w.cell? ⟨B, j, none⟩ ≠ some (.int .u8 x)) : Kpt O w w' :=
  ⟨⟨on.1, on.2.1, on.2.2.1, Nat.le_of_eq on.2.2.2.1.symm, fun k _ hn => on.2.2.2.2 k (fun e => hn (by rw [e]; exact hB))⟩, fun _ _ _ _ r => r.pastn nb on⟩
def TK (w : World) (G : Nat) (a : Option Addr) (cap : Nat) (tv : Value) (S : Nat) (Ot Ot' : Nat → Prop) (β : Int → Nat) (g g1 : GS) (v : Value) (gone : List (List Int)) (k : Nat) (W : World) : Prop := GC G a cap tv S Ot' β (g1.str (sgo (gone.take k) g.ss)) W ∧ Kpt (GO G a Ot (SO S β g.ss)) w W ∧ BdRow 0 W v gone
theorem TK.kept {w : World} {G : Nat} {a : Option Addr} {cap : Nat} {tv : Value} {S : Nat} {Ot Ot' : Nat → Prop} {β : Int → Nat} {g g1 : GS} {v : Value} {gone : List (List Int)} {k : Nat} {W W' : World} (h : TK w G a cap tv S Ot Ot' β g g1 v gone k W) (hb : Below W.heap.size W W') : TK w G a cap tv S Ot Ot' β g g1 v gone k W' := ⟨h.1.kept hb, h.2.1.trans (Kpt.of (O := fun _ => False) hb) (fun _ h => h.elim), h.2.2.same hb⟩
theorem TK.next {w : World} {G : Nat} {a : Option Addr} {cap : Nat} {tv : Value} {S : Nat} {Ot Ot' : Nat → Prop} {β : Int → Nat} {g g1 : GS} {v : Value} {gone : List (List Int)} {k : Nat} {W : World} (h : TK w G a cap tv S Ot Ot' β g g1 v gone k W) (hk : k < gone.length) (ty : TypeId) :
    ∃ W', (sdx ty (.map (some S)) (.int .i64 (el (gone.getD k []) 19))).run Tryz.prog W = .ok (.tuple #[]) W' ∧ TK w G a cap tv S Ot Ot' β g g1 v gone (k + 1) W' ∧ Only S W W' := by
  obtain ⟨W', h1, h2, on⟩ := h.1.strike (el (gone.getD k []) 19) ty
  have hn : ∀ off b, ¬ W.rangeAt S off (bdC b).toList := fun off b hr => h.1.2.2.2.1.1.nb (off + 0) _ (row_cell hr 0 (by omega))
  refine ⟨W', h1, ⟨?_, h.2.1.trans (Kpt.only (O := fun k => k = S) on rfl (fun j x => h.1.2.2.2.1.1.nb j _)) (fun k hk => .inl (.inr (.inr (.inr (.inl hk))))), h.2.2.only on hn⟩, on⟩
  rw [sgo_step gone g.ss k hk]
  exact h2
theorem sgo_mem {gone : List (List Int)} {ss : List (Int × List Int × Int × Bool × Bool)} {x : Int × List Int × Int × Bool × Bool} : x ∈ sgo gone ss ↔ x ∈ ss ∧ ∀ b ∈ gone, x.1 ≠ el b 19 := by
  induction gone generalizing ss with
  | nil => simp [sgo]
  | cons b r ih =>
    show x ∈ sgo r (sdl (el b 19) ss) ↔ _
    rw [ih, sdl_mem]
    constructor
    · rintro ⟨⟨h1, h2⟩, h3⟩
      refine ⟨h1, fun c hc => ?_⟩
      rcases List.mem_cons.1 hc with rfl | hc
      · exact h2
      · exact h3 c hc
    · rintro ⟨h1, h2⟩
      exact ⟨⟨h1, h2 b (List.mem_cons_self ..)⟩, fun c hc => h2 c (List.mem_cons_of_mem _ hc)⟩
attribute [local go_sem ↓] sdx_shut bload_shut
set_option maxRecDepth 100000 in
set_option maxHeartbeats 2000000 in
theorem tick_ok (G : Nat) (a : Option Addr) (cap : Nat) (tv : Value) (S : Nat) (Ot : Nat → Prop) (β : Int → Nat) (g : GS) (n : Int) (w : World) (h : GC G a cap tv S Ot β g w) (hi : TI g) (hn : 0 ≤ n ∧ n ≤ 1000 ∧ g.now + n ≤ 1099511627776) :
    Calls Tryz.prog 33 #[.pointer (some ⟨G, 0, none⟩), .int .i64 n] w fun e w' => e = .returned .nilIface ∧ GQ w G a cap tv S Ot β g (gtk g n).2 w' := by
  have hg : (gtk g n).2 = ((g.tab g.ws (es (g.now + n) g.bs g.ts g.bs.length).2.2 (es (g.now + n) g.bs g.ts g.bs.length).2.1).tic (g.now + n)).str (sgo (es (g.now + n) g.bs g.ts g.bs.length).1 g.ss) := by unfold gtk; rw [if_pos hn]
  rw [hg]
  have ht := hi.2.2.2.1
  unfold tc at ht
  rw [Bool.and_eq_true, decide_eq_true_eq, decide_eq_true_eq] at ht
  have HU := hide (fun W => gup1 1000 n W)
  rw [(um_iff 1000 n).2 ⟨hn.1, hn.2.1⟩] at HU
  have hw : IntKind.i64.wrap (g.now + n) = g.now + n := by rw [IntKind.wrap_i64]; omega
  have h2 : ¬ 1099511627776 < g.now + n := by omega
  have htc : tc (g.now + n) = true := by unfold tc; rw [Bool.and_eq_true, decide_eq_true_eq, decide_eq_true_eq]; omega
  have HE := hide (fun W (hW : Below w.heap.size w W) => (tb_ji.2.2.2.2.2.2.2.1 tv g.m g.ws g.ts g.bs Ot W (g.now + n) hi.1 hi.2.1 hi.2.2.1 (h.kept hW).2.2.1).2 htc)
  have H0 := hide h
  have hgl := Nat.le_trans (esl (g.now + n) g.bs g.ts) hi.2.1
  generalize (es (g.now + n) g.bs g.ts g.bs.length).1 = gone at HE hgl ⊢
  generalize (es (g.now + n) g.bs g.ts g.bs.length).2.2 = ts' at HE ⊢
  generalize (es (g.now + n) g.bs g.ts g.bs.length).2.1 = bs' at HE ⊢
  have hgi : (gone.length : Int) ≤ 128 := by omega
  clear h hi hn ht htc hg
  go_enter Tryz.func33, Tryz.ntmps33
  go_upto_region 3 with (go_at_call 91; refine (HU.out _).mono ?_; rintro e w1 ⟨rfl, hb1⟩; have q := (H0.out.kept hb1).1.now; have HB := hide hb1; clear hb1)
  clear q HU
  have hbd : Below w1.heap.size w1 w1.drew := (Below.refl _ _).drew
  have HB1 := hide (bt HB.out hbd)
  have HG1 := hide (H0.out.kept HB1.out)
  have q1 := HG1.out.1.table
  have q3 := HG1.out.1.now
  have HEx := hide (HE.out _ HB1.out)
  clear hbd HB HE
  go_region_held3 (fun W' => W'.cell? ⟨G, 23, none⟩ = some tv ∧ W'.cell? ⟨G, 25, none⟩ = some (.int .i64 g.now))
    (first
      | exact ⟨HG1.out.1.table, HG1.out.1.now⟩
      | exact S5.out
      | go_keep)
    (first
      | (go_at_call 92; refine HEx.out.mono ?_; rintro e w5 ⟨b5, rfl, r5, tq⟩; obtain ⟨Ot', g5, k5, s5⟩ := HG1.out.tab tq; have HG5 := hide g5; have HK5 := hide ((Kpt.of (O := GO G a Ot (SO S β g.ss)) HB1.out).trans k5 (fun _ hk => .inl hk)); have HS5 := hide (show ∀ k, Ot' k → Ot k ∨ w.heap.size ≤ k from fun k hk => (s5 k hk).imp id (fun h => Nat.le_trans HB1.out.size h)); have HR5 := hide r5; have S5 := hide (show w5.cell? ⟨G, 23, none⟩ = some tv ∧ w5.cell? ⟨G, 25, none⟩ = some (.int .i64 g.now) from ⟨g5.1.table, g5.1.now⟩); clear q1 q3 g5 k5 s5 tq r5; obtain ⟨q1, q3⟩ := S5.out))
  all_goals
    clear q1
    have f25 := HG5.out.1.frz 25
    obtain ⟨t6, on6⟩ := HG5.out.tick (g.now + n)
    have HK6 := hide (show TK w G a cap tv S Ot Ot' β g ((g.tab g.ws ts' bs').tic (g.now + n)) b5 gone 0 _ from ⟨t6, HK5.out.trans (Kpt.only (O := fun k => k = G) on6 rfl HG5.out.nbG) (fun k hk => .inl (.inl hk)), HR5.out.only on6 (fun off b hr => bdrow_neG HG5.out.1 hr)⟩)
    clear t6 on6
    go_upto_region 7 with fail
    clear q3 f25 hw h2 HG5 HK5 HR5 S5 HEx HG1 HB1
    generalize World.setCell _ _ _ = W6 at HK6 ⊢
    obtain ⟨a5, c5, rfl, -⟩ := HK6.out.2.2
    go_wp2
    go_loopw [50] (fun t wr => ∃ k : Nat, k ≤ gone.length ∧ t = .int .i64 k ∧ Hid (TK w G a cap tv S Ot Ot' β g ((g.tab g.ws ts' bs').tic (g.now + n)) (.slice a5 gone.length c5) gone k wr)) (fun t _ => gone.length - (intOf t).toNat)
    case atStart => exact ⟨0, by omega, rfl, HK6⟩
    case round =>
      clear HK6
      obtain ⟨k, hk, rfl, HK⟩ := hrel
      by_cases hlt : k < gone.length
      · obtain ⟨a6, c6, e6, hra⟩ := HK.out.2.2
        injection e6 with e6 e8 e7
        subst e6
        subst e7
        clear e8
        obtain ⟨gg, off, rfl, -, hx⟩ := hra (by omega)
        have gx := row_bl (hx k hlt)
        have HN := hide (fun W (hW : TK w G a cap tv S Ot Ot' β g ((g.tab g.ws ts' bs').tic (g.now + n)) (.slice (some ⟨gg, off, none⟩) gone.length c5) gone k W) => hW.next hlt 0)
        generalize hbk : gone.getD k [] = bk at gx HN
        clear hx hra hbk
        have j1 : (k : Int) < (gone.length : Int) := by omega
        have HS := hide (bd_zero wr)
        unfold zero23 at HS
        go_upto_region 10 with (refine at_storeb rfl (.tmp 8) (.tmp 53) rfl rfl HS.out bk rfl ?_; intro w7 p7 on7; have HK7 := hide (HK.out.kept (new_below _ on7)); have HP7 := hide p7; clear on7 p7)
        clear gx HS HK
        generalize wr.heap.size = D at HP7 ⊢
        have HK8 := hide (HK7.out.kept (show Below w7.heap.size w7 w7.drew from (Below.refl _ _).drew))
        have d19 : w7.drew.cell? ⟨D, 19, none⟩ = some (.int .i64 (el bk 19)) := HP7.out.cell 19 (by omega)
        have c24 := HK8.out.1.1.streams
        obtain ⟨w9, r9, t9, on9⟩ := HN.out _ HK8.out
        have HK9 := hide t9
        clear t9 on9 HK7 HK8 HN
        go_region
        all_goals
          go_wp2
          go_roundw
          case rel => exact ⟨k + 1, by omega, by go_num, HK9⟩
          case measure => simp [intOf]; omega
      · obtain rfl : gone.length = k := by omega
        go_wp2
        go_ret
        have hT := HK.out
        refine ⟨rfl, Ot', β, ?_, hT.2.1, fun k hk => ?_⟩
        · have := hT.1
          rw [List.take_length] at this
          exact this
        · rcases hk with h1 | h1 | h1 | h1
          · exact .inl (.inl h1)
          · exact .inl (.inr (.inl h1))
          · exact (HS5.out k h1).imp (fun h => .inr (.inr (.inl h))) id
          · rcases h1 with h1 | ⟨x, hx, e⟩
            · exact .inl (.inr (.inr (.inr (.inl h1))))
            · exact .inl (.inr (.inr (.inr (.inr ⟨x, (sgo_mem.1 hx).1, e⟩))))
theorem gtick_any (G : Nat) (a : Option Addr) (cap : Nat) (tv : Value) (S : Nat) (Ot : Nat → Prop) (β : Int → Nat) (g : GS) (n : Int) (w : World) (h : GC G a cap tv S Ot β g w) (hi : TI g) :
    Calls Tryz.prog 33 #[.pointer (some ⟨G, 0, none⟩), .int .i64 n] w fun e w' => e = .returned (ev (gtk g n).1) ∧ GQ w G a cap tv S Ot β g (gtk g n).2 w' := by
  by_cases hn : 0 ≤ n ∧ n ≤ 1000 ∧ g.now + n ≤ 1099511627776
  · have e : (gtk g n).1 = 0 := by unfold gtk; rw [if_pos hn]
    rw [e, ev_nil]
    exact tick_ok G a cap tv S Ot β g n w h hi hn
  · have e : gtk g n = (1, g) := by unfold gtk; rw [if_neg hn]
    rw [e, show ev ((1 : Int), g).1 = err 1 from ev_err (show (1 : Int) ≠ 0 by decide)]
    exact (tick_bad G a cap tv S Ot β g n w h hn hi.2.2.2.1).mono fun r w' ⟨e1, e2⟩ => ⟨e1, h.still e2⟩
end Go.Proofs.YtkhahbghmdccaaaGreatDoor
