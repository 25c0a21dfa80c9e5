/- GateConfigs, walked. An argument that is a config, opened. -/
import Derived.Test.YtnhjabiciaoocaaDoorJTold
import Derived.Test.YtnhjabiciaoocaaDoorGcB
import Derived.Test.YtnhjabiciaoocaaDoorGcC
import Derived.Deep.MidRow
import Derived.Laws.ResultCell
import Derived.Deep.CutBlock
import Derived.Deep.QuietTactic
import Derived.OwnWalk
import Derived.Deep.RegionHeld3
import Derived.Deep.DrawnRows
import Derived.Laws.StructEq
import Derived.Laws.AppendOwnNone
import Derived.Maps.AppendAt
import Derived.Maps.RangeWalk
import Derived.Test.YtnhjabiciaoocaaDoorProg
import Derived.WalkKit
import Derived.LaidEql
import Derived.Stop.Asserts
import Derived.RowKitTokens
import Derived.Test.YtnhjabiciaoocaaDoorShelf
import Derived.Shelf.Abstract
import Derived.Below
import Derived.OpenShut
import Derived.BigQuiet
import Derived.Laws.MakeOwn
import Derived.Deep.RegionLaw
import Derived.Lib.Bytes
import Derived.Lib.SliceRun
import Derived.Lib.AppendZerosOnto
import Derived.Lib.AppendZeros
import Derived.Laws.CopyOwn
import Derived.RangeFuncNested
import Derived.RangeFuncBound
import Derived.RangeFuncCalls
import Derived.RangeFuncLeaves
import Derived.RangeFuncFrom
import Derived.Shelf.RegionOpen
import Derived.OwnWalkIn
import Derived.TacticsInMore
import Derived.LoopNIn
import Derived.LoopIn
import Derived.Deep.RegionWith
import Derived.Test.YtnhjabiciaoocaaDoorJS6Own
import Derived.Test.YtnhjabiciaoocaaDoorJPkN
import Derived.Test.YtnhjabiciaoocaaDoorGtC
import Derived.Deep.Slices
import Derived.ChangeArms
import Derived.WideShapes
namespace Go.Proofs.YtnhjabiciaoocaaDoor
open Go.RowKit
attribute [local go_sem ↓] cload_shut
set_option maxRecDepth 100000 in
set_option maxHeartbeats 2000000 in
theorem gcs_walk (c : List Int) (inj : Bool) (a : Option Addr) (cap : Nat) (bk : List (List Int)) (w : World) (hg : Laid0 w) (hb : Bks a bk w) (h1 : bk.length ≤ cap) (h2 : cap ≤ maxLen) (ha : a = none → bk = [] ∧ cap = 0) :
    Calls Tryd.prog 3 #[.agg (cfC c inj a bk.length cap)] w fun e w' => e = .returned (.bool true) ∧ Below w.heap.size w w' := by
  obtain ⟨pf, hp⟩ := Em.pf_ex (pfx c) (el c 17)
  have hlm := Nat.le_trans h1 h2
  have HP := hide (cf_new w c inj a bk.length cap)
  have HB := hide (al_below w (.cells (cfC c inj a bk.length cap) 26))
  have HR := hide (fun W (hW : Below w.heap.size w W) => rcf_any c inj a cap bk pf W (hb.below hW) hlm hp)
  have HC := hide (fun W (hW : Below w.heap.size w W) => gcheck_any c inj a cap bk pf W (hb.below hW) hlm h1 hp)
  have HT := hide (fun W (hW : Below w.heap.size w W) => tells_ev (cko c bk pf) W (hg.below hW))
  by_cases hz : cko c bk pf = 0
  · obtain ⟨rfl, z1, z2, z3⟩ := cko_zero hz
    obtain ⟨m, hm⟩ : ∃ m : Nat, el c 20 = m := ⟨(el c 20).toNat, by omega⟩
    have hl8 := (bf_ok z3).1
    have HN := hide (fun W (hW : Below w.heap.size w W) => gnew_ok c inj a cap bk m W (hb.below hW) (by omega) h1 ha hp hz hm (by omega) (by omega))
    have HBi := hide (fun G a n cap T P BB F N S now W h ht => gbinds_new G c inj a n cap T P BB F N m S now W h ht (by omega))
    have HNo := hide (fun G a n cap tv S now W h => gnow_any G c inj a n cap tv S now W h)
    rw [hz] at HR HC HT
    rw [show ev 0 = .nilIface from rfl] at HC HT
    clear hb h1 h2 ha hp hlm hz z1 z2 z3 hm hl8 hg
    go_enter Tryd.func3, Tryd.ntmps3
    go_upto_region 1 with fail
    generalize w.alloc _ = W0 at HP HB ⊢
    have y := HP.out.cl
    go_upto_region 2 with (go_at_call 4; refine (HR.out _ HB.out).mono ?_; rintro e w1 ⟨rfl, hb1⟩; replace HP := hide (HP.out.kept hb1); replace HB := hide (bt HB.out hb1); clear hb1 y)
    have y := HP.out.cl
    go_upto_region 3 with (first
      | (go_at_call 6; refine (HC.out _ HB.out).mono ?_; rintro e w2 ⟨rfl, hb2⟩; replace HP := hide (HP.out.kept hb2); replace HB := hide (bt HB.out hb2); clear hb2 y)
      | (go_at_call 5; refine (HT.out _ HB.out).mono ?_; rintro e w3 ⟨rfl, hb3⟩; replace HP := hide (HP.out.kept hb3); replace HB := hide (bt HB.out hb3); clear hb3))
    have y := HP.out.cl
    go_upto_region 7 with (first
      | (go_at_call 7; refine (HN.out _ HB.out).mono ?_; rintro e w4 ⟨G, T, P, BB, F, N, a4, c4, S, rfl, g4, t4, hb4⟩; replace HB := hide (bt HB.out hb4); have HG := hide g4; have HTC := hide t4; clear hb4 y g4 t4)
      | (go_at_call 5; refine (HT.out _ HB.out).mono ?_; rintro e w5 ⟨rfl, hb5⟩; replace HG := hide (HG.out.kept hb5); replace HTC := hide (HTC.out.kept hb5); replace HB := hide (bt HB.out hb5); clear hb5))
    go_wp2_with (first
      | (go_at_call 8; refine (HNo.out _ _ _ _ _ _ _ _ HG.out).mono ?_; rintro e w6 ⟨rfl, rfl⟩)
      | (go_at_call 9; refine (HBi.out _ _ _ _ _ _ _ _ _ _ _ _ HG.out HTC.out).mono ?_; rintro e w7 ⟨⟨a7, c7, rfl⟩, hb7⟩; replace HB := hide (bt HB.out hb7); clear hb7))
    go_ret
    exact ⟨rfl, HB.out⟩
  · have HN := hide (fun W (hW : Below w.heap.size w W) => gnew_bad c inj a cap bk pf W (hb.below hW) hlm h1 hp hz)
    rw [ev_err' hz] at HC HT
    have hn : (cko c bk pf != 0) = true := by simpa using hz
    generalize cko c bk pf = R at HR HC HT HN hn
    unfold err at HC HT HN
    clear hb h1 h2 ha hp hlm hz hg
    go_enter Tryd.func3, Tryd.ntmps3
    go_upto_region 1 with fail
    generalize w.alloc _ = W0 at HP HB ⊢
    have y := HP.out.cl
    go_upto_region 2 with (go_at_call 4; refine (HR.out _ HB.out).mono ?_; rintro e w1 ⟨rfl, hb1⟩; replace HP := hide (HP.out.kept hb1); replace HB := hide (bt HB.out hb1); clear hb1 y)
    have y := HP.out.cl
    go_upto_region 3 with (first
      | (go_at_call 6; refine (HC.out _ HB.out).mono ?_; rintro e w2 ⟨rfl, hb2⟩; replace HP := hide (HP.out.kept hb2); replace HB := hide (bt HB.out hb2); clear hb2 y)
      | (go_at_call 5; refine (HT.out _ HB.out).mono ?_; rintro e w3 ⟨rfl, hb3⟩; replace HP := hide (HP.out.kept hb3); replace HB := hide (bt HB.out hb3); clear hb3))
    have y := HP.out.cl
    go_wp2_with (first
      | (go_at_call 7; refine (HN.out _ HB.out).mono ?_; rintro e w4 ⟨rfl, hb4⟩; replace HB := hide (bt HB.out hb4); clear hb4 y)
      | (go_at_call 5; refine (HT.out _ HB.out).mono ?_; rintro e w5 ⟨rfl, hb5⟩; replace HB := hide (bt HB.out hb5); clear hb5))
    go_ret
    exact ⟨rfl, HB.out⟩
end Go.Proofs.YtnhjabiciaoocaaDoor

namespace Go.Proofs.YtnhjabiciaoocaaDoor
open Go.ChangeShapes Go.WideShapes Go.Deep Go.RowKit
theorem Tryd.cfgF : (Tryd.prog.underlying 26).map (fun d => match d with | .struct fs => fs.toList.map (fun f => (f.offset, f.type)) | _ => []) = some [(0, 23), (8, 3), (9, 23), (17, 3), (18, 3), (19, 3), (20, 3), (21, 4), (22, 24)] := by kernel_rfl
set_option maxRecDepth 100000 in
/-- an argument that is a config. -/
theorem cfg_open {H : Type} {enc : TypeId × Value → H} {W : World} {base : Nat} {spare : Nat → Bool} {held : Bool} {b0 : Nat} {v : Value} {x : DataW H} {p : List MemPlace} (h : Value.okWide Tryd.prog W .any b0 26 v) (ht : DataW.Trod enc Tryd.prog W base spare held 26 v x p) :
    ∃ c inj a bs cap, v = .agg (cfC c inj a (List.length bs) cap) ∧ bs.length ≤ cap ∧ cap ≤ maxLen ∧ Bks a bs W ∧ (a = none → bs = [] ∧ cap = 0) := by
  have hu := Tryd.underlying26
  unfold Value.okWide at h
  rw [hu] at h
  obtain ⟨cs, rfl, hsz, ts, hts, _, hc⟩ := h
  have h8 : Tryd.prog.cellsOf 26 = 23 := by kernel_rfl
  have ht8 : Tryd.prog.cellTypes Tryd.prog.depth 26 = some (List.replicate 21 3 ++ [4, 24]) := by kernel_rfl
  rw [h8] at hsz
  obtain rfl := Option.some.inj (hts.symm.trans ht8)
  have hi : ∀ i, ∃ n : Int, i < 21 → cs[i]? = some (.int .i64 n) := by
    intro i
    by_cases hi : i < 21
    · have hcs : cs[i]? = some (cs[i]'(by omega)) := Array.getElem?_eq_getElem (by omega)
      obtain ⟨u, hu, hok⟩ := hc i _ hcs
      have hu3 : u = 3 := by
        have h1 : (List.replicate 21 (3 : TypeId) ++ [4, 24])[i % 23]? = some u := hu
        rw [Nat.mod_eq_of_lt (show i < 23 by omega), List.getElem?_append_left (by rw [List.length_replicate]; exact hi), List.getElem?_replicate, if_pos hi] at h1
        exact (Option.some.inj h1).symm
      subst hu3
      have hw : Value.okWide Tryd.prog W .any b0 3 (cs[i]'(by omega)) := by
        unfold Value.okWide
        rw [Tryd.underlying3]
        exact hok
      obtain ⟨n, hn⟩ := WideShapes.okWide_int Tryd.underlying3 hw
      exact ⟨n, fun _ => by rw [hcs, hn]⟩
    · exact ⟨0, fun h => absurd h hi⟩
  obtain ⟨F, hF⟩ := Classical.axiomOfChoice hi
  obtain ⟨fuel, hf⟩ := ht
  obtain ⟨xs, m, _, _, hl, hx, hall⟩ := DataW.trod_struct hu hf
  have hFl := Tryd.cfgF
  rw [hu] at hFl
  replace hFl := Option.some.inj hFl
  obtain ⟨y7, g7⟩ := pk_field (k := 7) hFl hx hall _ _ rfl
  obtain ⟨y8, g8⟩ := pk_field (k := 8) hFl hx hall _ _ rfl
  have cb : Tryd.prog.cellsOf 4 = 1 := by kernel_rfl
  have ck : Tryd.prog.cellsOf 24 = 1 := by kernel_rfl
  rw [cb] at g7
  rw [ck] at g8
  obtain ⟨x7, e7, _⟩ := DataW.trod_bool Tryd.underlying4 g7
  have q7 := pk_one e7
  have hcs22 : cs[22]? = some (cs[22]'(by omega)) := Array.getElem?_eq_getElem (by omega)
  obtain ⟨u, hu22, hok⟩ := hc 22 _ hcs22
  obtain rfl : u = 24 := by
    have h1 : (List.replicate 21 (3 : TypeId) ++ [4, 24])[22 % 23]? = some u := hu22
    exact (Option.some.inj h1).symm
  have hw : Value.okWide Tryd.prog W .any b0 24 (cs[22]'(by omega)) := by
    unfold Value.okWide
    rw [Tryd.underlying24]
    exact hok
  obtain ⟨a0, l0, k0, hsl⟩ := okWide_slice Tryd.underlying24 hw
  have hcl : (Value.agg cs).cells.toList = cs.toList := rfl
  rw [hcl] at g8 q7
  have hl22 : (cs.toList.drop 22).take 1 = (cs[22]'(by omega)).cells.toList := by
    rw [hsl]
    have h1 : cs.toList[22]? = some (.slice a0 l0 k0) := by rw [Array.getElem?_toList, hcs22, hsl]
    have hlt : 22 < cs.toList.length := (List.getElem?_eq_some_iff.1 h1).1
    rw [List.drop_eq_getElem_cons hlt, (List.getElem?_eq_some_iff.1 h1).2]
    rfl
  rw [hl22] at g8
  have hT := g8
  obtain ⟨y8a, y8b⟩ := y8
  obtain ⟨a, bs, cap, ev, hle, hmx, hbk⟩ := backs_open2 hw ⟨_, g8⟩
  have hnone : a = none → bs = [] ∧ cap = 0 := by
    intro ha
    subst ha
    rw [ev] at hT
    rcases open_slice Tryd.underlying24 hT with ⟨hcs', _⟩ | ⟨a', len', cap', m, n, D, Pl, hcs', _⟩
    · simp [Value.cells] at hcs'
      exact ⟨hcs'.1, hcs'.2⟩
    · simp [Value.cells] at hcs'
  refine ⟨(List.range 21).map F, x7, a, bs, cap, ?_, hle, hmx, hbk, hnone⟩
  congr 1
  have hq7 : cs[21]? = some (.bool x7) := by rw [← Array.getElem?_toList]; exact q7
  have hq8 : cs[22]? = some (.slice a bs.length cap) := by rw [hcs22, ev]
  apply Array.ext_getElem?
  intro i
  by_cases h : i < 23
  · have hd : i = 0 ∨ i = 1 ∨ i = 2 ∨ i = 3 ∨ i = 4 ∨ i = 5 ∨ i = 6 ∨ i = 7 ∨ i = 8 ∨ i = 9 ∨ i = 10 ∨ i = 11 ∨ i = 12 ∨ i = 13 ∨ i = 14 ∨ i = 15 ∨ i = 16 ∨ i = 17 ∨ i = 18 ∨ i = 19 ∨ i = 20 ∨ i = 21 ∨ i = 22 := by omega
    clear hall hx hl hf hc
    rcases hd with rfl | rfl | rfl | rfl | rfl | rfl | rfl | rfl | rfl | rfl | rfl | rfl | rfl | rfl | rfl | rfl | rfl | rfl | rfl | rfl | rfl | rfl | rfl
    all_goals first
      | exact hq7
      | exact hq8
      | exact hF _ (by decide)
  · rw [Array.getElem?_eq_none (by omega), Array.getElem?_eq_none (by show 23 ≤ i; omega)]
end Go.Proofs.YtnhjabiciaoocaaDoor
