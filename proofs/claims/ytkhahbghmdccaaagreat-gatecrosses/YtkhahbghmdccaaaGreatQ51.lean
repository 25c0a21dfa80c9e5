/- GateCrosses, walked: it goes there as it crosses. GateCrosses, whatever comes. -/
import Derived.Test.YtkhahbghmdccaaaGreatQ08
import Derived.Test.YtkhahbghmdccaaaGreatQ36
import Derived.Test.YtkhahbghmdccaaaGreatQ44
import Derived.Test.YtkhahbghmdccaaaGreatQ48
import Derived.Test.YtkhahbghmdccaaaGreatQ49
import Derived.Test.YtkhahbghmdccaaaGreatQ50
import Derived.Below
import Derived.OpenShut
import Derived.Test.YtkhahbghmdccaaaGreatProg
import Derived.WalkKit
import Derived.LaidEql
import Derived.BigQuiet
import Derived.Laws.AppendOwnNone
import Derived.Laws.MakeOwn
import Derived.Deep.RegionLaw
import Derived.Lib.Bytes
import Derived.Deep.MidRow
import Derived.Laws.ResultCell
import Derived.Deep.CutBlock
import Derived.Deep.QuietTactic
import Derived.OwnWalk
import Derived.Deep.RegionHeld3
import Derived.Deep.DrawnRows
import Derived.Laws.StructEq
import Derived.Maps.AppendAt
import Derived.Maps.RangeWalk
import Derived.Stop.Asserts
import Derived.RowKitTokens
import Derived.Test.YtkhahbghmdccaaaGreatShelf
import Derived.Shelf.Abstract
import Derived.Lib.SliceRun
import Derived.Lib.AppendZerosOnto
import Derived.Lib.AppendZeros
import Derived.Laws.CopyOwn
import Derived.RangeFuncNested
import Derived.RangeFuncBound
import Derived.RangeFuncCalls
import Derived.RangeFuncLeaves
import Derived.RangeFuncFrom
import Derived.Shelf.RegionOpen
import Derived.OwnWalkIn
import Derived.TacticsInMore
import Derived.LoopNIn
import Derived.LoopIn
import Derived.Deep.RegionWith
import Derived.ArgAppend
import Derived.Lib.SlBytesConst
import Derived.Lib.AppendStr
namespace Go.Proofs.YtkhahbghmdccaaaGreat
open Go.RowKit
attribute [local go_sem ↓] gload_shut hload_shut cload_shut sbu_shut pstore_shut
set_option maxRecDepth 100000 in
set_option maxHeartbeats 8000000 in
/-- it goes there as it crosses. -/
theorem gcx_c (c : List Int) (inj : Bool) (ka : Option Addr) (kc : Nat) (bk : List (List Int)) (wh : Int) (ba : Option Addr) (bl bc : Nat) (z : List Int) (a : Option Addr) (len cap : Nat) (s d : List Int) (hop n : Int) (is : Bool) (w : World) (g0 g1 : GS) (m : Nat) (zs Y4 E4 E5 E6 D z4 : List Int) (x h1 k near : Int) (N : Nat) (hg0 : g0 = gz0 c inj bk m) (hnear : el c 18 = near) (hv : eqz d (vip c) = false) (hr : Row8 w a len cap D)
    (hz4 : el z4 1 = 1024 ∧ ∀ a l c, sgC [el z4 0, el z 1, el z4 2, el z4 3, el z4 4, el z4 5, el z4 6] a l c = sgC z a l c)
    (hN : ∀ W, Below w.heap.size w W → Calls Tryz.prog 13 #[.agg (cfC c inj ka bk.length kc)] W fun e w' => NG W c inj bk m e w')
    (hS : ∀ W, Below w.heap.size w W → Calls Tryz.prog 15 #[.agg (stC3 9 none 0 0 z a len cap s d hop 0 false), .agg (cfC c inj ka bk.length kc), .slice none 0 0] W fun e w' => ∃ b l k, e = .returned (.slice b l k) ∧ (Row8 w' b l k zs ∧ l ≤ k ∧ k ≤ maxLen) ∧ Below W.heap.size W w')
    (hI6 : ∀ G a cap tv S Ot β W b l k, GC G a cap tv S Ot β g0 W → Row8 W b l k zs → l ≤ k → k ≤ maxLen → Calls Tryz.prog 16 #[.pointer (some ⟨G, 0, none⟩), .slice b l k] W fun e w' => ∃ a2 l2 c2, e = .returned (.tuple #[.slice a2 l2 c2, .nilIface]) ∧ (Row8 w' a2 l2 c2 Y4 ∧ l2 ≤ c2 ∧ c2 ≤ maxLen) ∧ GQ W G a cap tv S Ot β g0 g1 w')
    (hD : ∀ W b l q, Row8 W b l q Y4 → l ≤ q → q ≤ maxLen → Calls Tryz.prog 17 #[.slice b l q] W fun e w' => ∃ a1 c1, e = .returned (.tuple #[.agg #[.int .i64 near, .int .i64 x, .int .i64 h1, .int .i64 k, .int .i64 0, .slice a1 N c1], .nilIface]) ∧ (Row8 w' a1 N c1 E4 ∧ N ≤ c1 ∧ c1 ≤ maxLen) ∧ Below W.heap.size W w')
    (hO : ∀ W, Calls Tryz.prog 26 #[.agg (sixC d), .int .i64 (el c 17)] W fun e w' => e = .returned (.tuple #[.int .i64 x, .int .i64 0]) ∧ Below W.heap.size W w')
    (hP : ∀ W, Row8 W a len cap D → Calls Tryz.prog 28 #[.agg (sgC z a len cap), .agg (sixC s), .agg (sixC d), .int .i64 hop] W fun e w' => ∃ a1 c1, e = .returned (.agg (V6.pkC s d hop k a1 N c1)) ∧ (Row8 w' a1 N c1 E6 ∧ N ≤ c1 ∧ c1 ≤ maxLen) ∧ Below W.heap.size W w')
    (hT : ∀ W a1 c1, Row8 W a1 N c1 E6 → N ≤ c1 → c1 ≤ maxLen → Calls Tryz.prog 27 #[.agg (V6.pkC s d hop k a1 N c1), .int .i64 near, .int .i64 x] W fun e w' => ∃ a2 c2, e = .returned (.tuple #[.agg #[.int .i64 near, .int .i64 x, .int .i64 h1, .int .i64 k, .int .i64 0, .slice a2 N c2], .nilIface]) ∧ (Row8 w' a2 N c2 E5 ∧ N ≤ c2 ∧ c2 ≤ maxLen) ∧ Below W.heap.size W w')
    (hS4 : ∀ W a1 c1, Row8 W a1 N c1 E4 → N ≤ c1 → c1 ≤ maxLen → Calls Tryz.prog 18 #[.agg #[.int .i64 near, .int .i64 x, .int .i64 h1, .int .i64 k, .int .i64 0, .slice a1 N c1]] W fun e w' => ∃ a2 l2 c2, e = .returned (.tuple #[.agg (sgC z4 a2 l2 c2), .int .i64 0]) ∧ Row8 w' a2 l2 c2 D ∧ Below W.heap.size W w')
    (hS5 : ∀ W a1 c1, Row8 W a1 N c1 E5 → N ≤ c1 → c1 ≤ maxLen → Calls Tryz.prog 18 #[.agg #[.int .i64 near, .int .i64 x, .int .i64 h1, .int .i64 k, .int .i64 0, .slice a1 N c1]] W fun e w' => ∃ a2 l2 c2, e = .returned (.tuple #[.agg (sgC z a2 l2 c2), .int .i64 0]) ∧ Row8 w' a2 l2 c2 D ∧ Below W.heap.size W w') :
    Calls Tryz.prog 5 #[.agg (cfC c inj ka bk.length kc), .agg (stC3 wh ba bl bc z a len cap s d hop n is)] w fun e w' => e = .returned (.bool true) ∧ Below w.heap.size w w' := by
  have HF := hide fact_any
  have HK := hide (Kfs.start w c inj ka bk kc wh ba bl bc z a len cap s d hop n is)
  have HN := hide hN
  have HS := hide hS
  have HI := hide hI6
  have HD := hide hD
  have HO := hide hO
  have HP := hide hP
  have HT := hide hT
  have HS4 := hide hS4
  have HS5 := hide hS5
  have HV := hide hv
  have HRw := hide hr
  have H41 := hide hz4
  have HZ4 := hide (fun W => V4.zero_new W)
  have HZ7 := hide (fun W => zero_new W)
  unfold V4.zero4 at HZ4
  unfold zero7 at HZ7
  have hsb := fun W => sbu_run z a len cap s d hop W
  subst hg0
  subst hnear
  clear hN hS hI6 hD hO hP hT hS4 hS5 hv hr hz4
  go_enter Tryz.func5, Tryz.ntmps5
  go_upto_region 1 with fail
  generalize (World.alloc _ _).alloc _ = W0 at HK ⊢
  go_upto_region 4 with (go_at_call 12; refine (HF.out _).mono ?_; rintro e w1 ⟨rfl, hb1⟩; replace HK := hide (HK.out.kept hb1); clear hb1)
  have q1 := HK.out.1.cl
  go_upto_region 7 with (go_at_call 13; refine (HN.out _ HK.out.2.2).mono ?_; rintro e w2 ⟨G, a2, c2, tv, S, Ot, rfl, g2, o2, hb2⟩; have HG := hide (show OG w1 G a2 c2 tv S Ot (fun _ => 0) (gz0 c inj bk m) w2 from ⟨g2, o2, hb2⟩); have HK1 := HK; replace HK := hide (HK.out.kept hb2); clear hb2 q1 g2 o2)
  have q1 := HK.out.1.cl
  have q2 := HK.out.2.1.gl
  have q3 := HK.out.2.1.hs
  have q4 := HK.out.2.1.hd
  have q5 := HK.out.2.1.hop
  go_upto_region 8 with (first
    | (go_at_call 15; refine (HS.out _ HK.out.2.2).mono ?_; rintro e w3 ⟨b3, l3, k3, rfl, r3, hb3⟩; have HR3 := hide r3; replace HG := hide (HG.out.kept hb3); clear hb3 r3 q1 q2 q3 q4 q5)
    | (go_at_call 16; refine (HI.out _ _ _ _ _ _ _ _ _ _ _ HG.out.1 HR3.out.1 HR3.out.2.1 HR3.out.2.2).mono ?_; rintro e w4 ⟨a4, l4, c4, rfl, r4, q4⟩; obtain ⟨Ot4, β4, g4⟩ := HG.out.step q4; have HG4 := hide g4; have HR4 := hide r4; clear q4 g4 r4))
  clear HG HR3 HS HI HK
  have HK := hide (HK1.out.kept HG4.out.2.2)
  clear HK1 HG4
  have e1 := seq_run d (vip c) w4
  rw [HV.out] at e1
  have q1 := HK.out.2.1.hd
  have q2 := HK.out.1.hv
  go_upto_region 10 with fail
  clear q1 q2 e1
  go_upto_region 11 with (first
    | (go_at_call 17; refine (HD.out _ _ _ _ HR4.out.1 HR4.out.2.1 HR4.out.2.2).mono ?_; rintro e w5 ⟨a5, c5, rfl, r5, hb5⟩; have HR5 := hide r5; have HZ5 := hide (HZ4.out w5); replace HK := hide (HK.out.kept hb5); clear hb5 r5)
    | (refine V4.at_store rfl (.tmp 9) (.tmp 57) rfl rfl HZ5.out (el c 18) x h1 k 0 a5 N c5 rfl ?_; intro w6 p6 on6; replace HK := hide (HK.out.kept (new_below _ on6)); replace HR5 := hide (And.intro (HR5.out.1.below (new_below _ on6)) HR5.out.2); have HP6 := hide p6; clear p6 on6))
  clear HZ5 HR4
  generalize w5.heap.size = B5 at HP6 ⊢
  have q1 := HK.out.2.1.hd
  have q2 := HK.out.1.c17
  go_upto_region 12 with (go_at_call 26; refine (HO.out _).mono ?_; rintro e w7 ⟨rfl, hb7⟩; replace HK := hide (HK.out.kept hb7); replace HR5 := hide (And.intro (HR5.out.1.below hb7) HR5.out.2); replace HP6 := hide (HP6.out.kept hb7); clear hb7 q1 q2)
  go_upto_region 14 with fail
  obtain ⟨KX, kx, kk, kf⟩ : ∃ KX : World → Prop, KX w7 ∧ (∀ W W', Below W.heap.size W W' → KX W → KX W') ∧ (∀ W, KX W → Kfs w c inj ka bk kc wh ba bl bc z a len cap s d hop n is W ∧ V4.PkIn B5 (el c 18) x h1 k 0 a5 N c5 W ∧ Row8 W a5 N c5 E4) := ⟨fun W => Kfs w c inj ka bk kc wh ba bl bc z a len cap s d hop n is W ∧ V4.PkIn B5 (el c 18) x h1 k 0 a5 N c5 W ∧ Row8 W a5 N c5 E4, ⟨HK.out, HP6.out, HR5.out.1⟩, fun W W' hb h => ⟨h.1.kept hb, h.2.1.kept hb, h.2.2.below hb⟩, fun W h => h⟩
  have HX := hide (kk w7 w7.drew ((Below.refl _ _).drew) kx)
  have HCp := hide HR5.out.2
  have HKK := hide kk
  have HKF := hide kf
  clear kx kk kf HK HP6 HR5
  have HQ := hide (fun W (h : KX W) => (show (gload (.pointer (some ⟨w.heap.size + 1, 2, none⟩))).run Tryz.prog W = .ok (.agg (sgC z a len cap)) W ∧ (hload (.pointer (some ⟨w.heap.size + 1, 10, none⟩))).run Tryz.prog W = .ok (.agg (sixC s)) W ∧ (hload (.pointer (some ⟨w.heap.size + 1, 18, none⟩))).run Tryz.prog W = .ok (.agg (sixC d)) W ∧ W.cell? ⟨w.heap.size + 1, 26, none⟩ = some (.int .i64 hop) ∧ W.cell? ⟨w.heap.size, 18, none⟩ = some (.int .i64 (el c 18)) from ⟨(HKF.out W h).1.2.1.gl, (HKF.out W h).1.2.1.hs, (HKF.out W h).1.2.1.hd, (HKF.out W h).1.2.1.hop, (HKF.out W h).1.1.c18⟩))
  obtain ⟨q1, q2, q3, q4, q5⟩ := HQ.out _ HX.out
  go_cut [10, 13] from 10 to 88 (fun u v wx => u = .nilIface ∧ (∃ B a9 c9, v = .pointer (some ⟨B, 0, none⟩) ∧ Hid (V4.PkIn B (el c 18) x h1 k 0 a9 N c9 wx) ∧ Hid (Row8 wx a9 N c9 E5 ∧ N ≤ c9 ∧ c9 ≤ maxLen)) ∧ Hid (KX wx))
  case first =>
    go_region_held3 (fun W => (gload (.pointer (some ⟨w.heap.size + 1, 2, none⟩))).run Tryz.prog W = .ok (.agg (sgC z a len cap)) W ∧ (hload (.pointer (some ⟨w.heap.size + 1, 10, none⟩))).run Tryz.prog W = .ok (.agg (sixC s)) W ∧ (hload (.pointer (some ⟨w.heap.size + 1, 18, none⟩))).run Tryz.prog W = .ok (.agg (sixC d)) W ∧ W.cell? ⟨w.heap.size + 1, 26, none⟩ = some (.int .i64 hop) ∧ W.cell? ⟨w.heap.size, 18, none⟩ = some (.int .i64 (el c 18)))
      (first
        | exact HQ.out _ HX.out
        | exact HQ.out _ (HKK.out _ _ (al_below _ _) HX.out)
        | exact HQ.out _ (HKK.out _ _ HB8.out HX.out)
        | exact HQ.out _ (HKK.out _ _ (bt HB8.out (al_below _ _)) HX.out)
        | exact HQ.out _ (HKK.out _ _ HB9.out HX.out)
        | exact HQ.out _ (HKK.out _ _ (bt HB9.out (al_below _ _)) HX.out)
        | exact HQ.out _ HXz.out
        | go_keep)
      (first
        | (go_at_call 28; refine (HP.out _ (HRw.out.below (HKF.out _ HX.out).1.2.2)).mono ?_; rintro e w8 ⟨a8, c8, rfl, r8, hb8⟩; have HB8 := hide hb8; have HR8 := hide r8; clear hb8 r8 q1 q2 q3 q4 q5; obtain ⟨q1, q2, q3, q4, q5⟩ := HQ.out _ (HKK.out _ _ HB8.out HX.out))
        | (go_at_call 28; refine (HP.out _ (HRw.out.below (HKF.out _ (HKK.out _ _ (al_below _ _) HX.out)).1.2.2)).mono ?_; rintro e w8 ⟨a8, c8, rfl, r8, hb8⟩; have HB8 := hide (bt (al_below _ _) hb8); have HZ8 := hide (show V4.PkIn w7.heap.size 0 0 0 0 0 none 0 0 w8 from (HZ4.out w7.drew).kept hb8); have HR8 := hide r8; clear hb8 r8 q1 q2 q3 q4 q5; obtain ⟨q1, q2, q3, q4, q5⟩ := HQ.out _ (HKK.out _ _ HB8.out HX.out))
        | (go_at_call 27; refine (HT.out _ _ _ HR8.out.1 HR8.out.2.1 HR8.out.2.2).mono ?_; rintro e w9 ⟨a9, c9, rfl, r9, hb9⟩; have HZ9 := hide (HZ8.out.kept hb9); obtain ⟨wz, hst, pz, onz⟩ := HZ9.out.held (el c 18) x h1 k 0 a9 N c9; have HB9 := hide (bt HB8.out hb9); have HXz := hide (HKK.out _ _ (onz.below HB9.out (Nat.le_refl _)) HX.out); have HRz := hide (And.intro (Row8.pastx onz HZ9.out.no8 r9.1) r9.2); have HPz := hide pz; clear hb9 r9 pz onz q1 q2 q3 q4 q5; obtain ⟨q1, q2, q3, q4, q5⟩ := HQ.out _ (HKK.out _ _ HB9.out HX.out))
        | (go_at_call 27; refine (HT.out _ _ _ (HR8.out.1.below (al_below _ _)) HR8.out.2.1 HR8.out.2.2).mono ?_; rintro e w9 ⟨a9, c9, rfl, r9, hb9⟩; have HZ9 := hide ((HZ4.out w8).kept hb9); obtain ⟨wz, hst, pz, onz⟩ := HZ9.out.held (el c 18) x h1 k 0 a9 N c9; have HB9 := hide (bt (bt HB8.out (al_below _ _)) hb9); have HXz := hide (HKK.out _ _ (onz.below HB9.out HB8.out.size) HX.out); have HRz := hide (And.intro (Row8.pastx onz HZ9.out.no8 r9.1) r9.2); have HPz := hide pz; clear hb9 r9 pz onz q1 q2 q3 q4 q5; obtain ⟨q1, q2, q3, q4, q5⟩ := HQ.out _ (HKK.out _ _ HB9.out HX.out))
        | (go_at_call 27; refine (HT.out _ _ _ HR8.out.1 HR8.out.2.1 HR8.out.2.2).mono ?_; rintro e w9 ⟨a9, c9, rfl, r9, hb9⟩; obtain ⟨wz, hst, pz, onz⟩ := (HZ4.out w9).held (el c 18) x h1 k 0 a9 N c9; have HB9 := hide (bt HB8.out hb9); have HXz := hide (HKK.out _ _ (onz.below (bt HB9.out (al_below _ _)) HB9.out.size) HX.out); have HRz := hide (And.intro (Row8.pastx onz (HZ4.out w9).no8 (r9.1.below (al_below _ _))) r9.2); have HPz := hide pz; clear hb9 r9 pz onz q1 q2 q3 q4 q5; obtain ⟨q1, q2, q3, q4, q5⟩ := HQ.out _ (HKK.out _ _ HB9.out HX.out)))
    all_goals
      clear q1 q2 q3 q4 q5
      go_wp2_with fail
      go_meet
      exact ⟨rfl, ⟨_, _, _, rfl, HPz, HRz⟩, HXz⟩
  case rest =>
    obtain ⟨rfl, ⟨Bz, a9, c9, rfl, HPz, HRz⟩, HXz⟩ := hcut
    have HX := HXz
    clear q1 q2 q3 q4 q5 HQ HP HT HN HD HO HZ4 HF HV hsb
    go_upto_region 16 with (first
      | (refine V4.at_load rfl (.tmp 9) rfl rfl (HKF.out _ HXz.out).2.1 ?_; unfold V4.pk)
      | (go_at_call 18; refine (HS4.out _ _ _ (HKF.out _ HXz.out).2.2 HCp.out.1 HCp.out.2).mono ?_; rintro e wa ⟨aa, la, ca, rfl, ra, hba⟩; have HZa := hide (HZ7.out wa); have HBa := hide hba.size; replace HXz := hide (HKK.out _ _ hba HXz.out); replace HPz := hide (HPz.out.kept hba); replace HRz := hide (And.intro (HRz.out.1.below hba) HRz.out.2); have HRa := hide ra; clear hba ra)
      | (refine at_store rfl (.tmp 14) (.tmp 92) rfl rfl HZa.out z4 aa la ca rfl ?_; intro wd pc onc; replace HXz := hide (HKK.out _ _ (new_below _ onc) HXz.out); replace HPz := hide (HPz.out.kept (new_below _ onc)); replace HRz := hide (And.intro (HRz.out.1.below (new_below _ onc)) HRz.out.2); replace HRa := hide (HRa.out.below (new_below _ onc)); have HSa := hide pc; clear pc onc))
    have HLa := hide (show w.heap.size < wa.heap.size from Nat.lt_of_lt_of_le (HKF.out _ HX.out).1.1.lt HBa.out)
    clear HZa HX HBa
    generalize wa.heap.size = Ba at HSa HLa ⊢
    go_upto_region 17 with (first
      | (refine V4.at_load rfl (.tmp 13) rfl rfl HPz.out ?_; unfold V4.pk)
      | (go_at_call 18; refine (HS5.out _ _ _ HRz.out.1 HRz.out.2.1 HRz.out.2.2).mono ?_; rintro e wb ⟨ab, lb, cb, rfl, rb, hbb⟩; have HZb := hide (HZ7.out wb); replace HXz := hide (HKK.out _ _ hbb HXz.out); replace HPz := hide (HPz.out.kept hbb); replace HRa := hide (HRa.out.below hbb); replace HSa := hide (HSa.out.kept hbb); have HLb := hide (show Ba < wb.heap.size from HSa.out.lt); have HRb := hide rb; clear hbb rb)
      | (refine at_store rfl (.tmp 15) (.tmp 97) rfl rfl HZb.out z ab lb cb rfl ?_; intro we pd ond; replace HXz := hide (HKK.out _ _ (new_below _ ond) HXz.out); replace HPz := hide (HPz.out.kept (new_below _ ond)); replace HRa := hide (HRa.out.below (new_below _ ond)); replace HRb := hide (HRb.out.below (new_below _ ond)); replace HSa := hide (HSa.out.kept (new_below _ ond)); have HSb := hide pd; clear pd ond))
    clear HZb HRz HS4 HS5
    generalize wb.heap.size = Bb at HSb HLb ⊢
    obtain ⟨p0, p1, p2, p3, p4, p5⟩ := (HKF.out _ HXz.out).2.1.all
    obtain ⟨r0, r1, r2, r3, r4, r5⟩ := HPz.out.all
    go_upto_region 19 with fail
    clear p0 p1 p2 p3 p4 p5 r0 r1 r2 r3 r4 r5 HPz
    have c1 := HSa.out.c1
    rw [H41.out.1] at c1
    go_upto_region 20 with fail
    have f1 := HSa.out.frz 1
    have y1 := HSb.out.c1
    obtain ⟨p9, on9⟩ := HSa.out.set1 (el z 1)
    have HS9 := hide p9
    have HSc := hide (show SgIn Bb z ab lb cb _ from (on9.2.2.2.2 _ (by have := HLb.out; omega)).trans HSb.out)
    have HB9 := hide (on9.below (HKF.out _ HXz.out).1.2.2 (by have := HLa.out; omega))
    have HR9 := hide (Row8.pastx on9 HSa.out.no8 HRa.out)
    have HRc := hide (Row8.pastx on9 HSa.out.no8 HRb.out)
    clear p9 on9
    go_upto_region 21 with fail
    clear c1 f1 y1 HSa HSb HRa HRb HXz
    generalize World.setCell _ _ _ = W9 at HS9 HSc HB9 HR9 HRc ⊢
    have q1 := HS9.out.gl
    rw [H41.out.2] at q1
    have q2 := HSc.out.gl
    go_wp2_with (go_at_call 29; refine (segs_same z aa ab la lb ca cb D _ HR9.out HRc.out).mono ?_; rintro e wf ⟨rfl, hbf⟩; have HBf := hide (bt HB9.out hbf); clear hbf)
    go_ret
    exact ⟨rfl, HBf.out⟩
end Go.Proofs.YtkhahbghmdccaaaGreat

namespace Go.Proofs.YtkhahbghmdccaaaGreat
open Go.RowKit
theorem gcx_walk (c : List Int) (inj : Bool) (ka : Option Addr) (kc : Nat) (bk : List (List Int)) (wh : Int) (ba : Option Addr) (bl bc : Nat) (z : List Int) (a : Option Addr) (len cap : Nat) (D s d : List Int) (hop n : Int) (is : Bool) (w : World) (hb : Bks ka bk w) (h1 : bk.length ≤ kc) (h2 : kc ≤ maxLen) (ha : ka = none → bk = [] ∧ kc = 0) (hr : Row8 w a len cap D) :
    Calls Tryz.prog 5 #[.agg (cfC c inj ka bk.length kc), .agg (stC3 wh ba bl bc z a len cap s d hop n is)] w fun e w' => e = .returned (.bool true) ∧ Below w.heap.size w w' := by
  rcases gnew_dich c inj ka kc bk w hb h1 h2 ha with ⟨j, hj, hN⟩ | ⟨m, hm1, hm2, hm3, hl8, hpf, hck, hN⟩
  · exact gcx_a c inj ka kc bk wh ba bl bc z a len cap s d hop n is w j hN
  · obtain ⟨zs, hzs, hS⟩ := lsent_row z a len cap s d hop c inj ka bk.length kc D w hr
    have hig : IG (gz0 c inj bk m) := gz0_ig hm2 hpf hck
    have hI := fun G x kc' tv S Ot β W b l k (h : GC G x kc' tv S Ot β (gz0 c inj bk m) W) (r : Row8 W b l k zs) (e1 : l ≤ k) (e2 : k ≤ maxLen) => in6_any G x kc' tv S Ot β _ b l k zs W h hig.1 hig.2.1 hig.2.2 r e1 e2
    by_cases hB : (g6 (gz0 c inj bk m) zs).1 ≠ 0 ∨ ((g6 (gz0 c inj bk m) zs).1 = 0 ∧ eqz d (vip c) = true)
    · refine gcx_b c inj ka kc bk wh ba bl bc z a len cap s d hop n is w _ (g6 (gz0 c inj bk m) zs).2.2 m zs (g6 (gz0 c inj bk m) zs).1 rfl hB hN hS ?_
      intro G x kc' tv S Ot β W b l k h r e1 e2
      exact (hI G x kc' tv S Ot β W b l k h r e1 e2).mono fun e w' ⟨a2, l2, c2, e3, _, e4⟩ => ⟨a2, l2, c2, e3, e4⟩
    · have hE : (g6 (gz0 c inj bk m) zs).1 = 0 := Classical.not_not.1 fun h => hB (.inl h)
      have hv : eqz d (vip c) = false := by
        cases e : eqz d (vip c)
        · rfl
        · exact absurd (.inr ⟨hE, e⟩) hB
      rcases hzs with rfl | ⟨hs, hd, ht, hz, rfl⟩
      · rw [g6_nil] at hE
        exact absurd hE (by decide : ¬ (5 : Int) = 0)
      · have h2' : ¬ hop < 2 := fun h => by
          rw [g6_p6o _ hs hd ht hz, if_pos h] at hE
          exact absurd hE (by decide : ¬ (7 : Int) = 0)
        obtain ⟨f, hf⟩ : ∃ f, f = fl5 (el z 0) s (el z 1) d (el z 2) := ⟨_, rfl⟩
        have hg := g6_p6o (gz0 c inj bk m) hs hd ht hz
        rw [if_neg h2', ← hf] at hg
        have hvf : eqz (dst f) (vip c) = false := by rw [hf]; exact hv
        have hdf : Ok6 (dst f) := by rw [hf]; exact fl5_dst hd
        have hfo : okf f = true := by rw [hf]; exact fl5_ok hz hs hd
        have f18 : el f 18 = el z 2 := by rw [hf]; rfl
        rcases cross_g6s (inj := inj) (bk := bk) hm1 hvf hop (z7 z) D with h | ⟨ho2, hgs⟩
        · rw [hg] at hE
          exact absurd hE h
        · have hlp : Em.LongP (el c 17) := hig.2.2.2.2.1
          have hun : up 4294967295 (el c 18) = true := hig.2.2.2.2.2.1
          have hOut := fun W => rout_oto (dst f) (el c 17) W hdf hlp
          obtain ⟨x, hx⟩ : ∃ x, x = (oto (dst f) (el c 17)).1 := ⟨_, rfl⟩
          rw [ho2, ← hx] at hOut
          rw [← hx, f18] at hgs
          have hz4 : Okg [el z 0, 1024, el z 2, el z 3, el z 4, el z 5, el z 6] D.length := ⟨⟨(by decide : (0 : Int) ≤ 1024), (by decide : (1024 : Int) ≤ 65535)⟩, hz.2.1, hz.2.2.1, hz.2.2.2⟩
          have hE6 : g6 (gz0 c inj bk m) (p6o s d hop z D) = (0, p4o (el c 18) x (hop - 1) [el z 0, 1024, el z 2, el z 3, el z 4, el z 5, el z 6] D, GPl c inj bk m f x) := hg.trans hgs
          have hig1 : IG (GPl c inj bk m f x) := by
            have h := (g6_ig hig (p6o_oct hs hd ht hz hr.2.2.1)).1
            rw [hE6] at h
            exact h
          have hux : up 4294967295 x = true := by
            have h : fr x = true := (hig1.1.2.2.1.1 (mkb f 1024 x (el f 18) 0) (List.mem_singleton.2 rfl)).2.2.2.1
            unfold fr at h
            rw [Bool.and_eq_true, decide_eq_true_eq, decide_eq_true_eq] at h
            exact decide_eq_true h
          have htt := up_true ht
          have ht1 : up 255 (hop - 1) = true := decide_eq_true (by omega)
          obtain ⟨N, hN0⟩ : ∃ N, hn (el z 0) + D.length = N := ⟨_, rfl⟩
          have hni : ((hn (el z 0) : Nat) + (D.length : Int)) = (N : Int) := by omega
          have h20 := hn_le (el z 0)
          have h300 := hz.2.2.1
          have hlen : D.length = len := hr.1
          have hp4 : p4o (el c 18) x (hop - 1) [el z 0, 1024, el z 2, el z 3, el z 4, el z 5, el z 6] D = V4.bys (el c 18) x (hop - 1) (el z 0) 0 (eb [el z 0, 1024, el z 2, el z 3, el z 4, el z 5, el z 6] (o4 (el c 18) x (el z 0) N) D) := by
            unfold p4o
            rw [show el [el z 0, 1024, el z 2, el z 3, el z 4, el z 5, el z 6] 0 = el z 0 from rfl, hni]
          have hel : (eb [el z 0, 1024, el z 2, el z 3, el z 4, el z 5, el z 6] (o4 (el c 18) x (el z 0) N) D).length = N := by rw [eb_len]; exact hN0
          have hok4 : V4.Okp (el c 18) x (hop - 1) (el z 0) 0 := okp4z hun hux ht1 hz
          have hok6 : V6.Okp s d hop (el z 0) := okp6 hs hd ht hz
          have hBo : Body (el z 0) (o6 s d (el z 0) N) N (eb z (o6 s d (el z 0) N) D) z D := body_of hz rfl rfl (by rw [eb_len, hN0]) (eb_oct _ _ _ hr.2.2.1 (o6_in _ _ _ _ hs hd))
          refine gcx_c c inj ka kc bk wh ba bl bc z a len cap s d hop n is w _ (GPl c inj bk m f x) m (p6o s d hop z D) (p4o (el c 18) x (hop - 1) [el z 0, 1024, el z 2, el z 3, el z 4, el z 5, el z 6] D) (eb [el z 0, 1024, el z 2, el z 3, el z 4, el z 5, el z 6] (o4 (el c 18) x (el z 0) N) D) (eb z (o4 (el c 18) x (el z 0) N) D) (eb z (o6 s d (el z 0) N) D) D [el z 0, 1024, el z 2, el z 3, el z 4, el z 5, el z 6] x (hop - 1) (el z 0) (el c 18) N rfl rfl hv hr ⟨rfl, fun _ _ _ => rfl⟩ hN hS ?_ ?_ ?_ ?_ ?_ ?_ ?_
          · intro G a' cap' tv S Ot β W b l k hG r e1 e2
            have := hI G a' cap' tv S Ot β W b l k hG r e1 e2
            rw [hE6] at this
            exact this
          · intro W b l q r e1 e2
            rw [hp4] at r
            refine (V4.decode_bysb b l q (el c 18) x (hop - 1) (el z 0) 0 _ W r e1 e2 hok4 (by rw [hel]; omega)).mono ?_
            rintro e w' ⟨a', l', c', e3, e4, e5⟩
            have hl' : N = l' := hel.symm.trans e4.1.1
            subst hl'
            exact ⟨a', c', e3, e4, e5⟩
          · intro W
            rw [hf] at hOut
            exact hOut W
          · intro W r
            exact packed6_own z a len cap D s d hop W (hlen ▸ hz) r hs hd N (hlen ▸ hN0) (by omega)
          · intro W a1 c1 r e1 e2
            refine (twice_four s d hop (el z 0) N _ z D hok6 (by omega) (el c 18) x hun hux (by omega) hBo a1 c1 W r e1 e2).mono ?_
            rintro e w' ⟨g, c2, e3, e4, e5, e6, e7⟩
            exact ⟨_, c2, e3, ⟨e6, e4, e5⟩, e7⟩
          · intro W a1 c1 r e1 e2
            exact seg4_eb [el z 0, 1024, el z 2, el z 3, el z 4, el z 5, el z 6] D (el c 18) x (hop - 1) 0 N a1 c1 W hz4 hok4 hN0.symm r e1 e2
          · intro W a1 c1 r e1 e2
            exact seg4_eb z D (el c 18) x (hop - 1) 0 N a1 c1 W hz hok4 hN0.symm r e1 e2
end Go.Proofs.YtkhahbghmdccaaaGreat
