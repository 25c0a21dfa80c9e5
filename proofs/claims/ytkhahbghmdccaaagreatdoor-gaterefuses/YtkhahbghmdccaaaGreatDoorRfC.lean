/- GateRefuses, walked. -/
import Derived.Test.YtkhahbghmdccaaaGreatDoorR36
import Derived.Test.YtkhahbghmdccaaaGreatDoorRfB
import Derived.Below
import Derived.OpenShut
import Derived.Test.YtkhahbghmdccaaaGreatDoorProg
import Derived.WalkKit
import Derived.LaidEql
import Derived.BigQuiet
import Derived.Laws.AppendOwnNone
import Derived.Laws.MakeOwn
import Derived.Deep.RegionLaw
import Derived.Lib.Bytes
import Derived.Deep.MidRow
import Derived.Laws.ResultCell
import Derived.Deep.CutBlock
import Derived.Deep.QuietTactic
import Derived.OwnWalk
import Derived.Deep.RegionHeld3
import Derived.Deep.DrawnRows
import Derived.Laws.StructEq
import Derived.Maps.AppendAt
import Derived.Maps.RangeWalk
import Derived.Stop.Asserts
import Derived.RowKitTokens
import Derived.Test.YtkhahbghmdccaaaGreatDoorShelf
import Derived.Shelf.Abstract
import Derived.Lib.SliceRun
import Derived.Lib.AppendZerosOnto
import Derived.Lib.AppendZeros
import Derived.Laws.CopyOwn
import Derived.RangeFuncNested
import Derived.RangeFuncBound
import Derived.RangeFuncCalls
import Derived.RangeFuncLeaves
import Derived.RangeFuncFrom
import Derived.Shelf.RegionOpen
import Derived.OwnWalkIn
import Derived.TacticsInMore
import Derived.LoopNIn
import Derived.LoopIn
import Derived.Deep.RegionWith
import Derived.ArgAppend
import Derived.Lib.SlBytesConst
import Derived.Lib.AppendStr
import Derived.Deep.Slices
import Derived.ChangeArms
import Derived.WideShapes
import Derived.Deep.Fields
import Derived.ChangeSlices
import Derived.RowKit
namespace Go.Proofs.YtkhahbghmdccaaaGreatDoor
open Go.RowKit
set_option linter.unusedVariables false
attribute [local go_sem ↓] stl_shut cload_shut bload_shut
set_option maxRecDepth 100000 in
set_option maxHeartbeats 4000000 in
theorem grf_a (c : List Int) (inj : Bool) (ka : Option Addr) (kc : Nat) (bk : List (List Int)) (la : Option Addr) (ln lc : Nat) (ba : Option Addr) (bl bc : Nat) (four : Bool) (k from_ door : Int) (w : World) (j : Int)
    (hN : ∀ W, Below w.heap.size w W → Calls Tryz.prog 8 #[.agg (cfC c inj ka bk.length kc)] W fun e w' => e = .returned (.tuple #[.pointer none, .iface 28 (.int .i64 j)]) ∧ Below W.heap.size W w') :
    Calls Tryz.prog 5 #[.agg (cfC c inj ka bk.length kc), .slice la ln lc, .slice ba bl bc, .bool four, .int .i64 k, .int .i64 from_, .int .i64 door] w fun e w' => e = .returned (.bool true) ∧ Below w.heap.size w w' := by
  have HF := hide fact_any
  have HK := hide (And.intro (cf_new w c inj ka bk.length kc) (al_below w (.cells (cfC c inj ka bk.length kc) 26)))
  have HN := hide hN
  clear hN
  go_enter Tryz.func5, Tryz.ntmps5
  go_upto_region 1 with fail
  generalize World.alloc _ _ = W0 at HK ⊢
  go_upto_region 4 with (go_at_call 20; refine (HF.out _).mono ?_; rintro e w1 ⟨rfl, hb1⟩; replace HK := hide (And.intro (HK.out.1.kept hb1) (bt HK.out.2 hb1)); clear hb1)
  have q1 := HK.out.1.cl
  go_wp2_with (go_at_call 8; refine (HN.out _ HK.out.2).mono ?_; rintro e w2 ⟨rfl, hb2⟩; replace HK := hide (And.intro (HK.out.1.kept hb2) (bt HK.out.2 hb2)); clear hb2 q1)
  go_ret
  exact ⟨rfl, HK.out.2⟩
set_option maxRecDepth 100000 in
set_option maxHeartbeats 16000000 in
theorem grf_b (c : List Int) (inj : Bool) (ka : Option Addr) (kc : Nat) (bk : List (List Int)) (m : Nat) (la : Option Addr) (ln lc : Nat) (ba : Option Addr) (bl bc : Nat) (B : List Int) (four : Bool) (k from_ door : Int) (w : World) (hg : Laid0 w)
    (hl : ln ≤ maxLen) (hst : Sts la ln w) (hr : Row8 w ba bl bc B) (hcl : bl ≤ bc) (hcm : bc ≤ maxLen) (hk : I64 k) (hig : IG (gz0 c inj bk m))
    (hN : ∀ W, Below w.heap.size w W → Calls Tryz.prog 8 #[.agg (cfC c inj ka bk.length kc)] W fun e w' => NG W c inj bk m e w') :
    Calls Tryz.prog 5 #[.agg (cfC c inj ka bk.length kc), .slice la ln lc, .slice ba bl bc, .bool four, .int .i64 k, .int .i64 from_, .int .i64 door] w fun e w' => e = .returned (.bool true) ∧ Below w.heap.size w w' := by
  have HF := hide fact_any
  have hl' : (ln : Int) ≤ 9223372036854775807 := by unfold maxLen at hl; omega
  have HK := hide (And.intro (cf_new w c inj ka bk.length kc) (al_below w (.cells (cfC c inj ka bk.length kc) 26)))
  have HSt := hide hst
  have HN := hide hN
  have HIg := hide hig
  have HRw := hide hr
  have HCc := hide (And.intro hcl hcm)
  have HLd := hide hg
  have HKi := hide hk
  have HCf := hide (show up 4294967295 (el c 18) = true from hig.2.2.2.2.2.1)
  have HZb := hide (fun W => bd_zero W)
  unfold zero23 at HZb
  clear hst hN hig hl hr hcl hcm hg hk
  go_enter Tryz.func5, Tryz.ntmps5
  go_upto_region 1 with fail
  generalize World.alloc _ _ = wB at HK ⊢
  replace HSt := hide (HSt.out.below HK.out.2)
  have HB := hide (Below.refl wB.heap.size wB)
  go_upto_region 4 with (go_at_call 20; refine (HF.out _).mono ?_; rintro e w1 ⟨rfl, hb1⟩; replace HB := hide (bt HB.out hb1); clear hb1)
  have q1 := (HK.out.1.kept HB.out).cl
  go_upto_region 5 with (go_at_call 8; refine (HN.out _ (bt HK.out.2 HB.out)).mono ?_; rintro e w2 h2; obtain ⟨G, O, rfl, hG, -, -⟩ := NG.gh h2 HB.out; have HG := hide (show GR wB c inj G (gz0 c inj bk m) O w2 from ⟨HIg.out, gz0_tsb c inj bk m, hG⟩); clear h2 hG q1)
  generalize gz0 c inj bk m = g0 at HG
  clear HF HN HB HIg
  go_wp2
  go_loopw [18] (fun i wr => ∃ (k : Nat) (g : GS) (O : Nat → Prop), k ≤ ln ∧ k ≤ 40 ∧ i = .int .i64 k ∧ Hid (GR wB c inj G g O wr)) (fun i _ => 40 - (intOf i).toNat)
  case atStart => exact ⟨0, g0, O, by omega, by omega, rfl, HG⟩
  case round =>
    clear HG
    obtain ⟨kk, g, O, hk1, hk2, rfl, HG⟩ := hrel
    by_cases hlt : kk < ln ∧ kk < 40
    · as_aux_lemma =>
        obtain ⟨hlt1, hlt2⟩ := hlt
        have j1 : (kk : Int) < (ln : Int) := by omega
        have j2 : (kk : Int) < 40 := by omega
        obtain ⟨gs, os, rfl, hx⟩ := HSt.out (by omega)
        obtain ⟨wh', ba', bl', bc', bs0, z', x, l, cc, zs', s', d', hop', n', is', r1, r2, r3, r4⟩ := hx kk hlt1
        have HQ := hide (fun W (h : Below wB.heap.size wB W) => (show (stl (.pointer (some ⟨gs, os + kk * 29, none⟩))).run Tryz.prog W = .ok (.agg (stC3 wh' ba' bl' bc' z' x l cc s' d' hop' n' is')) W ∧ (cload (.pointer (some ⟨w.heap.size, 0, none⟩))).run Tryz.prog W = .ok (.agg (cfC c inj ka bk.length kc)) W from ⟨row_step (rng_below r1 h), (HK.out.1.kept h).cl⟩))
        have HPl := hide (fun W (h : GR wB c inj G g O W) => play_gr HCf.out h wh' ba' bl' bc' bs0 z' x l cc zs' s' d' hop' n' is' ka bk.length kc r4 (r2.1.below h.2.2.below) r2.2.1 r2.2.2 (r3.below h.2.2.below))
        clear r1 r2 r3 r4 hx
        go_upto_region 10 with fail
        have HGd := hide (HG.out.kept (show Below wr.heap.size wr wr.drew from (Below.refl _ _).drew))
        obtain ⟨q1, q2⟩ := HQ.out _ HGd.out.2.2.below
        go_region_held3 (fun W => (stl (.pointer (some ⟨gs, os + kk * 29, none⟩))).run Tryz.prog W = .ok (.agg (stC3 wh' ba' bl' bc' z' x l cc s' d' hop' n' is')) W ∧ (cload (.pointer (some ⟨w.heap.size, 0, none⟩))).run Tryz.prog W = .ok (.agg (cfC c inj ka bk.length kc)) W)
          (first
            | exact HQ.out _ HGd.out.2.2.below
            | exact HQ.out _ HG3.out.2.2.below
            | go_keep)
          (first
            | (go_at_call 15; refine (HPl.out _ HGd.out).mono ?_; rintro e w3 ⟨⟨v3, rfl⟩, g3, O3, h3⟩; have HG3 := hide h3; clear h3 q1 q2; obtain ⟨q1, q2⟩ := HQ.out _ HG3.out.2.2.below))
        clear HQ HPl HGd q1 q2 HG
        go_wp2
        go_roundw
        case rel => exact ⟨kk + 1, g3, O3, by omega, by omega, by go_num, HG3⟩
        case measure => simp [intOf]; omega
    · have hend : ¬ (kk : Int) < (ln : Int) ∨ (kk = 40 ∧ (40 : Int) < (ln : Int)) := by omega
      clear hlt
      rcases hend with hend | ⟨rfl, hend⟩
      all_goals
       as_aux_lemma =>
        have HO := hide (fun k (h : O k) => HG.out.2.2.lt h)
        go_upto_region 12 with (go_at_call 18; refine (binds_new HG.out.1 HG.out.2.2).mono ?_; rintro e w3 ⟨v3, rfl, r3, hb3⟩; have HV := hide r3; have HG3 := hide (HG.out.kept hb3); clear r3 hb3)
        clear HG HSt
        generalize wr.heap.size = b3 at HO HV
        go_upto_if 57 with fail
        go_cut [20] from 58 to 69 (fun u wx => ∃ (j : Int) (g1 : GS) (O1 : Nat → Prop), u = ev j ∧ (j ≠ 0 → j ≠ 3 → g1.bs = g.bs) ∧ Hid (GR wB c inj G g1 O1 wx) ∧ Hid (BdRow b3 wx v3 g.bs))
        case first =>
          have HRb := hide (HRw.out.below (bt HK.out.2 HG3.out.2.2.below))
          cases four
          · go_wp2_with (go_at_call 21; refine (in6_gr HG3.out HV.out HO.out HRb.out HCc.out.1 HCc.out.2).mono ?_; rintro e w4 ⟨a4, l4, c4, j, rfl, g4, O4, h4, h5, h6⟩; have H4 := hide h4; have H5 := hide h5; have H6 := hide h6; clear h4 h5 h6)
            go_meet
            exact ⟨j, g4, O4, rfl, H4.out, H5, H6⟩
          · go_wp2_with (go_at_call 24; refine (in4_gr HG3.out HV.out HO.out HRb.out HCc.out.1 HCc.out.2).mono ?_; rintro e w4 ⟨a4, l4, c4, j, rfl, g4, O4, h4, h5, h6⟩; have H4 := hide h4; have H5 := hide h5; have H6 := hide h6; clear h4 h5 h6)
            go_meet
            exact ⟨j, g4, O4, rfl, H4.out, H5, H6⟩
        case rest =>
          clear HG3 HV HO HRw HCc
          obtain ⟨j, g1, O1, rfl, h4, HG, HV⟩ := hcut
          have H4 := hide h4
          clear h4
          go_upto_region 17 with (go_at_call 16; refine (error_any j 3 _ (HLd.out.below (bt HK.out.2 HG.out.2.2.below))).mono ?_; rintro e w5 ⟨rfl, hb5⟩; replace HG := hide (HG.out.kept hb5); replace HV := hide (HV.out.same hb5); clear hb5)
          have hcase : (ev j = .nilIface) ∨ (∃ v, ev j = .iface 28 v ∧ ((j == 3) = true ∨ ((j == 3) = false ∧ g1.bs = g.bs))) := by
            by_cases h0 : j = 0
            · subst h0
              exact .inl rfl
            · refine .inr ⟨.int .i64 j, by unfold ev; rw [if_neg h0]; rfl, ?_⟩
              by_cases h3 : j = 3
              · exact .inl (by simpa using h3)
              · exact .inr ⟨by simpa using h3, H4.out h0 h3⟩
          go_cut [20, 21, 77] from 58 to 77 (fun u v x wx => ∃ bb : Bool, x = .bool bb ∧ Hid (bb = true → g1.bs = g.bs) ∧ w5 = wx)
          case first =>
            rcases hcase with e0 | ⟨v, e0, e3 | ⟨e3, hbs⟩⟩
            · rw [e0]
              go_wp2
              go_meet
              exact ⟨false, rfl, hide (fun h => by cases h), rfl⟩
            · rw [e0, e3]
              go_wp2
              go_meet
              exact ⟨false, rfl, hide (fun h => by cases h), rfl⟩
            · rw [e0, e3]
              have HBs := hide hbs
              clear hbs
              go_wp2
              go_meet
              exact ⟨true, rfl, hide (fun _ => HBs.out), rfl⟩
          case rest =>
           clear hcase H4
           obtain ⟨bb, rfl, HBb, rfl⟩ := hcut
           go_upto_if 77 with fail
           go_cut [22] from 78 to 83 (fun y wx => Hid (GR wB c inj G g1 O1 wx))
           case first =>
            cases bb
            · go_wp2
              go_meet
              exact HG
            · have hbs := HBb.out rfl
              rw [← hbs] at HV
              have HLn := hide (show g1.bs.length ≤ 1000 from Nat.le_trans HG.out.1.1.2.1 (by decide))
              clear hbs
              go_wp2_with (first
                | (go_at_call 18; refine (binds_new HG.out.1 HG.out.2.2).mono ?_; rintro e w6 ⟨v6, rfl, r6, hb6⟩; have HV6 := hide r6; replace HG := hide (HG.out.kept hb6); replace HV := hide (HV.out.same hb6); clear r6 hb6)
                | (go_at_call 17; refine (binds_same _ _ _ _ _ _ HV6.out HV.out HLn.out).mono ?_; rintro e w7 ⟨rfl, hb7⟩; replace HG := hide (HG.out.kept hb7); clear hb7))
              go_meet
              exact HG
           case rest =>
            clear HG HV HBb
            have HG := hcut
            clear hcut
            go_upto_region 24 with (first
              | (go_at_call 18; refine (binds_new HG.out.1 HG.out.2.2).mono ?_; rintro e w6 ⟨v6, rfl, r6, hb6⟩; have HO := hide (fun k (h : O1 k) => HG.out.2.2.lt h); have HV := hide r6; replace HG := hide (HG.out.kept hb6); clear r6 hb6)
              | (go_at_call 25; refine (four_any _ _).mono ?_; rintro e w7 ⟨rfl, hw⟩; rw [hw]; clear hw w7)
              | (go_at_call 26; refine (word_any _ _).mono ?_; rintro e w8 ⟨rfl, hw⟩; rw [hw]; clear hw w8))
            obtain ⟨av, cv, rfl, hrow⟩ := HV.out
            have HRow := hide hrow
            clear hrow
            by_cases hlen : g1.bs.length = 0
            · have e1 : ((g1.bs.length : Int) == 0) = true := by rw [hlen]; rfl
              go_wp2
              go_ret
              exact ⟨rfl, bt HK.out.2 HG.out.2.2.below⟩
            have e1 : ((g1.bs.length : Int) == 0) = false := by
              rw [beq_eq_false_iff_ne]
              omega
            cases hfr : fr from_
            · go_wp2
              go_ret
              exact ⟨rfl, bt HK.out.2 HG.out.2.2.below⟩
            cases hwd : wd door
            · go_wp2
              go_ret
              exact ⟨rfl, bt HK.out.2 HG.out.2.2.below⟩
            have hl128 := HG.out.1.1.2.1
            obtain ⟨p, hp, hPick⟩ := pick_any k g1.bs.length HKi.out (by omega) (by omega)
            have HPick := hide hPick
            clear hPick
            obtain ⟨gr, ro, rfl, hgr, hrg⟩ := HRow.out (by omega)
            have HBm := hide (mem_getD hp)
            have HBl := hide (fun W (hb : Below w6.heap.size w6 W) => row_bl (rng_below (hrg p hp) hb))
            have j7 : (p : Int) < (g1.bs.length : Int) := by omega
            have HHp := hide hp
            clear hgr hrg HRow hp
            generalize g1.bs.getD p [] = b at HBm HBl
            have q1 := HBl.out _ (Below.refl _ _)
            go_upto_region 27 with (first
              | (go_at_call 27; refine (HPick.out _).mono ?_; rintro e w9 ⟨rfl, hw⟩; rw [hw]; clear hw w9)
              | (refine at_storeb rfl (.tmp 25) (.tmp 107) rfl rfl (HZb.out _) b rfl ?_; intro wa pa ona; have HXa := hide pa; have HBa := hide (new_below _ ona); clear pa ona))
            clear q1 HBl HPick HZb
            have HSz := hide (fun k (h : O1 k) => Nat.lt_of_lt_of_le (HO.out k h) (Nat.le_refl _))
            replace HG := hide (HG.out.kept HBa.out)
            replace HV := hide (HV.out.same HBa.out)
            clear HBa
            generalize Array.size (World.heap _) = Bx at HXa ⊢
            have x20 := HXa.out.cell 20 (by omega)
            have x21 := HXa.out.cell 21 (by omega)
            by_cases hx0 : el b 20 = from_ ∧ el b 21 = door
            · have y1 : (el b 20 == from_) = true := by simpa using hx0.1
              have y2 : (el b 21 == door) = true := by simpa using hx0.2
              clear hx0
              go_wp2
              go_ret
              exact ⟨rfl, bt HK.out.2 HG.out.2.2.below⟩
            have hcs : ((el b 20 == from_) = false) ∨ ((el b 20 == from_) = true ∧ (el b 21 == door) = false) := by
              by_cases e : el b 20 = from_
              · exact .inr ⟨by simpa using e, by simpa using fun q => hx0 ⟨e, q⟩⟩
              · exact .inl (by simpa using e)
            have hux : up 4294967295 from_ = true := by
              unfold fr at hfr
              rw [Bool.and_eq_true, decide_eq_true_eq, decide_eq_true_eq] at hfr
              exact decide_eq_true hfr
            have huy : 0 ≤ door ∧ door ≤ 65535 := by
              unfold wd at hwd
              rw [Bool.and_eq_true, decide_eq_true_eq, decide_eq_true_eq] at hwd
              exact hwd
            have hcc : g1.c = c := HG.out.2.1.1.1
            obtain ⟨zs, hzs, hz, h4, hg4⟩ := other_none HG.out.1 HBm.out hux huy hx0 (by rw [hcc]; exact HCf.out)
            rw [hcc] at hzs
            obtain ⟨k4, N, E, hP, hE⟩ := pk4_bundle (z := [el b 0, door, el b 19, 0, 0, 0, 0]) (D := []) (s := from_) (d := el c 18) (t := 9) hux HCf.out (by decide) hz
            rw [← hzs] at hE
            have hzp : 0 < zs.length := by rw [hzs]; exact p4o_len
            have HP := hide (fun W => (show Calls Tryz.prog 29 #[.agg #[.int .i64 (el b 0), .int .i64 door, .int .i64 (el b 19), .int .i64 0, .int .i64 0, .int .i64 0, .int .i64 0, .slice none 0 0], .int .i64 from_, .int .i64 (el c 18), .int .i64 9] W fun e w' => ∃ a1 c1, e = .returned (V4.pk from_ (el c 18) 9 k4 0 a1 N c1) ∧ Row8 w' a1 N c1 E ∧ Below W.heap.size W w' from hP W none 0 (gt_no W)))
            have HE := hide hE
            have H4 := hide h4
            have HG4 := hide hg4
            have HZp := hide hzp
            have HLn := hide (show g1.bs.length ≤ 1000 from Nat.le_trans hl128 (by decide))
            have HEr := hide (fun W (hL : Laid0 W) => (show Calls Tryz.prog 16 #[ev 4, .int .i64 4] W fun e w' => e = .returned (.bool true) ∧ Below W.heap.size W w' from error_any 4 4 W hL))
            clear hux huy hcc hzs hz h4 hg4 hP hE hzp hx0 HBm hl128 hfr hwd e1 hlen
            rcases hcs with y1 | ⟨y1, y2⟩
            all_goals
              go_upto_region 29 with fail
              clear x20 x21
              have x0 := HXa.out.cell 0 (by omega)
              have x19 := HXa.out.cell 19 (by omega)
              have x18 := (HK.out.1.kept HG.out.2.2.below).c18
              go_upto_region 30 with (first
                | (go_at_call 29; refine (HP.out _).mono ?_; rintro e wb ⟨ab, cb, rfl, rb, hbb⟩; have HRb := hide rb; replace HG := hide (HG.out.kept hbb); replace HV := hide (HV.out.same hbb); clear rb hbb x0 x19 x18)
                | (go_at_call 28; refine (HE.out _ _ _ HRb.out).mono ?_; rintro e wc ⟨vc, rfl, oc, hbc⟩; obtain ⟨gc, cc, rfl, t1, t2, -, -, rc⟩ := oc.form HZp.out; have HRc := hide (And.intro rc (And.intro t1 t2)); replace HG := hide (HG.out.kept hbc); replace HV := hide (HV.out.same hbc); clear oc hbc t1 t2 rc)
                | (go_at_call 24; refine (in4_none HG.out HV.out HO.out HRc.out.1 HRc.out.2.1 HRc.out.2.2 H4.out HG4.out).mono ?_; rintro e wd ⟨ad, ld, cd, rfl, O2, h2, r2⟩; have HGd := hide h2; have HVd := hide r2; clear h2 r2))
              clear HG HV HRb HRc HP HE H4 HG4 HZp HXa HO HSz
              go_wp2_with (first
                | (go_at_call 16; refine (HEr.out _ (HLd.out.below (bt HK.out.2 HGd.out.2.2.below))).mono ?_; rintro e we ⟨rfl, hbe⟩; replace HGd := hide (HGd.out.kept hbe); replace HVd := hide (HVd.out.same hbe); clear hbe)
                | (go_at_call 18; refine (binds_new HGd.out.1 HGd.out.2.2).mono ?_; rintro e wf ⟨vf, rfl, rf, hbf⟩; have HVf := hide rf; replace HGd := hide (HGd.out.kept hbf); replace HVd := hide (HVd.out.same hbf); clear rf hbf)
                | (go_at_call 17; refine (binds_same _ _ _ _ _ _ HVf.out HVd.out HLn.out).mono ?_; rintro e wg ⟨rfl, hbg⟩; replace HGd := hide (HGd.out.kept hbg); clear hbg))
              go_ret
              exact ⟨rfl, bt HK.out.2 HGd.out.2.2.below⟩
theorem grf_walk (c : List Int) (inj : Bool) (ka : Option Addr) (kc : Nat) (bk : List (List Int)) (la : Option Addr) (ln lc : Nat) (ba : Option Addr) (bl bc : Nat) (B : List Int) (four : Bool) (k from_ door : Int) (w : World) (hg : Laid0 w) (hb : Bks ka bk w) (h1 : bk.length ≤ kc) (h2 : kc ≤ maxLen) (ha : ka = none → bk = [] ∧ kc = 0) (hst : Sts la ln w) (hl : ln ≤ maxLen) (hr : Row8 w ba bl bc B) (hcl : bl ≤ bc) (hcm : bc ≤ maxLen) (hk1 : -9223372036854775808 ≤ k) (hk2 : k ≤ 9223372036854775807) :
    Calls Tryz.prog 5 #[.agg (cfC c inj ka bk.length kc), .slice la ln lc, .slice ba bl bc, .bool four, .int .i64 k, .int .i64 from_, .int .i64 door] w fun e w' => e = .returned (.bool true) ∧ Below w.heap.size w w' := by
  rcases gnew_dich c inj ka kc bk w hb h1 h2 ha with ⟨j, hj, hN⟩ | ⟨m, hm1, hm2, hm3, hl8, hpf, hck, hN⟩
  · exact grf_a c inj ka kc bk la ln lc ba bl bc four k from_ door w j hN
  · exact grf_b c inj ka kc bk m la ln lc ba bl bc B four k from_ door w hg hl hst hr hcl hcm ⟨hk1, hk2⟩ (gz0_ig hm2 hpf hck) hN
end Go.Proofs.YtkhahbghmdccaaaGreatDoor
