/- GateApart, walked. GateApart, whatever comes. -/
import Derived.Test.YtkhahbghmdccaaaGreatU47
import Derived.Test.YtkhahbghmdccaaaGreatU49
import Derived.Below
import Derived.OpenShut
import Derived.Test.YtkhahbghmdccaaaGreatProg
import Derived.WalkKit
import Derived.LaidEql
import Derived.BigQuiet
import Derived.Laws.AppendOwnNone
import Derived.Laws.MakeOwn
import Derived.Deep.RegionLaw
import Derived.Lib.Bytes
import Derived.Deep.MidRow
import Derived.Laws.ResultCell
import Derived.Deep.CutBlock
import Derived.Deep.QuietTactic
import Derived.OwnWalk
import Derived.Deep.RegionHeld3
import Derived.Deep.DrawnRows
import Derived.Laws.StructEq
import Derived.Maps.AppendAt
import Derived.Maps.RangeWalk
import Derived.Stop.Asserts
import Derived.RowKitTokens
import Derived.Test.YtkhahbghmdccaaaGreatShelf
import Derived.Shelf.Abstract
import Derived.Lib.SliceRun
import Derived.Lib.AppendZerosOnto
import Derived.Lib.AppendZeros
import Derived.Laws.CopyOwn
import Derived.RangeFuncNested
import Derived.RangeFuncBound
import Derived.RangeFuncCalls
import Derived.RangeFuncLeaves
import Derived.RangeFuncFrom
import Derived.Shelf.RegionOpen
import Derived.OwnWalkIn
import Derived.TacticsInMore
import Derived.LoopNIn
import Derived.LoopIn
import Derived.Deep.RegionWith
import Derived.ArgAppend
import Derived.Lib.SlBytesConst
import Derived.Lib.AppendStr
import Derived.Deep.Slices
import Derived.ChangeArms
import Derived.WideShapes
import Derived.Deep.Fields
import Derived.ChangeSlices
namespace Go.Proofs.YtkhahbghmdccaaaGreat
open Go.RowKit
set_option linter.unusedVariables false
attribute [local go_sem ↓] stl_shut cload_shut fload_shut feq_shut hload_shut
set_option maxRecDepth 100000 in
set_option maxHeartbeats 4000000 in
theorem gap_a (c : List Int) (inj : Bool) (ka : Option Addr) (kn kc : Nat) (a : Option Addr) (len cap : Nat) (w : World) (j : Int)
    (hN : ∀ W, Below w.heap.size w W → Calls Tryz.prog 13 #[.agg (cfC c inj ka kn kc)] W fun e w' => e = .returned (.tuple #[.pointer none, .iface 47 (.int .i64 j)]) ∧ Below W.heap.size W w') :
    Calls Tryz.prog 4 #[.agg (cfC c inj ka kn kc), .slice a len cap] w fun e w' => e = .returned (.bool true) ∧ Below w.heap.size w w' := by
  have HF := hide fact_any
  have HK := hide (And.intro (cf_new w c inj ka kn kc) (al_below w (.cells (cfC c inj ka kn kc) 26)))
  have HN := hide hN
  clear hN
  go_enter Tryz.func4, Tryz.ntmps4
  go_upto_region 1 with fail
  generalize World.alloc _ _ = W0 at HK ⊢
  go_upto_region 4 with (go_at_call 12; refine (HF.out _).mono ?_; rintro e w1 ⟨rfl, hb1⟩; replace HK := hide (And.intro (HK.out.1.kept hb1) (bt HK.out.2 hb1)); clear hb1)
  have q1 := HK.out.1.cl
  go_wp2_with (go_at_call 13; refine (HN.out _ HK.out.2).mono ?_; rintro e w2 ⟨rfl, hb2⟩; replace HK := hide (And.intro (HK.out.1.kept hb2) (bt HK.out.2 hb2)); clear hb2 q1)
  go_ret
  exact ⟨rfl, HK.out.2⟩
theorem bk_at4 {g off : Nat} {x : List Int} {w : World} (h : w.rangeAt g off (bkC x).toList) : w.cell? ⟨g, off + 1, none⟩ = some (.int .i64 (el x 1)) ∧ w.cell? ⟨g, off + 2, none⟩ = some (.int .i64 (el x 2)) ∧ w.cell? ⟨g, off + 3, none⟩ = some (.int .i64 (el x 3)) := ⟨h 1 _ rfl, h 2 _ rfl, h 3 _ rfl⟩
set_option maxRecDepth 100000 in
set_option maxHeartbeats 16000000 in
theorem gap_b (c : List Int) (inj : Bool) (ka : Option Addr) (kc : Nat) (bk : List (List Int)) (m : Nat) (a : Option Addr) (len cap : Nat) (w : World) (hb : Bks ka bk w) (h8 : bk.length ≤ 8) (hl : len ≤ maxLen) (hst : Sts a len w) (hm3 : el c 20 = m) (hm16 : m ≤ 16) (hig : IG (gz0 c inj bk m)) (hv : Em.inF (vip c) (pfx c) (el c 17) = false)
    (hN : ∀ W, Below w.heap.size w W → Calls Tryz.prog 13 #[.agg (cfC c inj ka bk.length kc)] W fun e w' => NG W c inj bk m e w') :
    Calls Tryz.prog 4 #[.agg (cfC c inj ka bk.length kc), .slice a len cap] w fun e w' => e = .returned (.bool true) ∧ Below w.heap.size w w' := by
  have HF := hide fact_any
  have hl' : (len : Int) ≤ 9223372036854775807 := by unfold maxLen at hl; omega
  have h8' : (bk.length : Int) ≤ 8 := by omega
  have HK := hide (And.intro (cf_new w c inj ka bk.length kc) (al_below w (.cells (cfC c inj ka bk.length kc) 26)))
  have HBk := hide hb
  have HSt := hide hst
  have HN := hide hN
  have HIg := hide hig
  have HV := hide hv
  have HCf := hide (show up 4294967295 (el c 18) = true from hig.2.2.2.2.2.1)
  have HLp := hide (show Em.LongP (el c 17) from hig.2.2.2.2.1)
  obtain ⟨bb, hbb⟩ : ∃ bb, el c 20 = bb := ⟨_, rfl⟩
  have HM := hide (And.intro hbb (show bb = (m : Int) ∧ m ≤ 16 from ⟨by rw [← hbb]; exact hm3, hm16⟩))
  clear hb hst hN hig hv hm3 hm16 hl h8 hbb
  go_enter Tryz.func4, Tryz.ntmps4
  go_upto_region 1 with fail
  generalize World.alloc _ _ = wB at HK ⊢
  replace HBk := hide (HBk.out.below HK.out.2)
  replace HSt := hide (HSt.out.below HK.out.2)
  have HB := hide (Below.refl wB.heap.size wB)
  go_upto_region 4 with (go_at_call 12; refine (HF.out _).mono ?_; rintro e w1 ⟨rfl, hb1⟩; replace HB := hide (bt HB.out hb1); clear hb1)
  have q1 := (HK.out.1.kept HB.out).cl
  go_upto_region 5 with (go_at_call 13; refine (HN.out _ (bt HK.out.2 HB.out)).mono ?_; rintro e w2 h2; obtain ⟨G, O, rfl, hG, -, -⟩ := NG.gh h2 HB.out; have HG := hide (show GA wB c bk m G (gz0 c inj bk m) O w2 from ⟨HIg.out, ⟨gz0_ai c inj bk m, rfl⟩, hG⟩); clear h2 hG q1)
  generalize gz0 c inj bk m = g0 at HG
  clear HF HN HB HIg
  go_wp2
  go_loopw [8] (fun i wr => ∃ (k : Nat) (g : GS) (O : Nat → Prop), k ≤ len ∧ k ≤ 40 ∧ i = .int .i64 k ∧ Hid (GA wB c bk m G g O wr)) (fun i _ => 40 - (intOf i).toNat)
  case atStart => exact ⟨0, g0, O, by omega, by omega, rfl, HG⟩
  case round =>
    clear HG
    obtain ⟨k, g, O, hk1, hk2, rfl, HG⟩ := hrel
    by_cases hlt : k < len ∧ k < 40
    · obtain ⟨hlt1, hlt2⟩ := hlt
      have j1 : (k : Int) < (len : Int) := by omega
      have j2 : (k : Int) < 40 := by omega
      obtain ⟨gs, os, rfl, hx⟩ := HSt.out (by omega)
      obtain ⟨wh, ba, bl, bc, bs0, z, x, l, cc, zs, s, d, hop, n, is, r1, r2, r3, r4⟩ := hx k hlt1
      have HQ := hide (fun W (h : Below wB.heap.size wB W) => (show (stl (.pointer (some ⟨gs, os + k * 29, none⟩))).run Tryz.prog W = .ok (.agg (stC3 wh ba bl bc z x l cc s d hop n is)) W ∧ (cload (.pointer (some ⟨w.heap.size, 0, none⟩))).run Tryz.prog W = .ok (.agg (cfC c inj ka bk.length kc)) W from ⟨row_step (rng_below r1 h), (HK.out.1.kept h).cl⟩))
      have HPl := hide (fun W (h : GA wB c bk m G g O W) => play_ga HV.out HCf.out h wh ba bl bc bs0 z x l cc zs s d hop n is inj ka bk.length kc r4 (r2.1.below h.2.2.below) r2.2.1 r2.2.2 (r3.below h.2.2.below))
      clear r1 r2 r3 r4 hx
      go_upto_region 10 with fail
      have HGd := hide (HG.out.kept (show Below wr.heap.size wr wr.drew from (Below.refl _ _).drew))
      obtain ⟨q1, q2⟩ := HQ.out _ HGd.out.2.2.below
      go_region_held3 (fun W => (stl (.pointer (some ⟨gs, os + k * 29, none⟩))).run Tryz.prog W = .ok (.agg (stC3 wh ba bl bc z x l cc s d hop n is)) W ∧ (cload (.pointer (some ⟨w.heap.size, 0, none⟩))).run Tryz.prog W = .ok (.agg (cfC c inj ka bk.length kc)) W)
        (first
          | exact HQ.out _ HGd.out.2.2.below
          | exact HQ.out _ HG3.out.2.2.below
          | go_keep)
        (first
          | (go_at_call 14; refine (HPl.out _ HGd.out).mono ?_; rintro e w3 ⟨⟨v3, rfl⟩, g3, O3, h3⟩; have HG3 := hide h3; clear h3 q1 q2; obtain ⟨q1, q2⟩ := HQ.out _ HG3.out.2.2.below))
      clear HQ HPl HGd q1 q2 HG
      go_upto_region 12 with (go_at_call 24; refine (binds_ga HG3.out).mono ?_; rintro e w4 ⟨v4, rfl, br, hb4⟩; have HG4 := hide (HG3.out.kept hb4); obtain ⟨ra, rc, rfl, hr⟩ := br; replace hr := hide hr; clear hb4)
      have HOne := hide (fun k (hk : k < g3.bs.length) => HG4.out.one hk)
      have HTwo := hide (fun j k (hj : j < k) (hk : k < g3.bs.length) => HG4.out.two hj hk)
      have h128 : (g3.bs.length : Int) ≤ 128 := by have := HG4.out.1.1.2.1; omega
      have HNw := hide (fun W (h : Below w4.heap.size w4 W) => now_ga (HG4.out.kept h))
      have HBw := hide HG4.out.2.2.below
      obtain ⟨bs, hbs⟩ : ∃ bs, g3.bs = bs := ⟨_, rfl⟩
      rw [hbs] at HOne HTwo h128 hr ⊢
      generalize g3.now = nw at HOne HNw
      clear hbs HG3
      go_wp2
      go_loopw [10] (fun t wr2 => ∃ q : Nat, q ≤ bs.length ∧ t = .int .i64 q ∧ Hid (Below w4.heap.size w4 wr2)) (fun t _ => bs.length - (intOf t).toNat)
      case atStart => exact ⟨0, by omega, rfl, hide (Below.refl _ _)⟩
      case round =>
        obtain ⟨q, hq, rfl, HB⟩ := hrel
        by_cases hql : q < bs.length
        · have i1 : (q : Int) < (bs.length : Int) := by omega
          obtain ⟨gr, oo, rfl, ⟨-, hgl⟩, hrow⟩ := hr.out (by omega)
          have HRow := hide (show ∀ W, Below w4.heap.size w4 W → ∀ k, k < bs.length → W.rangeAt gr (oo + k * 23) (bdC (bs.getD k [])).toList from fun W hW k hk j u hu => by rw [hW.cell (p := ⟨gr, oo + k * 23 + j, none⟩) hgl]; exact hrow k hk j u hu)
          obtain ⟨b, hbq⟩ : ∃ b, bs.getD q [] = b := ⟨_, rfl⟩
          have HO := hide (HOne.out q hql)
          have HR := hide (fun W hW => HRow.out W hW q hql)
          rw [hbq] at HO HR
          have HBQ := hide hbq
          obtain ⟨y19, hy19⟩ : ∃ y, el b 19 = y := ⟨_, rfl⟩
          obtain ⟨y22, hy22⟩ : ∃ y, el b 22 = y := ⟨_, rfl⟩
          have HY := hide hy19
          have hpo := HO.out
          have c19 := row_cell (HR.out _ HB.out) 19 (by omega)
          have c22 := row_cell (HR.out _ HB.out) 22 (by omega)
          rw [hy19] at c19
          rw [hy22] at c22
          have cC := (HK.out.1.kept (bt HBw.out HB.out)).c20
          rw [HM.out.1] at cC
          obtain ⟨M8, hM8⟩ : ∃ M8, bb * 8 = M8 := ⟨_, rfl⟩
          obtain ⟨U, hU⟩ : ∃ U, 1024 + M8 = U := ⟨_, rfl⟩
          have hmm := HM.out.2
          have wm : IntKind.i64.wrap (bb * 8) = M8 := by rw [IntKind.wrap_i64]; omega
          have wa : IntKind.i64.wrap (1024 + M8) = U := by rw [IntKind.wrap_i64]; omega
          obtain ⟨o1, o2, o3, -⟩ := hpo
          rw [hy19] at o1 o2
          rw [hy22] at o3
          have d1 : decide (y19 < 1024) = false := decide_eq_false (by omega)
          have d2 : decide (U ≤ y19) = false := decide_eq_false (by omega)
          have d3 : decide (nw < y22) = false := decide_eq_false (by omega)
          have HBn := hide (fun n => drn HB.out n)
          have HO12 := hide (And.intro o1 (show y19 < 2048 by omega))
          clear hM8 hU hmm o1 o2 o3 hy19 hy22 hbq hrow
          go_upto_region 15 with fail
          go_quiet (first | (go_at_call 25; refine Calls.quiet_of_same (HNw.out _ (HBn.out _))))
          replace HB := hide (HBn.out nq)
          clear c19 c22 cC wm wa d1 d2 d3 HBn
          generalize wr.drewN nq = w5 at HB ⊢
          go_wp2
          go_loopw [11] (fun t wr3 => ∃ p : Nat, p ≤ q ∧ t = .int .i64 p ∧ Hid (Below w4.heap.size w4 wr3)) (fun t _ => q - (intOf t).toNat)
          case atStart => exact ⟨0, by omega, rfl, HB⟩
          case round =>
            clear HB
            obtain ⟨p, hp, rfl, HB⟩ := hrel
            by_cases hpq : p < q
            · as_aux_lemma =>
                have i2 : (p : Int) < (q : Int) := by omega
                have i3 : (p : Int) < (bs.length : Int) := by omega
                obtain ⟨x2, hx2⟩ : ∃ x, bs.getD p [] = x := ⟨_, rfl⟩
                have HT := HTwo.out p q hpq hql
                have HP := hide (HRow.out _ HB.out p (by omega))
                have HPO := (HOne.out p (by omega))
                rw [hx2, HBQ.out] at HT
                rw [hx2] at HP HPO
                obtain ⟨x19, hx19⟩ : ∃ y, el x2 19 = y := ⟨_, rfl⟩
                have c1 := row_cell HP.out 19 (by omega)
                have c2 := row_cell (HR.out _ HB.out) 19 (by omega)
                rw [hx19] at c1
                rw [HY.out] at c2
                obtain ⟨t1, t2, t3⟩ := HT
                rw [hx19, HY.out] at t1 t3
                obtain ⟨dx, hdx⟩ : ∃ y, x19.tdiv 8 = y := ⟨_, rfl⟩
                obtain ⟨dy, hdy⟩ : ∃ y, y19.tdiv 8 = y := ⟨_, rfl⟩
                have hpo1 := HPO.1
                have hpo2 := HPO.2.1
                rw [hx19] at hpo1 hpo2
                have hmm := HM.out.2
                have wd1 : IntKind.i64.wrap (x19.tdiv 8) = dx := by rw [IntKind.wrap_i64, ← hdx, Int.tdiv_eq_ediv_of_nonneg (by omega)]; omega
                have wd2 : IntKind.i64.wrap (y19.tdiv 8) = dy := by have := HO12.out; rw [IntKind.wrap_i64, ← hdy, Int.tdiv_eq_ediv_of_nonneg (by omega)]; omega
                have e1 : ∀ n, (fload (.pointer (some ⟨gr, oo + p * 23, none⟩))).run Tryz.prog (wr.drewN n) = .ok (.agg (flC x2)) (wr.drewN n) := fun n => row_fl (w := wr.drewN n) (fun j u hu => HP.out j u hu)
                have e2 : ∀ n, (fload (.pointer (some ⟨gr, oo + q * 23, none⟩))).run Tryz.prog (wr.drewN n) = .ok (.agg (flC b)) (wr.drewN n) := fun n => row_fl (w := wr.drewN n) (fun j u hu => HR.out _ HB.out j u hu)
                have e3 : ∀ n, (hload (.pointer (some ⟨gr, oo + p * 23 + 1, none⟩))).run Tryz.prog (wr.drewN n) = .ok (.agg (sixC (cli x2))) (wr.drewN n) := fun n => row_cli (w := wr.drewN n) (fun j u hu => HP.out j u hu)
                have e4 : ∀ n, (hload (.pointer (some ⟨gr, oo + q * 23 + 1, none⟩))).run Tryz.prog (wr.drewN n) = .ok (.agg (sixC (cli b))) (wr.drewN n) := fun n => row_cli (w := wr.drewN n) (fun j u hu => HR.out _ HB.out j u hu)
                have ef : ∀ n, (feq (.agg (flC x2)) (.agg (flC b))).run Tryz.prog (wr.drewN n) = .ok false (wr.drewN n) := fun n => by
                  show (Op.equalIn 10000 61 (.agg (flC x2)) (.agg (flC b))).run Tryz.prog (wr.drewN n) = _
                  rw [eq_flows, t2]
                have HBn := hide (fun n => drn HB.out n)
                clear HPO hpo1 hpo2 hmm t2 hx2 hx19
                cases fd : (dx == dy)
                case false =>
                  clear t3 hdx hdy e3 e4
                  go_upto_region 20 with fail
                  go_quiet (fail)
                  go_wp2
                  go_roundw
                  case rel => exact ⟨p + 1, by omega, by go_num, hide (HBn.out _)⟩
                  case measure => simp [intOf]; omega
                case true =>
                  have t4 := t3 (by rw [hdx, hdy]; simpa using fd)
                  have es : ∀ n, (Op.equalIn 10000 23 (.agg (sixC (cli x2))) (.agg (sixC (cli b)))).run Tryz.prog (wr.drewN n) = .ok true (wr.drewN n) := fun n => by rw [seq_run, t4]
                  clear t3 hdx hdy t4
                  go_upto_region 20 with fail
                  go_quiet (fail)
                  go_wp2
                  go_roundw
                  case rel => exact ⟨p + 1, by omega, by go_num, hide (HBn.out _)⟩
                  case measure => simp [intOf]; omega
            · as_aux_lemma =>
                have i2 : ¬ (p : Int) < (q : Int) := by omega
                go_upto_region 22 with fail
                have e1 : ∀ n, (hload (.pointer (some ⟨gr, oo + q * 23 + 10, none⟩))).run Tryz.prog (wr.drewN n) = .ok (.agg (sixC (dst b))) (wr.drewN n) := fun n => row_dst (w := wr.drewN n) (fun j u hu => HR.out _ HB.out j u hu)
                have e2 : ∀ n, (hload (.pointer (some ⟨w.heap.size, 0, none⟩))).run Tryz.prog (wr.drewN n) = .ok (.agg (sixC (vip c))) (wr.drewN n) := fun n => (HK.out.1.kept (bt HBw.out (drn HB.out n))).hv
                have HBn := hide (fun n => drn HB.out n)
                have hAB := HO.out.2.2.2.1
                rcases hAB with ⟨ab1, ⟨y, hy, y1, y2, y3⟩, ab3⟩ | ⟨ab1, ab2, ab3⟩
                · have es : ∀ n, (Op.equalIn 10000 23 (.agg (sixC (dst b))) (.agg (sixC (vip c)))).run Tryz.prog (wr.drewN n) = .ok true (wr.drewN n) := fun n => by rw [seq_run, ab1]
                  obtain ⟨i0, hi0, rfl⟩ := List.getElem_of_mem hy
                  obtain ⟨b20, hb20⟩ : ∃ y, el b 20 = y := ⟨_, rfl⟩
                  obtain ⟨b21, hb21⟩ : ∃ y, el b 21 = y := ⟨_, rfl⟩
                  have HI0 := hide hi0
                  have H20 := hide hb20
                  have H21 := hide hb21
                  have H18 := hide ab3
                  have HYY := hide (show el (bk.getD i0 []) 1 = b20 ∧ el (bk.getD i0 []) 2 = b21 ∧ 0 < el (bk.getD i0 []) 3 by rw [getD_at hi0, ← hb20, ← hb21]; exact ⟨y1, y2, y3⟩)
                  clear y1 y2 y3 hy ab1 ab3 hb20 hb21 hi0
                  go_quiet (fail)
                  replace HB := hide (HBn.out nq)
                  clear e1 e2 es HBn
                  generalize wr.drewN nq = w6 at HB ⊢
                  go_wp2
                  go_loopw [12, 13] (fun u t wr4 => ∃ (j : Nat) (tb : Bool), j ≤ bk.length ∧ t = .int .i64 j ∧ u = .bool tb ∧ Hid (i0 < j → tb = true) ∧ Hid (Below w4.heap.size w4 wr4)) (fun _ t _ => bk.length - (intOf t).toNat)
                  case atStart => exact ⟨0, false, by omega, rfl, rfl, hide (fun h => absurd h (by omega)), HB⟩
                  case round =>
                    clear HB
                    obtain ⟨j, tb, hj, rfl, rfl, HRl, HB⟩ := hrel
                    have q1 := (HK.out.1.kept (bt HBw.out HB.out)).c22
                    have HBn := hide (fun n => drn HB.out n)
                    by_cases hlt : j < bk.length
                    · have jl : (j : Int) < (bk.length : Int) := by omega
                      obtain ⟨gb, ob, ekb, -, hrow2⟩ := (HBk.out.below (bt HBw.out HB.out)) (by omega)
                      subst ekb
                      obtain ⟨z1, z2, z3⟩ := bk_at4 (hrow2 j hlt)
                      have c20 := row_cell (HR.out _ HB.out) 20 (by omega)
                      have c21 := row_cell (HR.out _ HB.out) 21 (by omega)
                      rw [H20.out] at c20
                      rw [H21.out] at c21
                      have HSm := hide (show i0 = j → el (bk.getD j []) 1 = b20 ∧ el (bk.getD j []) 2 = b21 ∧ 0 < el (bk.getD j []) 3 from fun e => e ▸ HYY.out)
                      clear hrow2
                      generalize el (bk.getD j []) 1 = u1 at z1 HSm
                      generalize el (bk.getD j []) 2 = u2 at z2 HSm
                      generalize el (bk.getD j []) 3 = u3 at z3 HSm
                      cases tb
                      case true =>
                        go_upto_region 27 with fail
                        go_quiet (fail)
                        go_wp2
                        go_roundw
                        case rel => exact ⟨j + 1, true, by omega, by go_num, rfl, hide (fun _ => rfl), hide (HBn.out _)⟩
                        case measure => simp [intOf]; omega
                      case false =>
                        cases f1 : (u1 == b20)
                        case false =>
                          have HL := hide (show i0 < j + 1 → false = true from fun e => if e' : i0 < j then HRl.out e' else absurd (HSm.out (by omega)).1 (by simpa using f1))
                          go_upto_region 27 with fail
                          go_quiet (fail)
                          go_wp2
                          go_roundw
                          case rel => exact ⟨j + 1, false, by omega, by go_num, rfl, HL, hide (HBn.out _)⟩
                          case measure => simp [intOf]; omega
                        case true =>
                          cases f2 : (u2 == b21)
                          case false =>
                            have HL := hide (show i0 < j + 1 → false = true from fun e => if e' : i0 < j then HRl.out e' else absurd (HSm.out (by omega)).2.1 (by simpa using f2))
                            go_upto_region 27 with fail
                            go_quiet (fail)
                            go_wp2
                            go_roundw
                            case rel => exact ⟨j + 1, false, by omega, by go_num, rfl, HL, hide (HBn.out _)⟩
                            case measure => simp [intOf]; omega
                          case true =>
                            cases f3 : decide (0 < u3)
                            case false =>
                              have HL := hide (show i0 < j + 1 → false = true from fun e => if e' : i0 < j then HRl.out e' else absurd (HSm.out (by omega)).2.2 (by simpa using f3))
                              go_upto_region 27 with fail
                              go_quiet (fail)
                              go_wp2
                              go_roundw
                              case rel => exact ⟨j + 1, false, by omega, by go_num, rfl, HL, hide (HBn.out _)⟩
                              case measure => simp [intOf]; omega
                            case true =>
                              go_upto_region 27 with fail
                              go_quiet (fail)
                              go_wp2
                              go_roundw
                              case rel => exact ⟨j + 1, true, by omega, by go_num, rfl, hide (fun _ => rfl), hide (HBn.out _)⟩
                              case measure => simp [intOf]; omega
                    · have jl : ¬ (j : Int) < (bk.length : Int) := by omega
                      cases tb
                      case false => exact absurd (HRl.out (by have := HI0.out; omega)) (by decide)
                      case true =>
                        have c18 := row_cell (HR.out _ HB.out) 18 (by omega)
                        rw [H18.out] at c18
                        have c8 := (HK.out.1.kept (bt HBw.out HB.out)).c8
                        generalize el c 8 = v8 at c18 c8
                        go_upto_region 28 with fail
                        go_quiet (fail)
                        go_wp2
                        go_roundw
                        case rel => exact ⟨q + 1, by omega, by go_num, hide (HBn.out _)⟩
                        case measure => simp [intOf]; omega
                · have es : ∀ n, (Op.equalIn 10000 23 (.agg (sixC (dst b))) (.agg (sixC (vip c)))).run Tryz.prog (wr.drewN n) = .ok false (wr.drewN n) := fun n => by rw [seq_run, ab1]
                  obtain ⟨b20, hb20⟩ : ∃ y, el b 20 = y := ⟨_, rfl⟩
                  obtain ⟨b18, hb18⟩ : ∃ y, el b 18 = y := ⟨_, rfl⟩
                  rw [hb20] at ab2
                  rw [hb18] at ab3
                  have HOut := hide (fun W => rout_oto (dst b) (el c 17) W (okf_dst HO.out.2.2.2.2) HLp.out)
                  rw [ab2] at HOut
                  have H20 := hide hb20
                  have H18 := hide hb18
                  have H21 := hide ab3
                  clear ab1 ab2 ab3 hb20 hb18
                  go_quiet (fail)
                  replace HB := hide (HBn.out nq)
                  clear e1 e2 es HBn
                  generalize wr.drewN nq = w6 at HB ⊢
                  have HQ := hide (fun W (h : Below w4.heap.size w4 W) => (show (hload (.pointer (some ⟨gr, oo + q * 23 + 10, none⟩))).run Tryz.prog W = .ok (.agg (sixC (dst b))) W ∧ W.cell? ⟨w.heap.size, 17, none⟩ = some (.int .i64 (el c 17)) from ⟨row_dst (HR.out _ h), (HK.out.1.kept (bt HBw.out h)).c17⟩))
                  go_upto_region 30 with fail
                  have HBd := hide (show Below w4.heap.size w4 w6.drew from HB.out.drew)
                  obtain ⟨q1, q2⟩ := HQ.out _ HBd.out
                  go_region_held3 (fun W => (hload (.pointer (some ⟨gr, oo + q * 23 + 10, none⟩))).run Tryz.prog W = .ok (.agg (sixC (dst b))) W ∧ W.cell? ⟨w.heap.size, 17, none⟩ = some (.int .i64 (el c 17)))
                    (first
                      | exact HQ.out _ HBd.out
                      | exact HQ.out _ HB7.out
                      | go_keep)
                    (first
                      | (go_at_call 26; refine (HOut.out _).mono ?_; rintro e w7 ⟨rfl, hb7⟩; have HB7 := hide (HBd.out.trans (hb7.mono HBd.out.size)); clear hb7 q1 q2; obtain ⟨q1, q2⟩ := HQ.out _ HB7.out))
                  clear q1 q2 HQ HBd HB HOut
                  have c20 := row_cell (HR.out _ HB7.out) 20 (by omega)
                  have c21 := row_cell (HR.out _ HB7.out) 21 (by omega)
                  have c18 := row_cell (HR.out _ HB7.out) 18 (by omega)
                  rw [H20.out] at c20
                  rw [H21.out] at c21
                  rw [H18.out] at c18
                  have HBn := hide (fun n => drn HB7.out n)
                  go_upto_region 31 with fail
                  go_quiet (fail)
                  go_wp2
                  go_roundw
                  case rel => exact ⟨q + 1, by omega, by go_num, hide (HBn.out _)⟩
                  case measure => simp [intOf]; omega
        · obtain rfl : bs.length = q := by omega
          go_wp2
          go_roundw
          case rel => exact ⟨k + 1, g3, O3, by omega, by omega, by go_num, hide (HG4.out.kept HB.out)⟩
          case measure => simp [intOf]; omega
    · have hend : ¬ (k : Int) < (len : Int) ∨ (k = 40 ∧ (40 : Int) < (len : Int)) := by omega
      clear hlt
      rcases hend with hend | ⟨rfl, hend⟩
      all_goals
        go_wp2
        go_ret
        exact ⟨rfl, bt HK.out.2 HG.out.2.2.below⟩
end Go.Proofs.YtkhahbghmdccaaaGreat

namespace Go.Proofs.YtkhahbghmdccaaaGreat
open Go.RowKit
set_option linter.unusedVariables false
theorem gap_walk (c : List Int) (inj : Bool) (ka : Option Addr) (kc : Nat) (bk : List (List Int)) (a : Option Addr) (len cap : Nat) (w : World) (hb : Bks ka bk w) (h1 : bk.length ≤ kc) (h2 : kc ≤ maxLen) (ha : ka = none → bk = [] ∧ kc = 0) (hst : Sts a len w) (hl : len ≤ maxLen) :
    Calls Tryz.prog 4 #[.agg (cfC c inj ka bk.length kc), .slice a len cap] w fun e w' => e = .returned (.bool true) ∧ Below w.heap.size w w' := by
  rcases gnew_dich c inj ka kc bk w hb h1 h2 ha with ⟨j, hj, hN⟩ | ⟨m, hm1, hm2, hm3, hl8, hpf, hck, hN⟩
  · exact gap_a c inj ka bk.length kc a len cap w j hN
  · exact gap_b c inj ka kc bk m a len cap w hb hl8 hl hst hm3 hm2 (gz0_ig hm2 hpf hck) (cko_vip hck) hN
end Go.Proofs.YtkhahbghmdccaaaGreat
