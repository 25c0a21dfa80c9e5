/- GateBack, walked. GateBack, whatever comes. -/
import Derived.Test.YtkhahbghmdccaaaGreatB47
import Derived.Test.YtkhahbghmdccaaaGreatB49
import Derived.Test.YtkhahbghmdccaaaGreatB50
import Derived.Below
import Derived.OpenShut
import Derived.Test.YtkhahbghmdccaaaGreatProg
import Derived.WalkKit
import Derived.LaidEql
import Derived.BigQuiet
import Derived.Laws.AppendOwnNone
import Derived.Laws.MakeOwn
import Derived.Deep.RegionLaw
import Derived.Lib.Bytes
import Derived.Deep.MidRow
import Derived.Laws.ResultCell
import Derived.Deep.CutBlock
import Derived.Deep.QuietTactic
import Derived.OwnWalk
import Derived.Deep.RegionHeld3
import Derived.Deep.DrawnRows
import Derived.Laws.StructEq
import Derived.Maps.AppendAt
import Derived.Maps.RangeWalk
import Derived.Stop.Asserts
import Derived.RowKitTokens
import Derived.Test.YtkhahbghmdccaaaGreatShelf
import Derived.Shelf.Abstract
import Derived.Lib.SliceRun
import Derived.Lib.AppendZerosOnto
import Derived.Lib.AppendZeros
import Derived.Laws.CopyOwn
import Derived.RangeFuncNested
import Derived.RangeFuncBound
import Derived.RangeFuncCalls
import Derived.RangeFuncLeaves
import Derived.RangeFuncFrom
import Derived.Shelf.RegionOpen
import Derived.OwnWalkIn
import Derived.TacticsInMore
import Derived.LoopNIn
import Derived.LoopIn
import Derived.Deep.RegionWith
import Derived.ArgAppend
import Derived.Lib.SlBytesConst
import Derived.Lib.AppendStr
import Derived.Deep.Slices
import Derived.ChangeArms
import Derived.WideShapes
import Derived.Deep.Fields
import Derived.ChangeSlices
import Derived.RowKit
namespace Go.Proofs.YtkhahbghmdccaaaGreat
open Go.RowKit
set_option linter.unusedVariables false
def GB (wB : World) (c : List Int) (inj : Bool) (G : Nat) (g : GS) (O : Nat → Prop) (W : World) : Prop := IG g ∧ SBI c inj g ∧ GH wB G g O W
theorem GB.kept {wB : World} {c : List Int} {inj : Bool} {G : Nat} {g : GS} {O : Nat → Prop} {W W' : World} (h : GB wB c inj G g O W) (hb : Below W.heap.size W W') : GB wB c inj G g O W' := ⟨h.1, h.2.1, h.2.2.kept hb⟩
theorem play_gb {wB : World} {c : List Int} {inj : Bool} {G : Nat} {g : GS} {O : Nat → Prop} {W : World} (hc : up 4294967295 (el c 18) = true) (h : GB wB c inj G g O W)
    (wh : Int) (ba : Option Addr) (bl bc : Nat) (B z : List Int) (a : Option Addr) (len cap : Nat) (D s d : List Int) (hop n : Int) (is : Bool) (ka : Option Addr) (kn kc : Nat) (hn : I64 n) (rb : Row8 W ba bl bc B) (e1 : bl ≤ bc) (e2 : bc ≤ maxLen) (hr : Row8 W a len cap D) :
    Calls Tryz.prog 14 #[.pointer (some ⟨G, 0, none⟩), .agg (stC3 wh ba bl bc z a len cap s d hop n is), .agg (cfC c inj ka kn kc)] W fun e w' => (∃ v, e = .returned v) ∧ ∃ g' O', GB wB c inj G g' O' w' := by
  obtain ⟨h1, h2, h3⟩ := h
  refine (play_inv (Inv := SBI c inj) (fun g zs hg ho h => g6_sbi h zs) (fun g zs hg ho h => g4_sbi h zs) (fun g n hg h => gtk_sbi h n) (fun g id u hg h => gmk_sbi h id _) (fun g id u hg h => gmk_sbi h id _) wh ba bl bc B z a len cap D s d hop n is c inj ka kn kc hn hc h1 h2 h3 rb e1 e2 hr).mono ?_
  rintro e w' ⟨q1, g', q2, q3, O', q4, _⟩
  exact ⟨q1, g', O', q2, q3, q4⟩
theorem SgIn.set5 {B : Nat} {z : List Int} {a : Option Addr} {len cap : Nat} {w : World} (p : SgIn B z a len cap w) (q : Int) : SgIn B [el z 0, el z 1, el z 2, el z 3, el z 4, q, el z 6] a len cap (w.setCell ⟨B, 5, none⟩ (.int .i64 q)) ∧ Only B w (w.setCell ⟨B, 5, none⟩ (.int .i64 q)) := by
  rw [setCell_eq_setRow w B 5 _ _ (0, 0) _ p]
  exact ⟨setRow_heap w B _ _ _ (0, 0) p, only_setRow _ _ _⟩
attribute [local go_sem ↓] stl_shut gload_shut hload_shut cload_shut sbu_shut
set_option maxRecDepth 100000 in
set_option maxHeartbeats 4000000 in
theorem gbk_a (c : List Int) (inj : Bool) (ka : Option Addr) (kc : Nat) (bk : List (List Int)) (la : Option Addr) (ln lc : Nat) (wh : Int) (ba : Option Addr) (bl bc : Nat) (z : List Int) (a : Option Addr) (len cap : Nat) (s d : List Int) (hop n : Int) (is : Bool) (a3 : Option Addr) (l3 c3 : Nat) (w : World) (j : Int)
    (hN : ∀ W, Below w.heap.size w W → Calls Tryz.prog 13 #[.agg (cfC c inj ka bk.length kc)] W fun e w' => e = .returned (.tuple #[.pointer none, .iface 47 (.int .i64 j)]) ∧ Below W.heap.size W w') :
    Calls Tryz.prog 3 #[.agg (cfC c inj ka bk.length kc), .slice la ln lc, .agg (stC3 wh ba bl bc z a len cap s d hop n is), .slice a3 l3 c3] w fun e w' => e = .returned (.bool true) ∧ Below w.heap.size w w' := by
  have HF := hide fact_any
  have HK := hide (Kfs.start w c inj ka bk kc wh ba bl bc z a len cap s d hop n is)
  have HN := hide hN
  clear hN
  go_enter Tryz.func3, Tryz.ntmps3
  go_upto_region 1 with fail
  generalize (World.alloc _ _).alloc _ = W0 at HK ⊢
  go_upto_region 4 with (go_at_call 12; refine (HF.out _).mono ?_; rintro e w1 ⟨rfl, hb1⟩; replace HK := hide (HK.out.kept hb1); clear hb1)
  have q1 := HK.out.1.cl
  go_wp2_with (go_at_call 13; refine (HN.out _ HK.out.2.2).mono ?_; rintro e w2 ⟨rfl, hb2⟩; replace HK := hide (HK.out.kept hb2); clear hb2 q1)
  go_ret
  exact ⟨rfl, HK.out.2.2⟩
set_option maxRecDepth 100000 in
set_option maxHeartbeats 16000000 in
theorem gbk_b (c : List Int) (inj : Bool) (ka : Option Addr) (kc : Nat) (bk : List (List Int)) (m : Nat) (la : Option Addr) (ln lc : Nat) (wh : Int) (ba : Option Addr) (bl bc : Nat) (z : List Int) (a : Option Addr) (len cap : Nat) (D s d : List Int) (hop n : Int) (is : Bool) (a3 : Option Addr) (c3 : Nat) (data zs : List Int) (w : World)
    (hl : ln ≤ maxLen) (hst : Sts la ln w) (hr : Row8 w a len cap D) (hr3 : Row8 w a3 data.length c3 data) (hd3 : (data.length : Int) ≤ 9223372036854775807) (hig : IG (gz0 c inj bk m)) (hop1 : zs ≠ [] → IntKind.i64.wrap (hop - 1) = hop - 1)
    (hz3 : zs ≠ [] → 0 ≤ el z 3 ∧ el z 3 ≤ 4294967295 ∧ 0 ≤ el z 5 ∧ el z 5 ≤ 31 ∧ D.length ≤ 300)
    (hN : ∀ W, Below w.heap.size w W → Calls Tryz.prog 13 #[.agg (cfC c inj ka bk.length kc)] W fun e w' => NG W c inj bk m e w')
    (hS : ∀ W, Below w.heap.size w W → Calls Tryz.prog 15 #[.agg (stC3 9 none 0 0 z a len cap s d hop 0 false), .agg (cfC c inj ka bk.length kc), .slice none 0 0] W fun e w' => ∃ b l k, e = .returned (.slice b l k) ∧ (Row8 w' b l k zs ∧ l ≤ k ∧ k ≤ maxLen) ∧ Below W.heap.size W w')
    (hR : ∀ g, IG g → SBI c inj g → (g6 g zs).1 ≠ 0 ∨ ((g6 g zs).1 = 0 ∧ ((300 : Int) < (data.length : Int))) ∨ ((g6 g zs).1 = 0 ∧ zs ≠ [] ∧ (data.length : Int) ≤ 300 ∧ BKD c inj s d z D hop data (g6 g zs).2.1 (g6 g zs).2.2)) :
    Calls Tryz.prog 3 #[.agg (cfC c inj ka bk.length kc), .slice la ln lc, .agg (stC3 wh ba bl bc z a len cap s d hop n is), .slice a3 data.length c3] w fun e w' => e = .returned (.bool true) ∧ Below w.heap.size w w' := by
  have HF := hide fact_any
  have hl' : (ln : Int) ≤ 9223372036854775807 := by unfold maxLen at hl; omega
  have HK := hide (Kfs.start w c inj ka bk kc wh ba bl bc z a len cap s d hop n is)
  have HSt := hide hst
  have HN := hide hN
  have HIg := hide hig
  have HS := hide hS
  have HR := hide hR
  have HRw := hide hr
  have HR3 := hide hr3
  have HHop := hide hop1
  have HZ3 := hide hz3
  have hsb := fun W => sbu_run z a len cap s d hop W
  have HCf := hide (show up 4294967295 (el c 18) = true from hig.2.2.2.2.2.1)
  have HZ4 := hide (fun W => V4.zero_new W)
  have HZ6 := hide (fun W => V6.zero_new W)
  have HZ7 := hide (fun W => zero_new W)
  unfold V4.zero4 at HZ4
  unfold V6.zero6 at HZ6
  unfold zero7 at HZ7
  clear hst hN hig hl hS hR hr hr3 hop1 hz3
  go_enter Tryz.func3, Tryz.ntmps3
  go_upto_region 1 with fail
  generalize (World.alloc _ _).alloc _ = wB at HK ⊢
  replace HSt := hide (HSt.out.below HK.out.2.2)
  have HB := hide (Below.refl wB.heap.size wB)
  go_upto_region 4 with (go_at_call 12; refine (HF.out _).mono ?_; rintro e w1 ⟨rfl, hb1⟩; replace HB := hide (bt HB.out hb1); clear hb1)
  have q1 := (HK.out.kept HB.out).1.cl
  go_upto_region 5 with (go_at_call 13; refine (HN.out _ (bt HK.out.2.2 HB.out)).mono ?_; rintro e w2 h2; obtain ⟨G, O, rfl, hG, -, -⟩ := NG.gh h2 HB.out; have HG := hide (show GB wB c inj G (gz0 c inj bk m) O w2 from ⟨HIg.out, gz0_sbi c inj bk m, hG⟩); clear h2 hG q1)
  generalize gz0 c inj bk m = g0 at HG
  clear HF HN HB HIg
  go_wp2
  go_loopw [12] (fun i wr => ∃ (k : Nat) (g : GS) (O : Nat → Prop), k ≤ ln ∧ k ≤ 40 ∧ i = .int .i64 k ∧ Hid (GB wB c inj G g O wr)) (fun i _ => 40 - (intOf i).toNat)
  case atStart => exact ⟨0, g0, O, by omega, by omega, rfl, HG⟩
  case round =>
    clear HG
    obtain ⟨k, g, O, hk1, hk2, rfl, HG⟩ := hrel
    by_cases hlt : k < ln ∧ k < 40
    · as_aux_lemma =>
        obtain ⟨hlt1, hlt2⟩ := hlt
        have j1 : (k : Int) < (ln : Int) := by omega
        have j2 : (k : Int) < 40 := by omega
        obtain ⟨gs, os, rfl, hx⟩ := HSt.out (by omega)
        obtain ⟨wh', ba', bl', bc', bs0, z', x, l, cc, zs', s', d', hop', n', is', r1, r2, r3, r4⟩ := hx k hlt1
        have HQ := hide (fun W (h : Below wB.heap.size wB W) => (show (stl (.pointer (some ⟨gs, os + k * 29, none⟩))).run Tryz.prog W = .ok (.agg (stC3 wh' ba' bl' bc' z' x l cc s' d' hop' n' is')) W ∧ (cload (.pointer (some ⟨w.heap.size, 0, none⟩))).run Tryz.prog W = .ok (.agg (cfC c inj ka bk.length kc)) W from ⟨row_step (rng_below r1 h), (HK.out.kept h).1.cl⟩))
        have HPl := hide (fun W (h : GB wB c inj G g O W) => play_gb HCf.out h wh' ba' bl' bc' bs0 z' x l cc zs' s' d' hop' n' is' ka bk.length kc r4 (r2.1.below h.2.2.below) r2.2.1 r2.2.2 (r3.below h.2.2.below))
        clear r1 r2 r3 r4 hx HR HS
        go_upto_region 10 with fail
        have HGd := hide (HG.out.kept (show Below wr.heap.size wr wr.drew from (Below.refl _ _).drew))
        obtain ⟨q1, q2⟩ := HQ.out _ HGd.out.2.2.below
        go_region_held3 (fun W => (stl (.pointer (some ⟨gs, os + k * 29, none⟩))).run Tryz.prog W = .ok (.agg (stC3 wh' ba' bl' bc' z' x l cc s' d' hop' n' is')) W ∧ (cload (.pointer (some ⟨w.heap.size, 0, none⟩))).run Tryz.prog W = .ok (.agg (cfC c inj ka bk.length kc)) W)
          (first
            | exact HQ.out _ HGd.out.2.2.below
            | exact HQ.out _ HG3.out.2.2.below
            | go_keep)
          (first
            | (go_at_call 14; refine (HPl.out _ HGd.out).mono ?_; rintro e w3 ⟨⟨v3, rfl⟩, g3, O3, h3⟩; have HG3 := hide h3; clear h3 q1 q2; obtain ⟨q1, q2⟩ := HQ.out _ HG3.out.2.2.below))
        clear HQ HPl HGd q1 q2 HG
        go_wp2
        go_roundw
        case rel => exact ⟨k + 1, g3, O3, by omega, by omega, by go_num, HG3⟩
        case measure => simp [intOf]; omega
    · have hend : ¬ (k : Int) < (ln : Int) ∨ (k = 40 ∧ (40 : Int) < (ln : Int)) := by omega
      clear hlt
      have HKr := hide (HK.out.kept HG.out.2.2.below)
      have q1 := HKr.out.1.cl
      have q2 := HKr.out.2.1.gl
      have q3 := HKr.out.2.1.hs
      have q4 := HKr.out.2.1.hd
      have q5 := HKr.out.2.1.hop
      clear HKr
      rcases hend with hend | ⟨rfl, hend⟩
      all_goals
       as_aux_lemma =>
        go_upto_region 12 with (go_at_call 15; refine (HS.out _ (bt HK.out.2.2 HG.out.2.2.below)).mono ?_; rintro e w3 ⟨b3, l3, k3, rfl, r3, hb3⟩; have HR3s := hide r3; have HG3 := hide (HG.out.kept hb3); clear hb3 r3 q1 q2 q3 q4 q5)
        clear HG HS hsb HSt
        have HI := hide (fun W b l k (h : GH wB G g O W) r e1 e2 => in6_gh HG3.out.1 zs wB G O W b l k h r e1 e2)
        rcases HR.out g HG3.out.1 HG3.out.2.1 with hE | ⟨hE, hlong⟩ | ⟨hE, hne, hshort, hB⟩
        · generalize (g6 g zs).1 = r at hE HI
          have hev : ev r = .iface 47 (.int .i64 r) := by unfold ev; rw [if_neg hE]; rfl
          rw [hev] at HI
          clear hE hev HR
          go_wp2_with (go_at_call 16; refine (HI.out _ _ _ _ HG3.out.2.2 HR3s.out.1 HR3s.out.2.1 HR3s.out.2.2).mono ?_; rintro e w4 ⟨⟨a4, l4, c4, rfl, -⟩, ⟨O4, h4, -⟩⟩; have HB4 := hide (bt HK.out.2.2 h4.below); clear h4)
          go_ret
          exact ⟨rfl, HB4.out⟩
        · rw [hE, ev_nil] at HI
          clear hE HR
          go_wp2_with (go_at_call 16; refine (HI.out _ _ _ _ HG3.out.2.2 HR3s.out.1 HR3s.out.2.1 HR3s.out.2.2).mono ?_; rintro e w4 ⟨⟨a4, l4, c4, rfl, -⟩, ⟨O4, h4, -⟩⟩; have HB4 := hide (bt HK.out.2.2 h4.below); clear h4)
          go_ret
          exact ⟨rfl, HB4.out⟩
        · rw [hE, ev_nil] at HI
          obtain ⟨x, A, fl, want, t, k2, N, N2, N6, E4, E2, E6, zb, Du, Y7, Y8, d8, s8, z8, hb1, hAF, hF, hX, hD4, hS4, hP, hEn, hI4, hD6, hS6⟩ := hB
          generalize (g6 g zs).2.1 = Y4 at HI hD4
          generalize (g6 g zs).2.2 = g1 at HI hI4
          have hw1 := HHop.out hne
          have HZz := hide (HZ3.out hne)
          have H1 := hide hb1
          have HAF := hide hAF
          have HFa := hide hF
          have HX := hide hX
          have HD4 := hide hD4
          have HS4 := hide hS4
          have HPk := hide hP
          have HEn := hide hEn
          have HI4 := hide hI4
          have HD6 := hide hD6
          have HS6 := hide hS6
          clear hE HR hne hb1 hAF hF hX hD4 hS4 hP hEn hI4 hD6 hS6 HHop HZ3
          go_upto_region 13 with (go_at_call 16; refine (HI.out _ _ _ _ HG3.out.2.2 HR3s.out.1 HR3s.out.2.1 HR3s.out.2.2).mono ?_; rintro e w4 ⟨⟨a4, l4, c4, rfl, r4⟩, ⟨O4, h4, -⟩⟩; have HG4 := hide h4; have HR4 := hide r4; clear h4 r4)
          clear HG3 HR3s HI
          go_upto_region 15 with fail
          go_upto_region 16 with (first
            | (go_at_call 17; refine (HD4.out _ _ _ _ HR4.out.1 HR4.out.2.1 HR4.out.2.2).mono ?_; rintro e w5 ⟨a5, c5, rfl, r5, hb5⟩; have HR5 := hide r5; have HZ5 := hide (HZ4.out w5); have HG5 := hide (HG4.out.kept hb5); clear hb5 r5)
            | (refine V4.at_store rfl (.tmp 15) (.tmp 80) rfl rfl HZ5.out (el c 18) x (hop - 1) (el zb 0) 0 a5 N c5 rfl ?_; intro w6 p6 on6; have HG6 := hide (HG5.out.kept (new_below _ on6)); replace HR5 := hide (And.intro (HR5.out.1.below (new_below _ on6)) HR5.out.2); have HP6 := hide p6; clear p6 on6))
          clear HZ5 HR4 HG4 HG5 HD4 HZ4
          generalize w5.heap.size = B5 at HP6 ⊢
          go_upto_region 19 with (first
            | (refine V4.at_load rfl (.tmp 15) rfl rfl HP6.out ?_; unfold V4.pk)
            | (go_at_call 18; refine (HS4.out _ _ _ HR5.out.1 HR5.out.2.1 HR5.out.2.2).mono ?_; rintro e w7 ⟨a7, l7, c7, rfl, r7, hb7⟩; have HZ7a := hide (HZ7.out w7); have HG7 := hide (HG6.out.kept hb7); replace HP6 := hide (HP6.out.kept hb7); have HR7 := hide r7; clear hb7 r7)
            | (refine at_store rfl (.tmp 17) (.tmp 87) rfl rfl HZ7a.out zb a7 l7 c7 rfl ?_; intro w8 p8 on8; have HG8 := hide (HG7.out.kept (new_below _ on8)); replace HP6 := hide (HP6.out.kept (new_below _ on8)); replace HR7 := hide (HR7.out.below (new_below _ on8)); have HS8 := hide p8; clear p8 on8))
          clear HZ7a HR5 HG6 HG7 HS4
          generalize w7.heap.size = B7 at HS8 ⊢
          obtain rfl : l7 = Du.length := HR7.out.1.symm
          obtain rfl : len = D.length := HRw.out.1.symm
          have HK8 := hide (HK.out.kept HG8.out.below)
          obtain ⟨p0, p1, p2, p3, p4, p5⟩ := HP6.out.all
          have q1 := HK8.out.2.1.hop
          have q2 := HK8.out.1.c18
          go_upto_region 21 with fail
          clear p0 p1 p2 p3 p4 p5 q1 q2
          have HZ8 := hide (HZ7.out w8)
          have y0 := HS8.out.c0
          have y1 := HS8.out.c1
          have y2 := HS8.out.c2
          go_upto_region 22 with (refine at_store rfl (.tmp 19) (.tmp 113) rfl rfl HZ8.out [el zb 0, el zb 2, el zb 1, 0, 0, 0, 0] a3 data.length c3 rfl ?_; intro w9 p9 on9; have HB9 := hide (new_below _ on9); have HS9 := hide p9; clear p9 on9)
          clear y0 y1 y2 HZ8
          have y0 := (HS8.out.kept HB9.out).c0
          go_upto_if 116 with fail
          go_cut [20, 21, 22] from 117 to 145 (fun u v y wx => u = .int .i64 want ∧ Hid (SgIn w8.heap.size [el zb 0, el zb 2, el zb 1, 0, A, fl, 0] a3 data.length c3 wx) ∧ Hid (Below w8.heap.size w8 wx))
          case first =>
            clear HPk HEn HI4 HD6 HS6
            rcases HAF.out with ⟨k6, hfl, hA, hw⟩ | ⟨k17, hfl, hA, hw⟩
            · have hz0 : el zb 0 = 6 := H1.out.1.trans k6
              have k0 : (el zb 0 == 6) = true := by rw [hz0]; rfl
              have y7 := (HS8.out.kept HB9.out).c7
              have y5 := (HS8.out.kept HB9.out).c5
              have x9 : w9.cell? ⟨w.heap.size + 1, 9, none⟩ = some (.slice a D.length cap) := (HK8.out.kept HB9.out).2.1.cellAt 9
              rw [H1.out.2.1] at y5
              obtain ⟨e5, he5⟩ : ∃ e, el z 5 = e := ⟨_, rfl⟩
              rw [he5] at y5 hA hw
              obtain ⟨fq, hfq⟩ : ∃ q, e5 / 2 = q := ⟨_, rfl⟩
              obtain ⟨fr, hfr⟩ : ∃ q, fq % 2 = q := ⟨_, rfl⟩
              have h5r := HZz.out.2.2.1
              have h5s := HZz.out.2.2.2.1
              rw [he5] at h5r h5s
              have f1 : IntKind.i64.wrap (e5.tdiv 2) = fq := by rw [Int.tdiv_eq_ediv_of_nonneg h5r, IntKind.wrap_i64]; omega
              have f2 : fq.tmod 2 = fr := by rw [Int.tmod_eq_emod_of_nonneg (by omega)]; exact hfr
              have f3 : IntKind.i64.wrap fr = fr := by rw [IntKind.wrap_i64]; omega
              have d3 := H1.out.2.2.1
              have d4 := H1.out.2.2.2.1
              have d5 := H1.out.2.2.2.2
              have g3 := HZz.out.1
              have g4 := HZz.out.2.1
              have g5 := HZz.out.2.2.2.2
              obtain ⟨b3', hb3⟩ : ∃ q, el zb 3 = q := ⟨_, rfl⟩
              obtain ⟨z3', hz3⟩ : ∃ q, el z 3 = q := ⟨_, rfl⟩
              rw [hb3] at hA d3 d4
              rw [hz3] at hw g3 g4
              have hfr2 := hfr
              rw [← hfq] at hfr2
              obtain ⟨nn, mm, hnm⟩ : ∃ nn mm : Int, (e5 / 2 % 2 = 1 ∧ nn = (Du.length : Int) + 1 ∧ mm = (D.length : Int) + 1) ∨ (¬ e5 / 2 % 2 = 1 ∧ nn = (Du.length : Int) ∧ mm = (D.length : Int)) := by
                by_cases h : e5 / 2 % 2 = 1
                · exact ⟨_, _, .inl ⟨h, rfl, rfl⟩⟩
                · exact ⟨_, _, .inr ⟨h, rfl, rfl⟩⟩
              have hA' : A = md (b3' + nn) := by
                rw [hA]
                rcases hnm with ⟨h, e1, e2⟩ | ⟨h, e1, e2⟩
                · rw [if_pos h, e1]
                · rw [if_neg h, e1, Int.add_zero]
              have hw' : want = md (z3' + mm) := by
                rw [hw]
                rcases hnm with ⟨h, e1, e2⟩ | ⟨h, e1, e2⟩
                · rw [if_pos h, e2]
                · rw [if_neg h, e2, Int.add_zero]
              have hnb : 0 ≤ nn ∧ nn ≤ 301 ∧ 0 ≤ mm ∧ mm ≤ 301 := by omega
              obtain ⟨sn, hsn⟩ : ∃ q, b3' + nn = q := ⟨_, rfl⟩
              obtain ⟨sm, hsm⟩ : ∃ q, z3' + mm = q := ⟨_, rfl⟩
              have v1 : IntKind.i64.wrap (b3' + nn) = sn := by rw [IntKind.wrap_i64]; omega
              have v2 : sn.tmod 4294967296 = A := by rw [Int.tmod_eq_emod_of_nonneg (by omega), hA', hsn]; rfl
              have v3 : IntKind.i64.wrap (z3' + mm) = sm := by rw [IntKind.wrap_i64]; omega
              have v4 : sm.tmod 4294967296 = want := by rw [Int.tmod_eq_emod_of_nonneg (by omega), hw', hsm]; rfl
              have v5 : IntKind.i64.wrap A = A := by have := md_in (b3' + nn); rw [← hA'] at this; rw [IntKind.wrap_i64]; omega
              have v6 : IntKind.i64.wrap want = want := by have := md_in (z3' + mm); rw [← hw'] at this; rw [IntKind.wrap_i64]; omega
              have u5 := HS9.out.c5
              have f5 := HS9.out.frz 5
              obtain ⟨pa, ona⟩ := HS9.out.set5 16
              have HSa := hide (show SgIn w8.heap.size [el zb 0, el zb 2, el zb 1, 0, 0, 16, 0] a3 data.length c3 _ from pa)
              have HBa := hide (ona.below HB9.out (Nat.le_refl _))
              have HNM := hide hnm
              have HB3 := hide hb3
              have HZ3' := hide hz3
              have Hfl := hide hfl
              have hcs : ((fr == 1) = true ∧ IntKind.i64.wrap ((Du.length : Int) + 1) = nn ∧ IntKind.i64.wrap ((D.length : Int) + 1) = mm) ∨ ((fr == 1) = false ∧ (Du.length : Int) = nn ∧ (D.length : Int) = mm) := by
                rcases hnm with ⟨h, e1, e2⟩ | ⟨h, e1, e2⟩
                · refine .inl ⟨by rw [beq_iff_eq]; omega, by rw [IntKind.wrap_i64]; omega, by rw [IntKind.wrap_i64]; omega⟩
                · exact .inr ⟨by rw [beq_eq_false_iff_ne]; omega, e1.symm, e2.symm⟩
              clear pa ona hnm hA hw hA' hw' hsn hsm hnb hb3 hz3 hfr hfr2 hfq he5 h5r h5s hz0 k6 d3 d4 d5 g3 g4 g5 hfl
              rcases hcs with ⟨fr1, n1, n2⟩ | ⟨fr1, n1, n2⟩
              all_goals
                go_upto_region 30 with fail
                clear y0 y7 y5 x9 u5 f5 f1 f2 f3 fr1
                generalize World.setCell _ _ _ = wa at HSa HBa ⊢
                have y3 := (HS8.out.kept HBa.out).c3
                rw [HB3.out] at y3
                have u4 := HSa.out.c4
                have f4 := HSa.out.frz 4
                obtain ⟨pb, onb⟩ := HSa.out.set4 A
                have HSb := hide (show SgIn w8.heap.size [el zb 0, el zb 2, el zb 1, 0, A, fl, 0] a3 data.length c3 _ by rw [Hfl.out]; exact pb)
                have HBb := hide (onb.below HBa.out (Nat.le_refl _))
                clear pb onb
                try rw [n1]
                go_upto_region 31 with fail
                clear y3 u4 f4 HSa HBa
                generalize World.setCell _ _ _ = wb at HSb HBb ⊢
                have x5 : wb.cell? ⟨w.heap.size + 1, 5, none⟩ = some (.int .i64 (el z 3)) := (HK8.out.kept HBb.out).2.1.cellAt 5
                rw [HZ3'.out] at x5
                go_wp2
                go_meet
                exact ⟨rfl, HSb, HBb⟩
            · have k0 : (el zb 0 == 6) = false := by rw [H1.out.1.trans k17]; rfl
              have HE := hide (And.intro hA (And.intro hfl hw))
              clear k17 hA hfl hw
              go_wp2
              go_meet
              exact ⟨by rw [HE.out.2.2], by rw [HE.out.1, HE.out.2.1]; exact HS9, HB9⟩
          case rest =>
            obtain ⟨rfl, HSa, HBa⟩ := hcut
            clear HS9 HB9 HAF y0 hshort
            have HGc := hide (HG8.out.kept HBa.out)
            have HPc := hide (HP6.out.kept HBa.out)
            have HKc := hide (HK8.out.kept HBa.out)
            clear HG8 HP6 HK8 HR7 HS8 HBa
            obtain ⟨p0, p1, p2, p3, p4, p5⟩ := HPc.out.all
            have q1 := HSa.out.gl
            have HY7 := hide HX.out.2.2.2.2.2
            go_upto_region 33 with (first
              | (go_at_call 21; refine (HPk.out _ _ _ (HR3.out.below HKc.out.2.2)).mono ?_; rintro e wd ⟨a9, c9, rfl, r9, hb9⟩; have HGd := hide (HGc.out.kept hb9); have HR9 := hide r9; clear hb9 r9 q1 p0 p1 p2 p3 p4 p5)
              | (go_at_call 20; refine (HEn.out _ _ _ HR9.out).mono ?_; rintro e we ⟨ve, rfl, oe, hbe⟩; obtain ⟨ge, ke, rfl, e1, e2, -, -, re⟩ := oe.form HY7.out; have HRe := hide (And.intro re (And.intro e1 e2)); have HGe := hide (HGd.out.kept hbe); clear oe hbe e1 e2 re)
              | (go_at_call 19; refine (HI4.out _ _ _ _ _ _ _ HGe.out HRe.out.1 HRe.out.2.1 HRe.out.2.2).mono ?_; rintro e wf ⟨⟨af, lf, cf, rfl, rf⟩, g2, ⟨Of, hf, -⟩⟩; have HGf := hide hf; have HRf := hide rf; clear hf rf))
            clear HGc HPc HKc HSa HGd HR9 HRe HGe HPk HEn HI4 HY7
            go_upto_region 36 with (first
              | (go_at_call 22; refine (HD6.out _ _ _ _ HRf.out.1 HRf.out.2.1 HRf.out.2.2).mono ?_; rintro e wg ⟨ag, cg, rfl, rg, hbg⟩; have HRg := hide rg; have HZg := hide (HZ6.out wg); have HGg := hide (HGf.out.kept hbg); clear hbg rg)
              | (refine V6.at_store rfl (.tmp 23) (.tmp 163) rfl rfl HZg.out d8 s8 63 (el z8 0) ag N6 cg rfl ?_; intro wi pi oni; have HGi := hide (HGg.out.kept (new_below _ oni)); replace HRg := hide (And.intro (HRg.out.1.below (new_below _ oni)) HRg.out.2); have HPi := hide pi; clear pi oni))
            clear HRf HGf HZg HGg HD6 HZ6
            generalize wg.heap.size = Bg at HPi ⊢
            have HKi := hide (HK.out.kept HGi.out.below)
            have q1 := HPi.out.hsrc
            have q2 := HPi.out.hdst
            have q3 := HPi.out.hop
            have q4 := HKi.out.2.1.hd
            have q5 := HKi.out.2.1.hs
            have e1 := seq_run d8 d wi
            have e2 := seq_run s8 s wi
            rw [HX.out.1] at e1
            rw [HX.out.2.1] at e2
            go_upto_region 38 with fail
            clear q1 q2 q3 q4 q5 e1 e2 HKi
            go_upto_region 39 with (first
              | (refine V6.at_load rfl (.tmp 23) rfl rfl HPi.out ?_)
              | (go_at_call 23; refine (HS6.out _ _ _ HRg.out.1 HRg.out.2.1 HRg.out.2.2).mono ?_; rintro e wj ⟨aj, lj, cj, rfl, rj, hbj⟩; have HZj := hide (HZ7.out wj); have HGj := hide (HGi.out.kept hbj); have HRj := hide rj; clear hbj rj)
              | (refine at_store rfl (.tmp 24) (.tmp 189) rfl rfl HZj.out z8 aj lj cj rfl ?_; intro wk pk onk; have HGk := hide (HGj.out.kept (new_below _ onk)); replace HRj := hide (HRj.out.below (new_below _ onk)); have HSk := hide pk; clear pk onk))
            clear HZj HGj HGi HRg HPi HS6 HZ7
            generalize wj.heap.size = Bk at HSk ⊢
            have HKk := hide (HK.out.kept HGk.out.below)
            have y1 := HSk.out.c1
            have y2 := HSk.out.c2
            have y7 := HSk.out.c7
            have y4 := HSk.out.c4
            rw [HX.out.2.2.1] at y1
            rw [HX.out.2.2.2.1] at y2
            rw [HX.out.2.2.2.2.1] at y4
            have x3 : wk.cell? ⟨w.heap.size + 1, 3, none⟩ = some (.int .i64 (el z 1)) := HKk.out.2.1.cellAt 3
            have x4 : wk.cell? ⟨w.heap.size + 1, 4, none⟩ = some (.int .i64 (el z 2)) := HKk.out.2.1.cellAt 4
            generalize el z 1 = z1' at x3 y2
            generalize el z 2 = z2' at x4 y1
            have v1 := conv8 HRj.out
            have v2 := conv8 (HR3.out.below HKk.out.2.2)
            have qs := str8_eq HRj.out.2.2.1 HRj.out.2.2.1 true (by simp)
            go_upto_region 41 with fail
            clear y1 y2 y7 x3 x4 v1 v2 qs
            obtain ⟨⟨t1, t2⟩, ⟨t3, t4⟩, hfar⟩ := HFa.out
            obtain ⟨u, hu⟩ : ∃ q, t - want = q := ⟨_, rfl⟩
            obtain ⟨v, hv⟩ : ∃ q, u + 4294967296 = q := ⟨_, rfl⟩
            obtain ⟨F, hF⟩ : ∃ q, md (t - want) = q := ⟨_, rfl⟩
            have k1 : IntKind.i64.wrap (t - want) = u := by rw [IntKind.wrap_i64]; omega
            have k2' : IntKind.i64.wrap (u + 4294967296) = v := by rw [IntKind.wrap_i64]; omega
            have k3 : v.tmod 4294967296 = F := by rw [Int.tmod_eq_emod_of_nonneg (by omega), ← hF]; unfold md; omega
            have hFr := md_in (t - want)
            rw [hF] at hFr hfar
            have k4 : IntKind.i64.wrap F = F := by rw [IntKind.wrap_i64]; omega
            have HFr := hide hfar
            clear t1 t2 t3 t4 hu hv hF hFr hfar
            go_upto_region 42 with fail
            clear y4 k1 k2' k3 k4
            cases fF : (F == 0)
            case true =>
              go_wp2
              go_ret
              exact ⟨rfl, HKk.out.2.2⟩
            case false =>
              rcases HFr.out with h | ⟨h1, h2, h3, h4⟩
              · rw [h] at fF
                cases fF
              · have x21 : wk.cell? ⟨w.heap.size, 21, none⟩ = some (.bool true) := by have := HKk.out.1.cellAt 21; rw [h1] at this; exact this
                have q4 := HKk.out.2.1.hd
                have q5 := HKk.out.1.hv
                have e1 := seq_run d (vip c) wk
                rw [h2] at e1
                have x7 : wk.cell? ⟨w.heap.size + 1, 7, none⟩ = some (.int .i64 (el z 5)) := HKk.out.2.1.cellAt 7
                have h5r := HZz.out.2.2.1
                have h5s := HZz.out.2.2.2.1
                obtain ⟨e5, he5⟩ : ∃ e, el z 5 = e := ⟨_, rfl⟩
                rw [he5] at x7 h5r h5s h3
                obtain ⟨fq, hfq⟩ : ∃ q, e5 / 2 = q := ⟨_, rfl⟩
                have f1 : IntKind.i64.wrap (e5.tdiv 2) = fq := by rw [Int.tdiv_eq_ediv_of_nonneg h5r, IntKind.wrap_i64]; omega
                have f2 : fq.tmod 2 = 0 := by rw [Int.tmod_eq_emod_of_nonneg (by omega)]; omega
                have f3 : decide (F < 2147483648) = true := decide_eq_true h4
                clear h1 h2 h3 h4 h5r h5s he5 hfq
                go_wp2
                go_ret
                exact ⟨rfl, HKk.out.2.2⟩
end Go.Proofs.YtkhahbghmdccaaaGreat

namespace Go.Proofs.YtkhahbghmdccaaaGreat
open Go.RowKit
set_option linter.unusedVariables false
theorem gbk_walk (c : List Int) (inj : Bool) (ka : Option Addr) (kc : Nat) (bk : List (List Int)) (la : Option Addr) (ln lc : Nat) (wh : Int) (ba : Option Addr) (bl bc : Nat) (z : List Int) (a : Option Addr) (len cap : Nat) (D s d : List Int) (hop n : Int) (is : Bool) (a3 : Option Addr) (l3 c3 : Nat) (data : List Int) (w : World) (hb : Bks ka bk w) (h1 : bk.length ≤ kc) (h2 : kc ≤ maxLen) (ha : ka = none → bk = [] ∧ kc = 0) (hst : Sts la ln w) (hl : ln ≤ maxLen) (hr : Row8 w a len cap D) (hr3 : Row8 w a3 l3 c3 data) (hcl : l3 ≤ c3) (hcm : c3 ≤ maxLen) :
    Calls Tryz.prog 3 #[.agg (cfC c inj ka bk.length kc), .slice la ln lc, .agg (stC3 wh ba bl bc z a len cap s d hop n is), .slice a3 l3 c3] w fun e w' => e = .returned (.bool true) ∧ Below w.heap.size w w' := by
  rcases gnew_dich c inj ka kc bk w hb h1 h2 ha with ⟨j, hj, hN⟩ | ⟨m, hm1, hm2, hm3, hl8, hpf, hck, hN⟩
  · exact gbk_a c inj ka kc bk la ln lc wh ba bl bc z a len cap s d hop n is a3 l3 c3 w j hN
  · obtain rfl : l3 = data.length := hr3.1.symm
    obtain ⟨zs, hzs, hS⟩ := lsent_row z a len cap s d hop c inj ka bk.length kc D w hr
    have hd3 : (data.length : Int) ≤ 9223372036854775807 := by have := Nat.le_trans hcl hcm; unfold maxLen at this; omega
    refine gbk_b c inj ka kc bk m la ln lc wh ba bl bc z a len cap D s d hop n is a3 c3 data zs w hl hst hr hr3 hd3 (gz0_ig hm2 hpf hck) (fun hne => ?_) (fun hne => ?_) hN hS (fun g hi hs => ?_)
    · rcases hzs with rfl | ⟨q1, q2, q3, q4, rfl⟩
      · exact absurd rfl hne
      · have := up_true q3
        rw [IntKind.wrap_i64]
        omega
    · rcases hzs with rfl | ⟨q1, q2, q3, q4, rfl⟩
      · exact absurd rfl hne
      · have h300 := q4.2.2.1
        rcases q4.2.2.2 with h | h
        · exact ⟨h.2.1.1, h.2.1.2, h.2.2.2.1.1, h.2.2.2.1.2, h300⟩
        · have e1 := h.2.1
          have e2 := h.2.2.2.1
          omega
    · by_cases hE : (g6 g zs).1 = 0
      · rcases hzs with rfl | ⟨q1, q2, q3, q4, rfl⟩
        · rw [g6_nil] at hE
          exact absurd hE (by decide : ¬ (5 : Int) = 0)
        · by_cases hlong : data.length ≤ 300
          · refine .inr (.inr ⟨hE, fun e => ?_, by omega, back_bundle hs hi q1 q2 q3 q4 hr.2.2.1 hE hr3.2.2.1 hlong⟩)
            have := p6o_len (s := s) (d := d) (t := hop) (z := z) (D := D)
            rw [e] at this
            exact absurd this (by decide)
          · exact .inr (.inl ⟨hE, by omega⟩)
      · exact .inl hE
end Go.Proofs.YtkhahbghmdccaaaGreat
