/- TopSums, walked. TopSums, whatever comes. -/
import Derived.Test.YtkhahbghmdccaaaGreatS48
import Derived.Test.YtkhahbghmdccaaaGreatS49
import Derived.Test.YtkhahbghmdccaaaGreatS50
import Derived.Test.YtkhahbghmdccaaaGreatS51
import Derived.Below
import Derived.OpenShut
import Derived.Test.YtkhahbghmdccaaaGreatProg
import Derived.WalkKit
import Derived.LaidEql
import Derived.BigQuiet
import Derived.Laws.AppendOwnNone
import Derived.Laws.MakeOwn
import Derived.Deep.RegionLaw
import Derived.Lib.Bytes
import Derived.Deep.MidRow
import Derived.Laws.ResultCell
import Derived.Deep.CutBlock
import Derived.Deep.QuietTactic
import Derived.OwnWalk
import Derived.Deep.RegionHeld3
import Derived.Deep.DrawnRows
import Derived.Laws.StructEq
import Derived.Maps.AppendAt
import Derived.Maps.RangeWalk
import Derived.Stop.Asserts
import Derived.RowKitTokens
import Derived.Test.YtkhahbghmdccaaaGreatShelf
import Derived.Shelf.Abstract
import Derived.Lib.SliceRun
import Derived.Lib.AppendZerosOnto
import Derived.Lib.AppendZeros
import Derived.Laws.CopyOwn
import Derived.RangeFuncNested
import Derived.RangeFuncBound
import Derived.RangeFuncCalls
import Derived.RangeFuncLeaves
import Derived.RangeFuncFrom
import Derived.Shelf.RegionOpen
import Derived.OwnWalkIn
import Derived.TacticsInMore
import Derived.LoopNIn
import Derived.LoopIn
import Derived.Deep.RegionWith
import Derived.ArgAppend
import Derived.Lib.SlBytesConst
import Derived.Lib.AppendStr
import Derived.Deep.Slices
import Derived.ChangeArms
import Derived.WideShapes
import Derived.Deep.Fields
import Derived.ChangeSlices
import Derived.RowKit
namespace Go.Proofs.YtkhahbghmdccaaaGreat
open Go.RowKit
set_option linter.unusedVariables false
theorem GN.past {w : World} {G : Nat} {g' : GS} {O : Nat → Prop} {W W' : World} (h : GN w G g' O W W') {B : Nat} (hB : B < W.heap.size) (hn : ¬ O B) : W'.heap[B]? = W.heap[B]? ∧ ∃ O', GH w G g' O' W' ∧ ¬ O' B := by
  obtain ⟨O', h1, h2, h3⟩ := h
  exact ⟨h3.1.2.2.2.2 B hB hn, O', h1, fun ho => (h2 B ho).elim hn (fun q => by omega)⟩
attribute [local go_sem ↓] gload_shut hload_shut cload_shut slr_shut
set_option maxRecDepth 100000 in
set_option maxHeartbeats 4000000 in
theorem tsm_a (c : List Int) (inj : Bool) (ka : Option Addr) (kn kc : Nat) (la : Option Addr) (ln lc : Nat) (a3 : Option Addr) (l3 c3 : Nat) (w : World) (j : Int)
    (hN : ∀ W, Below w.heap.size w W → Calls Tryz.prog 13 #[.agg (cfC c inj ka kn kc)] W fun e w' => e = .returned (.tuple #[.pointer none, .iface 47 (.int .i64 j)]) ∧ Below W.heap.size W w') :
    Calls Tryz.prog 7 #[.agg (cfC c inj ka kn kc), .slice la ln lc, .slice a3 l3 c3] w fun e w' => e = .returned (.bool true) ∧ Below w.heap.size w w' := by
  have HF := hide one_any
  have HK := hide (And.intro (cf_new w c inj ka kn kc) (al_below w (.cells (cfC c inj ka kn kc) 26)))
  have HN := hide hN
  clear hN
  go_enter Tryz.func7, Tryz.ntmps7
  go_upto_region 1 with fail
  generalize World.alloc _ _ = W0 at HK ⊢
  go_upto_region 4 with (go_at_call 31; refine (HF.out _).mono ?_; rintro e w1 ⟨rfl, hb1⟩; replace HK := hide (And.intro (HK.out.1.kept hb1) (bt HK.out.2 hb1)); clear hb1)
  have q1 := HK.out.1.cl
  go_wp2_with (go_at_call 13; refine (HN.out _ HK.out.2).mono ?_; rintro e w2 ⟨rfl, hb2⟩; replace HK := hide (And.intro (HK.out.1.kept hb2) (bt HK.out.2 hb2)); clear hb2 q1)
  go_ret
  exact ⟨rfl, HK.out.2⟩
set_option maxRecDepth 100000 in
set_option maxHeartbeats 4000000 in
theorem tsm_l (c : List Int) (inj : Bool) (ka : Option Addr) (kc : Nat) (bk : List (List Int)) (m : Nat) (la : Option Addr) (ln lc : Nat) (a3 : Option Addr) (l3 c3 : Nat) (w : World) (hl : (200 : Int) < (l3 : Int))
    (hN : ∀ W, Below w.heap.size w W → Calls Tryz.prog 13 #[.agg (cfC c inj ka bk.length kc)] W fun e w' => NG W c inj bk m e w') :
    Calls Tryz.prog 7 #[.agg (cfC c inj ka bk.length kc), .slice la ln lc, .slice a3 l3 c3] w fun e w' => e = .returned (.bool true) ∧ Below w.heap.size w w' := by
  have HF := hide one_any
  have HK := hide (And.intro (cf_new w c inj ka bk.length kc) (al_below w (.cells (cfC c inj ka bk.length kc) 26)))
  have HN := hide hN
  clear hN
  go_enter Tryz.func7, Tryz.ntmps7
  go_upto_region 1 with fail
  generalize World.alloc _ _ = W0 at HK ⊢
  go_upto_region 4 with (go_at_call 31; refine (HF.out _).mono ?_; rintro e w1 ⟨rfl, hb1⟩; replace HK := hide (And.intro (HK.out.1.kept hb1) (bt HK.out.2 hb1)); clear hb1)
  have q1 := HK.out.1.cl
  go_wp2_with (go_at_call 13; refine (HN.out _ HK.out.2).mono ?_; rintro e w2 h2; obtain ⟨G, O, rfl, -, -, hb2⟩ := NG.gh h2 (Below.refl _ _); replace HK := hide (And.intro (HK.out.1.kept hb2) (bt HK.out.2 hb2)); clear hb2 h2 q1)
  go_ret
  exact ⟨rfl, HK.out.2⟩
theorem sent_row (z : List Int) (a : Option Addr) (len cap : Nat) (D s d : List Int) (hop : Int) (w : World) (hr : Row8 w a len cap D) : ∃ zs : List Int, (zs = [] ∨ (Ok6 s ∧ Ok6 d ∧ up 255 hop = true ∧ Okg z D.length ∧ zs = p6o s d hop z D)) ∧
    ∀ W, Below w.heap.size w W → Calls Tryz.prog 32 #[.agg (sgC z a len cap), .agg (sixC s), .agg (sixC d), .int .i64 hop] W fun e w' => ∃ b l k, e = .returned (.slice b l k) ∧ (Row8 w' b l k zs ∧ l ≤ k ∧ k ≤ maxLen) ∧ Below W.heap.size W w' := by
  rcases sent_any z a len cap D s d hop w hr with h | ⟨hs, hd, ht, hz, h⟩
  · exact ⟨[], .inl rfl, fun W hW => (h W hW).mono fun e w' ⟨e1, e2⟩ => ⟨none, 0, 0, e1, ⟨gt_no _, Nat.le_refl _, Nat.zero_le _⟩, e2⟩⟩
  · refine ⟨_, .inr ⟨hs, hd, ht, hz, rfl⟩, fun W hW => (h W hW).mono fun e w' ⟨v, e1, o, e2⟩ => ?_⟩
    obtain ⟨g, k, rfl, k1, k2, _, _, r⟩ := o.form p6o_len
    exact ⟨_, _, k, e1, ⟨r, k1, k2⟩, e2⟩
theorem part_row {w : World} {a a' : Option Addr} {len cap h : Nat} {Du D : List Int} (hr : Row8 w a len cap Du) (hh : h ≤ len) (hD : Du.drop h = D) (h1 : ∀ b off, h < len → a = some ⟨b, off, none⟩ → a' = some ⟨b, off + h, none⟩) (h2 : a' = none → len = h ∧ cap - h = 0) : Row8 w a' (len - h) (cap - h) D := by
  have := hr.part h len hh (Nat.le_refl _) a' (cap - h) h1 h2
  rw [hD, List.take_of_length_le (by rw [← hD, List.length_drop, hr.1]; exact Nat.le_refl _)] at this
  exact this
set_option maxRecDepth 100000 in
set_option maxHeartbeats 16000000 in
theorem tsm_b (c : List Int) (inj : Bool) (ka : Option Addr) (kc : Nat) (bk : List (List Int)) (m : Nat) (la : Option Addr) (ln lc : Nat) (a3 : Option Addr) (c3 : Nat) (data : List Int) (w : World) (hl : ln ≤ maxLen) (hsd : Sds la ln w) (hr3 : Row8 w a3 data.length c3 data) (hd2 : data.length ≤ 200) (hig : IG (gz0 c inj bk m))
    (hN : ∀ W, Below w.heap.size w W → Calls Tryz.prog 13 #[.agg (cfC c inj ka bk.length kc)] W fun e w' => NG W c inj bk m e w') :
    Calls Tryz.prog 7 #[.agg (cfC c inj ka bk.length kc), .slice la ln lc, .slice a3 data.length c3] w fun e w' => e = .returned (.bool true) ∧ Below w.heap.size w w' := by
  have HF := hide one_any
  have hl' : (ln : Int) ≤ 9223372036854775807 := by unfold maxLen at hl; omega
  have hd2' : (data.length : Int) ≤ 200 := by omega
  have HK := hide (And.intro (cf_new w c inj ka bk.length kc) (al_below w (.cells (cfC c inj ka bk.length kc) 26)))
  have HSd := hide hsd
  have HN := hide hN
  have HIg := hide hig
  have HR3 := hide hr3
  have HDl := hide hd2
  have HZ4 := hide (fun W => R4.start W)
  have HZ6 := hide (fun W => R6.start W)
  have HZ7 := hide (fun W => zero_new W)
  have HZs := hide (fun W => said_new W)
  unfold V4.zero4 zero7 at HZ4
  unfold V6.zero6 zero7 at HZ6
  unfold zero7 at HZ7
  unfold zero26 at HZs
  clear hsd hN hig hl hr3 hd2
  go_enter Tryz.func7, Tryz.ntmps7
  go_upto_region 1 with fail
  generalize World.alloc _ _ = wB at HK ⊢
  replace HSd := hide (HSd.out.below HK.out.2)
  have HB := hide (Below.refl wB.heap.size wB)
  go_upto_region 4 with (go_at_call 31; refine (HF.out _).mono ?_; rintro e w1 ⟨rfl, hb1⟩; replace HB := hide (bt HB.out hb1); clear hb1)
  have q1 := (HK.out.1.kept HB.out).cl
  go_upto_region 5 with (go_at_call 13; refine (HN.out _ (bt HK.out.2 HB.out)).mono ?_; rintro e w2 h2; obtain ⟨G, O, rfl, hG, -, -⟩ := NG.gh h2 HB.out; have HG := hide (show GB wB c inj G (gz0 c inj bk m) O w2 from ⟨HIg.out, gz0_sbi c inj bk m, hG⟩); clear h2 hG q1)
  generalize gz0 c inj bk m = g0 at HG
  clear HF HN HB HIg
  go_wp2
  go_loopw [10] (fun i wr => ∃ (k : Nat) (g : GS) (O : Nat → Prop), k ≤ ln ∧ k ≤ 30 ∧ i = .int .i64 k ∧ Hid (GB wB c inj G g O wr)) (fun i _ => 30 - (intOf i).toNat)
  case atStart => exact ⟨0, g0, O, by omega, by omega, rfl, HG⟩
  case round =>
    clear HG
    obtain ⟨k, g, O, hk1, hk2, rfl, HG⟩ := hrel
    by_cases hlt : k < ln ∧ k < 30
    · obtain ⟨hlt1, hlt2⟩ := hlt
      have j1 : (k : Int) < (ln : Int) := by omega
      have j2 : (k : Int) < 30 := by omega
      obtain ⟨gs, os, rfl, hx⟩ := HSd.out (by omega)
      obtain ⟨z, x, l, cc, D, s, d, hop, tk, r1, r2, r3⟩ := hx k hlt1
      obtain ⟨zs, hzs, hSn⟩ := sent_row z x l cc D s d hop wB r2
      have hoz : SM.Oct zs := by
        rcases hzs with rfl | ⟨q1, q2, q3, q4, rfl⟩
        · exact SM.oct_nil
        · exact p6o_oct q1 q2 q3 q4 r2.2.2.1
      have HI := hide (fun W b l k (h : GH wB G g O W) r e1 e2 => in6_gh HG.out.1 zs wB G O W b l k h r e1 e2)
      have HIn := hide (And.intro (g6_ig HG.out.1 hoz).1 (g6_sbi HG.out.2.1 zs))
      have hcase : (g6 g zs).1 ≠ 0 ∨ ((g6 g zs).1 = 0 ∧ IntKind.i64.wrap (hop - 1) = hop - 1 ∧ D.length ≤ 300 ∧ TSD c inj s d z D hop data (g6 g zs).2.1 (g6 g zs).2.2) := by
        by_cases hE : (g6 g zs).1 = 0
        · rcases hzs with rfl | ⟨q1, q2, q3, q4, rfl⟩
          · rw [g6_nil] at hE
            exact absurd hE (by decide : ¬ (5 : Int) = 0)
          · have hh := up_true q3
            exact .inr ⟨hE, by rw [IntKind.wrap_i64]; omega, q4.2.2.1, sums_bundle HG.out.2.1 HG.out.1 q1 q2 q3 q4 r2.2.2.1 hE HR3.out.2.2.1 HDl.out⟩
        · exact .inl hE
      have HSn := hide hSn
      have HRg := hide (fun W (h : Below wB.heap.size wB W) => rng_below r1 h)
      have HRD := hide r2
      have HZs1 := hide (HZs.out wr)
      have HNo := hide (show ¬ O wr.heap.size from fun ho => Nat.lt_irrefl _ (HG.out.2.2.lt ho))
      clear hSn r1 r2 r3 hx hzs hoz
      go_upto_region 11 with (first
        | (refine at_loadsd rfl (.tmp 48) rfl rfl (HRg.out _ HG.out.2.2.below) ?_)
        | (refine at_storesd rfl (.tmp 11) (.tmp 49) rfl rfl HZs1.out z x l cc s d hop tk rfl ?_; intro w3 p3 on3; have HG3 := hide (HG.out.kept (new_below _ on3)); have HS3 := hide p3; clear p3 on3))
      clear HZs1 HRg HG
      generalize wr.heap.size = Bs at HS3 HNo ⊢
      generalize (g6 g zs).2.1 = Y4 at HI hcase
      generalize (g6 g zs).2.2 = g1 at HI HIn hcase
      generalize (g6 g zs).1 = r at HI hcase
      have HTk := hide (fun O W (h : GH wB G g1 O W) => tick_gh HIn.out.1 tk wB G O W h)
      have HTg := hide (And.intro (gtk_ig HIn.out.1 tk) (gtk_sbi HIn.out.2 tk))
      have q1 := HS3.out.gl
      have q2 := HS3.out.hs
      have q3 := HS3.out.hd
      have q4 := HS3.out.hop
      rcases hcase with hE | ⟨rfl, hw1, hD3, hB⟩
      · as_aux_lemma =>
          have hev : ev r = .iface 47 (.int .i64 r) := by unfold ev; rw [if_neg hE]; rfl
          rw [hev] at HI
          clear hE hev
          go_upto_region 12 with (first
            | (go_at_call 32; refine (HSn.out _ HG3.out.2.2.below).mono ?_; rintro e w4 ⟨b4, l4, k4, rfl, r4, hb4⟩; have HR4 := hide r4; have HG4 := hide (HG3.out.kept hb4); have HS4 := hide (HS3.out.kept hb4); clear hb4 r4 q1 q2 q3 q4)
            | (go_at_call 16; refine (HI.out _ _ _ _ HG4.out.2.2 HR4.out.1 HR4.out.2.1 HR4.out.2.2).mono ?_; rintro e w5 ⟨⟨a5, l5, c5, rfl, -⟩, h5⟩; obtain ⟨f5, O5, g5, n5⟩ := h5.past HS4.out.lt HNo.out; have HS5 := hide (show SdIn Bs z x l cc s d hop tk w5 from f5.trans HS4.out); have HG5 := hide g5; clear f5 g5 n5 h5))
          clear HG3 HS3 HG4 HR4 HS4 HI HSn
          have y1 := HS5.out.tk
          go_wp2_with (go_at_call 36; refine (HTk.out _ _ HG5.out).mono ?_; rintro e w6 ⟨rfl, ⟨O6, h6, -⟩⟩; have HG6 := hide (show GB wB c inj G _ O6 w6 from ⟨HTg.out.1, HTg.out.2, h6⟩); clear h6 y1)
          go_roundw
          case rel => exact ⟨k + 1, _, O6, by omega, by omega, by go_num, HG6⟩
          case measure => simp [intOf]; omega
      · rw [ev_nil] at HI
        obtain ⟨xx, h, zb, Du, Y7, Y8, d8, s8, z8, hb1, hb2, hO4, hBk, hI4, hO6⟩ := hB
        have H1 := hide hb1
        have H2 := hide hb2
        have HO4 := hide hO4
        have HBk := hide hBk
        have HI4 := hide hI4
        have HO6 := hide hO6
        clear hb1 hb2 hO4 hBk hI4 hO6
        go_upto_region 12 with (first
          | (go_at_call 32; refine (HSn.out _ HG3.out.2.2.below).mono ?_; rintro e w4 ⟨b4, l4, k4, rfl, r4, hb4⟩; have HR4 := hide r4; have HG4 := hide (HG3.out.kept hb4); have HS4 := hide (HS3.out.kept hb4); clear hb4 r4 q1 q2 q3 q4)
          | (go_at_call 16; refine (HI.out _ _ _ _ HG4.out.2.2 HR4.out.1 HR4.out.2.1 HR4.out.2.2).mono ?_; rintro e w5 ⟨⟨a5, l5, c5, rfl, r5⟩, h5⟩; obtain ⟨f5, O5, g5, n5⟩ := h5.past HS4.out.lt HNo.out; have HS5 := hide (show SdIn Bs z x l cc s d hop tk w5 from f5.trans HS4.out); have HG5 := hide g5; have HN5 := hide n5; have HR5 := hide r5; clear f5 g5 n5 h5 r5))
        clear HG3 HS3 HG4 HR4 HS4 HI HSn HNo
        go_upto_region 13 with fail
        go_upto_region 14 with (first
          | (go_at_call 33; refine (HO4.out _ _ _ _ HR5.out.1 HR5.out.2.1 HR5.out.2.2).mono ?_; rintro e w7 ⟨a7, l7, c7, a8, l8, c8, rfl, r7, hb7⟩; have HZ7a := hide (HZ4.out w7); replace HG5 := hide (HG5.out.kept hb7); replace HS5 := hide (HS5.out.kept hb7); have HR7 := hide r7; have HLt := hide (show Bs < w7.heap.size from HS5.out.lt); clear r7 hb7)
          | (refine V4.at_store rfl (.tmp 14) (.tmp 69) rfl rfl HZ7a.out.1 (el c 18) xx (hop - 1) (el zb 0) 0 a7 l7 c7 rfl ?_; intro w8 p8 on8; have HS8 := hide (on8.sg HZ7a.out.2.1 (by omega)); have HP8 := hide p8; have HB8 := hide (on8.below HZ7a.out.2.2 (Nat.le_refl _)); clear p8 on8)
          | (refine at_store rfl (.tmp 15) (.tmp 70) rfl rfl HS8.out zb a8 l8 c8 rfl ?_; intro w9 p9 on9; have HP9 := hide (show V4.PkIn w7.heap.size (el c 18) xx (hop - 1) (el zb 0) 0 a7 l7 c7 w9 from (on9.2.2.2.2 _ (by omega)).trans HP8.out); have HS9 := hide p9; have HB9 := hide (on9.below HB8.out (Nat.le_succ _)); clear p9 on9))
        replace HG5 := hide (HG5.out.kept HB9.out)
        replace HS5 := hide (HS5.out.kept HB9.out)
        replace HR7 := hide (And.intro (HR7.out.1.below HB9.out) HR7.out.2)
        clear HZ7a HB9 HB8 HP8 HS8 HR5 HO4
        generalize w7.heap.size = B7 at HP9 HS9 HLt ⊢
        obtain rfl : l8 = Du.length := HR7.out.1.1.symm
        obtain rfl : l = D.length := HRD.out.1.symm
        obtain ⟨e1, e2, e3, e4, e5⟩ := H1.out
        obtain ⟨at', ht, hp1, hp2⟩ := tail_run a8 Du.length c8 HR7.out.2.1 HR7.out.2.2 (fun e => (HR7.out.1.2.2.2.1 e).2) h (by omega)
        have HPr := hide (fun n => part_row (HR7.out.1.drewN n) (show h ≤ Du.length by omega) e4 hp1 hp2)
        obtain ⟨hI, hhI⟩ : ∃ q : Int, (h : Int) = q := ⟨_, rfl⟩
        rw [hhI] at ht
        have hn0 : IntKind.i64.wrap ((Du.length : Int) - (D.length : Int)) = hI := by rw [IntKind.wrap_i64]; omega
        have hcs : ((hI != 0) = false) ∨ ((hI != 0) = true ∧ (hI != 52) = false) := by
          rcases e3 with rfl | rfl
          · left
            rw [← hhI]
            rfl
          · right
            rw [← hhI]
            exact ⟨rfl, rfl⟩
        have y7 := HS9.out.c7
        have x7 : w9.cell? ⟨Bs, 7, none⟩ = some (.slice x D.length cc) := HS5.out.cellAt 7
        have y0 := HS9.out.c0
        rw [e1] at y0
        have x0 : w9.cell? ⟨Bs, 0, none⟩ = some (.int .i64 (el z 0)) := HS5.out.cellAt 0
        have t2 := HP9.out.all.2.2.1
        have x24 := HS5.out.hop
        have v1 := fun n => conv8 (HPr.out n)
        have v2 := fun n => conv8 ((HRD.out.below HG5.out.below).drewN n)
        have qs := str8_eq HRD.out.2.2.1 HRD.out.2.2.1 true (by simp)
        have HBn := hide (fun n => drn (Below.refl w9.heap.size w9) n)
        clear e1 e2 e3 e4 e5 hp1 hp2 hhI HPr hD3
        go_upto_region 15 with fail
        go_cut [105] from 80 to 104 (fun u wx => u = .bool false ∧ w9 = wx)
        case first =>
          clear v1 v2 qs ht
          rcases hcs with f0 | ⟨f0, f52⟩
          all_goals
            go_wp2
            go_meet
            exact ⟨rfl, rfl⟩
        case rest =>
          obtain ⟨rfl, rfl⟩ := hcut
          clear hcs hn0 y0 x0 t2 x24
          go_upto_region 17 with fail
          go_quiet (fail)
          have HQ := hide (HBn.out nq)
          clear y7 x7 v1 v2 qs ht HBn
          generalize w9.drewN nq = wa at HQ ⊢
          replace HG5 := hide (HG5.out.kept HQ.out)
          replace HS5 := hide (HS5.out.kept HQ.out)
          replace HP9 := hide (HP9.out.kept HQ.out)
          replace HS9 := hide (HS9.out.kept HQ.out)
          clear HQ HR7
          go_upto_region 19 with fail
          have y0 := HS9.out.c0
          have y1 := HS9.out.c1
          have y2 := HS9.out.c2
          have HZa := hide (HZ7.out wa)
          go_upto_region 20 with (refine at_store rfl (.tmp 18) (.tmp 123) rfl rfl HZa.out [el zb 0, el zb 2, el zb 1, 0, 0, 0, 0] a3 data.length c3 rfl ?_; intro wb pb onb; have HBb := hide (new_below _ onb); have HSb := hide pb; clear pb onb)
          replace HG5 := hide (HG5.out.kept HBb.out)
          replace HS5 := hide (HS5.out.kept HBb.out)
          replace HP9 := hide (HP9.out.kept HBb.out)
          clear y0 y1 y2 HZa HBb HS9
          have q1 := HSb.out.gl
          obtain ⟨p0, p1, -⟩ := HP9.out.all
          have HY7 := hide H2.out.2.2
          go_upto_region 21 with (first
            | (go_at_call 34; refine (HBk.out _ _ _ (HR3.out.below (bt HK.out.2 HG5.out.below))).mono ?_; rintro e wd ⟨vd, rfl, od, hbd⟩; obtain ⟨gd, cd, rfl, e1, e2, -, -, rd⟩ := od.form HY7.out; have HRd := hide (And.intro rd (And.intro e1 e2)); have HGd := hide (HG5.out.kept hbd); have HSx := hide (HS5.out.kept hbd); clear od hbd e1 e2 rd q1 p0 p1)
            | (go_at_call 19; refine (HI4.out _ _ _ _ _ _ _ HGd.out HRd.out.1 HRd.out.2.1 HRd.out.2.2).mono ?_; rintro e we ⟨⟨ae, le, ce, rfl, re⟩, g2, i2, s2, h2⟩; obtain ⟨fe, Oe, ge, ne⟩ := h2.past HSx.out.lt HN5.out; have HSe := hide (show SdIn Bs z x D.length cc s d hop tk we from fe.trans HSx.out); have HGe := hide ge; have HRe := hide re; have HI2 := hide (And.intro i2 s2); clear fe ge ne re i2 s2 h2))
          clear HSb HP9 HG5 HS5 HRd HGd HSx HBk HI4 HN5 HTk HTg HIn HY7
          go_upto_region 23 with fail
          go_upto_region 24 with (first
            | (go_at_call 35; refine (HO6.out _ _ _ _ HRe.out.1 HRe.out.2.1 HRe.out.2.2).mono ?_; rintro e wf ⟨af, lf, cf, ag, lg, cg, rfl, rf, hbf⟩; have HZf := hide (HZ6.out wf); replace HGe := hide (HGe.out.kept hbf); replace HSe := hide (HSe.out.kept hbf); have HRf := hide rf; clear rf hbf)
            | (refine V6.at_store rfl (.tmp 19) (.tmp 140) rfl rfl HZf.out.1 d8 s8 8 (el z8 0) af lf cf rfl ?_; intro wg pg ong; have HSg := hide (show SgIn (wf.heap.size + 1) [] none 0 0 wg from (ong.2.2.2.2 _ (by omega)).trans HZf.out.2.1); have HPg := hide pg; have HBg := hide (ong.below HZf.out.2.2 (Nat.le_refl _)); clear pg ong)
            | (refine at_store rfl (.tmp 20) (.tmp 141) rfl rfl HSg.out z8 ag lg cg rfl ?_; intro wi pi oni; have HPi := hide (show V6.PkIn wf.heap.size d8 s8 8 (el z8 0) af lf cf wi from (oni.2.2.2.2 _ (by omega)).trans HPg.out); have HSi := hide pi; have HBi := hide (oni.below HBg.out (Nat.le_succ _)); clear pi oni))
          replace HGe := hide (HGe.out.kept HBi.out)
          replace HSe := hide (HSe.out.kept HBi.out)
          replace HRf := hide (HRf.out.below HBi.out)
          clear HZf HBi HBg HPg HSg HRe HO6
          generalize wf.heap.size = Bf at HPi HSi ⊢
          have q1 := HPi.out.hop
          have q2 := HPi.out.hsrc
          have q3 := HPi.out.hdst
          have q4 := HSe.out.hd
          have q5 := HSe.out.hs
          have q6 := HSi.out.c7
          have e1 := seq_run d8 d wi
          have e2 := seq_run s8 s wi
          rw [H2.out.1] at e1
          rw [H2.out.2.1] at e2
          have v1 := conv8 HRf.out
          have v2 := conv8 (HR3.out.below (bt HK.out.2 HGe.out.below))
          have qs := str8_eq HRf.out.2.2.1 HRf.out.2.2.1 true (by simp)
          go_upto_region 26 with fail
          clear q1 q2 q3 q4 q5 q6 e1 e2 v1 v2 qs HPi HSi HRf
          have HTk := hide (fun O W (h : GH wB G g2 O W) => tick_gh HI2.out.1 tk wB G O W h)
          have HTg := hide (And.intro (gtk_ig HI2.out.1 tk) (gtk_sbi HI2.out.2 tk))
          have y1 := HSe.out.tk
          go_wp2_with (go_at_call 36; refine (HTk.out _ _ HGe.out).mono ?_; rintro e wk ⟨rfl, ⟨Ok, hk, -⟩⟩; have HGk := hide (show GB wB c inj G _ Ok wk from ⟨HTg.out.1, HTg.out.2, hk⟩); clear hk y1)
          go_roundw
          case rel => exact ⟨k + 1, _, Ok, by omega, by omega, by go_num, HGk⟩
          case measure => simp [intOf]; omega
    · have hend : ¬ (k : Int) < (ln : Int) ∨ (k = 30 ∧ (30 : Int) < (ln : Int)) := by omega
      clear hlt
      rcases hend with hend | ⟨rfl, hend⟩
      all_goals
        go_wp2
        go_ret
        exact ⟨rfl, bt HK.out.2 HG.out.2.2.below⟩
end Go.Proofs.YtkhahbghmdccaaaGreat

namespace Go.Proofs.YtkhahbghmdccaaaGreat
open Go.RowKit
set_option linter.unusedVariables false
theorem tsm_walk (c : List Int) (inj : Bool) (ka : Option Addr) (kc : Nat) (bk : List (List Int)) (la : Option Addr) (ln lc : Nat) (a3 : Option Addr) (l3 c3 : Nat) (data : List Int) (w : World) (hb : Bks ka bk w) (h1 : bk.length ≤ kc) (h2 : kc ≤ maxLen) (ha : ka = none → bk = [] ∧ kc = 0) (hsd : Sds la ln w) (hl : ln ≤ maxLen) (hr3 : Row8 w a3 l3 c3 data) :
    Calls Tryz.prog 7 #[.agg (cfC c inj ka bk.length kc), .slice la ln lc, .slice a3 l3 c3] w fun e w' => e = .returned (.bool true) ∧ Below w.heap.size w w' := by
  rcases gnew_dich c inj ka kc bk w hb h1 h2 ha with ⟨j, hj, hN⟩ | ⟨m, hm1, hm2, hm3, hl8, hpf, hck, hN⟩
  · exact tsm_a c inj ka bk.length kc la ln lc a3 l3 c3 w j hN
  · obtain rfl : l3 = data.length := hr3.1.symm
    by_cases hd : data.length ≤ 200
    · exact tsm_b c inj ka kc bk m la ln lc a3 c3 data w hl hsd hr3 hd (gz0_ig hm2 hpf hck) hN
    · exact tsm_l c inj ka kc bk m la ln lc a3 data.length c3 w (by omega) hN
end Go.Proofs.YtkhahbghmdccaaaGreat
