/- TopStream, walked. -/
import Derived.Test.YtkhahbghmdccaaaGreatT19
import Derived.Test.YtkhahbghmdccaaaGreatT36
import Derived.Test.YtkhahbghmdccaaaGreatT48
import Derived.Test.YtkhahbghmdccaaaGreatTrA
import Derived.Below
import Derived.OpenShut
import Derived.Test.YtkhahbghmdccaaaGreatProg
import Derived.WalkKit
import Derived.LaidEql
import Derived.BigQuiet
import Derived.Laws.AppendOwnNone
import Derived.Laws.MakeOwn
import Derived.Deep.RegionLaw
import Derived.Lib.Bytes
import Derived.Deep.MidRow
import Derived.Laws.ResultCell
import Derived.Deep.CutBlock
import Derived.Deep.QuietTactic
import Derived.OwnWalk
import Derived.Deep.RegionHeld3
import Derived.Deep.DrawnRows
import Derived.Maps.AppendAt
import Derived.Laws.StructEq
import Derived.Maps.RangeWalk
import Derived.Stop.Asserts
import Derived.RowKitTokens
import Derived.Test.YtkhahbghmdccaaaGreatShelf
import Derived.Shelf.Abstract
import Derived.Lib.SliceRun
import Derived.Lib.AppendZerosOnto
import Derived.Lib.AppendZeros
import Derived.Laws.CopyOwn
import Derived.RangeFuncNested
import Derived.RangeFuncBound
import Derived.RangeFuncCalls
import Derived.RangeFuncLeaves
import Derived.RangeFuncFrom
import Derived.Shelf.RegionOpen
import Derived.OwnWalkIn
import Derived.TacticsInMore
import Derived.LoopNIn
import Derived.LoopIn
import Derived.Deep.RegionWith
import Derived.ArgAppend
import Derived.Lib.SlBytesConst
import Derived.Lib.AppendStr
import Derived.Deep.Slices
import Derived.ChangeArms
import Derived.WideShapes
import Derived.Deep.Fields
import Derived.ChangeSlices
import Derived.RowKit
namespace Go.Proofs.YtkhahbghmdccaaaGreat
open Go.RowKit
set_option linter.unusedVariables false
/-- what is told of a part of the stream. -/
def PTD (s : List Int) (p isn F : Int) (ds : List Int) (A N : Nat) : Prop := ∃ (q : Int) (d : List Int) (At : Nat) (Y6 Y4 : List Int),
  ((0 ≤ q ∧ q < 4294967296) ∧ (q - F + 4294967296) % 4294967296 = (At : Int) ∧ At + d.length ≤ 52 + ds.length ∧ ((hb (fS s p) ++ ds).drop At).take d.length = d ∧ d.length ≤ 300) ∧
  (∀ W y cy, Row8 W y N cy ((ds.drop A).take N) → Calls Tryz.prog 32 #[.agg #[.int .i64 6, .int .i64 p, .int .i64 80, .int .i64 ((isn + 1 + A) % 4294967296), .int .i64 0, .int .i64 16, .int .i64 0, .slice y N cy], .agg (sixC s), .agg (sixC (vip c0)), .int .i64 9] W fun e w' => ∃ b l k, e = .returned (.slice b l k) ∧ (Row8 w' b l k Y6 ∧ l ≤ k ∧ k ≤ maxLen) ∧ Below W.heap.size W w') ∧
  (∀ wB G B f x l c L W b n k, SW wB G (gS s p isn) B f x l c L W → Row8 W b n k Y6 → n ≤ k → k ≤ maxLen → Calls Tryz.prog 16 #[.pointer (some ⟨G, 0, none⟩), .slice b n k] W fun e w' => ∃ a2 l2 c2, e = .returned (.tuple #[.slice a2 l2 c2, .nilIface]) ∧ (Row8 w' a2 l2 c2 Y4 ∧ l2 ≤ c2 ∧ c2 ≤ maxLen) ∧ SW wB G (gS s p isn) B f x l c L w') ∧
  (∀ W b l k, Row8 W b l k Y4 → l ≤ k → k ≤ maxLen → Calls Tryz.prog 33 #[.slice b l k] W fun e w' => ∃ a1 l1 c1 a2 l2 c2, e = .returned (.tuple #[.agg #[.int .i64 9, .int .i64 5, .int .i64 8, .int .i64 6, .int .i64 0, .slice a1 l1 c1], .agg (sgC [6, 1024, 8080, q, 0, 16, 0] a2 l2 c2), .bool true]) ∧ (Row8 w' a2 l2 c2 d ∧ l2 ≤ c2 ∧ c2 ≤ maxLen) ∧ Below W.heap.size W w') ∧
  (At = 0 → ∀ W a l c, Row8 W a l c d → l ≤ c → c ≤ maxLen → Calls Tryz.prog 39 #[.slice a l c] W fun e w' => e = .returned (.tuple #[.agg (flC (fS s p)), .int .i64 52, .nilIface]) ∧ Below W.heap.size W w')
theorem part_bundle {s : List Int} {p isn : Int} {ds : List Int} (hs : Ok6 s) (hf : okf (fS s p) = true) (hp : 0 ≤ p ∧ p ≤ 65535) (hi : 0 ≤ isn ∧ isn < 4294967296) (hig : IG (gS s p isn)) (A N : Nat) (hA : A + N ≤ ds.length) (hD : ds.length ≤ 150) :
    PTD s p isn ((md (isn - 52) + 1) % 4294967296) ds A N := by
  obtain ⟨q, d, At, e1, e2, e3, e4, e5, e6, e7⟩ := part_seen hs hf hp hi A N hA hD
  have hlen : ((ds.drop A).take N).length = N := by rw [List.length_take, List.length_drop]; omega
  have hv : Ok6 (vip c0) := fun j hj => by rcases (by omega : j = 0 ∨ j = 1 ∨ j = 2 ∨ j = 3 ∨ j = 4 ∨ j = 5 ∨ j = 6 ∨ j = 7) with rfl | rfl | rfl | rfl | rfl | rfl | rfl | rfl <;> exact ⟨by decide, by decide⟩
  have hq : 0 ≤ (isn + 1 + A) % 4294967296 ∧ (isn + 1 + A) % 4294967296 < 4294967296 := by omega
  have hz : Okg [6, p, 80, (isn + 1 + A) % 4294967296, 0, 16, 0] N := okgS hp hq ⟨by decide, by decide⟩ (by omega)
  refine ⟨q, d, At, _, _, ⟨e2, e3, e4, e5, e6⟩, fun W y cy r => ?_, in6_sw hig e1, fun W b l k r h1 h2 => ?_, fun h W a l c r h1 h2 => ?_⟩
  · refine (sent_ok [6, p, 80, (isn + 1 + A) % 4294967296, 0, 16, 0] y N cy _ s (vip c0) 9 W hs hv (by decide) hz r).mono ?_
    rintro e w' ⟨v, h1, o, h2⟩
    obtain ⟨g, k, rfl, k1, k2, _, _, r'⟩ := o.form p6o_len
    exact ⟨_, _, k, h1, ⟨r', k1, k2⟩, h2⟩
  · exact opened_c b l k 9 5 8 [6, 1024, 8080, q, 0, 16, 0] d W r h1 h2 (by decide) (by decide) (by decide) (okgT e2 ⟨by decide, by decide⟩ e6)
  · obtain ⟨g, y1, y2⟩ := e7 h
    have := ydecode a l c d W r h1 h2
    rw [y1] at this
    dsimp only at this
    rw [y2, ev_nil] at this
    exact this
/-- an address and a config, in their blocks. -/
def KSt (w : World) (s : List Int) (C : Nat) (B : Nat) (W : World) : Prop := SixIn w.heap.size s W ∧ CfIn C c0 true (some ⟨B, 0, none⟩) 1 1 W ∧ Below w.heap.size w W
theorem KSt.kept {w : World} {s : List Int} {C B : Nat} {W W' : World} (h : KSt w s C B W) (hb : Below W.heap.size W W') : KSt w s C B W' := ⟨h.1.kept hb, h.2.1.kept hb, bt h.2.2 hb⟩
theorem hb_pos (f : List Int) : 0 < (hb f).length := by rw [hb_len]; decide
attribute [local go_sem ↓] gload_shut hload_shut cload_shut slr_shut fload_shut feq_shut fbu_shut
set_option maxRecDepth 100000 in
set_option maxHeartbeats 16000000 in
theorem tst_walk (s : List Int) (p isn : Int) (b : Option Addr) (lb cb : Nat) (ds : List Int) (f : Option Addr) (lf cf : Nat) (o : Option Addr) (lo co : Nat) (w : World) (hb : Row8 w b lb cb ds) (hbc : lb ≤ cb) (hcm : cb ≤ maxLen) (hf : Ir f lf w) (hlf : lf ≤ maxLen) (ho : Ir o lo w) (hlo : lo ≤ maxLen) :
    Calls Tryz.prog 8 #[.agg (sixC s), .int .i64 p, .int .i64 isn, .slice b lb cb, .slice f lf cf, .slice o lo co] w fun e w' => e = .returned (.bool true) ∧ Below w.heap.size w w' := by
  have hmb := hb.2.1
  unfold maxLen at hlf hlo hmb
  have HF := hide one_any
  have HPl := hide (fun W => tplain_any W)
  have HN := hide (fun W B (hb : Bks (some ⟨B, 0, none⟩) bk0 W) => (show Calls Tryz.prog 13 #[.agg (cfC c0 true (some ⟨B, 0, none⟩) 1 1)] W fun e w' => NG W c0 true bk0 2 e w' from gnew_gc c0 true (some ⟨B, 0, none⟩) 1 bk0 2 W hb (by decide) (by decide) (fun h => by cases h) pf_c0 cko_c0 rfl (by decide) (by decide)))
  have HR := hide (fun W (h : Below w.heap.size w W) => hb.below h)
  have HIF := hide hf
  have HIO := hide ho
  have HLb := hide hb.1
  have HPB := hide (fun A N (h : A + N ≤ lb) => part_runr b lb cb hbc hcm (fun e => (hb.2.2.2.1 e).2) A N h)
  have HS := hide (show SixIn w.heap.size s (w.alloc (.cells (sixC s) 23)) from heap_alloc_new w _)
  have HB := hide (al_below w (.cells (sixC s) 23))
  have HZc := hide (fun W => cf_zero W)
  unfold zero23c at HZc
  have HZf := hide (fun W => fl_zero W)
  unfold zero19 at HZf
  have HZ4 := hide (fun W => R4.start W)
  unfold V4.zero4 zero7 at HZ4
  clear hb hf ho hbc hcm
  go_enter Tryz.func8, Tryz.ntmps8
  go_upto_region 1 with fail
  generalize World.alloc _ _ = W0 at HS HB ⊢
  go_upto_region 2 with (go_at_call 31; refine (HF.out _).mono ?_; rintro e w1 ⟨rfl, hb1⟩; replace HS := hide (HS.out.kept hb1); replace HB := hide (bt HB.out hb1); clear hb1)
  go_upto_region 3 with (first
    | (go_at_call 37; refine (HPl.out _).mono ?_; rintro e w2 ⟨B, rfl, b2, hb2⟩; replace HS := hide (HS.out.kept hb2); replace HB := hide (bt HB.out hb2); have HBk := hide b2; clear b2 hb2)
    | (refine at_storec rfl (.tmp 14) (.tmp 39) rfl rfl (HZc.out w2) c0 true (some ⟨B, 0, none⟩) 1 1 rfl ?_; intro w3 p3 on3; have hb3 := new_below _ on3; have HK := hide (show KSt w s w2.heap.size B w3 from ⟨HS.out.kept hb3, p3, bt HB.out hb3⟩); replace HBk := hide (HBk.out.below hb3); clear p3 on3 hb3))
  clear HS HB HF HPl HZc
  generalize w2.heap.size = C at HK ⊢
  have q1 := HK.out.2.1.cl
  go_upto_region 4 with (go_at_call 13; refine (HN.out _ _ HBk.out).mono ?_; rintro e w4 h4; obtain ⟨G, O, rfl, hG, -, -⟩ := NG.gh h4 (Below.refl _ _); have HG := hide hG; clear h4 hG q1)
  clear HN HBk
  go_upto_region 6 with fail
  by_cases hl2 : 150 < lb
  · go_wp2
    go_ret
    exact ⟨rfl, bt HK.out.2.2 HG.out.below⟩
  by_cases h0 : isn < 0
  · go_wp2
    go_ret
    exact ⟨rfl, bt HK.out.2.2 HG.out.below⟩
  by_cases h1 : 4294967296 ≤ isn
  · go_wp2
    go_ret
    exact ⟨rfl, bt HK.out.2.2 HG.out.below⟩
  go_upto_region 8 with fail
  have q1 := (HK.out.kept HG.out.below).1.hl
  have q2 := (HK.out.kept HG.out.below).2.1.hv
  have q3 : w4.cell? ⟨C, 8, none⟩ = some (.int .i64 80) := (HK.out.kept HG.out.below).2.1.c8
  have qb := fun W => fbu_run 6 s p (vip c0) 80 W
  go_upto_region 9 with (refine at_storef rfl (.tmp 17) (.tmp 68) rfl rfl (HZf.out w4) (fS s p) rfl ?_; intro w5 p5 on5; have HB5 := hide (new_below _ on5); have HFl := hide p5; clear p5 on5)
  clear q1 q2 q3 qb HZf
  have HNo := hide (show ¬ O w4.heap.size from fun ho => Nat.lt_irrefl _ (HG.out.lt ho))
  replace HG := hide (HG.out.kept HB5.out)
  clear HB5
  generalize w4.heap.size = Bf at HFl HNo ⊢
  have q1 := HFl.out.fl
  by_cases hok : okf (fS s p) = true
  case neg =>
    have HE := hide (fun W => yencode (fS s p) W)
    rw [Bool.not_eq_true] at hok
    rw [hok] at HE
    rw [show ev (fe false) = .iface 47 (.int .i64 1) from rfl] at HE
    go_wp2_with (go_at_call 38; refine (HE.out _).mono ?_; rintro e w6 ⟨v6, rfl, -, -, hb6⟩; have HB6 := hide (bt HG.out.below hb6); clear hb6)
    go_ret
    exact ⟨rfl, bt HK.out.2.2 HB6.out⟩
  have HE := hide (fun W => yencode (fS s p) W)
  rw [hok] at HE
  rw [show ev (fe true) = .nilIface from rfl] at HE
  go_upto_region 10 with (go_at_call 38; refine (HE.out _).mono ?_; rintro e w6 ⟨v6, rfl, o6, -, hb6⟩; obtain ⟨gh6, c6, rfl, -, -, -, -, r6⟩ := (o6 rfl).form (hb_pos _); rw [hb_len] at r6; have HSW := hide (show SW w3 G (gz0 c0 true bk0 2) Bf (fS s p) (some ⟨gh6, 0, none⟩) 52 c6 (hb (fS s p)) w6 from ⟨O, HG.out.kept hb6, HNo.out, HFl.out.kept hb6, r6⟩); clear o6 hb6 r6 q1)
  rw [hb_len]
  clear HE HG HFl HNo
  have hs : Ok6 s := by
    have := okf_cli hok
    intro j hj
    have h := this j hj
    rcases (by omega : j = 0 ∨ j = 1 ∨ j = 2 ∨ j = 3 ∨ j = 4 ∨ j = 5 ∨ j = 6 ∨ j = 7) with rfl | rfl | rfl | rfl | rfl | rfl | rfl | rfl <;> exact h
  have hp : 0 ≤ p ∧ p ≤ 65535 := portS hok
  have hi : 0 ≤ isn ∧ isn < 4294967296 := by omega
  have hv : Ok6 (vip c0) := fun j hj => by rcases (by omega : j = 0 ∨ j = 1 ∨ j = 2 ∨ j = 3 ∨ j = 4 ∨ j = 5 ∨ j = 6 ∨ j = 7) with rfl | rfl | rfl | rfl | rfl | rfl | rfl | rfl <;> exact ⟨by decide, by decide⟩
  have hz : Okg [6, p, 80, isn, 0, 2, 0] ([] : List Int).length := okgS hp hi ⟨by decide, by decide⟩ (by simp)
  have hg6 := g6_p6o (gz0 c0 true bk0 2) hs hv (by decide : up 255 9 = true) hz
  rw [if_neg (by decide)] at hg6
  replace hg6 : g6 (gz0 c0 true bk0 2) (p6o s (vip c0) 9 [6, p, 80, isn, 0, 2, 0] []) = g6s (gz0 c0 true bk0 2) (fS s p) 9 [6, p, 80, isn, 0, 2, 0] [] := hg6
  rw [syn_g6s hok hp hi] at hg6
  have hig : IG (gS s p isn) := by
    have := (g6_ig ig_c0 (p6o_oct (s := s) (d := vip c0) (t := 9) (z := [6, p, 80, isn, 0, 2, 0]) (D := []) hs hv (by decide) hz SM.oct_nil)).1
    rw [hg6] at this
    exact this
  have HSn := hide (fun W => (show Calls Tryz.prog 32 #[.agg #[.int .i64 6, .int .i64 p, .int .i64 80, .int .i64 isn, .int .i64 0, .int .i64 2, .int .i64 0, .slice none 0 0], .agg (sixC s), .agg (sixC (vip c0)), .int .i64 9] W fun e w' => ∃ v, e = .returned v ∧ Own W.heap.size w' v (p6o s (vip c0) 9 [6, p, 80, isn, 0, 2, 0] []) ∧ Below W.heap.size W w' from sent_ok [6, p, 80, isn, 0, 2, 0] none 0 0 [] s (vip c0) 9 W hs hv (by decide) hz (gt_no W)))
  have HI := hide (in6_sw ig_c0 hg6)
  have hM := md_in (isn - 52)
  have HO := hide (fun W b l k (r : Row8 W b l k (p4o 9 5 8 [6, 1024, 8080, md (isn - 52), 0, 2, 0] [])) h1 h2 => (show Calls Tryz.prog 33 #[.slice b l k] W fun e w' => ∃ a1 l1 c1 a2 l2 c2, e = .returned (.tuple #[.agg #[.int .i64 9, .int .i64 5, .int .i64 8, .int .i64 6, .int .i64 0, .slice a1 l1 c1], .agg (sgC [6, 1024, 8080, md (isn - 52), 0, 2, 0] a2 l2 c2), .bool true]) ∧ (Row8 w' a2 l2 c2 [] ∧ l2 ≤ c2 ∧ c2 ≤ maxLen) ∧ Below W.heap.size W w' from opened_c b l k 9 5 8 [6, 1024, 8080, md (isn - 52), 0, 2, 0] [] W r h1 h2 (by decide) (by decide) (by decide) (okgT hM ⟨by decide, by decide⟩ (by simp))))
  have HPT := hide (fun A N (hA : A + N ≤ lb) => part_bundle (ds := ds) hs hok hp hi hig A N (by rw [HLb.out]; exact hA) (by rw [HLb.out]; omega))
  have HL6 := hide (@p6o_len s (vip c0) 9 [6, p, 80, isn, 0, 2, 0] [])
  generalize p6o s (vip c0) 9 [6, p, 80, isn, 0, 2, 0] [] = Y6 at HSn HI HL6
  generalize p4o 9 5 8 [6, 1024, 8080, md (isn - 52), 0, 2, 0] [] = Y4 at HI HO
  generalize md (isn - 52) = M at HO HPT hM
  have HLh := hide (hb_len (fS s p))
  clear hg6 hz hig hs hv
  generalize hbF : Go.Proofs.YtkhahbghmdccaaaGreat.hb (fS s p) = hd at HSW HLh
  unfold PTD at HPT
  rw [hbF] at HPT
  clear hbF
  generalize gS s p isn = g1 at HI HPT
  generalize gz0 c0 true bk0 2 = g0 at HSW HI
  generalize fS s p = fl at HSW HPT
  have q1 := (HK.out.kept HSW.out.below).1.hl
  have q2 := (HK.out.kept HSW.out.below).2.1.hv
  have q3 : w6.cell? ⟨C, 8, none⟩ = some (.int .i64 80) := (HK.out.kept HSW.out.below).2.1.c8
  go_upto_region 13 with (first
    | (go_at_call 32; refine (HSn.out _).mono ?_; rintro e w7 ⟨v7, rfl, o7, hb7⟩; obtain ⟨g7, c7, rfl, k1, k2, -, -, r7⟩ := o7.form HL6.out; have HR7 := hide (And.intro r7 (And.intro k1 k2)); have HS7 := hide (HSW.out.kept hb7); clear o7 hb7 k1 k2 r7 q1 q2 q3)
    | (go_at_call 16; refine (HI.out _ _ _ _ _ _ _ _ _ _ _ _ HS7.out HR7.out.1 HR7.out.2.1 HR7.out.2.2).mono ?_; rintro e w8 ⟨a8, l8, c8, rfl, r8, h8⟩; have HS8 := hide h8; have HR8 := hide r8; clear h8 r8))
  clear HSW HSn HI HS7 HR7 HL6
  go_upto_region 14 with (first
    | (go_at_call 33; refine (HO.out _ _ _ _ HR8.out.1 HR8.out.2.1 HR8.out.2.2).mono ?_; rintro e w9 ⟨a9, l9, c9, a10, l10, c10, rfl, -, hb9⟩; have HZ9 := hide (HZ4.out w9); replace HS8 := hide (HS8.out.kept hb9); clear hb9)
    | (refine V4.at_store rfl (.tmp 21) (.tmp 93) rfl rfl HZ9.out.1 9 5 8 6 0 a9 l9 c9 rfl ?_; intro wa pa ona; have HSa := hide (ona.sg HZ9.out.2.1 (by omega)); have HBa := hide (ona.below HZ9.out.2.2 (Nat.le_refl _)); clear pa ona)
    | (refine at_store rfl (.tmp 22) (.tmp 94) rfl rfl HSa.out [6, 1024, 8080, M, 0, 2, 0] a10 l10 c10 rfl ?_; intro wb pb onb; have HSb := hide pb; have HBb := hide (onb.below HBa.out (Nat.le_succ _)); clear pb onb))
  replace HS8 := hide (HS8.out.kept HBb.out)
  clear HZ9 HSa HBa HBb HO HR8
  generalize w9.heap.size = B9 at HSb ⊢
  go_upto_region 16 with fail
  have q3 : wb.cell? ⟨B9 + 1, 3, none⟩ = some (.int .i64 M) := HSb.out.c3
  obtain ⟨F, hF⟩ : ∃ F, F = (M + 1) % 4294967296 := ⟨_, rfl⟩
  rw [← hF] at HPT
  have hF0 : 0 ≤ F ∧ F < 4294967296 := by omega
  have HFe := hide hF
  clear hF
  go_upto_region 17 with fail
  rw [← HFe.out]
  clear q3 HFe HSb hM
  have RD := hide (HR.out _ (bt HK.out.2.2 HS8.out.below))
  have RH := hide HS8.out.row
  have G0 := hide (Gr.nil wb)
  go_upto_region 19 with (at_builtin; refine gr_app rfl (.tmp 106) (.tmp 107) rfl rfl G0.out rfl RH.out (by simp only [List.length_nil]; decide) ?_; intro v9 wc gc; replace gc := hide gc)
  have RD2 := hide (RD.out.below gc.out.2)
  go_upto_region 20 with (at_builtin; refine gr_app rfl (.tmp 109) (.tmp 110) rfl rfl gc.out rfl RD2.out (by rw [List.nil_append, HLh.out]; omega) ?_; intro v10 wd gd; replace gd := hide gd)
  rw [List.nil_append] at gd
  obtain ⟨x, l, c, hvx, hrx, hrm⟩ : ∃ x l c, v10 = .slice x l c ∧ Row8 wd x l c (hd ++ ds) ∧ (l ≤ c ∧ c ≤ maxLen ∧ (x = none → c = 0)) := by
    obtain ⟨x, c, e, hr, -⟩ := gd.out.1.row8
    refine ⟨x, _, c, e, hr, ?_⟩
    have := gd.out.1
    rw [e] at this
    have h := this.rooms
    exact ⟨h.1, h.2, fun e => (hr.2.2.2.1 e).2⟩
  have HV0 := hide (show SW w3 G g1 Bf fl x l c (hd ++ ds) wd from (HS8.out.kept gd.out.2).to hrx)
  have hll : l = 52 + lb := by rw [← hrx.1, List.length_append, HLh.out, HLb.out]
  have HPA := hide (fun A N (h : A + N ≤ l) => part_runr x l c hrm.1 hrm.2.1 hrm.2.2 A N h)
  have hl3 : l ≤ 250 := by omega
  have HLL := hide hll
  subst hvx
  clear gc gd G0 RH RD RD2 HS8 hrx hrm hll
  go_wp2
  go_loopw [26] (fun i wr => ∃ (m : Nat), m ≤ 30 ∧ i = .int .i64 m ∧ Hid (SW w3 G g1 Bf fl x l c (hd ++ ds) wr)) (fun i _ => 30 - (intOf i).toNat)
  case atStart => exact ⟨0, by omega, rfl, HV0⟩
  case round =>
    obtain ⟨m, hm, rfl, HV⟩ := hrel
    clear HV0
    by_cases hlt : m < lf
    case neg =>
      have j1 : ¬ (m : Int) < (lf : Int) := by omega
      go_wp2
      go_ret
      exact ⟨rfl, bt HK.out.2.2 HV.out.below⟩
    have j1 : (m : Int) < (lf : Int) := by omega
    by_cases hlt2 : m < lo
    case neg =>
      have j2 : ¬ (m : Int) < (lo : Int) := by omega
      go_wp2
      go_ret
      exact ⟨rfl, bt HK.out.2.2 HV.out.below⟩
    have j2 : (m : Int) < (lo : Int) := by omega
    by_cases h30 : m < 30
    case neg =>
      have j3 : ¬ (m : Int) < 30 := by omega
      go_wp2
      go_ret
      exact ⟨rfl, bt HK.out.2.2 HV.out.below⟩
    have j3 : (m : Int) < 30 := by omega
    obtain ⟨g1', o1, rfl, hx1⟩ := HIF.out (by omega)
    obtain ⟨ax, ha1⟩ := hx1 m hlt
    obtain ⟨g2, o2, rfl, hx2⟩ := HIO.out (by omega)
    obtain ⟨n, hn1⟩ := hx2 m hlt2
    have k1 := ((bt HK.out.2.2 HV.out.below).cell (p := ⟨g1', o1 + m, none⟩) (cell_lt ha1)).trans ha1
    have k2 := ((bt HK.out.2.2 HV.out.below).cell (p := ⟨g2, o2 + m, none⟩) (cell_lt hn1)).trans hn1
    clear hx1 ha1 hx2 hn1
    go_upto_region 25 with fail
    clear k1 k2
    by_cases c1 : ax < 0
    · go_wp2
      go_roundw
      case rel => exact ⟨m + 1, by omega, by go_num, HV⟩
      case measure => simp [intOf]; omega
    by_cases c2 : (lb : Int) < ax
    · go_wp2
      go_roundw
      case rel => exact ⟨m + 1, by omega, by go_num, HV⟩
      case measure => simp [intOf]; omega
    by_cases c3 : n < 0
    · go_wp2
      go_roundw
      case rel => exact ⟨m + 1, by omega, by go_num, HV⟩
      case measure => simp [intOf]; omega
    by_cases c4 : (lb : Int) - ax < n
    · go_wp2
      go_roundw
      case rel => exact ⟨m + 1, by omega, by go_num, HV⟩
      case measure => simp [intOf]; omega
    obtain ⟨A, rfl⟩ := Int.eq_ofNat_of_zero_le (show 0 ≤ ax by omega)
    obtain ⟨N, rfl⟩ := Int.eq_ofNat_of_zero_le (show 0 ≤ n by omega)
    have hAN : A + N ≤ lb := by omega
    obtain ⟨y, hrun, hp1, hp2⟩ := HPB.out A N hAN
    obtain ⟨q, d, At, Y6, Y4, ⟨hq, hAt, hle, hdr, hd3⟩, hSn, hI6, hOp, hDe⟩ := HPT.out A N hAN
    have HRP := hide (fun W (hb : Below w.heap.size w W) => (HR.out W hb).part A (A + N) (by omega) hAN y (cb - A) (fun b off _ e => hp1 b off (by omega) e) (fun e => ⟨by have := (hp2 e).1; omega, (hp2 e).2⟩))
    rw [Nat.add_sub_cancel_left] at HRP
    have HSn := hide hSn
    have HI6 := hide hI6
    have HOp := hide hOp
    have HDe := hide hDe
    have HAt := hide hAt
    have HDr := hide hdr
    have HLe := hide hle
    clear hp1 hp2 hSn hI6 hOp hDe hAt hdr hle hd3
    go_upto_region 26 with fail
    have v0 : IntKind.i64.wrap (isn + 1) = isn + 1 := by rw [IntKind.wrap_i64]; omega
    have v1 : IntKind.i64.wrap (isn + 1 + (A : Int)) = isn + 1 + (A : Int) := by rw [IntKind.wrap_i64]; omega
    have v2 : Int.tmod (isn + 1 + (A : Int)) 4294967296 = (isn + 1 + (A : Int)) % 4294967296 := Int.tmod_eq_emod_of_nonneg (by omega)
    have v3 : IntKind.i64.wrap ((A : Int) + (N : Int)) = (A : Int) + (N : Int) := by rw [IntKind.wrap_i64]; omega
    have HX := hide (show SW w3 G g1 Bf fl x l c (hd ++ ds) wr.drew from HV.out.kept ((Below.refl _ _).drew))
    have HQ := hide (fun W (h : Below w3.heap.size w3 W) => (show (hload (.pointer (some ⟨w.heap.size, 0, none⟩))).run Tryz.prog W = .ok (.agg (sixC s)) W ∧ (hload (.pointer (some ⟨C, 0, none⟩))).run Tryz.prog W = .ok (.agg (sixC (vip c0))) W ∧ W.cell? ⟨C, 8, none⟩ = some (.int .i64 80) from ⟨(HK.out.kept h).1.hl, (HK.out.kept h).2.1.hv, (HK.out.kept h).2.1.c8⟩))
    obtain ⟨q1, q2, q3⟩ := HQ.out _ HX.out.below
    go_region_held3 (fun W => (hload (.pointer (some ⟨w.heap.size, 0, none⟩))).run Tryz.prog W = .ok (.agg (sixC s)) W ∧ (hload (.pointer (some ⟨C, 0, none⟩))).run Tryz.prog W = .ok (.agg (sixC (vip c0))) W ∧ W.cell? ⟨C, 8, none⟩ = some (.int .i64 80))
      (first
        | exact HQ.out _ HX.out.below
        | exact HQ.out _ HX1.out.below
        | exact HQ.out _ HX2.out.below
        | go_keep)
      (first
        | (go_at_call 32; refine (HSn.out _ _ _ (HRP.out _ (bt HK.out.2.2 HX.out.below))).mono ?_; rintro e we ⟨be, le, ke, rfl, re, hbe⟩; have HRe := hide re; have HX1 := hide (HX.out.kept hbe); clear re hbe q1 q2 q3; obtain ⟨q1, q2, q3⟩ := HQ.out _ HX1.out.below)
        | (go_at_call 16; refine (HI6.out _ _ _ _ _ _ _ _ _ _ _ _ HX1.out HRe.out.1 HRe.out.2.1 HRe.out.2.2).mono ?_; rintro e wf ⟨af, lf', cf', rfl, rf, hf'⟩; have HX2 := hide hf'; have HRf := hide rf; clear rf hf' q1 q2 q3; obtain ⟨q1, q2, q3⟩ := HQ.out _ HX2.out.below))
    clear q1 q2 q3 HQ HX HX1 HRe HSn HI6 HRP hrun v0 v1 v2 v3 HV
    go_upto_region 28 with (first
      | (go_at_call 33; refine (HOp.out _ _ _ _ HRf.out.1 HRf.out.2.1 HRf.out.2.2).mono ?_; rintro e wg ⟨ag, lg, cg, ah, lh, ch, rfl, rg, hbg⟩; have HZg := hide (HZ4.out wg); replace HX2 := hide (HX2.out.kept hbg); have HRg := hide rg; clear rg hbg)
      | (refine V4.at_store rfl (.tmp 31) (.tmp 183) rfl rfl HZg.out.1 9 5 8 6 0 ag lg cg rfl ?_; intro wi pi oni; have HSi := hide (oni.sg HZg.out.2.1 (by omega)); have HBi := hide (oni.below HZg.out.2.2 (Nat.le_refl _)); clear pi oni)
      | (refine at_store rfl (.tmp 32) (.tmp 184) rfl rfl HSi.out [6, 1024, 8080, q, 0, 16, 0] ah lh ch rfl ?_; intro wj pj onj; have HSj := hide pj; have HBj := hide (onj.below HBi.out (Nat.le_succ _)); clear pj onj))
    replace HX2 := hide (HX2.out.kept HBj.out)
    replace HRg := hide (And.intro (HRg.out.1.below HBj.out) HRg.out.2)
    clear HZg HSi HBi HBj HOp HRf
    generalize wg.heap.size = Bg at HSj ⊢
    go_upto_region 30 with fail
    have q3 : wj.cell? ⟨Bg + 1, 3, none⟩ = some (.int .i64 q) := HSj.out.c3
    go_upto_region 31 with fail
    rw [HAt.out]
    clear q3
    obtain rfl : lh = d.length := HRg.out.1.1.symm
    have hle : At + d.length ≤ l := by rw [HLL.out]; have := HLe.out; rw [HLb.out] at this; exact this
    obtain ⟨y2, hrun2, hp1, hp2⟩ := HPA.out At d.length hle
    have HRA := hide (fun W (hb : Row8 W x l c (hd ++ ds)) => hb.part At (At + d.length) (by omega) hle y2 (c - At) (fun b off _ e => hp1 b off (by omega) e) (fun e => ⟨by have := (hp2 e).1; omega, (hp2 e).2⟩))
    rw [Nat.add_sub_cancel_left, HDr.out] at HRA
    have v1 := fun n => conv8 ((HRA.out _ HX2.out.row).drewN n)
    have v2 := fun n => conv8 (HRg.out.1.drewN n)
    have qq := str8_eq HRg.out.1.2.2.1 HRg.out.1.2.2.1 true (by simp)
    have q7 := HSj.out.c7
    have HBn := hide (fun n => drn (Below.refl wj.heap.size wj) n)
    obtain ⟨L2, hL2⟩ : ∃ L2 : Nat, L2 = d.length := ⟨_, rfl⟩
    have d1 : decide ((l : Int) < (At : Int) + (d.length : Int)) = false := decide_eq_false (by omega)
    have d2 : ¬ ((l : Int) < (At : Int) + (d.length : Int)) := by omega
    have d3 : IntKind.i64.wrap ((At : Int) + (d.length : Int)) = (At : Int) + (d.length : Int) := by rw [IntKind.wrap_i64]; omega
    clear hp1 hp2 HAt HDr HLe hL2
    go_quiet (fail)
    have HQ := hide (HBn.out nq)
    clear q7 v1 v2 qq d1 d2 d3 hrun2 HRA HBn
    generalize wj.drewN nq = wk at HQ ⊢
    replace HX2 := hide (HX2.out.kept HQ.out)
    replace HSj := hide (HSj.out.kept HQ.out)
    replace HRg := hide (And.intro (HRg.out.1.below HQ.out) HRg.out.2)
    clear HQ
    go_upto_region 33 with fail
    by_cases hA0 : At = 0
    case neg =>
      have j5 : ((At : Int) == 0) = false := by
        rw [beq_eq_false_iff_ne]
        omega
      go_wp2
      go_roundw
      case rel => exact ⟨m + 1, by omega, by go_num, HX2⟩
      case measure => simp [intOf]; omega
    have HD := hide (HDe.out hA0)
    subst hA0
    have q7 := HSj.out.c7
    have HZ := hide (fun W => fl_zero W)
    unfold zero19 at HZ
    go_upto_region 35 with (first
      | (go_at_call 39; refine (HD.out _ _ _ _ HRg.out.1 HRg.out.2.1 HRg.out.2.2).mono ?_; rintro e wl ⟨rfl, hbl⟩; replace HX2 := hide (HX2.out.kept hbl); clear hbl q7)
      | (refine at_storef rfl (.tmp 35) (.tmp 227) rfl rfl (HZ.out wl) fl rfl ?_; intro wm pm onm; replace HX2 := hide (HX2.out.kept (new_below _ onm)); have HFm := hide pm; clear pm onm))
    have q1 := HFm.out.fl
    have q2 := HX2.out.fl.fl
    have q3 := feq_run fl fl wm
    rw [(eqf_iff fl fl).2 rfl] at q3
    go_wp2
    go_roundw
    case rel => exact ⟨m + 1, by omega, by go_num, HX2⟩
    case measure => simp [intOf]; omega
end Go.Proofs.YtkhahbghmdccaaaGreat
