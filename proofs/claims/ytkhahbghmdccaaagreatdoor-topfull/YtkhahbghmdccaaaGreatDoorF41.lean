/- Package gate: a client's packet, by a contract. -/
import Derived.Test.YtkhahbghmdccaaaGreatDoorF37
import Derived.Test.YtkhahbghmdccaaaGreatDoorF39
import Derived.Test.YtkhahbghmdccaaaGreatDoorF40
import Derived.Below
import Derived.OpenShut
import Derived.Test.YtkhahbghmdccaaaGreatDoorProg
import Derived.WalkKit
import Derived.LaidEql
import Derived.BigQuiet
import Derived.Laws.AppendOwnNone
import Derived.Laws.MakeOwn
import Derived.Deep.RegionLaw
import Derived.Lib.Bytes
import Derived.Deep.MidRow
import Derived.Laws.ResultCell
import Derived.Deep.CutBlock
import Derived.Deep.QuietTactic
import Derived.OwnWalk
import Derived.Deep.RegionHeld3
import Derived.Deep.DrawnRows
import Derived.Laws.StructEq
import Derived.Maps.AppendAt
import Derived.Maps.RangeWalk
import Derived.Stop.Asserts
import Derived.RowKitTokens
import Derived.Test.YtkhahbghmdccaaaGreatDoorShelf
import Derived.Shelf.Abstract
import Derived.Lib.SliceRun
import Derived.Lib.AppendZerosOnto
import Derived.Lib.AppendZeros
import Derived.Laws.CopyOwn
import Derived.RangeFuncNested
import Derived.RangeFuncBound
import Derived.RangeFuncCalls
import Derived.RangeFuncLeaves
import Derived.RangeFuncFrom
import Derived.Shelf.RegionOpen
import Derived.OwnWalkIn
import Derived.TacticsInMore
import Derived.LoopNIn
import Derived.LoopIn
import Derived.Deep.RegionWith
import Derived.ArgAppend
import Derived.Lib.SlBytesConst
import Derived.Lib.AppendStr
namespace Go.Proofs.YtkhahbghmdccaaaGreatDoor
open Go.RowKit
set_option maxRecDepth 100000 in
set_option maxHeartbeats 4000000 in
theorem in6_stop (G : Nat) (b : Option Addr) (len bcap : Nat) (E : Int) (w : World)
    (hO : Calls Tryz.prog 63 #[.slice b len bcap] w fun e w' => (∃ s d h k a1 l1 c1 z a2 l2 c2, e = .returned (.tuple #[.agg (V6.pkC s d h k a1 l1 c1), .agg (sgC z a2 l2 c2), err E])) ∧ Below w.heap.size w w') :
    Calls Tryz.prog 21 #[.pointer (some ⟨G, 0, none⟩), .slice b len bcap] w fun e w' => e = .returned (.tuple #[.slice none 0 0, err E]) ∧ Below w.heap.size w w' := by
  have HO := hide hO
  have HZ := hide (fun W => R6.start W)
  unfold V6.zero6 zero7 at HZ
  unfold err at HO ⊢
  clear hO
  go_enter Tryz.func21, Tryz.ntmps21
  go_wp2_with (first
    | (go_at_call 63; refine HO.out.mono ?_; rintro e w1 ⟨⟨s, d, h, k, a1, l1, c1, z, a2, l2, c2, rfl⟩, hb1⟩; have HR := hide (HZ.out w1); have HB := hide hb1; clear hb1)
    | (refine V6.at_store rfl (.tmp 6) (.tmp 15) rfl rfl HR.out.1 s d h k a1 l1 c1 rfl ?_; intro w2 p2 on2; have HS := hide (on2.sg HR.out.2.1 (by omega)); have HB2 := hide (on2.below (bt HB.out HR.out.2.2) HB.out.size); clear p2 on2)
    | (refine at_store rfl (.tmp 7) (.tmp 16) rfl rfl HS.out z a2 l2 c2 rfl ?_; intro w3 p3 on3; have HB3 := hide (on3.below HB2.out (Nat.le_succ_of_le HB.out.size)); clear p3 on3))
  go_ret2
  exact ⟨rfl, HB3.out⟩
def IK (w : World) (P Q F : Nat) (s d : List Int) (h k : Int) (a1 : Option Addr) (l1 c1 : Nat) (z : List Int) (a2 : Option Addr) (l2 c2 : Nat) (D f : List Int) (W : World) : Prop := V6.PkIn P s d h k a1 l1 c1 W ∧ SgIn Q z a2 l2 c2 W ∧ FlIn F f W ∧ Row8 W a2 l2 c2 D ∧ w.heap.size ≤ P ∧ w.heap.size ≤ Q ∧ w.heap.size ≤ F
theorem IK.kpt {w : World} {P Q F : Nat} {s d : List Int} {h k : Int} {a1 : Option Addr} {l1 c1 : Nat} {z : List Int} {a2 : Option Addr} {l2 c2 : Nat} {D f : List Int} {W W' : World} (i : IK w P Q F s d h k a1 l1 c1 z a2 l2 c2 D f W) {O : Nat → Prop} (kp : Kpt O W W') (hO : ¬ O P ∧ ¬ O Q ∧ ¬ O F) : IK w P Q F s d h k a1 l1 c1 z a2 l2 c2 D f W' := by
  obtain ⟨i1, i2, i3, i4, i5, i6, i7⟩ := i
  exact ⟨(kp.1.2.2.2.2 P i1.lt hO.1).trans i1, (kp.1.2.2.2.2 Q i2.lt hO.2.1).trans i2, (kp.1.2.2.2.2 F i3.lt hO.2.2).trans i3, kp.2 _ _ _ _ i4, i5, i6, i7⟩
theorem IK.kept {w : World} {P Q F : Nat} {s d : List Int} {h k : Int} {a1 : Option Addr} {l1 c1 : Nat} {z : List Int} {a2 : Option Addr} {l2 c2 : Nat} {D f : List Int} {W W' : World} (i : IK w P Q F s d h k a1 l1 c1 z a2 l2 c2 D f W) (hb : Below W.heap.size W W') : IK w P Q F s d h k a1 l1 c1 z a2 l2 c2 D f W' := i.kpt (Kpt.of (O := fun _ => False) hb) ⟨id, id, id⟩
theorem leadof_any (G : Nat) (a : Option Addr) (cap : Nat) (tv : Value) (S : Nat) (Ot : Nat → Prop) (β : Int → Nat) (g : GS) (f : List Int) (w : World) (h : GC G a cap tv S Ot β g w) (hc : CI g) (hd : Ok6 (dst f)) :
    Calls Tryz.prog 64 #[.pointer (some ⟨G, 0, none⟩), .agg (flC f)] w fun e w' => (((ldo g.c f).1 ≠ 0 ∧ (ldo g.c f).1 = 4 ∧ ∃ v, e = .returned (.tuple #[v, err 4])) ∨ ((ldo g.c f).1 = 0 ∧ ∃ v, e = .returned (.tuple #[v, .nilIface]) ∧ LV G f (ldo g.c f).2 v w')) ∧ Below w.heap.size w w' := by
  by_cases hv : eqz (dst f) (vip g.c) = true ∧ el f 18 = el g.c 8
  · have e : ldo g.c f = (0, true, 0) := if_pos hv
    rw [e]
    exact (leadof_vip G g.c g.inj a g.bk.length cap tv S g.now f w h.1 hv.1 hv.2).mono fun r w' ⟨v, e1, e2, e3⟩ => ⟨.inr ⟨rfl, v, e1, e2⟩, e3⟩
  · exact leadof_out G g.c g.inj a g.bk.length cap tv S g.now f w h.1 hv hd hc.2.1 hc.2.2.1
theorem bindof_any (G : Nat) (a : Option Addr) (cap : Nat) (tv : Value) (S : Nat) (Ot : Nat → Prop) (β : Int → Nat) (g : GS) (f : List Int) (flags : Int) (v : Value) (w : World) (h : GC G a cap tv S Ot β g w) (hi : TI g) (hc : CI g) (hf : okf f = true) (hd : Ok6 (dst f)) (hfl : 0 ≤ flags ∧ flags ≤ 31) (hl : (ldo g.c f).1 = 0) (hv : LV G f (ldo g.c f).2 v w) :
    Calls Tryz.prog 66 #[.pointer (some ⟨G, 0, none⟩), .agg (flC f), .int .i64 flags, v] w fun e w' => e = .returned (.tuple #[.agg (bdC (bdo g f flags (whr g f (ldo g.c f).2)).2.1), ev (bdo g f flags (whr g f (ldo g.c f).2)).1]) ∧ BQ w w.heap.size G a cap tv S Ot β g (bdo g f flags (whr g f (ldo g.c f).2)).2.2 w' := by
  cases hn : fnd g.bs f with
  | some k =>
    rw [bdo_some hn]
    exact bindof_has G a cap tv S Ot β g f flags v k w h hi hf hn
  | none =>
    have hw := fun h0 => whr_ok hc hf hd hl h0
    rcases hv with ⟨hb, B, F, rfl, hp, hF⟩ | ⟨hb, B, F, rfl, hp, hF⟩
    · refine bindof_new G a cap tv S Ot β g f flags _ _ _ w h hi hf hfl hn (enters_of Tryz.func118 (by kernel_rfl) rfl) (fun W hW => ?_) hw
      have hk := h.kept hW
      have e : whr g f (ldo g.c f).2 = (el (pko (el g.c 19) f g.bk).1 1, el (pko (el g.c 19) f g.bk).1 2, (pko (el g.c 19) f g.bk).2) := if_pos hb
      rw [e]
      exact wh1_any B F G g.c g.inj a cap tv S g.now f g.bk W (hp.kept hW) (hF.kept hW) hk.1 hk.2.1.1.bks (Nat.le_trans hk.2.1.2.2.1 hk.2.1.2.2.2) hk.2.1.2.2.1
    · refine bindof_new G a cap tv S Ot β g f flags _ _ _ w h hi hf hfl hn (enters_of Tryz.func121 (by kernel_rfl) rfl) (fun W hW => ?_) hw
      have e : whr g f (ldo g.c f).2 = ((ldo g.c f).2.2, el f 18, 0) := if_neg (by rw [hb]; decide)
      rw [e]
      exact wh2_any B F _ f W (hp.kept hW) (hF.kept hW)
def fbu (ps : Array (Nat × Value)) : Sem Value := Instr.build 73 ps
theorem fbu_shut (ps : Array (Nat × Value)) : Instr.build 73 ps = fbu ps := rfl
theorem fbu_run (k : Int) (s : List Int) (p : Int) (d : List Int) (q : Int) (w : World) : (fbu #[(0, .int .i64 k), (1, .agg (sixC s)), (2, .int .i64 p), (3, .agg (sixC d)), (4, .int .i64 q)]).run Tryz.prog w = .ok (.agg (flC (fl5 k s p d q))) w := by kernel_rfl
theorem SgIn.set12 {B : Nat} {z : List Int} {a : Option Addr} {len cap : Nat} {w : World} (p : SgIn B z a len cap w) (f t : Int) : SgIn B (zft z f t) a len cap ((w.setCell ⟨B, 1, none⟩ (.int .i64 f)).setCell ⟨B, 2, none⟩ (.int .i64 t)) ∧ Only B w ((w.setCell ⟨B, 1, none⟩ (.int .i64 f)).setCell ⟨B, 2, none⟩ (.int .i64 t)) := by
  have h1 : SgIn B [el z 0, f, el z 2, el z 3, el z 4, el z 5, el z 6] a len cap (w.setCell ⟨B, 1, none⟩ (.int .i64 f)) ∧ Only B w (w.setCell ⟨B, 1, none⟩ (.int .i64 f)) := by
    rw [setCell_eq_setRow w B 1 _ _ (0, 0) _ p]
    exact ⟨setRow_heap w B _ _ _ (0, 0) p, only_setRow _ _ _⟩
  generalize w.setCell ⟨B, 1, none⟩ (.int .i64 f) = w1 at h1 ⊢
  have h2 : SgIn B (zft z f t) a len cap (w1.setCell ⟨B, 2, none⟩ (.int .i64 t)) ∧ Only B w1 (w1.setCell ⟨B, 2, none⟩ (.int .i64 t)) := by
    rw [setCell_eq_setRow w1 B 2 _ _ (0, 0) _ h1.1]
    exact ⟨setRow_heap w1 B _ _ _ (0, 0) h1.1, only_setRow _ _ _⟩
  refine ⟨h2.1, h2.2.1.trans h1.2.1, h2.2.2.1.trans h1.2.2.1, h2.2.2.2.1.trans h1.2.2.2.1, h2.2.2.2.2.1.trans h1.2.2.2.2.1, fun k hk => (h2.2.2.2.2.2 k hk).trans (h1.2.2.2.2.2 k hk)⟩
theorem gup_any (G : Nat) (a : Option Addr) (cap : Nat) (tv : Value) (S : Nat) (Ot : Nat → Prop) (β : Int → Nat) (g : GS) (b z : List Int) (a1 : Option Addr) (l1 c1 : Nat) (D : List Int) (w : World) (h : GC G a cap tv S Ot β g w) (hs : SI g) (hf : okf b = true) (hr : Row8 w a1 l1 c1 D) :
    Calls Tryz.prog 67 #[.pointer (some ⟨G, 0, none⟩), .agg (bdC b), .agg (sgC z a1 l1 c1)] w fun e w' => ∃ a2 l2 c2, e = .returned (.tuple #[.agg (sgC (guo g b z D).2.1 a2 l2 c2), ev (guo g b z D).1]) ∧ Row8 w' a2 l2 c2 (guo g b z D).2.2.1 ∧ GQ w G a cap tv S Ot β g (guo g b z D).2.2.2 w' := by
  cases ht : tell g.c g.inj b
  · exact gup_no G a cap tv S Ot β g b z a1 l1 c1 D w h hr ht
  · exact gup_yes G a cap tv S Ot β g b z a1 l1 c1 D w h hs hf hr ht
attribute [local go_sem ↓] gload_shut fload_shut bload_shut fbu_shut
set_option maxRecDepth 100000 in
set_option maxHeartbeats 2000000 in
theorem in6_go (G : Nat) (a : Option Addr) (cap : Nat) (tv : Value) (S : Nat) (Ot : Nat → Prop) (β : Int → Nat) (g : GS) (b : Option Addr) (len bcap : Nat) (s d : List Int) (hop k : Int) (z D : List Int) (w : World) (h : GC G a cap tv S Ot β g w) (hi : TI g) (hs : SI g) (hc : CI g) (hz : Okg z D.length) (h1 : Ok6 s) (h2 : Ok6 d) (hh : 2 ≤ hop ∧ hop ≤ 255)
    (hO : Calls Tryz.prog 63 #[.slice b len bcap] w fun e w' => ∃ a1 l1 c1 a2 l2 c2, e = .returned (.tuple #[.agg (V6.pkC s d hop k a1 l1 c1), .agg (sgC z a2 l2 c2), .nilIface]) ∧ Row8 w' a2 l2 c2 D ∧ Below w.heap.size w w') (f : List Int) (hf : f = fl5 (el z 0) s (el z 1) d (el z 2)) (R : Int × List Int × GS)
    (hR : R = if (ldo g.c f).1 ≠ 0 then (4, [], g) else if tell g.c g.inj f = true ∧ el z 5 / 2 % 2 = 1 ∧ 0 < D.length then (2, [], g) else if (bdo g f (el z 5) (whr g f (ldo g.c f).2)).1 ≠ 0 then ((bdo g f (el z 5) (whr g f (ldo g.c f).2)).1, [], (bdo g f (el z 5) (whr g f (ldo g.c f).2)).2.2) else g6b (bdo g f (el z 5) (whr g f (ldo g.c f).2)).2.2 (bdo g f (el z 5) (whr g f (ldo g.c f).2)).2.1 hop z D) :
    Calls Tryz.prog 21 #[.pointer (some ⟨G, 0, none⟩), .slice b len bcap] w fun e w' => ∃ a2 l2 c2, e = .returned (.tuple #[.slice a2 l2 c2, ev R.1]) ∧ (Row8 w' a2 l2 c2 R.2.1 ∧ l2 ≤ c2 ∧ c2 ≤ maxLen) ∧ GQ w G a cap tv S Ot β g R.2.2 w' := by
  have HO := hide hO
  have H0 := hide h
  have HZ := hide (fun W => R6.start W)
  have HZf := hide (fun W => fl_zero W)
  have HZb := hide (fun W => bd_zero W)
  unfold V6.zero6 zero7 at HZ
  unfold zero19 at HZf
  unfold zero23 at HZb
  have hfok : okf f = true := by rw [hf]; exact fl5_ok hz h1 h2
  have hfd : Ok6 (dst f) := by rw [hf]; exact fl5_dst h2
  have HFf := hide hf
  clear hO
  go_enter Tryz.func21, Tryz.ntmps21
  go_upto_region 4 with (first
    | (go_at_call 63; refine HO.out.mono ?_; rintro e w1 ⟨a1, l1, c1, a2, l2, c2, rfl, r1, hb1⟩; have HR := hide (HZ.out w1); have HB := hide hb1; have R1 := hide r1; clear hb1 r1)
    | (refine V6.at_store rfl (.tmp 6) (.tmp 15) rfl rfl HR.out.1 s d hop k a1 l1 c1 rfl ?_; intro w2 p2 on2; have HS := hide (on2.sg HR.out.2.1 (by omega)); have HB2 := hide (on2.below HR.out.2.2 (Nat.le_refl _)); have P2 := hide p2; clear p2 on2)
    | (refine at_store rfl (.tmp 7) (.tmp 16) rfl rfl HS.out z a2 l2 c2 rfl ?_; intro w3 p3 on3; have HB3 := hide (on3.below HB2.out (Nat.le_succ _)); have P3 := hide (show V6.PkIn _ _ _ _ _ _ _ _ w3 from (on3.2.2.2.2 _ (by omega)).trans P2.out); have S3 := hide p3; clear p3 on3 P2 HS HB2))
  clear HO HZ HR
  have hP := hide HB.out.size
  replace R1 := hide (R1.out.below HB3.out)
  replace HB := hide (bt HB.out HB3.out)
  clear HB3
  generalize hPP : w1.heap.size = P at P3 S3 hP ⊢
  clear hPP
  have x0 := S3.out.c0
  have x1 := S3.out.c1
  have x2 := S3.out.c2
  have bu := fun W => fbu_run (el z 0) s (el z 1) d (el z 2) W
  go_upto_region 5 with (first
    | (refine V6.at_src rfl (.tmp 23) rfl rfl P3.out ?_)
    | (refine V6.at_dst rfl (.tmp 27) rfl rfl P3.out ?_)
    | (refine at_storef rfl (.tmp 9) (.tmp 31) rfl rfl (HZf.out w3) (fl5 (el z 0) s (el z 1) d (el z 2)) rfl ?_; intro w5 p5 on5; rw [← HFf.out] at p5; have HI := hide (show IK w P (P + 1) w3.heap.size s d hop k a1 l1 c1 z a2 l2 c2 D f w5 from ⟨P3.out.kept (new_below _ on5), S3.out.kept (new_below _ on5), p5, R1.out.below (new_below _ on5), hP.out, Nat.le_succ_of_le hP.out, HB.out.size⟩); have HFz := hide (show P + 1 < w3.heap.size from S3.out.lt); replace HB := hide (bt HB.out (new_below _ on5)); clear p5 on5))
  clear x0 x1 x2 P3 S3 R1 HZf hP bu
  generalize hFF : w3.heap.size = F at HI HFz ⊢
  clear hFF
  have HLd := hide (fun W (hW : Below w.heap.size w W) => leadof_any G a cap tv S Ot β g f W (h.kept hW) hc hfd)
  have x9 := HI.out.2.2.1.fl
  by_cases hl : (ldo g.c f).1 = 0
  case neg =>
    have HRR := hide (show R = (4, [], g) by rw [hR, if_pos hl])
    have HL4 := hide (show ∀ W, Below w.heap.size w W → Calls Tryz.prog 64 #[.pointer (some ⟨G, 0, none⟩), .agg (flC f)] W fun e w' => (∃ v, e = .returned (.tuple #[v, err 4])) ∧ Below W.heap.size W w' from fun W hW => (HLd.out W hW).mono fun e w' ⟨hh, hb⟩ => by
      rcases hh with ⟨_, _, hh⟩ | ⟨hh, _⟩
      · exact ⟨hh, hb⟩
      · exact absurd hh hl)
    unfold err at HL4
    clear HLd hl hR h hi hs hc hz h1 h2 hh hf hfok hfd HZb
    go_wp2_with (go_at_call 64; refine (HL4.out _ HB.out).mono ?_; rintro e w6 ⟨⟨v6, rfl⟩, hb6⟩; replace HB := hide (bt HB.out hb6); clear hb6)
    go_ret2
    rw [HRR.out]
    exact ⟨none, 0, 0, rfl, ⟨gt_no _, Nat.le_refl _, by unfold maxLen; omega⟩, H0.out.still HB.out⟩
  have HL0 := hide (show ∀ W, Below w.heap.size w W → Calls Tryz.prog 64 #[.pointer (some ⟨G, 0, none⟩), .agg (flC f)] W fun e w' => (∃ v, e = .returned (.tuple #[v, .nilIface]) ∧ LV G f (ldo g.c f).2 v w') ∧ Below W.heap.size W w' from fun W hW => (HLd.out W hW).mono fun e w' ⟨hh, hb⟩ => by
    rcases hh with ⟨hh, _⟩ | ⟨_, hh⟩
    · exact absurd hl hh
    · exact ⟨hh, hb⟩)
  rw [if_neg (fun h => h hl)] at hR
  have Hi := hide hi
  have Hs := hide hs
  have Hc := hide hc
  have Hz := hide hz
  have Hh := hide hh
  have Hl := hide hl
  have HRR := hide hR
  have Hfo := hide hfok
  have Hfd := hide hfd
  clear h hi hs hc hz h1 h2 hh hl hR hfok hfd hf
  go_upto_region 8 with (go_at_call 64; refine (HL0.out _ HB.out).mono ?_; rintro e w6 ⟨⟨v6, rfl, lv6⟩, hb6⟩; replace HI := hide (HI.out.kept hb6); replace HB := hide (bt HB.out hb6); have HV := hide lv6; clear hb6 lv6 x9)
  clear HLd HL0
  have x9 := HI.out.2.2.1.fl
  have x5 := HI.out.2.1.c5
  have x7 := HI.out.2.1.c7
  have hln := HI.out.2.2.2.1.1
  have hfl : 0 ≤ el z 5 ∧ el z 5 ≤ 31 := by
    obtain ⟨_, _, _, hz | hz⟩ := Hz.out
    · exact hz.2.2.2.1
    · omega
  have ha := and2 (el z 5) hfl.1 hfl.2
  have HT := hide (fun W (hW : Below w.heap.size w W) => tells_any G g.c g.inj a g.bk.length cap tv S g.now f W (H0.out.1.kept hW))
  obtain ⟨X, hX⟩ : ∃ X : Bool, X = decide (tell g.c g.inj f = true ∧ el z 5 / 2 % 2 = 1 ∧ 0 < D.length) := ⟨_, rfl⟩
  have HX := hide hX
  clear hX
  go_cut [55] from 41 to 55 (fun u wx => u = .bool X ∧ Hid (IK w P (P + 1) F s d hop k a1 l1 c1 z a2 l2 c2 D f wx ∧ Below w.heap.size w wx ∧ LV G f (ldo g.c f).2 v6 wx))
  case first =>
    cases hT : tell g.c g.inj f
    · rw [hT] at HT HX
      have HX' := hide (show X = false by rw [HX.out]; simp)
      go_wp2_with (go_at_call 65; refine (HT.out _ HB.out).mono ?_; rintro e w7 ⟨rfl, hb7⟩; have HE := hide (And.intro (HI.out.kept hb7) (And.intro (bt HB.out hb7) (HV.out.kept hb7))); clear hb7)
      go_meet
      exact ⟨by rw [HX'.out], HE⟩
    · rw [hT] at HT HX
      by_cases hy : el z 5 / 2 % 2 = 1
      · rw [if_pos hy] at ha
        by_cases hD : 0 < D.length
        · have HX' := hide (show X = true by rw [HX.out]; simp [hy, hD])
          have hlt : (0 : Int) < (l2 : Int) := by omega
          go_wp2_with (go_at_call 65; refine (HT.out _ HB.out).mono ?_; rintro e w7 ⟨rfl, hb7⟩; have HE := hide (And.intro (HI.out.kept hb7) (And.intro (bt HB.out hb7) (HV.out.kept hb7))); replace HI := hide (HI.out.kept hb7); clear x9 x5 x7; have x5 := HI.out.2.1.c5; have x7 := HI.out.2.1.c7; clear hb7)
          go_meet
          exact ⟨(by first | (rw [HX'.out]; done) | (rw [HX'.out]; simp; done) | (rw [HX'.out]; simp; omega)), HE⟩
        · have HX' := hide (show X = false by rw [HX.out]; simp [hD])
          have hlt : (l2 : Int) = 0 := by omega
          go_wp2_with (go_at_call 65; refine (HT.out _ HB.out).mono ?_; rintro e w7 ⟨rfl, hb7⟩; have HE := hide (And.intro (HI.out.kept hb7) (And.intro (bt HB.out hb7) (HV.out.kept hb7))); replace HI := hide (HI.out.kept hb7); clear x9 x5 x7; have x5 := HI.out.2.1.c5; have x7 := HI.out.2.1.c7; clear hb7)
          go_meet
          exact ⟨(by first | (rw [HX'.out]; done) | (rw [HX'.out]; simp; done) | (rw [HX'.out]; simp; omega)), HE⟩
      · rw [if_neg hy] at ha
        have HX' := hide (show X = false by rw [HX.out]; simp [hy])
        go_wp2_with (go_at_call 65; refine (HT.out _ HB.out).mono ?_; rintro e w7 ⟨rfl, hb7⟩; have HE := hide (And.intro (HI.out.kept hb7) (And.intro (bt HB.out hb7) (HV.out.kept hb7))); replace HI := hide (HI.out.kept hb7); clear x9 x5 x7; have x5 := HI.out.2.1.c5; have x7 := HI.out.2.1.c7; clear hb7)
        go_meet
        exact ⟨by rw [HX'.out], HE⟩
  case rest =>
    obtain ⟨rfl, HE⟩ := hcut
    clear HI HB HV x9 x5 x7 ha HT hln
    cases X
    case true =>
      have HR2 := hide (show R = (2, [], g) by rw [HRR.out, if_pos (of_decide_eq_true HX.out.symm)])
      clear HRR HX Hi Hs Hc Hz Hh Hl Hfo Hfd HZb HFf hfl
      go_wp2
      go_ret2
      rw [HR2.out]
      exact ⟨none, 0, 0, rfl, ⟨gt_no _, Nat.le_refl _, by unfold maxLen; omega⟩, H0.out.still HE.out.2.1⟩
    case false =>
      have HR3 := hide (show R = if (bdo g f (el z 5) (whr g f (ldo g.c f).2)).1 ≠ 0 then ((bdo g f (el z 5) (whr g f (ldo g.c f).2)).1, [], (bdo g f (el z 5) (whr g f (ldo g.c f).2)).2.2) else g6b (bdo g f (el z 5) (whr g f (ldo g.c f).2)).2.2 (bdo g f (el z 5) (whr g f (ldo g.c f).2)).2.1 hop z D by rw [HRR.out, if_neg (of_decide_eq_false HX.out.symm)])
      have HBo := hide (fun W (hW : Below w.heap.size w W) (hv : LV G f (ldo g.c f).2 v6 W) => bindof_any G a cap tv S Ot β g f (el z 5) v6 W (H0.out.kept hW) Hi.out Hc.out Hfo.out Hfd.out hfl Hl.out hv)
      have HGb := hide (fun h0 => bdo_gb (flags := el z 5) (wr := whr g f (ldo g.c f).2) Hi.out Hfo.out (fun h => whr_ok Hc.out Hfo.out Hfd.out Hl.out h) h0)
      have HSs := hide (bdo_ss g f (el z 5) (whr g f (ldo g.c f).2))
      generalize bdo g f (el z 5) (whr g f (ldo g.c f).2) = B at HBo HGb HSs HR3
      clear HRR HX Hi Hl Hfo Hfd HFf hfl
      have x9 := HE.out.1.2.2.1.fl
      have x5 := HE.out.1.2.1.c5
      by_cases hB : B.1 = 0
      case neg =>
        have HR4 := hide (show R = (B.1, [], B.2.2) by rw [HR3.out, if_pos hB])
        have HEv := hide (ev_err hB)
        rw [ev_err hB] at HBo
        unfold err at HBo
        clear HR3 hB HGb Hs Hc Hz Hh
        go_wp2_with (first
          | (go_at_call 66; refine (HBo.out _ HE.out.2.1 HE.out.2.2).mono ?_; rintro e w7 ⟨rfl, q7⟩; have HQ := hide (q7.gq HSs.out.1); have HZ7 := hide (HZb.out w7); clear q7 x9 x5)
          | (refine at_storeb rfl (.tmp 11) (.tmp 64) rfl rfl HZ7.out B.2.1 rfl ?_; intro w8 p8 on8; replace HQ := hide (HQ.out.kept (new_below _ on8)); clear p8 on8))
        go_ret2
        rw [HR4.out]
        exact ⟨none, 0, 0, by rw [HEv.out]; rfl, ⟨gt_no _, Nat.le_refl _, by unfold maxLen; omega⟩, GQ.trans (Kpt.of HE.out.2.1) (fun _ hk => .inl hk) HQ.out⟩
      case pos =>
        have HR4 := hide (show R = g6b B.2.2 B.2.1 hop z D by rw [HR3.out, if_neg (fun h => h hB)])
        have HG := hide (HGb.out hB)
        rw [hB, ev_nil] at HBo
        clear HR3 hB HGb
        go_upto_region 13 with (first
          | (go_at_call 66; refine (HBo.out _ HE.out.2.1 HE.out.2.2).mono ?_; rintro e w7 ⟨rfl, q7⟩; have HQ := hide q7; have HZ7 := hide (HZb.out w7); clear q7 x9 x5)
          | (refine at_storeb rfl (.tmp 11) (.tmp 64) rfl rfl HZ7.out B.2.1 rfl ?_; intro w8 p8 on8; have HD8 := hide p8; have HB8 := hide (new_below _ on8); clear p8 on8))
        obtain ⟨Ot', g7, k7, s7⟩ := HQ.out
        have hlow : ∀ k, GO G a Ot (SO S β g.ss) k → k < w.heap.size := fun k hk => H0.out.lt hk
        have hN : ∀ k, GO G a Ot' (SO S β B.2.2.ss) k → GO G a Ot (SO S β g.ss) k ∨ wc.heap.size ≤ k := by
          rw [HSs.out.1]
          rintro k (h1 | h1 | h1 | h1)
          · exact .inl (.inl h1)
          · exact .inl (.inr (.inl h1))
          · exact (s7 k h1).imp (fun h => .inr (.inr (.inl h))) id
          · exact .inl (.inr (.inr (.inr h1)))
        have hne : ∀ k, w.heap.size ≤ k → k < wc.heap.size → ¬ GO G a Ot' (SO S β B.2.2.ss) k := fun k h1 h2 h3 => by
          rcases hN k h3 with h4 | h4
          · have := hlow k h4; omega
          · omega
        have hne0 : ∀ k, w.heap.size ≤ k → ¬ GO G a Ot (SO S β g.ss) k := fun k h1 h2 => by have := hlow k h2; omega
        obtain ⟨i1, i2, i3, i4, i5, i6, i7⟩ := HE.out.1
        have HN8 := hide (show ¬ GO G a Ot' (SO S β B.2.2.ss) P ∧ ¬ GO G a Ot' (SO S β B.2.2.ss) (P + 1) ∧ ¬ GO G a Ot' (SO S β B.2.2.ss) F ∧ ¬ GO G a Ot' (SO S β B.2.2.ss) w7.heap.size from ⟨hne P i5 i1.lt, hne _ i6 i2.lt, hne F i7 i3.lt, fun hk => by have := g7.lt hk; omega⟩)
        have HI8 := hide (((HE.out.1).kpt k7 ⟨hne0 P i5, hne0 _ i6, hne0 F i7⟩).kept HB8.out)
        have HG8 := hide (g7.kept HB8.out)
        have hw7 : wc.heap.size ≤ w7.heap.size := k7.size
        have HK8 := hide (show Kpt (GO G a Ot (SO S β g.ss)) w w8 from ((Kpt.of HE.out.2.1).trans k7 (fun _ hk => .inl hk)).trans (Kpt.of (O := fun _ => False) HB8.out) (fun _ h => h.elim))
        have HO8 := hide (show ∀ k, GO G a Ot' (SO S β B.2.2.ss) k → GO G a Ot (SO S β g.ss) k ∨ w.heap.size ≤ k from fun k hk => (hN k hk).imp id (fun h => Nat.le_trans HE.out.2.1.size h))
        have HP8 := hide (show P + 1 < w8.heap.size ∧ P ≠ P + 1 ∧ w7.heap.size < w8.heap.size ∧ P + 1 < w7.heap.size ∧ w.heap.size ≤ P ∧ w.heap.size ≤ w7.heap.size from ⟨HI8.out.2.1.lt, by omega, HD8.out.lt, by have := i2.lt; omega, i5, by have := HE.out.2.1.size; omega⟩)
        have HUp := hide (fun W (hW : GC G a cap tv S Ot' β B.2.2 W) (r : Row8 W a2 l2 c2 D) => gup_any G a cap tv S Ot' β B.2.2 B.2.1 z a2 l2 c2 D W hW (by have := Hs.out; unfold SI at this ⊢; rw [HSs.out.1]; exact this) HG.out.1 r)
        have HUo := hide (fun h0 => guo_ok (g := B.2.2) (b := B.2.1) Hz.out h0)
        unfold g6b at HR4
        rw [HSs.out.2.1] at HR4
        have HUc := hide (show (guo B.2.2 B.2.1 z D).2.2.2.c = g.c from (guo_c B.2.2 B.2.1 z D).1.trans HSs.out.2.1)
        generalize guo B.2.2 B.2.1 z D = U at HUp HUo HR4 HUc
        have HCn := hide (show ∀ W O β', GC G a cap tv S O β' U.2.2.2 W → W.cell? ⟨G, 18, none⟩ = some (.int .i64 (el g.c 18)) from fun W O β' h => by have h1 := h.1.near; rw [HUc.out] at h1; exact h1)
        clear hN hne hne0 hlow i1 i2 i3 i4 i5 i6 i7 g7 k7 s7 hw7 HQ HE HZ7 HZb HBo HB8
        generalize w7.heap.size = Db at HD8 HN8 HP8 ⊢
        have x11 := HD8.out.bl
        go_upto_region 14 with (first
          | (refine at_load rfl (.tmp 7) rfl rfl HI8.out.2.1 ?_)
          | (go_at_call 67; refine (HUp.out _ HG8.out HI8.out.2.2.2.1).mono ?_; rintro e w9 ⟨a3, l3, c3, rfl, r9, q9⟩; obtain ⟨Ot2, β2, g9, k9, s9⟩ := q9; have HG9 := hide g9; have HS9 := hide s9; have R9 := hide r9; have HK9 := hide (HK8.out.trans k9 HO8.out); have P9 := hide (show V6.PkIn _ _ _ _ _ _ _ _ w9 from (k9.1.2.2.2.2 P HI8.out.1.lt HN8.out.1).trans HI8.out.1); have S9 := hide (show SgIn _ _ _ _ _ w9 from (k9.1.2.2.2.2 (P + 1) HI8.out.2.1.lt HN8.out.2.1).trans HI8.out.2.1); have D9 := hide (show BdIn _ _ w9 from (k9.1.2.2.2.2 Db HD8.out.lt HN8.out.2.2.2).trans HD8.out); clear g9 k9 s9 r9 x11)
          | (refine at_store rfl (.tmp 7) (.tmp 74) rfl rfl S9.out U.2.1 a3 l3 c3 rfl ?_; intro w10 p10 on10; have HN10 := hide (show ¬ GO G a Ot2 (SO S β2 U.2.2.2.ss) (P + 1) from fun hk => by rcases HS9.out _ hk with h1 | h1; exact HN8.out.2.1 h1; have := HP8.out.1; omega); have HG10 := hide (HG9.out.other on10 HN10.out (fun j x => S9.out.no8 j x)); have HK10 := hide (HK9.out.own on10 (by have := HP8.out.2.2.2.2.1; omega) (fun j x => S9.out.no8 j x)); have R10 := hide (R9.out.past S9.out on10); have P10 := hide (show V6.PkIn _ _ _ _ _ _ _ _ w10 from (on10.2.2.2.2 P HP8.out.2.1).trans P9.out); have D10 := hide (show BdIn _ _ w10 from (on10.2.2.2.2 Db (by have := HP8.out; omega)).trans D9.out); have S10 := hide p10; clear p10 on10))
        have HO10 := hide (show ∀ k, GO G a Ot2 (SO S β2 U.2.2.2.ss) k → GO G a Ot (SO S β g.ss) k ∨ w.heap.size ≤ k from fun k hk => by
          rcases HS9.out k hk with h1 | h1
          · exact HO8.out k h1
          · have := HP8.out
            exact .inr (by omega))
        clear HG9 HK9 R9 P9 S9 D9 HI8 HG8 HK8 HD8 HUp
        by_cases hU : U.1 = 0
        case neg =>
          have HR5 := hide (show R = (U.1, [], U.2.2.2) by rw [HR4.out, if_pos hU])
          have HEv := hide (ev_err hU)
          rw [ev_err hU]
          unfold err
          clear HR4 hU HUo HG Hs Hc Hz Hh
          go_wp2
          go_ret2
          rw [HR5.out]
          exact ⟨none, 0, 0, by rw [HEv.out]; rfl, ⟨gt_no _, Nat.le_refl _, by unfold maxLen; omega⟩, Ot2, β2, HG10.out, HK10.out, HO10.out⟩
        case pos =>
          have HR5 := hide (show R = (0, p4o (el g.c 18) (el B.2.1 20) (hop - 1) (zft U.2.1 (el B.2.1 19) (el B.2.1 21)) U.2.2.1, U.2.2.2) by rw [HR4.out, if_neg (fun h => h hU)])
          have HUk := hide (HUo.out hU)
          rw [hU, ev_nil]
          clear HR4 hU HUo
          have x1 := S10.out.c1
          have x2 := S10.out.c2
          have y1 := S10.out.frz 1
          have y2 := S10.out.frz 2
          have d19 := D10.out.cell 19 (by omega)
          have d21 := D10.out.cell 21 (by omega)
          obtain ⟨p11, on11⟩ := S10.out.set12 (el B.2.1 19) (el B.2.1 21)
          have HN10 := hide (show ¬ GO G a Ot2 (SO S β2 U.2.2.2.ss) (P + 1) from fun hk => by rcases HS9.out _ hk with h1 | h1; exact HN8.out.2.1 h1; have := HP8.out.1; omega)
          have HG11 := hide (HG10.out.other on11 HN10.out (fun j x => S10.out.no8 j x))
          have HK11 := hide (HK10.out.own on11 (by have := HP8.out.2.2.2.2.1; omega) (fun j x => S10.out.no8 j x))
          have R11 := hide (R10.out.past S10.out on11)
          have P11 := hide (show V6.PkIn P s d hop k a1 l1 c1 _ from (on11.2.2.2.2 P HP8.out.2.1).trans P10.out)
          have D11 := hide (show BdIn Db B.2.1 _ from (on11.2.2.2.2 Db (by have := HP8.out; omega)).trans D10.out)
          have S11 := hide p11
          clear p11 on11 HG10 HK10 R10 P10 D10 S10
          go_upto_region 16 with fail
          go_region
          clear x1 x2 y1 y2 d19 d21
          generalize (World.setCell _ _ _).setCell _ _ = w11 at HG11 HK11 R11 P11 D11 S11 ⊢
          go_upto_region 17 with fail
          have hb12 : Below w11.heap.size w11 w11.drew := (Below.refl _ _).drew
          replace HG11 := hide (HG11.out.kept hb12)
          replace HK11 := hide (HK11.out.trans (Kpt.of (O := fun _ => False) hb12) (fun _ h => h.elim))
          replace R11 := hide (R11.out.below hb12)
          replace P11 := hide (P11.out.kept hb12)
          replace D11 := hide (D11.out.kept hb12)
          replace S11 := hide (S11.out.kept hb12)
          clear hb12
          generalize w11.drew = w12 at HG11 HK11 R11 P11 D11 S11 ⊢
          have hl3 := R11.out.1
          subst hl3
          have hh := Hh.out
          have HZZ := hide (show Okg (zft U.2.1 (el B.2.1 19) (el B.2.1 21)) U.2.2.1.length from zft_ok HUk.out.1 HG.out.2.1 ((wd_iff _).1 HG.out.2.2.2.1))
          have HCl := hide (fun W (r : Row8 W a3 U.2.2.1.length c3 U.2.2.1) => close4_ok (el g.c 18) (el B.2.1 20) (hop - 1) (zft U.2.1 (el B.2.1 19) (el B.2.1 21)) a3 U.2.2.1.length c3 U.2.2.1 W Hc.out.2.2.2.1 (by have := HG.out.2.2.1; unfold fr at this; rw [Bool.and_eq_true, decide_eq_true_eq, decide_eq_true_eq] at this; exact decide_eq_true this) (decide_eq_true ⟨by omega, by omega⟩) HZZ.out r)
          have HP4 := hide (show p4o (el g.c 18) (el B.2.1 20) (hop - 1) (zft U.2.1 (el B.2.1 19) (el B.2.1 21)) U.2.2.1 = V4.bys (el g.c 18) (el B.2.1 20) (hop - 1) (el (zft U.2.1 (el B.2.1 19) (el B.2.1 21)) 0) 0 (eb (zft U.2.1 (el B.2.1 19) (el B.2.1 21)) (o4 (el g.c 18) (el B.2.1 20) (el (zft U.2.1 (el B.2.1 19) (el B.2.1 21)) 0) ((hn (el (zft U.2.1 (el B.2.1 19) (el B.2.1 21)) 0) : Nat) + (U.2.2.1.length : Int))) U.2.2.1) from rfl)
          rw [← HP4.out] at HCl
          have HPl := hide (show 0 < (p4o (el g.c 18) (el B.2.1 20) (hop - 1) (zft U.2.1 (el B.2.1 19) (el B.2.1 21)) U.2.2.1).length by rw [HP4.out]; unfold V4.bys; rw [List.length_append, show ∀ s d t k i n c, (P4.hd s d t k i n c).length = 20 from fun _ _ _ _ _ _ _ => rfl]; omega)
          generalize p4o (el g.c 18) (el B.2.1 20) (hop - 1) (zft U.2.1 (el B.2.1 19) (el B.2.1 21)) U.2.2.1 = Y at HCl HPl HR5
          generalize zft U.2.1 (el B.2.1 19) (el B.2.1 21) = zz at HCl S11
          have hwr : IntKind.i64.wrap (hop - 1) = hop - 1 := by rw [IntKind.wrap_i64]; omega
          clear HP4 HZZ HG Hs Hz HUk Hc Hh HN10 HN8 HP8 HS9 HO8 HSs
          have HQ := hide (show ∀ W', GC G a cap tv S Ot2 β2 U.2.2.2 W' → V6.PkIn P s d hop k a1 l1 c1 W' → BdIn Db B.2.1 W' → SgIn (P + 1) zz a3 U.2.2.1.length c3 W' → W'.cell? ⟨G, 18, none⟩ = some (.int .i64 (el g.c 18)) ∧ W'.cell? ⟨Db, 20, none⟩ = some (.int .i64 (el B.2.1 20)) ∧ W'.cell? ⟨P, 16, none⟩ = some (.int .i64 hop) ∧ W'.cell? ⟨P + 1, 0, none⟩ = some (.int .i64 (el zz 0)) ∧ (gload (.pointer (some ⟨P + 1, 0, none⟩))).run Tryz.prog W' = .ok (.agg (sgC zz a3 U.2.2.1.length c3)) W' from fun W' h1 h2 h3 h4 => ⟨HCn.out W' _ _ h1, h3.cell 20 (by omega), h2.hop, h4.c0, h4.gl⟩)
          have hbd : Below w12.heap.size w12 w12.drew := (Below.refl _ _).drew
          have HQ1 := hide (HQ.out w12.drew (HG11.out.kept hbd) (P11.out.kept hbd) (D11.out.kept hbd) (S11.out.kept hbd))
          have R12 := hide (R11.out.below hbd)
          have HB12 := hide hbd
          clear hbd
          obtain ⟨q1, q2, q3, q4, q5⟩ := HQ1.out
          go_region_held3 (fun W' => W'.cell? ⟨G, 18, none⟩ = some (.int .i64 (el g.c 18)) ∧ W'.cell? ⟨Db, 20, none⟩ = some (.int .i64 (el B.2.1 20)) ∧ W'.cell? ⟨P, 16, none⟩ = some (.int .i64 hop) ∧ W'.cell? ⟨P + 1, 0, none⟩ = some (.int .i64 (el zz 0)) ∧ (gload (.pointer (some ⟨P + 1, 0, none⟩))).run Tryz.prog W' = .ok (.agg (sgC zz a3 U.2.2.1.length c3)) W')
            (first
              | exact HQ1.out
              | exact HQ2.out
              | go_keep)
            (first
              | (go_at_call 68; refine (HCl.out _ R12.out).mono ?_; rintro e w13 ⟨v13, rfl, o13, hb13⟩; have hb14 := bt HB12.out hb13; obtain ⟨g13, c13, rfl, k1, k2, -, -, r13⟩ := o13.form HPl.out; have HQ2 := hide (HQ.out w13 (HG11.out.kept hb14) (P11.out.kept hb14) (D11.out.kept hb14) (S11.out.kept hb14)); have HB14 := hide hb14; have HF := hide (And.intro r13 (And.intro k1 k2)); clear hb13 hb14 o13 r13 k1 k2 q1 q2 q3 q4 q5; obtain ⟨q1, q2, q3, q4, q5⟩ := HQ2.out))
          all_goals
            clear q1 q2 q3 q4 q5
            go_wp2
            go_ret2
            rw [HR5.out]
            exact ⟨_, _, _, rfl, HF.out, Ot2, β2, HG11.out.kept HB14.out, HK11.out.trans (Kpt.of (O := fun _ => False) HB14.out) (fun _ h => h.elim), HO10.out⟩
theorem in6_any (G : Nat) (a : Option Addr) (cap : Nat) (tv : Value) (S : Nat) (Ot : Nat → Prop) (β : Int → Nat) (g : GS) (b : Option Addr) (len bcap : Nat) (zs : List Int) (w : World) (h : GC G a cap tv S Ot β g w) (hi : TI g) (hs : SI g) (hc : CI g) (hr : Row8 w b len bcap zs) (hcl : len ≤ bcap) (hcm : bcap ≤ maxLen) :
    Calls Tryz.prog 21 #[.pointer (some ⟨G, 0, none⟩), .slice b len bcap] w fun e w' => ∃ a2 l2 c2, e = .returned (.tuple #[.slice a2 l2 c2, ev (g6 g zs).1]) ∧ (Row8 w' a2 l2 c2 (g6 g zs).2.1 ∧ l2 ≤ c2 ∧ c2 ≤ maxLen) ∧ GQ w G a cap tv S Ot β g (g6 g zs).2.2 w' := by
  by_cases hG : V6.Good zs
  · by_cases hE : (o6s zs).1 = 0
    · have ho := hr.2.2.1
      have hk := oso_ok hE
      have h8 := V6.ok6_adr zs ho 8
      have h24 := V6.ok6_adr zs ho 24
      refine in6_go G a cap tv S Ot β g b len bcap (adr zs 8) (adr zs 24) (zs.getD 7 0) (zs.getD 6 0) (o6s zs).2.1 (o6s zs).2.2 w h hi hs hc hk.1 h8 h24 ⟨hk.2.2.2, (ho 7).2⟩ ?_ (f6 zs) rfl (g6 g zs) ?_
      · have h1 := open6_good b len bcap zs w hr hcl hcm hG
        rw [hE, ev_nil] at h1
        exact h1
      · unfold g6
        rw [if_neg (fun h => h hG), if_neg (fun h => h hE)]
    · have e : g6 g zs = ((o6s zs).1, [], g) := by unfold g6; rw [if_neg (fun h => h hG), if_pos hE]
      rw [e]
      refine (in6_stop G b len bcap (o6s zs).1 w ?_).mono fun r w' ⟨e1, e2⟩ => ⟨none, 0, 0, by rw [e1, ev_err hE], ⟨gt_no _, Nat.le_refl _, by unfold maxLen; omega⟩, h.still e2⟩
      have h1 := open6_good b len bcap zs w hr hcl hcm hG
      rw [ev_err hE] at h1
      exact h1.mono fun r w' ⟨a1, l1, c1, a2, l2, c2, e1, _, e3⟩ => ⟨⟨_, _, _, _, _, _, _, _, _, _, _, e1⟩, e3⟩
  · have e : g6 g zs = (5, [], g) := by unfold g6; exact if_pos hG
    rw [e]
    refine (in6_stop G b len bcap 5 w ?_).mono fun r w' ⟨e1, e2⟩ => ⟨none, 0, 0, e1, ⟨gt_no _, Nat.le_refl _, by unfold maxLen; omega⟩, h.still e2⟩
    exact (open6_bad b len bcap zs w hr hcl hcm hG).mono fun r w' ⟨e1, e3⟩ => ⟨⟨_, _, _, _, _, _, _, _, _, _, _, e1⟩, e3⟩
end Go.Proofs.YtkhahbghmdccaaaGreatDoor
