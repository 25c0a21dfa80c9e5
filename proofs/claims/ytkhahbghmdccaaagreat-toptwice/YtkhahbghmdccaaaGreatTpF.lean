/- TopTwice, walked. -/
import Derived.Test.YtkhahbghmdccaaaGreatJ06
import Derived.Test.YtkhahbghmdccaaaGreatJ29
import Derived.Test.YtkhahbghmdccaaaGreatJ48
import Derived.Below
import Derived.OpenShut
import Derived.Test.YtkhahbghmdccaaaGreatProg
import Derived.WalkKit
import Derived.LaidEql
import Derived.BigQuiet
import Derived.Laws.AppendOwnNone
import Derived.Laws.MakeOwn
import Derived.Deep.RegionLaw
import Derived.Lib.Bytes
import Derived.Deep.MidRow
import Derived.Laws.ResultCell
import Derived.Deep.CutBlock
import Derived.Deep.QuietTactic
import Derived.OwnWalk
import Derived.Deep.RegionHeld3
import Derived.Deep.DrawnRows
import Derived.Laws.StructEq
import Derived.Maps.AppendAt
import Derived.Maps.RangeWalk
import Derived.Stop.Asserts
import Derived.RowKitTokens
import Derived.Test.YtkhahbghmdccaaaGreatShelf
import Derived.Shelf.Abstract
import Derived.Lib.SliceRun
import Derived.Lib.AppendZerosOnto
import Derived.Lib.AppendZeros
import Derived.Laws.CopyOwn
import Derived.RangeFuncNested
import Derived.RangeFuncBound
import Derived.RangeFuncCalls
import Derived.RangeFuncLeaves
import Derived.RangeFuncFrom
import Derived.Shelf.RegionOpen
import Derived.OwnWalkIn
import Derived.TacticsInMore
import Derived.LoopNIn
import Derived.LoopIn
import Derived.Deep.RegionWith
import Derived.ArgAppend
import Derived.Lib.SlBytesConst
import Derived.Lib.AppendStr
namespace Go.Proofs.YtkhahbghmdccaaaGreat
open Go.RowKit
/-- what is kept: the segment and the addresses that came in. -/
theorem V6.PkIn.set16 {B : Nat} {s d : List Int} {h k : Int} {a : Option Addr} {len cap : Nat} {w : World} (p : V6.PkIn B s d h k a len cap w) (t : Int) : V6.PkIn B s d t k a len cap (w.setCell ⟨B, 16, none⟩ (.int .i64 t)) ∧ Only B w (w.setCell ⟨B, 16, none⟩ (.int .i64 t)) := by
  rw [setCell_eq_setRow w B 16 _ _ (0, 0) _ p]
  exact ⟨setRow_heap w B _ _ _ (0, 0) p, only_setRow _ _ _⟩
theorem V6.PkIn.frz {B : Nat} {s d : List Int} {h k : Int} {a : Option Addr} {len cap : Nat} {w : World} (p : V6.PkIn B s d h k a len cap w) (j : Nat) : w.frozen? ⟨B, j, none⟩ = false := by
  unfold V6.PkIn at p
  simp [World.frozen?, p]
/-- what goes there, and what goes back, of a packet whose body may cross. -/
theorem twice_four (s d : List Int) (h k : Int) (len : Nat) (zs z D : List Int) (ho : V6.Okp s d h k) (hl : len ≤ 320) (x y : Int) (h1 : up 4294967295 x = true) (h2 : up 4294967295 y = true) (hh : 2 ≤ h) (B : Body k (o6 s d k len) len zs z D) (a : Option Addr) (cap : Nat) (w : World) (hr : Row8 w a len cap zs) (hcl : len ≤ cap) (hcm : cap ≤ maxLen) :
    Calls Tryz.prog 27 #[V6.pk s d h k a len cap, .int .i64 x, .int .i64 y] w fun e w' => ∃ g c, e = .returned (.tuple #[V4.pk x y (h - 1) k 0 (some ⟨g, 0, none⟩) len c, .nilIface]) ∧ len ≤ c ∧ c ≤ maxLen ∧ Row8 w' (some ⟨g, 0, none⟩) len c (eb z (o4 x y k len) D) ∧ Below w.heap.size w w' :=
  to4_ok s d h k a len cap x y w ho hl h1 h2 hh (eb z (o4 x y k len) D) len (by have := B.size; have := hn_pos k; omega) (fun W hW => B.und (o6_in _ _ _ _ ho.1 ho.2.1) (o4_in _ _ _ _) a cap W (hr.below hW) hcl hcm)
theorem tw_bundle {z D s d : List Int} {t : Int} (hs : Ok6 s) (hd : Ok6 d) (ht : up 255 t = true) (hz : Okg z D.length) (hD : SM.Oct D) : ∃ (k : Int) (n : Nat) (E : List Int), V6.Okp s d t k ∧ n ≤ 320 ∧ Body k (o6 s d k n) n E z D ∧ p6o s d t z D = V6.bys s d t k E ∧ E.length = n := by
  have h20 := hn_le (el z 0)
  have h300 := hz.2.2.1
  obtain ⟨n, hn0⟩ : ∃ n, n = hn (el z 0) + D.length := ⟨_, rfl⟩
  have hni : ((hn (el z 0) : Nat) + (D.length : Int)) = (n : Int) := by omega
  refine ⟨el z 0, n, eb z (o6 s d (el z 0) n) D, okp6 hs hd ht hz, by omega, ?_, ?_, by rw [eb_len, hn0]⟩
  · exact body_of hz rfl rfl (by rw [eb_len, hn0]) (eb_oct _ _ _ hD (o6_in _ _ _ _ hs hd))
  · unfold p6o
    rw [hni]
theorem dec_nil (W : World) : Calls Tryz.prog 22 #[.slice none 0 0] W fun e w' => e = .returned (.tuple #[.agg (V6.pkC [] [] 0 0 none 0 0), .iface 47 (.int .i64 5)]) ∧ Below W.heap.size W w' := by
  refine (V6.decode_any none 0 0 [] W (gt_no W) (Nat.le_refl _) (Nat.zero_le _)).mono ?_
  rintro e w' ⟨⟨_, rfl⟩ | ⟨h, _⟩, hb⟩
  · exact ⟨rfl, hb⟩
  · exact absurd h.1 (by simp)
set_option maxRecDepth 100000 in
set_option maxHeartbeats 4000000 in
theorem tt_no (z : List Int) (a : Option Addr) (len cap : Nat) (s d : List Int) (t x y : Int) (w : World)
    (hS : ∀ W, Below w.heap.size w W → Calls Tryz.prog 32 #[.agg (sgC z a len cap), .agg (sixC s), .agg (sixC d), .int .i64 t] W fun e w' => e = .returned (.slice none 0 0) ∧ Below W.heap.size W w') :
    Calls Tryz.prog 11 #[.agg (sgC z a len cap), .agg (sixC s), .agg (sixC d), .int .i64 t, .int .i64 x, .int .i64 y] w fun e w' => e = .returned (.bool true) ∧ Below w.heap.size w w' := by
  have HO := hide one_any
  have HS := hide hS
  have HD := hide dec_nil
  have HK := hide (Kst.start w z a len cap s d)
  have HZ := hide (fun W => V6.zero_new W)
  unfold V6.zero6 at HZ
  clear hS
  go_enter Tryz.func11, Tryz.ntmps11
  go_upto_region 1 with fail
  generalize ((World.alloc _ _).alloc _).alloc _ = W0 at HK ⊢
  go_wp2_with (first
    | (go_at_call 31; refine (HO.out _).mono ?_; rintro e w1 ⟨rfl, hb1⟩; replace HK := hide (HK.out.kept hb1); clear hb1)
    | (refine at_load rfl (.tmp 6) rfl rfl HK.out.1 ?_)
    | (refine at_load6 rfl (.tmp 7) rfl rfl HK.out.2.1 ?_)
    | (refine at_load6 rfl (.tmp 8) rfl rfl HK.out.2.2.1 ?_)
    | (go_at_call 32; refine (HS.out _ HK.out.2.2.2).mono ?_; rintro e w2 ⟨rfl, hb2⟩; replace HK := hide (HK.out.kept hb2); clear hb2)
    | (go_at_call 22; refine (HD.out _).mono ?_; rintro e w3 ⟨rfl, hb3⟩; replace HK := hide (HK.out.kept hb3); have HZ3 := hide (HZ.out w3); clear hb3)
    | (refine V6.at_store rfl (.tmp 14) (.tmp 28) rfl rfl HZ3.out [] [] 0 0 none 0 0 rfl ?_; intro w4 p4 on4; replace HK := hide (HK.out.kept (new_below _ on4)); clear p4 on4))
  go_ret
  exact ⟨rfl, HK.out.2.2.2⟩
/-- a packet of its own, beside what came in. -/
def TwK (w : World) (z : List Int) (a : Option Addr) (len cap : Nat) (s d : List Int) (B : Nat) (t k : Int) (a1 : Option Addr) (l1 c1 : Nat) (E : List Int) (W : World) : Prop := Kst w z a len cap s d W ∧ V6.PkIn B s d t k a1 l1 c1 W ∧ Row8 W a1 l1 c1 E
theorem TwK.kept {w : World} {z : List Int} {a : Option Addr} {len cap : Nat} {s d : List Int} {B : Nat} {t k : Int} {a1 : Option Addr} {l1 c1 : Nat} {E : List Int} {W W' : World} (h : TwK w z a len cap s d B t k a1 l1 c1 E W) (hb : Below W.heap.size W W') : TwK w z a len cap s d B t k a1 l1 c1 E W' := ⟨h.1.kept hb, h.2.1.kept hb, h.2.2.below hb⟩
set_option maxRecDepth 100000 in
set_option maxHeartbeats 8000000 in
theorem tt_ok (z : List Int) (a : Option Addr) (len cap : Nat) (D s d : List Int) (t x y : Int) (w : World) (hs : Ok6 s) (hd : Ok6 d) (ht : up 255 t = true) (hz : Okg z D.length) (hD : SM.Oct D)
    (hS : ∀ W, Below w.heap.size w W → Calls Tryz.prog 32 #[.agg (sgC z a len cap), .agg (sixC s), .agg (sixC d), .int .i64 t] W fun e w' => ∃ v, e = .returned v ∧ Own W.heap.size w' v (p6o s d t z D) ∧ Below W.heap.size W w') :
    Calls Tryz.prog 11 #[.agg (sgC z a len cap), .agg (sixC s), .agg (sixC d), .int .i64 t, .int .i64 x, .int .i64 y] w fun e w' => e = .returned (.bool true) ∧ Below w.heap.size w w' := by
  have HL := hide (@p6o_len s d t z D)
  obtain ⟨k, n, E, ho, hn0, hB, e6, hE⟩ := tw_bundle hs hd ht hz hD
  rw [e6] at hS HL
  have HO := hide one_any
  have HS := hide hS
  have HD := hide (fun W a' l' c' (r : Row8 W a' l' c' (V6.bys s d t k E)) (h1 : l' ≤ c') (h2 : c' ≤ maxLen) => V6.decode_bysb a' l' c' s d t k E W r h1 h2 ho (by omega))
  have HK := hide (Kst.start w z a len cap s d)
  have HZ := hide (fun W => V6.zero_new W)
  have HZ4 := hide (fun W => V4.zero_new W)
  unfold V6.zero6 at HZ
  unfold V4.zero4 at HZ4
  have HF := hide (fun (hf : ¬ (up 4294967295 x = true ∧ up 4294967295 y = true)) W a' c' => to4_four s d t k a' n c' x y W ho hn0 hf)
  have HT := hide (fun (h1 : up 4294967295 x = true) (h2 : up 4294967295 y = true) (hh : 2 ≤ t) W a' c' (r : Row8 W a' n c' E) (q1 : n ≤ c') (q2 : c' ≤ maxLen) => twice_four s d t k n E z D ho hn0 x y h1 h2 hh hB a' c' W r q1 q2)
  have HT6 := hide (fun (h1 : up 4294967295 x = true) (h2 : up 4294967295 y = true) (hh : 3 ≤ t) W a' c' (r : Row8 W a' n c' (eb z (o4 x y k n) D)) (q1 : n ≤ c') (q2 : c' ≤ maxLen) => back_ok s d t k x y n E z D ho hn0 h1 h2 hh hB a' c' W r q1 q2)
  have HP := hide (fun W a1 a2 l1 l2 c1 c2 (r1 : Row8 W a1 l1 c1 E) (r2 : Row8 W a2 l2 c2 E) => V6.pack6s_same s d t k a1 a2 l1 l2 c1 c2 E W r1 r2)
  have hU1 : up 4294967295 x = true → 0 ≤ x ∧ x ≤ 4294967295 := up_true
  have hU2 : up 4294967295 y = true → 0 ≤ y ∧ y ≤ 4294967295 := up_true
  have hU : ¬ (up 4294967295 x = true ∧ up 4294967295 y = true) → x < 0 ∨ (¬ x < 0 ∧ 4294967296 ≤ x) ∨ (¬ x < 0 ∧ ¬ 4294967296 ≤ x ∧ y < 0) ∨ (¬ x < 0 ∧ ¬ 4294967296 ≤ x ∧ ¬ y < 0 ∧ 4294967296 ≤ y) := fun h => by
    by_cases c1 : 0 ≤ x ∧ x ≤ 4294967295
    · by_cases c2 : 0 ≤ y ∧ y ≤ 4294967295
      · exact absurd ⟨decide_eq_true c1, decide_eq_true c2⟩ h
      · omega
    · omega
  have HU := hide hU
  have HEn := hide hE
  have ht2 := up_true ht
  generalize eb z (o4 x y k n) D = Z4 at HT HT6
  unfold V6.pk at HF HT HT6 HP
  unfold V4.pk0 V4.pk err at HF
  unfold V4.pk at HT HT6
  clear hs hd hz hD hS e6 hE hB ho hn0 hU1 hU2 hU ht
  go_enter Tryz.func11, Tryz.ntmps11
  go_upto_region 1 with fail
  generalize ((World.alloc _ _).alloc _).alloc _ = W0 at HK ⊢
  go_upto_region 5 with (first
    | (go_at_call 31; refine (HO.out _).mono ?_; rintro e w1 ⟨rfl, hb1⟩; replace HK := hide (HK.out.kept hb1); clear hb1)
    | (refine at_load rfl (.tmp 6) rfl rfl HK.out.1 ?_)
    | (refine at_load6 rfl (.tmp 7) rfl rfl HK.out.2.1 ?_)
    | (refine at_load6 rfl (.tmp 8) rfl rfl HK.out.2.2.1 ?_)
    | (go_at_call 32; refine (HS.out _ HK.out.2.2.2).mono ?_; rintro e w2 ⟨v2, rfl, o2, hb2⟩; obtain ⟨g2, c2, rfl, k1, k2, -, -, r2⟩ := o2.form HL.out; have HR2 := hide (And.intro r2 (And.intro k1 k2)); replace HK := hide (HK.out.kept hb2); clear hb2 o2 k1 k2 r2)
    | (go_at_call 22; refine (HD.out _ _ _ _ HR2.out.1 HR2.out.2.1 HR2.out.2.2).mono ?_; rintro e w3 ⟨a3, l3, c3, rfl, r3, hb3⟩; have hl3 : n = l3 := HEn.out.symm.trans r3.1.1; subst hl3; replace HK := hide (HK.out.kept hb3); have HZ3 := hide (HZ.out w3); have HR3 := hide r3; clear hb3 r3)
    | (refine V6.at_store rfl (.tmp 14) (.tmp 28) rfl rfl HZ3.out s d t k a3 n c3 rfl ?_; intro w4 p4 on4; have HV := hide (show TwK w z a len cap s d w3.heap.size t k a3 n c3 E w4 from ⟨HK.out.kept (new_below _ on4), p4, HR3.out.1.below (new_below _ on4)⟩); clear p4 on4))
  have HQ := hide HR3.out.2
  clear HR3 HR2 HZ3 HK HS HD HO HL HEn
  generalize w3.heap.size = B at HV ⊢
  by_cases h3 : t < 3
  · go_wp2
    go_ret
    exact ⟨rfl, HV.out.1.2.2.2⟩
  · by_cases hf : up 4294967295 x = true ∧ up 4294967295 y = true
    case neg =>
      have HFf := hide (HF.out hf)
      have hx := HU.out hf
      have HX := hide hx
      clear HF HT HT6 HP HU hf hx
      go_upto_region 9 with (first
        | (refine V6.at_load rfl (.tmp 14) rfl rfl HV.out.2.1 ?_)
        | (go_at_call 27; refine (HFf.out _ _ _).mono ?_; rintro e w5 ⟨rfl, hb5⟩; replace HV := hide (HV.out.kept hb5); have HZ5 := hide (HZ4.out w5); clear hb5)
        | (refine V4.at_store rfl (.tmp 16) (.tmp 41) rfl rfl HZ5.out 0 0 0 0 0 none 0 0 rfl ?_; intro w6 p6 on6; replace HV := hide (HV.out.kept (new_below _ on6)); clear p6 on6))
      rcases HX.out with c1 | ⟨c1, c2⟩ | ⟨c1, c2, c3⟩ | ⟨c1, c2, c3, c4⟩
      all_goals
        go_wp2
        go_ret
        exact ⟨rfl, HV.out.1.2.2.2⟩
    case pos =>
      have HTt := hide (HT.out hf.1 hf.2 (by omega))
      have HT66 := hide (HT6.out hf.1 hf.2 (by omega))
      have hw : IntKind.i64.wrap (t - 2 + 2) = t := by rw [IntKind.wrap_i64]; omega
      have hw2 : t - 2 + 2 = t := by omega
      clear HF HT HT6 HU hf
      go_upto_region 10 with (first
        | (refine V6.at_load rfl (.tmp 14) rfl rfl HV.out.2.1 ?_)
        | (go_at_call 27; refine (HTt.out _ _ _ HV.out.2.2 HQ.out.1 HQ.out.2).mono ?_; rintro e w5 ⟨g5, c5, rfl, k1, k2, r5, hb5⟩; replace HV := hide (HV.out.kept hb5); have HZ5 := hide (HZ4.out w5); have HR5 := hide (And.intro r5 (And.intro k1 k2)); clear hb5 r5 k1 k2)
        | (refine V4.at_store rfl (.tmp 16) (.tmp 41) rfl rfl HZ5.out x y (t - 1) k 0 (some ⟨g5, 0, none⟩) n c5 rfl ?_; intro w6 p6 on6; replace HV := hide (HV.out.kept (new_below _ on6)); replace HR5 := hide (And.intro (HR5.out.1.below (new_below _ on6)) HR5.out.2); have HP6 := hide p6; clear p6 on6))
      clear HZ5
      generalize w5.heap.size = B5 at HP6 ⊢
      go_upto_region 13 with (first
        | (refine V4.at_load rfl (.tmp 16) rfl rfl HP6.out ?_; unfold V4.pk)
        | (refine at_load6 rfl (.tmp 7) rfl rfl HV.out.1.2.1 ?_)
        | (refine at_load6 rfl (.tmp 8) rfl rfl HV.out.1.2.2.1 ?_)
        | (go_at_call 43; refine (HT66.out _ _ _ HR5.out.1 HR5.out.2.1 HR5.out.2.2).mono ?_; rintro e w7 ⟨a7, c7, rfl, r7, hb7⟩; replace HV := hide (HV.out.kept hb7); have HLs := hide (show w.heap.size + 1 + 1 < w7.heap.size from HV.out.1.2.2.1.lt); have HZ7 := hide (HZ.out w7); have HR7 := hide r7; clear hb7 r7)
        | (refine V6.at_store rfl (.tmp 17) (.tmp 64) rfl rfl HZ7.out s d (t - 2) k a7 n c7 rfl ?_; intro w8 p8 on8; have HN8 := hide (show B < w7.heap.size from HV.out.2.1.lt); replace HV := hide (HV.out.kept (new_below _ on8)); replace HR7 := hide (HR7.out.below (new_below _ on8)); have HP8 := hide p8; clear p8 on8))
      clear HZ7 HP6 HR5 HTt HT66
      have HW := hide (show w.heap.size ≤ w7.heap.size ∧ w.heap.size + 1 + 1 < w7.heap.size from ⟨by have := HLs.out; omega, HLs.out⟩)
      generalize w7.heap.size = B7 at HP8 HN8 HW ⊢
      have c16 := HP8.out.hop
      have f16 := HP8.out.frz 16
      obtain ⟨p9, on9⟩ := HP8.out.set16 t
      have HP9 := hide p9
      have HV9 := hide (show TwK w z a len cap s d B t k a3 n c3 E _ from ⟨⟨(on9.2.2.2.2 _ (by have := HW.out; omega)).trans HV.out.1.1, (on9.2.2.2.2 _ (by have := HW.out; omega)).trans HV.out.1.2.1, (on9.2.2.2.2 _ (by have := HW.out; omega)).trans HV.out.1.2.2.1, on9.below HV.out.1.2.2.2 (by have := HW.out; omega)⟩, (on9.2.2.2.2 _ (by have := HN8.out; omega)).trans HV.out.2.1, HV.out.2.2.pastn (no6 HP8.out) on9⟩)
      have HR9 := hide (HR7.out.pastn (no6 HP8.out) on9)
      clear p9 on9
      go_upto_region 14 with fail
      clear c16 f16 HP8 HV HR7 hw hw2
      generalize World.setCell _ _ _ = W9 at HP9 HV9 HR9 ⊢
      go_wp2_with (first
        | (refine V6.at_load rfl (.tmp 17) rfl rfl HP9.out ?_)
        | (refine V6.at_load rfl (.tmp 14) rfl rfl HV9.out.2.1 ?_)
        | (go_at_call 44; refine (HP.out _ _ _ _ _ _ _ HR9.out HV9.out.2.2).mono ?_; rintro e wz ⟨rfl, hbz⟩; have HB := hide (bt HV9.out.1.2.2.2 hbz); clear hbz))
      go_ret
      exact ⟨rfl, HB.out⟩
theorem tt_walk (z : List Int) (a : Option Addr) (len cap : Nat) (D s d : List Int) (t x y : Int) (w : World) (hr : Row8 w a len cap D) :
    Calls Tryz.prog 11 #[.agg (sgC z a len cap), .agg (sixC s), .agg (sixC d), .int .i64 t, .int .i64 x, .int .i64 y] w fun e w' => e = .returned (.bool true) ∧ Below w.heap.size w w' := by
  rcases sent_any z a len cap D s d t w hr with h | ⟨hs, hd, ht, hz, h⟩
  · exact tt_no z a len cap s d t x y w h
  · exact tt_ok z a len cap D s d t x y w hs hd ht hz hr.2.2.1 h
end Go.Proofs.YtkhahbghmdccaaaGreat
